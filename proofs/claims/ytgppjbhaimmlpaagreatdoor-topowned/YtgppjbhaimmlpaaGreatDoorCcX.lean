/-
  TopOwned: Cc Ch Yd Ye Yf Cd.
-/
import Derived.Test.YtgppjbhaimmlpaaGreatDoorApX
import Derived.Test.YtgppjbhaimmlpaaGreatDoorVeX
import Derived.Deep.RegionHeld3
import Derived.Test.YtgppjbhaimmlpaaGreatDoorFiX
set_option maxRecDepth 100000
set_option maxHeartbeats 16000000
namespace Go.Proofs.YtgppjbhaimmlpaaGreatDoor
open Go.RowKit Go.Proofs.Tryz
def BO(w:World)(b:Nat)(u g:Int)(v:Value)(c:Int):Prop:=
 w.cell? ⟨b,0,none⟩=some (.int .i64 u)∧w.cell? ⟨b,1,none⟩=some (.int .i64 g)∧w.cell? ⟨b,2,none⟩=some v∧w.cell? ⟨b,3,none⟩=some (.int .i64 c)∧∀o,w.frozen? ⟨b,o,none⟩=false
theorem BO.new(w:World)(u g:Int)(v:Value)(c:Int):BO (w.alloc (.cells #[iN u,iN g,v,iN c] 27)) w.heap.size u g v c:=
 ⟨aC,aC,aC,aC,fun _=>nP _ _ _ _ rfl⟩
theorem BO.lt{w:World}{b:Nat}{u g:Int}{v:Value}{c:Int}(h:BO w b u g v c):b<w.heap.size:=ny _ _ h.1
theorem BO.below{w w':World}{b:Nat}{u g:Int}{v:Value}{c:Int}(h:BO w b u g v c)(hb:Below w.heap.size w w'):BO w' b u g v c:=by
 have F:=h.lt;obtain⟨G,H,I,J,O⟩:=h;exact⟨(hb.cell (p:=(aD b 0)) F).trans G,(hb.cell (p:=(aD b 1)) F).trans H,(hb.cell (p:=(aD b 2)) F).trans I,(hb.cell (p:=(aD b 3)) F).trans J,fun o=>(hb.frozen (p:=(aD b o)) F).trans (O o)⟩
theorem BO.alloc{w:World}{b:Nat}{u g:Int}{v:Value}{c:Int}(h:BO w b u g v c)(o:Obj):BO (w.alloc o) b u g v c:=h.below ((nt _ _).alloc (nl _) _)
theorem BO.drew{w:World}{b:Nat}{u g:Int}{v:Value}{c:Int}(h:BO w b u g v c):BO w.drew b u g v c:=h
theorem BO.other{w:World}{b:Nat}{u g:Int}{v:Value}{c:Int}(h:BO w b u g v c){p:Addr}(F:p.block≠b)(x:Value):BO (w.setCell p x) b u g v c:=by
 obtain⟨G,H,I,J,O⟩:=h;have e:∀o,(w.setCell p x).cell? (aD b o)=w.cell? (aD b o):=fun o=>nz _ _ _ _ (fun e=>F (by rw[e]));exact⟨(e _).trans G,(e _).trans H,(e _).trans I,(e _).trans J,fun o=>by rw[rJ];exact O o⟩
theorem BO.set{w:World}{b:Nat}{u g:Int}{v:Value}{c:Int}(h:BO w b u g v c)(F G:Int)(H:Value)(I:Int):
 BO ((((w.setCell (aD b 0) (iN F)).setCell (aD b 1) (iN G)).setCell (aD b 2) H).setCell (aD b 3) (iN I)) b F G H I:=by
 obtain⟨J,O,Q,R,T⟩:=h;refine⟨?_,?_,?_,?_,fun o=>by simp[T]⟩<;>simp[nz,World.cell?_setCell_same',J,O,Q,R]
theorem Bg.other{w:World}{g:Nat}{F:List Int}(h:Bg w (some (aD g 0)) F){p:Addr}(G:p.block≠g)(x:Value):Bg (w.setCell p x) (some (aD g 0)) F:=by
 rcases h with h|⟨b,H,I,J⟩
 ·exact .inl h
 ·obtain⟨rfl,rfl⟩:g=b∧0=H:=by simpa using I
  exact .inr ⟨g,0,rfl,fun i O=>(nz _ _ _ _ (fun e=>G (by rw[e]))).trans (J i O)⟩
def FN(n:Int):Value:=.tuple #[.agg #[.int .i64 0,.int .i64 0,.slice none 0 0,.int .i64 0],.iface 74 (.int .i64 n)]
theorem ex(u g c O Q:Int)(a:Option Addr)(cap:Nat)(F:List Int)(w:World)(R:F.length≤8)(h:Bg w a F)(H:CR u g F c≠0):
 Calls prog 99 #[.agg #[iN u,iN g,.slice a F.length cap,iN c],iN O,iN Q] w fun e w'=>
  e=.returned (FN (CR u g F c))∧Below w.heap.size w w':=by
 obtain⟨n,G⟩:∃n,CR u g F c=n:=⟨_,rfl⟩;have I:=hid G;have T:n≠0:=G▸H;clear G H;go_enter func99,ntmps99;go_wp2_with fail
 refine(Is u g c a cap F _ R ?_).mono ?_
 ·exact h.below (bN.alloc (by simp) _)
 rintro e J ⟨rfl,hb⟩;rw[AH I.out T];obtain⟨V,Z⟩:=G8 hb;have aa:w.heap.size+1<J.heap.size:=by have:=hb.size;simp at this;omega
 go_wp2;refine nF (v:=FN n) (by simp[results,results99,go_sem,FN,V]) rfl ⟨by rw[I.out],?_⟩;have Y:Below w.heap.size w J:=(bN.alloc (by simp) _).trans (hb.mono (by simp;omega));repeat(first|exact Y|refine Below.setCell ?_ (by simp) _)
theorem Pi(u g c G I:Int)(a:Option Addr)(cap:Nat)(F:List Int)(w:World)(Q:F.length≤8)(h:Bg w a F)(J:CR u g F c=0)(H:BP G=false∨BP G=true∧BP I=false):
 Calls prog 99 #[.agg #[iN u,iN g,.slice a F.length cap,iN c],iN G,iN I] w fun e w'=>
  e=.returned (FN 1)∧Below w.heap.size w w':=by
 have R:=hid J;clear J;rcases H with H|⟨H,Y⟩
 all_goals
  go_enter func99,ntmps99;go_wp2_with fail
  refine(Is u g c a cap F _ Q ?_).mono ?_
  ·exact h.below (bN.alloc (by simp) _)
  rintro e O ⟨rfl,hb⟩;rw[Cr R.out];obtain⟨T,Z⟩:=G8 hb;have aa:w.heap.size+1<O.heap.size:=by have:=hb.size;simp at this;omega
  go_wp2_with (go_at_call 111;refine(ET _ _).mono ?_;rintro e w' ⟨rfl,rfl⟩)
  refine nF (v:=FN 1) (by simp[results,results99,go_sem,FN,T]) rfl ⟨rfl,?_⟩;have V:Below w.heap.size w O:=(bN.alloc (by simp) _).trans (hb.mono (by simp;omega));repeat(first|exact V|refine Below.setCell ?_ (by simp) _)
theorem PJ(u g c F Q:Int)(a:Option Addr)(cap:Nat)(G:List Int)(w:World)(T:G.length≤8)(h:Bg w a G)(ad:CR u g G c=0)(bi:BP F=true)(bk:BP Q=true)
 (ak:(bits .and .i64 c 8==8)=false) (R:F≠u∨F=u∧EI g G Q=false):
 Calls prog 99 #[.agg #[iN u,iN g,.slice a G.length cap,iN c],iN F,iN Q] w fun e w'=>
  e=.returned (FN 10)∧Below w.heap.size w w':=by
 have ao:=hid ad;clear ad;obtain⟨b8,a6⟩:∃b8,(bits .and .i64 c 8==8)=b8:=⟨_,rfl⟩;have ap:=hid ak;clear a6 b8 ak;rcases R with R|⟨rfl,az⟩
 ·have a7:(F !=u)=true:=by simpa using R
  clear R;go_enter func99,ntmps99;go_wp2_with fail
  refine(Is u g c a cap G _ T ?_).mono ?_
  ·exact h.below (bN.alloc (by simp) _)
  rintro e H ⟨rfl,hb⟩;rw[Cr ao.out];have J:Below w.heap.size w H:=(bN.alloc (by simp) _).trans (hb.mono (by simp;omega));obtain⟨V,a8⟩:=G8 hb;have Y:w.heap.size+1<H.heap.size:=by have:=hb.size;simp at this;omega
  go_wp2_with (go_at_call 111;refine(ET _ _).mono ?_;rintro e w' ⟨rfl,rfl⟩)
  refine(Ix u g c 8 _ _).mono ?_;rintro e Z ⟨rfl,I⟩;rw[ap.out];obtain⟨aa,ba⟩:=G8 I;have a1:w.heap.size+1<Z.heap.size:=by have:=I.size;omega
  have bb:w.heap.size<H.heap.size:=by omega
  go_wp2_with fail
  refine nF (v:=FN 10) (by simp[results,results99,go_sem,FN,V,Y,aa]) rfl ⟨rfl,?_⟩;have O:=J.trans (I.mono J.size);repeat(first|exact O|refine Below.setCell ?_ (by simp) _)
 ·have a7:(F !=F)=false:=by simp
  have bd:=hid az;clear az;go_enter func99,ntmps99;go_wp2_with fail
  refine(Is F g c a cap G _ T ?_).mono ?_
  ·exact h.below (bN.alloc (by simp) _)
  rintro e H ⟨rfl,hb⟩;rw[Cr ao.out];have J:Below w.heap.size w H:=(bN.alloc (by simp) _).trans (hb.mono (by simp;omega));obtain⟨V,a8⟩:=G8 hb;have Y:w.heap.size+1<H.heap.size:=by have:=hb.size;simp at this;omega
  go_wp2_with (go_at_call 111;refine(ET _ _).mono ?_;rintro e w' ⟨rfl,rfl⟩)
  refine(Ix F g c 8 _ _).mono ?_;rintro e Z ⟨rfl,I⟩;rw[ap.out];obtain⟨aa,ba⟩:=G8 I;have a1:w.heap.size+1<Z.heap.size:=by have:=I.size;omega
  have bb:w.heap.size<H.heap.size:=by omega
  have O:=J.trans (I.mono J.size);go_wp2_with fail
  refine(KY F g Q c a cap G _ T (h.below O)).mono ?_;rintro e be ⟨rfl,ab⟩;rw[bd.out];obtain⟨bf,bl⟩:=G8 ab;have bn:w.heap.size+1<be.heap.size:=by have:=ab.size;omega
  have bg:=O.trans (ab.mono O.size);go_wp2_with fail
  refine nF (v:=FN 10) (by simp[results,results99,go_sem,FN,V,Y,aa,a1,bf]) rfl ⟨rfl,?_⟩;repeat(first|exact bg|refine Below.setCell ?_ (by simp) _)
def Gj(F G c:Int)(g n:Nat):Value:=.tuple #[.agg #[.int .i64 F,.int .i64 G,.slice (some ⟨g,0,none⟩) n n,.int .i64 c],.nilIface]
theorem MO(u g c H I Z:Int)(a:Option Addr)(cap:Nat)(G:List Int)(w:World)(bB:G.length≤8)(h:Bg w a G)(bC:CR u g G c=0)(co:BP H=true)(cp:BP I=true)
 (bF:(bits .and .i64 c 8==8)=true)
 (bG:(H !=u)=false∧Z=c∨(H !=u)=true∧(H !=0)=false∧Z=c∨(H !=u)=true∧(H !=0)=true∧Z=0):
 Calls prog 99 #[.agg #[iN u,iN g,.slice a G.length cap,iN c],iN H,iN I] w fun e w'=>
  ∃b,e=.returned (Gj H I Z b G.length)∧Bg w' (some (aD b 0)) G∧Below w.heap.size w w'∧w.heap.size≤b:=by
 have b6:=hid bC;have b7:=hid bF;have a6:=hid bG;clear bC bF bG;go_enter func99,ntmps99;go_wp2_with fail
 refine(Is u g c a cap G _ bB ?_).mono ?_
 ·exact h.below (bN.alloc (by simp) _)
 rintro e a7 ⟨rfl,hb⟩;rw[Cr b6.out];have bn:Below w.heap.size w a7:=(bN.alloc (by simp) _).trans (hb.mono (by simp;omega));have b9:w.heap.size+1<a7.heap.size:=by have:=hb.size;simp at this;omega
 have bo:BO a7 w.heap.size u g (.slice a G.length cap) c:=((BO.new w u g (.slice a G.length cap) c).alloc _).below hb;have bH:BO a7 (w.heap.size+1) 0 0 nL 0:=by
  have:=(BO.new (w.alloc (.cells #[iN u,iN g,.slice a G.length cap,iN c] 27)) 0 0 nL 0).below hb;simpa using this
 clear hb;obtain⟨a8,ba,bb,bd,be⟩:=id bo;go_wp2_with (go_at_call 111;refine(ET _ _).mono ?_;rintro e w' ⟨rfl,rfl⟩)
 refine(Ix u g c 8 _ _).mono ?_;rintro e F ⟨rfl,bf⟩;rw[b7.out];have aa:=bo.below bf;have ap:=bH.below bf;have Q:=bn.trans (bf.mono bn.size);have bY:=ap.lt;have ab:=aa.lt;have b0:w.heap.size<F.heap.size+1:=by omega
 have b1:¬F.heap.size=w.heap.size:=by omega
 clear a8 ba bb bd be bo bH bf bn b9;obtain⟨a8,ba,bb,bd,be⟩:=id aa;go_wp2_with fail
 go_region_held3 (fun w'=>w'.cell? ⟨w.heap.size,2,none⟩=some (.slice a G.length cap)∧w'.cell? ⟨w.heap.size,3,none⟩=some (.int .i64 c)) (first|go_keep|(simp[*];done))
  (first|(go_at_call 141;refine(SR a cap G _ bB ?_).mono ?_;(first|exact h.below Q.drew|exact h.below (Q.drew.alloc (by simp;omega) _)|exact h.below (Q.alloc (by simp;omega) _).drew);rintro e O ⟨g3,rfl,bg,b2,bi,J⟩;obtain⟨cb,cf⟩:=G8 J;have bp:=J.size;simp at bp;have R:=BO.below (by first|exact aa.drew|exact(aa.alloc _).drew|exact aa.drew.alloc _) J;obtain⟨b3,q1,q2,b4,q4⟩:=id R))
 all_goals
  clear cb cf b3 q1 q2 b4 q4 a8 ba bb bd be
  first
   |(have bs:g3=F.heap.size:=by simpa using bg
     subst bs;have T:=BO.new O H I (sL F.heap.size 0 G.length G.length) c;have bk:=R.alloc (.cells #[iN H,iN I,sL F.heap.size 0 G.length G.length,iN c] 27);have bl:=(BO.below ap.drew J).alloc (.cells #[iN H,iN I,sL F.heap.size 0 G.length G.length,iN c] 27);have V:=Bg.below bi ((nt O.heap.size O).alloc (nl _) (.cells #[iN H,iN I,sL F.heap.size 0 G.length G.length,iN c] 27));have ak:=((Q.drew).trans (J.mono Q.size)).alloc (rO R.lt) (.cells #[iN H,iN I,sL F.heap.size 0 G.length G.length,iN c] 27);have az:¬O.heap.size=F.heap.size:=by omega
     have bu:¬O.heap.size=w.heap.size:=by have:=R.lt;omega
     have bv:¬O.heap.size=w.heap.size+1:=by omega
     have bx:¬F.heap.size=w.heap.size+1:=by omega
     have bA:=rO R.lt;have ao:Hid (w.heap.size≤F.heap.size):=by show _≤_;omega
     clear R J bp bi b2 b0 ab bY Q ap aa b1 bg;generalize O.alloc (.cells #[iN H,iN I,sL F.heap.size 0 G.length G.length,iN c] 27)=cg at T bk bl V ak⊢;generalize O.heap.size=ch at T az bu bv bA⊢;generalize F.heap.size=ad at T V az bx ao⊢)
   |(have bs:g3=F.heap.size+1:=by simpa using bg
     subst bs;have T:=(BO.below (BO.new F 0 0 nL 0).drew J).set H I (sL (F.heap.size+1) 0 G.length G.length) c;have bk:=(((R.other (p:=(aD F.heap.size 0)) (by simp;omega) (iN H)).other (p:=(aD F.heap.size 1)) (by simp;omega) (iN I)).other (p:=(aD F.heap.size 2)) (by simp;omega) (sL (F.heap.size+1) 0 G.length G.length)).other (p:=(aD F.heap.size 3)) (by simp;omega) (iN c);have bl:=((((BO.below (ap.alloc _).drew J).other (p:=(aD F.heap.size 0)) (by simp;omega) (iN H)).other (p:=(aD F.heap.size 1)) (by simp;omega) (iN I)).other (p:=(aD F.heap.size 2)) (by simp;omega) (sL (F.heap.size+1) 0 G.length G.length)).other (p:=(aD F.heap.size 3)) (by simp;omega) (iN c);have V:=(((bi.other (p:=(aD F.heap.size 0)) (by simp) (iN H)).other (p:=(aD F.heap.size 1)) (by simp) (iN I)).other (p:=(aD F.heap.size 2)) (by simp) (sL (F.heap.size+1) 0 G.length G.length)).other (p:=(aD F.heap.size 3)) (by simp) (iN c);have ak:=((((((Q.alloc (rO ab) _).drew).trans (J.mono (by simp;omega))).setCell (p:=(aD F.heap.size 0)) (rO ab) (iN H)).setCell (p:=(aD F.heap.size 1)) (rO ab) (iN I)).setCell (p:=(aD F.heap.size 2)) (rO ab) (sL (F.heap.size+1) 0 G.length G.length)).setCell (p:=(aD F.heap.size 3)) (rO ab) (iN c);have az:¬F.heap.size=F.heap.size+1:=by omega
     have bu:¬F.heap.size=w.heap.size:=by omega
     have bv:¬F.heap.size=w.heap.size+1:=by omega
     have bx:¬F.heap.size+1=w.heap.size+1:=by omega
     have bA:w.heap.size≤F.heap.size:=by omega
     have ao:Hid (w.heap.size≤F.heap.size+1):=by show _≤_;omega
     clear R J bp bi b2 b0 ab bY Q ap aa b1 bg;generalize(((O.setCell (aD F.heap.size 0) (iN H)).setCell (aD F.heap.size 1) (iN I)).setCell (aD F.heap.size 2) (sL (F.heap.size+1) 0 G.length G.length)).setCell (aD F.heap.size 3) (iN c)=cg at T bk bl V ak⊢;generalize F.heap.size+1=ad at T V az bx ao⊢;generalize F.heap.size=ch at T az bu bv bA⊢)
  obtain⟨a8,ba,bb,bd,be⟩:=id T;obtain⟨b3,q1,q2,b4,q4⟩:=id bk;obtain⟨cq,cr,cu,cx,cA⟩:=id bl;rcases a6.out with⟨b5,Y⟩|⟨b5,cl,Y⟩|⟨b5,cl,Y⟩
  ·have a1:Hid (Z=c):=Y
   clear Y a6;go_wp2;refine nF (v:=Gj H I c ad G.length) (by simp[results,results99,go_sem,Gj, *]) rfl ⟨ad,by rw[a1.out],?_,?_,ao.out⟩
   ·exact(((V.other (by simp;omega) _).other (by simp;omega) _).other (by simp;omega) _).other (by simp;omega) _
   ·exact(((ak.setCell (by simp) _).setCell (by simp) _).setCell (by simp) _).setCell (by simp) _
  ·have a1:Hid (Z=c):=Y
   clear Y a6;go_wp2;refine nF (v:=Gj H I c ad G.length) (by simp[results,results99,go_sem,Gj, *]) rfl ⟨ad,by rw[a1.out],?_,?_,ao.out⟩
   ·exact(((V.other (by simp;omega) _).other (by simp;omega) _).other (by simp;omega) _).other (by simp;omega) _
   ·exact(((ak.setCell (by simp) _).setCell (by simp) _).setCell (by simp) _).setCell (by simp) _
  ·have a1:Hid (Z=0):=Y
   clear Y a6;go_wp2;refine nF (v:=Gj H I 0 ad G.length) (by simp[results,results99,go_sem,Gj, *]) rfl ⟨ad,by rw[a1.out],?_,?_,ao.out⟩
   ·exact((((V.other (by simp;omega) _).other (by simp;omega) _).other (by simp;omega) _).other (by simp;omega) _).other (by simp;omega) _
   ·exact((((ak.setCell (by simp;omega) _).setCell (by simp) _).setCell (by simp) _).setCell (by simp) _).setCell (by simp) _
theorem Sg{c:Int}(F:0≤c)(H:c≤15):(bits .and .i64 c 8==8)=JB c 8:=by
 obtain⟨n,rfl⟩:=Int.eq_ofNat_of_zero_le F;have I:n≤15:=by omega
 have G:∀m:Fin 16,(bits .and .i64 ((m:Nat):Int) 8==8)=JB ((m:Nat):Int) 8:=by decide+kernel
 exact G ⟨n,by omega⟩
def LC(m:Int):Int:=if JB m 1024=true then m-1024 else m
theorem VO{m:Int}(F:0≤m)(H:m≤4095):bits .andNot .i64 m 1024=LC m:=by
 obtain⟨n,rfl⟩:=Int.eq_ofNat_of_zero_le F;have I:n≤4095:=by omega
 have G:∀a b:Fin 64,bits .andNot .i64 ((64*(a:Nat)+(b:Nat):Nat):Int) 1024=LC ((64*(a:Nat)+(b:Nat):Nat):Int):=by decide+kernel
 have:=G ⟨n / 64,by omega⟩ ⟨n%64,by omega⟩;simp only[Nat.div_add_mod]at this;exact this
def H6(g:Int)(G:List Int)(c F H:Int):Int:=if EI g G H=true∨JB c 8=true then F else LC F
theorem KR(u g c F H:Int)(a:Option Addr)(cap:Nat)(G:List Int)(w:World)(Y:G.length≤8)(h:Bg w a G)(Z:0≤c)(aa:c≤15)(ab:0≤F)(ad:F≤4095):
 Calls prog 92 #[.agg #[iN u,iN g,.slice a G.length cap,iN c],iN F,iN H] w fun e w'=>
  e=.returned (iN (H6 g G c F H))∧Below w.heap.size w w':=by
 have ak:=hid (Sg Z aa);have ao:=hid (VO ab ad);go_enter func92,ntmps92;go_wp2_with fail
 refine(KY u g H c a cap G _ Y (h.below bN)).mono ?_;rintro e ap ⟨rfl,hb⟩;have az:=(BO.new w u g (.slice a G.length cap) c).below hb;have I:Below w.heap.size w ap:=bN.trans (hb.mono (by simp));clear hb;obtain⟨a6,a7,a8,ba,bb⟩:=id az;obtain⟨t,O⟩:∃t,EI g G H=t:=⟨_,rfl⟩;rw[O];have R:=hid O;clear O;cases t
 ·go_wp2_with fail
  refine(Ix u g c 8 _ _).mono ?_;rintro e bd ⟨rfl,T⟩;rw[ak.out];obtain⟨a1,Q⟩:∃t,JB c 8=t:=⟨_,rfl⟩;rw[Q];have V:=hid Q;clear Q;cases a1
  ·have J:Hid (H6 g G c F H=LC F):=nB (by rw[R.out,V.out];decide)
   go_wp2;go_ret;exact⟨Iz (ao.out.trans J.out.symm),I.trans (T.mono I.size)⟩
  ·have J:Hid (H6 g G c F H=F):=nC (.inr V.out)
   go_wp2;go_ret;exact⟨Iz J.out.symm,I.trans (T.mono I.size)⟩
 ·have J:Hid (H6 g G c F H=F):=nC (.inl R.out)
  go_wp2;go_ret;exact⟨Iz J.out.symm,I⟩
theorem Iy{u g:Int}{F:List Int}{c:Int}(h:CR u g F c=0):(0≤c∧c≤15∧F.length≤8)∧AZ u∧AZ g:=by
 unfold CR at h;split at h
 ·cases h
 ·rename_i hq
  split at h
  ·cases h
  ·rename_i h4
   have G:BP u=true:=by
    cases e:BP u with
    |true=>rfl
    |false=>exact absurd (.inl e) hq
   have H:BP g=true:=by
    cases e:BP g with
    |true=>rfl
    |false=>exact absurd (.inr (.inl e)) hq
   have I:¬(c<0∨15<c):=fun e=>hq (.inr (.inr e));unfold BP at G H
   simp at G H;exact⟨⟨by omega,by omega,by omega⟩,⟨by omega,by omega⟩,⟨by omega,by omega⟩⟩
theorem BI.up{w F w':World}{b:Nat}{B:Bx}{ni:List Nd}(h:BI F w' b B ni)(hb:Bw w F):BI w w' b B ni:=⟨(Au.of_below hb).trans h.1,h.2⟩
theorem Fa.mk'{us gs:List Rg}{k m u g H F G:Int}{o:Bool}{nh I:List Kv}{d J:BA}{ks:At}(O:Ev us gs F G∨(F=u∧G=g)):Fa us gs (.mk k m u g o nh d ks) (.mk k H F G o I J ks):=⟨rfl,rfl,rfl,O.imp (fun h=>h) (fun h=>by rw[h.1,h.2];exact fun q=>q)⟩
theorem QK{k m u g F G H:Int}{o:Bool}{nh:List Kv}{d:BA}{ks:At}(h:AB (.mk k m u g o nh d ks)):AB (.mk k F G H o nh d ks):=by rw[AB]at h⊢;exact h
theorem MU{k m u g F:Int}{o:Bool}{nh G:List Kv}{d H:BA}{ks:At}(h:AM (.mk k m u g o nh d ks)):AM (.mk k F u g o G H ks):=by rw[AM]at h⊢;exact h
theorem KG{k m u g F G H:Int}{o:Bool}{nh I:List Kv}{d J:BA}{ks:At}:cnt (.mk k F G H o I J ks)≤cnt (.mk k m u g o nh d ks):=by rw[cnt,cnt];omega
theorem XC{w:World}{b:Nat}{B:Bx}{x0:Nd}{ni:List Nd}(h:A5 w b B)(ap:BS B x0 ni){H I J:Nat}{O T:Int}(ab:0≤O∧O≤4095)(c0:w.cell? ⟨H,0,none⟩=some (.pointer (some ⟨b,0,none⟩)))(c1:w.cell? ⟨I,5,none⟩=some (.int .i64 O))(c2:w.cell? ⟨J,3,none⟩=some (.int .i64 T)):
 Jq w B.M.us B.M.gs (.func (.func 91) #[] #[.pointer (some ⟨H,0,none⟩),.pointer (some ⟨I,0,none⟩),.pointer (some ⟨J,0,none⟩)]):=by
 refine⟨_,_,rfl,fun args w=>by kernel_rfl,fun W nx x V Y bu ad az a1 a6 a7=>?_⟩;have Z:=(Iy ap.cred.1).1;have ak:=h.below Y;obtain⟨_,_,_,a3,a4,a5,a8,_⟩:=ak.cells;have bv:H<w.heap.size:=ny w ⟨H,0,none⟩ c0;have bx:I<w.heap.size:=ny w ⟨I,5,none⟩ c1;have bA:J<w.heap.size:=ny w ⟨J,3,none⟩ c2;have bB:=h.lt;have Q:W.drew.cell? ⟨H,0,none⟩=some (.pointer (some ⟨b,0,none⟩))∧W.drew.cell? ⟨b,3,none⟩=some (.int .i64 B.u)∧W.drew.cell? ⟨b,4,none⟩=some (.int .i64 B.g)∧W.drew.cell? ⟨b,5,none⟩=some (.slice B.ca B.cs.length B.cc)∧W.drew.cell? ⟨b,6,none⟩=some (.int .i64 B.k)∧W.drew.cell? ⟨I,5,none⟩=some (.int .i64 O)∧W.drew.cell? ⟨J,3,none⟩=some (.int .i64 T):=⟨Ad Y c0,a3,a4,a5,a8,Ad Y c1,Ad Y c2⟩;obtain⟨G,bi⟩:∃G,Hid (H6 B.g B.cs B.k O T=G):=⟨_,rfl⟩;have ba:Hid (Calls prog 92 #[.agg #[.int .i64 B.u,.int .i64 B.g,.slice B.ca B.cs.length B.cc,.int .i64 B.k],.int .i64 O,.int .i64 T] W.drew fun e w'=>e=.returned (.int .i64 G)∧Bw W.drew w'):=by
  have e:=KR B.u B.g B.k O T B.ca B.cc B.cs W.drew Z.2.2 (ak.grp.below (nt _ _).drew) Z.1 Z.2.1 ab.1 ab.2;rw[bi.out]at e;exact e
 obtain⟨k,m,u,g,o,nh,d,ks⟩:=x;have bb:Hid (As W nx (.mk k m u g o nh d ks) V):=ad;have bk:Hid (∀bd,8≤bd→W.cell? ⟨nx,bd,none⟩=none):=az;have bl:Hid (Ah W.cell? (.mk k m u g o nh d ks) V):=a1;have bn:Hid (AB (.mk k m u g o nh d ks)):=a6;have bo:Hid (AM (.mk k m u g o nh d ks)):=a7;have bC:nx<W.heap.size:=ad.1.lt;clear ad az a1 a6 a7 ak a3 a4 a5 a8 c0 c1 c2 h ap Z ab;show Calls prog 91 #[.pointer (some ⟨nx,0,none⟩),.pointer (some ⟨H,0,none⟩),.pointer (some ⟨I,0,none⟩),.pointer (some ⟨J,0,none⟩)] W _;go_enter func91,ntmps91;go_upto_region 0 with fail
 go_region_held3 (fun w'=>w'.cell? ⟨H,0,none⟩=some (.pointer (some ⟨b,0,none⟩))∧w'.cell? ⟨b,3,none⟩=some (.int .i64 B.u)∧w'.cell? ⟨b,4,none⟩=some (.int .i64 B.g)∧w'.cell? ⟨b,5,none⟩=some (.slice B.ca B.cs.length B.cc)∧w'.cell? ⟨b,6,none⟩=some (.int .i64 B.k)∧w'.cell? ⟨I,5,none⟩=some (.int .i64 O)∧w'.cell? ⟨J,3,none⟩=some (.int .i64 T)) (first|with_reducible exact Q|with_reducible exact R|with_reducible exact be) (first|(go_at_call 92;(with_reducible refine nn ba.out ?_);rintro e F ⟨rfl,q6⟩;have R:F.cell? ⟨H,0,none⟩=some (.pointer (some ⟨b,0,none⟩))∧F.cell? ⟨b,3,none⟩=some (.int .i64 B.u)∧F.cell? ⟨b,4,none⟩=some (.int .i64 B.g)∧F.cell? ⟨b,5,none⟩=some (.slice B.ca B.cs.length B.cc)∧F.cell? ⟨b,6,none⟩=some (.int .i64 B.k)∧F.cell? ⟨I,5,none⟩=some (.int .i64 O)∧F.cell? ⟨J,3,none⟩=some (.int .i64 T):=⟨Ad q6 Q.1,Ad q6 Q.2.1,Ad q6 Q.2.2.1,Ad q6 Q.2.2.2.1,Ad q6 Q.2.2.2.2.1,Ad q6 Q.2.2.2.2.2.1,Ad q6 Q.2.2.2.2.2.2⟩;have aa:Hid (As F nx (.mk k m u g o nh d ks) V):=(bb.out.below (nt _ _).drew).below q6;have bp:F.cell? ⟨nx,1,none⟩=some (.int .i64 m):=aa.out.1.2.1;have bs:F.frozen? ⟨nx,1,none⟩=false:=aa.out.2 1;have bf:Hid (Bw W F):=(nt _ W).drew.trans q6;have be:(F.setCell ⟨nx,1,none⟩ (.int .i64 G)).cell? ⟨H,0,none⟩=some (.pointer (some ⟨b,0,none⟩))∧(F.setCell ⟨nx,1,none⟩ (.int .i64 G)).cell? ⟨b,3,none⟩=some (.int .i64 B.u)∧(F.setCell ⟨nx,1,none⟩ (.int .i64 G)).cell? ⟨b,4,none⟩=some (.int .i64 B.g)∧(F.setCell ⟨nx,1,none⟩ (.int .i64 G)).cell? ⟨b,5,none⟩=some (.slice B.ca B.cs.length B.cc)∧(F.setCell ⟨nx,1,none⟩ (.int .i64 G)).cell? ⟨b,6,none⟩=some (.int .i64 B.k)∧(F.setCell ⟨nx,1,none⟩ (.int .i64 G)).cell? ⟨I,5,none⟩=some (.int .i64 O)∧(F.setCell ⟨nx,1,none⟩ (.int .i64 G)).cell? ⟨J,3,none⟩=some (.int .i64 T):=⟨(AW (by show H≠nx;omega)).trans R.1,(AW (by show b≠nx;omega)).trans R.2.1,(AW (by show b≠nx;omega)).trans R.2.2.1,(AW (by show b≠nx;omega)).trans R.2.2.2.1,(AW (by show b≠nx;omega)).trans R.2.2.2.2.1,(AW (by show I≠nx;omega)).trans R.2.2.2.2.2.1,(AW (by show J≠nx;omega)).trans R.2.2.2.2.2.2⟩;clear ba q6))
 all_goals
  have ao:Au nx W (F.setCell ⟨nx,1,none⟩ (.int .i64 G)):=(Au.of_below bf.out).trans ((Au.refl nx F).setCell 1 none _);have bg:Hid (∃y h',As (F.setCell ⟨nx,1,none⟩ (.int .i64 G)) nx y h'∧Ah (F.setCell ⟨nx,1,none⟩ (.int .i64 G)).cell? y h'∧Fa B.M.us B.M.gs (.mk k m u g o nh d ks) y∧(AB y∧AM y∧cnt y≤cnt (.mk k m u g o nh d ks))∧Au nx W (F.setCell ⟨nx,1,none⟩ (.int .i64 G))):=⟨.mk k G u g o nh d ks,V,aa.out.set1 G,Kf ao bb.out.1 bk.out (KV bl.out),Fa.mk' (.inr ⟨rfl,rfl⟩),⟨QK bn.out,MU bo.out,KG⟩,ao⟩;clear ao Q R be bp bs aa bf;generalize F.setCell ⟨nx,1,none⟩ (.int .i64 G)=bF at bg;go_wp2;go_end0
  exact⟨⟨_,rfl⟩,bg.out⟩
theorem X8{w:World}{b:Nat}{B:Bx}{x0:Nd}{ni:List Nd}(h:A5 w b B)(ak:BS B x0 ni){H F I:Int}{G J O Q:BA}(bC:Int)(bF:w.cell? ⟨0,0,none⟩=some (.int .i64 bC)):
 Calls prog 42 #[.pointer (some ⟨b,0,none⟩),.agg #[.int .i64 H,.string G,.string J,.string O,.string Q,.int .i64 F,.int .i64 I]] w fun e w'=>(∃E,e=.returned (Am E))∧BI w w' b B ni:=by
 have ao:Bw w ((w.alloc (.cells #[.pointer (some ⟨b,0,none⟩)] 35)).alloc (Ax H G J O Q F I)):=((nt _ _).alloc (nl _) _).alloc ((nt _ _).alloc (nl _) _:Bw w _).size _;have ap:=hid ao;have a6:Ce ((w.alloc (.cells #[.pointer (some ⟨b,0,none⟩)] 35)).alloc (Ax H G J O Q F I)) w.heap.size 0 (.pointer (some ⟨b,0,none⟩)):=Ay (nk _ _ _ _ rfl);have bG:Ce ((w.alloc (.cells #[.pointer (some ⟨b,0,none⟩)] 35)).alloc (Ax H G J O Q F I)) (w.heap.size+1) 1 (.string G):=nk _ _ _ _ (by rw[nv]);have a7:Ce ((w.alloc (.cells #[.pointer (some ⟨b,0,none⟩)] 35)).alloc (Ax H G J O Q F I)) (w.heap.size+1) 5 (.int .i64 F):=nk _ _ _ _ (by rw[nv]);have bH:Hid (Calls prog 33 #[.pointer (some ⟨b,0,none⟩),.string G] ((w.alloc (.cells #[.pointer (some ⟨b,0,none⟩)] 35)).alloc (Ax H G J O Q F I)) fun e w'=>CC B w' G true e∧Bw ((w.alloc (.cells #[.pointer (some ⟨b,0,none⟩)] 35)).alloc (Ax H G J O Q F I)) w'):=by
  refine nn (Jt (h.below ao) ak.good G (C7 _).1 (C7 _).2 bC (Ad ao bF)) ?_;rintro e w' ⟨cx,cA⟩;exact⟨IF ak.good cx,cA⟩
 have a8:=hid h;have ba:=hid ak;have bb:Hid (∀w',Bw w w'→BI w w' b B ni):=fun w' hb=>⟨Au.of_below hb,B,x0,a8.out.below hb,ba.out,rfl,rfl⟩;have bY:Hid (∀aa,Calls prog 73 #[.int .i64 F] aa fun e w'=>e=.returned (.bool (decide (0≤F∧F≤4095)))∧aa=w'):=fun aa=>MG aa F
 clear h ak ao bF;go_enter func42,ntmps42;go_wp2_with fail
 refine nn (bY.out _) ?_;rintro e db ⟨rfl,rfl⟩;by_cases az:0≤F∧F≤4095
 ·rw[nE az]
  have cB:=hid az;clear az;go_wp2_with fail
  generalize((w.alloc (.cells #[.pointer (some ⟨b,0,none⟩)] 35)).alloc (Ax H G J O Q F I))=aa at*;refine nn bH.out ?_;rintro e R ⟨c3,q2⟩;clear bH bY;obtain⟨cs,E,rfl,bd,b0,b1⟩:=c3;obtain⟨Z,dd,T,b2,c4⟩:=FV R cs bd b0;have c5:=BT cs;unfold Value.cells at c5;have de:=hid bd;have be:=hid (q2.trans (b2.out.mono q2.size));have a1:=hid (ap.out.trans (be.out.mono ap.out.size));have b3:Hid _:=b1;have dg:=hid (nO ap.out.size q2.size);clear b0 b1 bd;by_cases b4:E=0
  ·subst b4
   obtain⟨f,V,b5,bf,bg,bi,b6,b7⟩:=b3.out rfl;clear b3;have ab:=Fu b5;rw[←bf]at ab;obtain⟨⟨bk,bl,bn,tg,bo⟩,⟨dj,dk,dm,dn,dp⟩,na,nc,nf,dr,⟨ds,du,dw,dx,dy,dz,d0,xs⟩,d1,ly⟩:=f;dsimp only at bf bg bi b6 b7 ab;have b9:Ce Z R.heap.size 0 (.bool bk):=T.out 0 _ (by rw[V];rfl);have cb:Ce Z R.heap.size 1 (.int .i64 bl):=T.out 1 _ (by rw[V];rfl);have cf:Ce Z R.heap.size 2 (.int .i64 bn):=T.out 2 _ (by rw[V];rfl);have bp:Ce Z R.heap.size 3 (.int .i64 tg):=T.out 3 _ (by rw[V];rfl);have cg:Ce Z R.heap.size 4 (.bool bo):=T.out 4 _ (by rw[V];rfl);have bs:Ce Z R.heap.size 10 (.slice na nf.length nc):=T.out 10 _ (by rw[V];rfl);have bu:=Ad be.out a6;have bv:=Ad be.out a7;have ch:=hid (Rw (a8.out.below a1.out) ⟨bk,bl,bn,tg,bo⟩);generalize B.ownE ⟨bk,bl,bn,tg,bo⟩=bx at*;have c6:=hid (bg.on (Aj b2.out));have cl:Hid ((∀s∈nf,AQ s=true)∧nf.length≤6):=⟨ab.1,ab.2.1⟩;have c8:=hid bi;rw[show Am 0=Value.nilIface from rfl];clear V b5 bf bg bi b6 b7 ab T a6 bG a7 c4;go_wp2_with fail
   refine nn ch.out ?_;rintro e d2 ⟨rfl,Y⟩;have bA:=hid (a1.out.trans (Y.mono a1.out.size));by_cases co:bx=0
   ·subst co
    rw[show Am 0=Value.nilIface from rfl];have c9:=Ad Y bu;have cp:=Ad Y bv;have cq:=Ad Y bp;have d3:=Ad Y bs;have bB:=a8.out.below bA.out;have cr:=hid (JM bB ba.out (c6.out.on (Aj Y)) cl.out.1 (by have:=cl.out.2;omega) c8.out rfl (XC bB ba.out cB.out c9 cp cq));clear ch Y b9 cb cf bp cg bs bu bv cp cq bB;go_wp2_with fail
    refine nn cr.out ?_;rintro e d4 ⟨⟨E,rfl⟩,cu⟩;have da:=hid (cu.up bA.out);clear cu cr;go_wp2;go_ret;exact⟨⟨E,rfl⟩,da.out⟩
   ·have ad:=AH (n:=bx) rfl co
    rw[ad];clear b9 cb cf bp cg bs bu bv;go_wp2;go_ret;exact⟨⟨bx,by rw[ad];rfl⟩,bb.out _ bA.out⟩
  ·have ad:=AH (n:=E) rfl b4
   rw[ad];clear a6 bG a7;go_wp2;go_ret;exact⟨⟨E,by rw[ad];rfl⟩,bb.out _ a1.out⟩
 ·rw[nA az]
  go_wp2;go_ret;exact⟨⟨1,rfl⟩,bb.out _ ap.out⟩
theorem RZ(u g c H:Int)(v:Value)(w:World)(I:0≤c)(J:c≤15):
 Calls prog 77 #[.agg #[.int .i64 u,.int .i64 g,v,.int .i64 c],.int .i64 H] w fun e w'=>(∃m,e=.returned (.int .i64 m))∧Bw w w':=by
 have F:=hid (Sg I J);go_enter func77,ntmps77;go_wp2_with fail
 refine(Ix u g c 8 _ _).mono ?_;rintro e O ⟨rfl,Q⟩;have G:Bw w O:=((nt _ _).alloc (nl _) _).trans (Q.mono (by simp));rw[F.out];generalize JB c 8=R;clear F;cases R
 ·go_wp2
  go_ret;exact⟨⟨_,rfl⟩,G⟩
 ·go_wp2
  go_ret;exact⟨⟨_,rfl⟩,G⟩
theorem As.set6{w:World}{b:Nat}{k m u g:Int}{o:Bool}{nh:List Kv}{d:BA}{ks:At}{h:Hd}(G:As w b (.mk k m u g o nh d ks) h)(F:BA):As (w.setCell ⟨b,6,none⟩ (.string F)) b (.mk k m u g o nh F ks) h:=by
 obtain⟨⟨H,I,J,O,Q,R,T,V⟩,Y⟩:=G;exact⟨⟨(AA (by omega)).trans H,(AA (by omega)).trans I,(AA (by omega)).trans J,(AA (by omega)).trans O,(AA (by omega)).trans Q,(AA (by omega)).trans R,nH _ _ _ T,(AA (by omega)).trans V⟩,fun j=>by simp[Y j]⟩
theorem Zv{k m u g G H I:Int}{o:Bool}{nh:List Kv}{d F:BA}{ks:At}(h:AB (.mk k m u g o nh d ks))(hd:F.size≤300):AB (.mk k G H I o nh F ks):=by rw[AB]at h⊢;exact⟨h.1,hd,h.2.2⟩
theorem ZQ{k m u g I F G:Int}{o:Bool}{nh J:List Kv}{d O:BA}{ks:At}(h:AM (.mk k m u g o nh d ks))(H:AZ F∧AZ G):AM (.mk k I F G o J O ks):=by rw[AM]at h⊢;exact⟨H.1,H.2,h.2.2⟩
theorem WX{w:World}{b:Nat}{B:Bx}{x0:Nd}{ni:List Nd}(h:A5 w b B)(ao:BS B x0 ni){H T:Nat}{I:BA}(bl:I.size≤300)(c0:w.cell? ⟨H,0,none⟩=some (.pointer (some ⟨b,0,none⟩)))(c1:w.cell? ⟨T,4,none⟩=some (.string I)):
 Jq w B.M.us B.M.gs (.func (.func 76) #[] #[.pointer (some ⟨T,0,none⟩),.pointer (some ⟨H,0,none⟩)]):=by
 refine⟨_,_,rfl,fun args w=>by kernel_rfl,fun W nx x O Y b9 Q ap az a1 a6=>?_⟩;have a7:=(Iy ao.cred.1).1;have a8:Hid (0≤B.k∧B.k≤15∧B.cs.length≤8):=a7;have ba:=h.below Y;obtain⟨_,_,_,a3,a4,a5,bb,_⟩:=ba.cells;have cb:H<w.heap.size:=ny w ⟨H,0,none⟩ c0;have cf:T<w.heap.size:=ny w ⟨T,4,none⟩ c1;have cg:=h.lt;have V:Hid (w.heap.size≤W.heap.size):=Y.size;have bd:=Ad Y c0;have ac:=Ad Y c1;obtain⟨k,m,u,g,o,nh,d,ks⟩:=x;have bn:Hid (As W nx (.mk k m u g o nh d ks) O):=Q;have bo:Hid (∀be,8≤be→W.cell? ⟨nx,be,none⟩=none):=ap;have bp:Hid (Ah W.cell? (.mk k m u g o nh d ks) O):=az;have bs:Hid (AB (.mk k m u g o nh d ks)):=a1;have bu:Hid (AM (.mk k m u g o nh d ks)):=a6;have ch:nx<W.heap.size:=Q.1.lt;have f6:=Q.2 6;have bv:Ce W nx 6 (.string d):=Q.1.2.2.2.2.2.2.1;have aa:Hid (As (W.setCell ⟨nx,6,none⟩ (.string I)) nx (.mk k m u g o nh I ks) O):=Q.set6 I;have ab:Hid (Au nx W (W.setCell ⟨nx,6,none⟩ (.string I))):=(Au.refl nx W).setCell 6 none _;clear Q ap az a1 a6 ba c0 c1 h ao a7;show Calls prog 76 #[.pointer (some ⟨nx,0,none⟩),.pointer (some ⟨T,0,none⟩),.pointer (some ⟨H,0,none⟩)] W _;go_enter func76,ntmps76;go_upto_region 1 with fail
 generalize W.setCell ⟨nx,6,none⟩ (.string I)=F at aa ab;have ad:Hid (As F nx (.mk k m u g o nh I ks) O):=aa.out;have R:Hid (Au nx W F):=ab.out;clear aa ab f6 bv ac;have cl:nx<F.heap.size:=ad.out.1.lt;obtain⟨⟨bx,bf,bA,bB,bC,bF,bG,bH⟩,bY⟩:=id ad.out;have b0:Ce F.drew nx 1 (.int .i64 m):=bf;have b1:F.drew.cell? ⟨H,0,none⟩=some (.pointer (some ⟨b,0,none⟩)):=(R.out.cell (p:=⟨H,0,none⟩) (by show H<W.heap.size;have:=V.out;omega) (by show H≠nx;omega)).trans bd;have b2:F.drew.cell? ⟨b,3,none⟩=some (.int .i64 B.u):=(R.out.cell (p:=⟨b,3,none⟩) (by show b<W.heap.size;have:=V.out;omega) (by show b≠nx;omega)).trans a3;have b3:F.drew.cell? ⟨b,4,none⟩=some (.int .i64 B.g):=(R.out.cell (p:=⟨b,4,none⟩) (by show b<W.heap.size;have:=V.out;omega) (by show b≠nx;omega)).trans a4;have b4:F.drew.cell? ⟨b,5,none⟩=some (.slice B.ca B.cs.length B.cc):=(R.out.cell (p:=⟨b,5,none⟩) (by show b<W.heap.size;have:=V.out;omega) (by show b≠nx;omega)).trans a5;have b5:F.drew.cell? ⟨b,6,none⟩=some (.int .i64 B.k):=(R.out.cell (p:=⟨b,6,none⟩) (by show b<W.heap.size;have:=V.out;omega) (by show b≠nx;omega)).trans bb;have bg:Hid (Calls prog 77 #[.agg #[.int .i64 B.u,.int .i64 B.g,.slice B.ca B.cs.length B.cc,.int .i64 B.k],.int .i64 m] F.drew fun e w'=>(∃J,e=.returned (.int .i64 J))∧Bw F.drew w'):=RZ B.u B.g B.k m (.slice B.ca B.cs.length B.cc) F.drew a8.out.1 a8.out.2.1;clear bx bf bA bB bC bF bG bH bY bd a3 a4 a5 bb;go_region_with (first|(go_at_call 77;(refine nn bg.out ?_);rintro e G ⟨⟨J,rfl⟩,q6⟩;have Z:Hid (As G nx (.mk k m u g o nh I ks) O):=(ad.out.below (nt _ _).drew).below q6;have b6:G.cell? ⟨nx,1,none⟩=some (.int .i64 m):=Z.out.1.2.1;have b7:G.frozen? ⟨nx,1,none⟩=false:=Z.out.2 1;have bi:Hid (Au nx W G):=R.out.trans (Au.of_below ((nt _ F).drew.trans q6));clear bg q6))
 all_goals
  have ak:Au nx W (G.setCell ⟨nx,1,none⟩ (.int .i64 J)):=bi.out.trans ((Au.refl nx G).setCell 1 none _);have bk:Hid (∃y h',As (G.setCell ⟨nx,1,none⟩ (.int .i64 J)) nx y h'∧Ah (G.setCell ⟨nx,1,none⟩ (.int .i64 J)).cell? y h'∧Fa B.M.us B.M.gs (.mk k m u g o nh d ks) y∧(AB y∧AM y∧cnt y≤cnt (.mk k m u g o nh d ks))∧Au nx W (G.setCell ⟨nx,1,none⟩ (.int .i64 J))):=⟨_,O,Z.out.set1 J,Kf ak bn.out.1 bo.out (KV bp.out),Fa.mk' (.inr ⟨rfl,rfl⟩),⟨Zv bs.out bl,MU bu.out,KG⟩,ak⟩;clear ak b6 b7 Z bi b0 b1 b2 b3 b4 b5;generalize G.setCell ⟨nx,1,none⟩ (.int .i64 J)=co at bk;go_wp2;go_end0
  exact⟨⟨_,rfl⟩,bk.out⟩
theorem Qh{w:World}{b:Nat}{B:Bx}{x0:Nd}{ni:List Nd}(h:A5 w b B)(a8:BS B x0 ni){O G:Nat}{F H:Int}(hid:Ev B.M.us B.M.gs F H)(ba:AZ F∧AZ H)(c0:w.cell? ⟨O,0,none⟩=some (.pointer (some ⟨b,0,none⟩)))(c1:w.cell? ⟨G,2,none⟩=some (.int .i64 F))(c2:w.cell? ⟨G,3,none⟩=some (.int .i64 H)):
 Jq w B.M.us B.M.gs (.func (.func 96) #[] #[.pointer (some ⟨G,0,none⟩),.pointer (some ⟨O,0,none⟩)]):=by
 refine⟨_,_,rfl,fun args w=>by kernel_rfl,fun W nx x T Y cB Q bb bd be bf=>?_⟩;have bg:=(Iy a8.cred.1).1;have bi:Hid (0≤B.k∧B.k≤15∧B.cs.length≤8):=bg;have bk:=h.below Y;obtain⟨_,_,_,a3,a4,a5,bl,_⟩:=bk.cells;have c3:O<w.heap.size:=ny w ⟨O,0,none⟩ c0;have c4:G<w.heap.size:=ny w ⟨G,2,none⟩ c1;have c5:=h.lt;have Z:Hid (w.heap.size≤W.heap.size):=Y.size;have bn:=Ad Y c0;have ac:=Ad Y c1;obtain⟨k,m,u,g,o,nh,d,ks⟩:=x;have bC:Hid (As W nx (.mk k m u g o nh d ks) T):=Q;have bF:Hid (∀bo,8≤bo→W.cell? ⟨nx,bo,none⟩=none):=bb;have bG:Hid (Ah W.cell? (.mk k m u g o nh d ks) T):=bd;have bH:Hid (AB (.mk k m u g o nh d ks)):=be;have bY:Hid (AM (.mk k m u g o nh d ks)):=bf;have c6:nx<W.heap.size:=Q.1.lt;have ao:=Ad Y c2;have bp:=Q.2 2;have ap:=Q.2 3;have ab:Ce W nx 2 (.int .i64 u):=Q.1.2.2.1;have aa:Ce W nx 3 (.int .i64 g):=Q.1.2.2.2.1;have bs:W.drew.cell? ⟨G,2,none⟩=some (.int .i64 F)∧W.drew.cell? ⟨G,3,none⟩=some (.int .i64 H):=⟨ac,ao⟩;have ad:(W.setCell ⟨nx,2,none⟩ (.int .i64 F)).drew.cell? ⟨G,2,none⟩=some (.int .i64 F)∧(W.setCell ⟨nx,2,none⟩ (.int .i64 F)).drew.cell? ⟨G,3,none⟩=some (.int .i64 H):=⟨(AW (w:=W) (by show G≠nx;omega)).trans ac,(AW (w:=W) (by show G≠nx;omega)).trans ao⟩;have bu:((W.setCell ⟨nx,2,none⟩ (.int .i64 F)).setCell ⟨nx,3,none⟩ (.int .i64 H)).drew.cell? ⟨G,2,none⟩=some (.int .i64 F)∧((W.setCell ⟨nx,2,none⟩ (.int .i64 F)).setCell ⟨nx,3,none⟩ (.int .i64 H)).drew.cell? ⟨G,3,none⟩=some (.int .i64 H):=⟨(AW (w:=W.setCell ⟨nx,2,none⟩ (.int .i64 F)) (by show G≠nx;omega)).trans ad.1,(AW (w:=W.setCell ⟨nx,2,none⟩ (.int .i64 F)) (by show G≠nx;omega)).trans ad.2⟩;have b0:Ce W.drew nx 2 (.int .i64 u):=ab;have b1:Ce W.drew nx 3 (.int .i64 g):=aa;have b2:W.drew.frozen? ⟨nx,2,none⟩=false:=bp;have g3:W.drew.frozen? ⟨nx,3,none⟩=false:=ap;have b3:Ce (W.setCell ⟨nx,2,none⟩ (.int .i64 F)).drew nx 3 (.int .i64 g):=(AA (w:=W) (by omega)).trans aa;have b4:(W.setCell ⟨nx,2,none⟩ (.int .i64 F)).drew.frozen? ⟨nx,3,none⟩=false:=by simpa using ap
 have az:Hid (As ((W.setCell ⟨nx,2,none⟩ (.int .i64 F)).setCell ⟨nx,3,none⟩ (.int .i64 H)).drew nx (.mk k m F H o nh d ks) T):=((Q.set2 F).set3 H).below (nt _ _).drew;have a1:Hid (Au nx W ((W.setCell ⟨nx,2,none⟩ (.int .i64 F)).setCell ⟨nx,3,none⟩ (.int .i64 H)).drew):=(((Au.refl nx W).setCell 2 none _).setCell 3 none _).then ((nt _ _).drew);have b5:Hid (Ev B.M.us B.M.gs F H):=hid;have b6:Hid (AZ F∧AZ H):=ba;clear Q bb bd be bf bk c0 c1 c2 h a8 bg hid ba;show Calls prog 96 #[.pointer (some ⟨nx,0,none⟩),.pointer (some ⟨G,0,none⟩),.pointer (some ⟨O,0,none⟩)] W _;go_enter func96,ntmps96;go_upto_region 0 with fail
 go_region_held3 (fun w'=>w'.cell? ⟨G,2,none⟩=some (.int .i64 F)∧w'.cell? ⟨G,3,none⟩=some (.int .i64 H)) (first|with_reducible exact bs|with_reducible exact ad|with_reducible exact bu) (fail)
 all_goals
  generalize((W.setCell ⟨nx,2,none⟩ (.int .i64 F)).setCell ⟨nx,3,none⟩ (.int .i64 H)).drew=I at az a1⊢;have a6:Hid (As I nx (.mk k m F H o nh d ks) T):=az.out;have V:Hid (Au nx W I):=a1.out;clear az a1 bs ad bu b0 b1 b2 g3 b3 b4 ab aa bp ap ac ao;go_upto_region 1 with fail
  have c8:nx<I.heap.size:=a6.out.1.lt;obtain⟨⟨b7,bv,ab,aa,b9,cb,cf,cg⟩,ch⟩:=id a6.out;have cl:Ce I.drew nx 1 (.int .i64 m):=bv;have co:I.drew.cell? ⟨O,0,none⟩=some (.pointer (some ⟨b,0,none⟩)):=(V.out.cell (p:=⟨O,0,none⟩) (by show O<W.heap.size;have:=Z.out;omega) (by show O≠nx;omega)).trans bn;have cp:I.drew.cell? ⟨b,3,none⟩=some (.int .i64 B.u):=(V.out.cell (p:=⟨b,3,none⟩) (by show b<W.heap.size;have:=Z.out;omega) (by show b≠nx;omega)).trans a3;have cq:I.drew.cell? ⟨b,4,none⟩=some (.int .i64 B.g):=(V.out.cell (p:=⟨b,4,none⟩) (by show b<W.heap.size;have:=Z.out;omega) (by show b≠nx;omega)).trans a4;have cr:I.drew.cell? ⟨b,5,none⟩=some (.slice B.ca B.cs.length B.cc):=(V.out.cell (p:=⟨b,5,none⟩) (by show b<W.heap.size;have:=Z.out;omega) (by show b≠nx;omega)).trans a5;have cu:I.drew.cell? ⟨b,6,none⟩=some (.int .i64 B.k):=(V.out.cell (p:=⟨b,6,none⟩) (by show b<W.heap.size;have:=Z.out;omega) (by show b≠nx;omega)).trans bl;have bx:Hid (Calls prog 77 #[.agg #[.int .i64 B.u,.int .i64 B.g,.slice B.ca B.cs.length B.cc,.int .i64 B.k],.int .i64 m] I.drew fun e w'=>(∃R,e=.returned (.int .i64 R))∧Bw I.drew w'):=RZ B.u B.g B.k m (.slice B.ca B.cs.length B.cc) I.drew bi.out.1 bi.out.2.1;clear b7 bv ab aa b9 cb cf cg ch bn a3 a4 a5 bl;go_region_with (first|(go_at_call 77;(refine nn bx.out ?_);rintro e J ⟨⟨R,rfl⟩,q6⟩;have ak:Hid (As J nx (.mk k m F H o nh d ks) T):=(a6.out.below (nt _ _).drew).below q6;have cx:J.cell? ⟨nx,1,none⟩=some (.int .i64 m):=ak.out.1.2.1;have cA:J.frozen? ⟨nx,1,none⟩=false:=ak.out.2 1;have bA:Hid (Au nx W J):=V.out.trans (Au.of_below ((nt _ I).drew.trans q6));clear bx q6))
  all_goals
   have a7:Au nx W (J.setCell ⟨nx,1,none⟩ (.int .i64 R)):=bA.out.trans ((Au.refl nx J).setCell 1 none _);have bB:Hid (∃y h',As (J.setCell ⟨nx,1,none⟩ (.int .i64 R)) nx y h'∧Ah (J.setCell ⟨nx,1,none⟩ (.int .i64 R)).cell? y h'∧Fa B.M.us B.M.gs (.mk k m u g o nh d ks) y∧(AB y∧AM y∧cnt y≤cnt (.mk k m u g o nh d ks))∧Au nx W (J.setCell ⟨nx,1,none⟩ (.int .i64 R))):=⟨_,T,ak.out.set1 R,Kf a7 bC.out.1 bF.out (KV bG.out),Fa.mk' (.inl b5.out),⟨QK bH.out,ZQ bY.out b6.out,KG⟩,a7⟩;clear a7 cx cA ak bA cl co cp cq cr cu;generalize J.setCell ⟨nx,1,none⟩ (.int .i64 R)=c9 at bB;go_wp2;go_end0
   exact⟨⟨_,rfl⟩,bB.out⟩
abbrev dt:Oper:={dst:=some 10,op:=Op.fieldAddr 84 (Operand.tmp 5) 2,type:=0,pos:= "own.go:38",after:=#[],guard:=none}
abbrev dA:Oper:={dst:=some 11,op:=Op.load 3 (Operand.tmp 10),type:=3,pos:= "own.go:38",after:=#[{on:=0,ground:=Ground.data}],guard:=none}
abbrev dB:Oper:={dst:=some 12,op:=Op.move (Operand.tmp 0),type:=35,pos:= "own.go:38",after:=#[],guard:=none}
abbrev dR:Oper:={dst:=some 13,op:=Op.nilCheck (Operand.tmp 12),type:=0,pos:= "own.go:38",after:=#[{on:=2,ground:=Ground.data}],guard:=none}
abbrev dE:Oper:={dst:=some 14,op:=Op.fieldAddr 67 (Operand.tmp 13) 1,type:=0,pos:= "own.go:38",after:=#[{on:=3,ground:=Ground.data}],guard:=none}
abbrev di:Oper:={dst:=some 15,op:=Op.fieldAddr 27 (Operand.tmp 14) 0,type:=0,pos:= "own.go:38",after:=#[{on:=4,ground:=Ground.data}],guard:=none}
abbrev dL:Oper:={dst:=some 16,op:=Op.load 3 (Operand.tmp 15),type:=3,pos:= "own.go:38",after:=#[{on:=5,ground:=Ground.data}],guard:=none}
abbrev Vg:Oper:={dst:=some 17,op:=Op.binOp BinOp.eql 3 (Operand.tmp 11) (Operand.tmp 16) 3,type:=4,pos:= "own.go:38",after:=#[{on:=1,ground:=Ground.data},{on:=6,ground:=Ground.data}],guard:=none}
abbrev Vj:Oper:={dst:=some 18,op:=Op.move (Operand.tmp 17),type:=4,pos:= "own.go:38",after:=#[{on:=7,ground:=Ground.data}],guard:=none}
abbrev Vm:Oper:={dst:=some 19,op:=Op.move (Operand.tmp 2),type:=3,pos:= "own.go:38",after:=#[{on:=8,ground:=Ground.guard}],guard:=some (8,true)}
abbrev UZ:Oper:={dst:=some 20,op:=Op.fieldAddr 84 (Operand.tmp 5) 2,type:=0,pos:= "own.go:38",after:=#[{on:=8,ground:=Ground.guard}],guard:=some (8,true)}
abbrev UR:Oper:={dst:=some 21,op:=Op.load 3 (Operand.tmp 20),type:=3,pos:= "own.go:38",after:=#[{on:=10,ground:=Ground.data},{on:=8,ground:=Ground.guard}],guard:=some (8,true)}
abbrev OM:Oper:={dst:=some 22,op:=Op.binOp BinOp.eql 3 (Operand.tmp 19) (Operand.tmp 21) 3,type:=4,pos:= "own.go:38",after:=#[{on:=9,ground:=Ground.data},{on:=11,ground:=Ground.data},{on:=8,ground:=Ground.guard}],guard:=some (8,true)}
abbrev OQ:Oper:={dst:=some 23,op:=Op.pick (Operand.tmp 18) (Operand.tmp 22) (Operand.const (Value.bool false)),type:=4,pos:= "own.go:38",after:=#[{on:=8,ground:=Ground.data},{on:=12,ground:=Ground.data}],guard:=none}
abbrev OS:Oper:={dst:=some 24,op:=Op.move (Operand.tmp 23),type:=4,pos:= "own.go:38",after:=#[{on:=13,ground:=Ground.data},{on:=8,ground:=Ground.chain}],guard:=none}
abbrev OE:Oper:={dst:=some 25,op:=Op.move (Operand.tmp 3),type:=3,pos:= "own.go:38",after:=#[{on:=14,ground:=Ground.guard}],guard:=some (14,true)}
abbrev OD:Oper:={dst:=some 26,op:=Op.fieldAddr 84 (Operand.tmp 5) 3,type:=0,pos:= "own.go:38",after:=#[{on:=14,ground:=Ground.guard}],guard:=some (14,true)}
abbrev Oz:Oper:={dst:=some 27,op:=Op.load 3 (Operand.tmp 26),type:=3,pos:= "own.go:38",after:=#[{on:=16,ground:=Ground.data},{on:=14,ground:=Ground.guard}],guard:=some (14,true)}
abbrev LY:Oper:={dst:=some 28,op:=Op.binOp BinOp.eql 3 (Operand.tmp 25) (Operand.tmp 27) 3,type:=4,pos:= "own.go:38",after:=#[{on:=15,ground:=Ground.data},{on:=17,ground:=Ground.data},{on:=14,ground:=Ground.guard}],guard:=some (14,true)}
abbrev LZ:Oper:={dst:=some 29,op:=Op.move (Operand.tmp 28),type:=4,pos:= "own.go:38",after:=#[{on:=18,ground:=Ground.data},{on:=14,ground:=Ground.chain},{on:=14,ground:=Ground.guard}],guard:=some (14,true)}
abbrev Mc:Oper:={dst:=some 30,op:=Op.move (Operand.tmp 0),type:=35,pos:= "own.go:38",after:=#[{on:=19,ground:=Ground.guard}],guard:=some (19,false)}
abbrev LV:Oper:={dst:=some 31,op:=Op.nilCheck (Operand.tmp 30),type:=0,pos:= "own.go:38",after:=#[{on:=20,ground:=Ground.data},{on:=19,ground:=Ground.guard}],guard:=some (19,false)}
abbrev L0:Oper:={dst:=some 32,op:=Op.fieldAddr 67 (Operand.tmp 31) 1,type:=0,pos:= "own.go:38",after:=#[{on:=21,ground:=Ground.data},{on:=19,ground:=Ground.guard}],guard:=some (19,false)}
abbrev Md:Oper:={dst:=some 33,op:=Op.load 27 (Operand.tmp 32),type:=27,pos:= "own.go:38",after:=#[{on:=22,ground:=Ground.data},{on:=19,ground:=Ground.guard}],guard:=some (19,false)}
abbrev L3:Oper:={dst:=some 34,op:=Op.move (Operand.tmp 3),type:=3,pos:= "own.go:38",after:=#[{on:=19,ground:=Ground.guard}],guard:=some (19,false)}
abbrev Mb:Oper:={dst:=some 35,op:=Op.call {callee:=Callee.value (Operand.func 139),args:=#[Operand.tmp 33,Operand.tmp 34],argTypes:=#[27,3]},type:=4,pos:= "own.go:38",after:=#[{on:=23,ground:=Ground.data},{on:=24,ground:=Ground.data},{on:=19,ground:=Ground.chain},{on:=19,ground:=Ground.guard}],guard:=some (19,false)}
abbrev LW:Oper:={dst:=some 36,op:=Op.pick (Operand.tmp 29) (Operand.const (Value.bool true)) (Operand.tmp 35),type:=4,pos:= "own.go:38",after:=#[{on:=19,ground:=Ground.data},{on:=25,ground:=Ground.data},{on:=14,ground:=Ground.guard}],guard:=some (14,true)}
abbrev Me:Oper:={dst:=some 37,op:=Op.pick (Operand.tmp 24) (Operand.tmp 36) (Operand.const (Value.bool false)),type:=4,pos:= "own.go:38",after:=#[{on:=14,ground:=Ground.data},{on:=26,ground:=Ground.data}],guard:=none}
abbrev LX:Oper:={dst:=some 9,op:=Op.assign (Operand.tmp 37),type:=4,pos:= "own.go:38",after:=#[{on:=27,ground:=Ground.data},{on:=25,ground:=Ground.chain},{on:=0,ground:=Ground.phase},{on:=1,ground:=Ground.phase},{on:=2,ground:=Ground.phase},{on:=3,ground:=Ground.phase},{on:=4,ground:=Ground.phase},{on:=5,ground:=Ground.phase},{on:=6,ground:=Ground.phase},{on:=7,ground:=Ground.phase},{on:=8,ground:=Ground.phase},{on:=9,ground:=Ground.phase},{on:=10,ground:=Ground.phase},{on:=11,ground:=Ground.phase},{on:=12,ground:=Ground.phase},{on:=13,ground:=Ground.phase},{on:=14,ground:=Ground.phase},{on:=15,ground:=Ground.phase},{on:=16,ground:=Ground.phase},{on:=17,ground:=Ground.phase},{on:=18,ground:=Ground.phase},{on:=19,ground:=Ground.phase},{on:=20,ground:=Ground.phase},{on:=21,ground:=Ground.phase},{on:=22,ground:=Ground.phase},{on:=23,ground:=Ground.phase},{on:=24,ground:=Ground.phase},{on:=25,ground:=Ground.phase},{on:=26,ground:=Ground.phase},{on:=27,ground:=Ground.phase}],guard:=none}
theorem PF{w:World}{b:Nat}{B:Bx}{x0:Nd}{ni:List Nd}(h:A5 w b B)(bx:BS B x0 ni)(I G:Bool)(J H tg bd a1:Int):
 Calls prog 95 #[.pointer (some ⟨b,0,none⟩),.agg #[.bool I,.int .i64 J,.int .i64 H,.int .i64 tg,.bool G],.int .i64 bd,.int .i64 a1] w fun e w'=>(∃r,e=.returned (.bool r))∧Bw w w':=by
 have bA:=(Iy bx.cred.1).1;have be:Bw w (w.alloc (.cells #[.bool I,.int .i64 J,.int .i64 H,.int .i64 tg,.bool G] 84)):=(nt _ _).alloc (nl _) _;have bf:=h.below be;obtain⟨_,_,_,a3,a4,a5,bB,_⟩:=bf.cells;have b5:=Ek.new w _ rfl I J H tg G;obtain⟨bC,bF,bG,bH,bY⟩:=b5;have Q:Ce (w.alloc (.cells #[.bool I,.int .i64 J,.int .i64 H,.int .i64 tg,.bool G] 84)).drew w.heap.size 0 (.bool I)∧Ce (w.alloc (.cells #[.bool I,.int .i64 J,.int .i64 H,.int .i64 tg,.bool G] 84)).drew w.heap.size 1 (.int .i64 J)∧Ce (w.alloc (.cells #[.bool I,.int .i64 J,.int .i64 H,.int .i64 tg,.bool G] 84)).drew w.heap.size 2 (.int .i64 H)∧Ce (w.alloc (.cells #[.bool I,.int .i64 J,.int .i64 H,.int .i64 tg,.bool G] 84)).drew w.heap.size 3 (.int .i64 tg)∧Ce (w.alloc (.cells #[.bool I,.int .i64 J,.int .i64 H,.int .i64 tg,.bool G] 84)).drew w.heap.size 4 (.bool G)∧Ce (w.alloc (.cells #[.bool I,.int .i64 J,.int .i64 H,.int .i64 tg,.bool G] 84)).drew b 3 (.int .i64 B.u)∧Ce (w.alloc (.cells #[.bool I,.int .i64 J,.int .i64 H,.int .i64 tg,.bool G] 84)).drew b 4 (.int .i64 B.g)∧Ce (w.alloc (.cells #[.bool I,.int .i64 J,.int .i64 H,.int .i64 tg,.bool G] 84)).drew b 5 (.slice B.ca B.cs.length B.cc)∧Ce (w.alloc (.cells #[.bool I,.int .i64 J,.int .i64 H,.int .i64 tg,.bool G] 84)).drew b 6 (.int .i64 B.k):=⟨bC,bF,bG,bH,bY,a3,a4,a5,bB⟩;have b0:=hid (KY B.u B.g a1 B.k B.ca B.cc B.cs (w.alloc (.cells #[.bool I,.int .i64 J,.int .i64 H,.int .i64 tg,.bool G] 84)).drew bA.2.2 (bf.grp.below (nt _ _).drew));have a8:Hid (∀w',Calls prog 128 #[.agg #[.int .i64 B.u,.int .i64 B.g,.slice B.ca B.cs.length B.cc,.int .i64 B.k],.int .i64 1] w' fun e b6=>e=.returned (.bool (bits .and .i64 B.k 1==1))∧Bw w' b6):=fun w'=>Ix B.u B.g B.k 1 (.slice B.ca B.cs.length B.cc) w';have R:=hid be.drew
 generalize EI B.g B.cs a1=ba at b0;generalize(bits .and .i64 B.k 1==1)=cn at a8;clear bC bF bG bH bY a3 a4 a5 bB bf be h bx bA;go_enter func95,ntmps95;go_upto_region 1 with fail
 generalize(w.alloc (.cells #[.bool I,.int .i64 J,.int .i64 H,.int .i64 tg,.bool G] 84))=b7 at*;refine wp_region_held_drew (S:=fun w'=>Ce w' w.heap.size 0 (.bool I)∧Ce w' w.heap.size 1 (.int .i64 J)∧Ce w' w.heap.size 2 (.int .i64 H)∧Ce w' w.heap.size 3 (.int .i64 tg)∧Ce w' w.heap.size 4 (.bool G)∧Ce w' b 3 (.int .i64 B.u)∧Ce w' b 4 (.int .i64 B.g)∧Ce w' b 5 (.slice B.ca B.cs.length B.cc)∧Ce w' b 6 (.int .i64 B.k)) (by kernel_rfl) Q (fun F=>?_);refine tI 0 dt (.pointer (some ⟨w.heap.size,2,none⟩)) F ?_;simp only[tk];refine tI 1 dA (.int .i64 H) F ?_;simp only[tk];refine tI 2 dB (.pointer (some ⟨b,0,none⟩)) F ?_;simp only[tk];refine tI 3 dR (.pointer (some ⟨b,0,none⟩)) F ?_;simp only[tk];refine tI 4 dE (.pointer (some ⟨b,3,none⟩)) F ?_;simp only[tk];refine tI 5 di (.pointer (some ⟨b,3,none⟩)) F ?_;simp only[tk];refine tI 6 dL (.int .i64 B.u) F ?_;simp only[tk];by_cases a6:H=B.u
 ·refine nS (i:=7) (oi:=Vg) (v:=.bool true) rfl (by kernel_rfl) (by kernel_rfl) (by kernel_rfl) (fun _ _ _ h=>h) (Or.inl ⟨by rfl,fun w O=>by obtain⟨V,Y,Z,aa,ab,ad,ak,ao,ap⟩:=O;first|(go_simp;done)|(go_simp;simp[a6];done)⟩) F ?_
  simp only[tk];refine tI 8 Vj (.bool true) F ?_;simp only[tk];refine tI 9 Vm (.int .i64 bd) F ?_;simp only[tk];refine tI 10 UZ (.pointer (some ⟨w.heap.size,2,none⟩)) F ?_;simp only[tk];refine tI 11 UR (.int .i64 H) F ?_;simp only[tk];by_cases az:bd=H
  ·refine nS (i:=12) (oi:=OM) (v:=.bool true) rfl (by kernel_rfl) (by kernel_rfl) (by kernel_rfl) (fun _ _ _ h=>h) (Or.inl ⟨by rfl,fun w O=>by obtain⟨V,Y,Z,aa,ab,ad,ak,ao,ap⟩:=O;first|(go_simp;done)|(go_simp;simp[az];done)|(rw[a6]at az;go_simp;done)|(rw[a6]at az;go_simp;simp[az])⟩) F ?_
   simp only[tk];refine tI 13 OQ (.bool true) F ?_;simp only[tk];refine tI 14 OS (.bool true) F ?_;simp only[tk];refine tI 15 OE (.int .i64 a1) F ?_;simp only[tk];refine tI 16 OD (.pointer (some ⟨w.heap.size,3,none⟩)) F ?_;simp only[tk];refine tI 17 Oz (.int .i64 tg) F ?_;simp only[tk];by_cases b1:a1=tg
   ·refine nS (i:=18) (oi:=LY) (v:=.bool true) rfl (by kernel_rfl) (by kernel_rfl) (by kernel_rfl) (fun _ _ _ h=>h) (Or.inl ⟨by rfl,fun w O=>by obtain⟨V,Y,Z,aa,ab,ad,ak,ao,ap⟩:=O;first|(go_simp;done)|(go_simp;simp[b1];done)⟩) F ?_
    simp only[tk];refine tI 19 LZ (.bool true) F ?_;simp only[tk];refine tO 20 Mc F ?_;simp only[tk];refine tO 21 LV F ?_;simp only[tk];refine tO 22 L0 F ?_;simp only[tk];refine tO 23 Md F ?_;simp only[tk];refine tO 24 L3 F ?_;simp only[tk];refine tO 25 Mb F ?_;simp only[tk];refine tI 26 LW (.bool true) F ?_;simp only[tk];refine tI 27 Me (.bool true) F ?_;simp only[tk];refine tI 28 LX (.bool true) F ?_;simp only[tk];refine rN (by kernel_rfl) ?_ _;obtain⟨bg,bi,bk,bl,bn,bo,bp,bs,bu⟩:=Q;cases G with
    |false=>
     go_wp2;go_ret;exact⟨⟨_,rfl⟩,R.out⟩
    |true=>
     go_wp2;go_ret;exact⟨⟨_,rfl⟩,R.out⟩
   ·refine nS (i:=18) (oi:=LY) (v:=.bool false) rfl (by kernel_rfl) (by kernel_rfl) (by kernel_rfl) (fun _ _ _ h=>h) (Or.inl ⟨by rfl,fun w O=>by obtain⟨V,Y,Z,aa,ab,ad,ak,ao,ap⟩:=O;first|(go_simp;done)|(go_simp;simp[b1];done)⟩) F ?_
    simp only[tk];refine tI 19 LZ (.bool false) F ?_;simp only[tk];refine tI 20 Mc (.pointer (some ⟨b,0,none⟩)) F ?_;simp only[tk];refine tI 21 LV (.pointer (some ⟨b,0,none⟩)) F ?_;simp only[tk];refine tI 22 L0 (.pointer (some ⟨b,3,none⟩)) F ?_;simp only[tk];refine tI 23 Md (.agg #[.int .i64 B.u,.int .i64 B.g,.slice B.ca B.cs.length B.cc,.int .i64 B.k]) F ?_;simp only[tk];refine tI 24 L3 (.int .i64 a1) F ?_;simp only[tk];refine wpAnyH_ready (rs:=[25]) (by kernel_rfl) (by simp) ?_;refine AllReadyH.cons (o:=Mb) rfl (fun K b2=>?_) AllReadyH.nil;rw[nC (by rfl)];go_simp;refine nn b0.out ?_;rintro e T ⟨rfl,q6⟩;have b3:Ce T w.heap.size 0 (.bool I)∧Ce T w.heap.size 1 (.int .i64 J)∧Ce T w.heap.size 2 (.int .i64 H)∧Ce T w.heap.size 3 (.int .i64 tg)∧Ce T w.heap.size 4 (.bool G)∧Ce T b 3 (.int .i64 B.u)∧Ce T b 4 (.int .i64 B.g)∧Ce T b 5 (.slice B.ca B.cs.length B.cc)∧Ce T b 6 (.int .i64 B.k):=⟨Ad q6 Q.1,Ad q6 Q.2.1,Ad q6 Q.2.2.1,Ad q6 Q.2.2.2.1,Ad q6 Q.2.2.2.2.1,Ad q6 Q.2.2.2.2.2.1,Ad q6 Q.2.2.2.2.2.2.1,Ad q6 Q.2.2.2.2.2.2.2.1,Ad q6 Q.2.2.2.2.2.2.2.2⟩;have bb:=hid (R.out.trans (q6.mono R.out.size));clear q6;go_wp2_with fail
    refine b2.out _ _ b3 (fun bv=>?_);clear b2 K;refine nS (i:=26) (oi:=LW) (v:=.bool ba) rfl (by kernel_rfl) (by kernel_rfl) (by kernel_rfl) (fun _ _ _ h=>h) (Or.inl ⟨by rfl,fun w O=>by obtain⟨V,Y,Z,aa,ab,ad,ak,ao,ap⟩:=O;go_simp⟩) bv ?_;simp only[tk];refine nS (i:=27) (oi:=Me) (v:=.bool ba) rfl (by kernel_rfl) (by kernel_rfl) (by kernel_rfl) (fun _ _ _ h=>h) (Or.inl ⟨by rfl,fun w O=>by obtain⟨V,Y,Z,aa,ab,ad,ak,ao,ap⟩:=O;go_simp⟩) bv ?_;simp only[tk];refine nS (i:=28) (oi:=LX) (v:=.bool ba) rfl (by kernel_rfl) (by kernel_rfl) (by kernel_rfl) (fun _ _ _ h=>h) (Or.inl ⟨by rfl,fun w O=>by obtain⟨V,Y,Z,aa,ab,ad,ak,ao,ap⟩:=O;go_simp⟩) bv ?_;simp only[tk];refine rN (by kernel_rfl) ?_ _;obtain⟨bg,bi,bk,bl,bn,bo,bp,bs,bu⟩:=b3;cases G with
    |false=>
     go_wp2;go_ret;exact⟨⟨_,rfl⟩,bb.out⟩
    |true=>
     cases ba with
     |true=>
      go_wp2;go_ret;exact⟨⟨_,rfl⟩,bb.out⟩
     |false=>
      go_wp2_with fail
      refine nn (a8.out _) ?_;rintro e b4 ⟨rfl,q7⟩;have a7:=hid (bb.out.trans (q7.mono bb.out.size));clear q7;go_wp2;go_ret;exact⟨⟨_,rfl⟩,a7.out⟩
  ·refine nS (i:=12) (oi:=OM) (v:=.bool false) rfl (by kernel_rfl) (by kernel_rfl) (by kernel_rfl) (fun _ _ _ h=>h) (Or.inl ⟨by rfl,fun w O=>by obtain⟨V,Y,Z,aa,ab,ad,ak,ao,ap⟩:=O;first|(go_simp;done)|(go_simp;simp[az];done)|(rw[a6]at az;go_simp;done)|(rw[a6]at az;go_simp;simp[az])⟩) F ?_
   simp only[tk];refine tI 13 OQ (.bool false) F ?_;simp only[tk];refine tI 14 OS (.bool false) F ?_;simp only[tk];refine tO 15 OE F ?_;simp only[tk];refine tO 16 OD F ?_;simp only[tk];refine tO 17 Oz F ?_;simp only[tk];refine tO 18 LY F ?_;simp only[tk];refine tO 19 LZ F ?_;simp only[tk];refine tO 20 Mc F ?_;simp only[tk];refine tO 21 LV F ?_;simp only[tk];refine tO 22 L0 F ?_;simp only[tk];refine tO 23 Md F ?_;simp only[tk];refine tO 24 L3 F ?_;simp only[tk];refine tO 25 Mb F ?_;simp only[tk];refine tO 26 LW F ?_;simp only[tk];refine tI 27 Me (.bool false) F ?_;simp only[tk];refine tI 28 LX (.bool false) F ?_;simp only[tk];refine rN (by kernel_rfl) ?_ _;obtain⟨bg,bi,bk,bl,bn,bo,bp,bs,bu⟩:=Q;cases G with
   |false=>
    go_wp2;go_ret;exact⟨⟨_,rfl⟩,R.out⟩
   |true=>
    go_wp2_with fail
    refine nn (a8.out _) ?_;rintro e b4 ⟨rfl,q7⟩;have a7:=hid (R.out.trans (q7.mono R.out.size));clear q7;go_wp2;go_ret;exact⟨⟨_,rfl⟩,a7.out⟩
 ·refine nS (i:=7) (oi:=Vg) (v:=.bool false) rfl (by kernel_rfl) (by kernel_rfl) (by kernel_rfl) (fun _ _ _ h=>h) (Or.inl ⟨by rfl,fun w O=>by obtain⟨V,Y,Z,aa,ab,ad,ak,ao,ap⟩:=O;first|(go_simp;done)|(go_simp;simp[a6];done)⟩) F ?_
  simp only[tk];refine tI 8 Vj (.bool false) F ?_;simp only[tk];refine tO 9 Vm F ?_;simp only[tk];refine tO 10 UZ F ?_;simp only[tk];refine tO 11 UR F ?_;simp only[tk];refine tO 12 OM F ?_;simp only[tk];refine tI 13 OQ (.bool false) F ?_;simp only[tk];refine tI 14 OS (.bool false) F ?_;simp only[tk];refine tO 15 OE F ?_;simp only[tk];refine tO 16 OD F ?_;simp only[tk];refine tO 17 Oz F ?_;simp only[tk];refine tO 18 LY F ?_;simp only[tk];refine tO 19 LZ F ?_;simp only[tk];refine tO 20 Mc F ?_;simp only[tk];refine tO 21 LV F ?_;simp only[tk];refine tO 22 L0 F ?_;simp only[tk];refine tO 23 Md F ?_;simp only[tk];refine tO 24 L3 F ?_;simp only[tk];refine tO 25 Mb F ?_;simp only[tk];refine tO 26 LW F ?_;simp only[tk];refine tI 27 Me (.bool false) F ?_;simp only[tk];refine tI 28 LX (.bool false) F ?_;simp only[tk];refine rN (by kernel_rfl) ?_ _;obtain⟨bg,bi,bk,bl,bn,bo,bp,bs,bu⟩:=Q;cases G with
  |false=>
   go_wp2;go_ret;exact⟨⟨_,rfl⟩,R.out⟩
  |true=>
   go_wp2_with fail
   refine nn (a8.out _) ?_;rintro e b4 ⟨rfl,q7⟩;have a7:=hid (R.out.trans (q7.mono R.out.size));clear q7;go_wp2;go_ret;exact⟨⟨_,rfl⟩,a7.out⟩
theorem Wz(g c H I:Int)(a:Option Addr)(cap:Nat)(G:List Int)(w:World)(bi:G.length≤8)(h:Bg w a G)(bB:CR H g G c=0)(cp:BP H=true)(cq:BP I=true)
 (bC:(bits .and .i64 c 8==8)=false) (bF:EI g G I=true):
 Calls prog 99 #[.agg #[iN H,iN g,.slice a G.length cap,iN c],iN H,iN I] w fun e w'=>
  ∃b,e=.returned (Gj H I c b G.length)∧Bg w' (some (aD b 0)) G∧Below w.heap.size w w'∧w.heap.size≤b:=by
 have b5:=hid bB;have b6:=hid bC;have b7:=hid bF;have cr:(H !=H)=false:=by simp
 clear bB bC bF;go_enter func99,ntmps99;go_wp2_with fail
 refine(Is H g c a cap G _ bi ?_).mono ?_
 ·exact h.below (bN.alloc (by simp) _)
 rintro e a1 ⟨rfl,hb⟩;rw[Cr b5.out];have bk:Below w.heap.size w a1:=(bN.alloc (by simp) _).trans (hb.mono (by simp;omega));have b9:w.heap.size+1<a1.heap.size:=by have:=hb.size;simp at this;omega
 have bl:BO a1 w.heap.size H g (.slice a G.length cap) c:=((BO.new w H g (.slice a G.length cap) c).alloc _).below hb;have bG:BO a1 (w.heap.size+1) 0 0 nL 0:=by
  have:=(BO.new (w.alloc (.cells #[iN H,iN g,.slice a G.length cap,iN c] 27)) 0 0 nL 0).below hb;simpa using this
 clear hb;obtain⟨Z,aa,ab,ad,ak⟩:=id bl;go_wp2_with (go_at_call 111;refine(ET _ _).mono ?_;rintro e w' ⟨rfl,rfl⟩)
 refine(Ix H g c 8 _ _).mono ?_;rintro e F ⟨rfl,a6⟩;rw[b6.out];have bn:=bl.below a6;have bH:=bG.below a6;have a7:=bk.trans (a6.mono bk.size);clear Z aa ab ad ak bl bG a6 bk b9;obtain⟨Z,aa,ab,ad,ak⟩:=id bn;go_wp2_with fail
 refine(KY H g I c a cap G _ bi (h.below a7)).mono ?_;rintro e cb ⟨rfl,a8⟩;rw[b7.out];obtain⟨F,cf⟩:∃F,F=cb:=⟨_,rfl⟩;subst cf;have V:=bn.below a8;have ap:=bH.below a8;have Q:=a7.trans (a8.mono a7.size);have bY:=ap.lt;have Y:=V.lt;have b0:w.heap.size<F.heap.size+1:=by omega
 have b1:¬F.heap.size=w.heap.size:=by omega
 clear Z aa ab ad ak bn bH a8 a7;obtain⟨Z,aa,ab,ad,ak⟩:=id V;go_wp2_with fail
 go_region_held3 (fun w'=>w'.cell? ⟨w.heap.size,2,none⟩=some (.slice a G.length cap)∧w'.cell? ⟨w.heap.size,3,none⟩=some (.int .i64 c)) (first|go_keep|(simp[*];done))
  (first|(go_at_call 141;refine(SR a cap G _ bi ?_).mono ?_;(first|exact h.below Q.drew|exact h.below (Q.drew.alloc (by simp;omega) _)|exact h.below (Q.alloc (by simp;omega) _).drew);rintro e O ⟨g3,rfl,ba,b2,bb,J⟩;obtain⟨cg,ch⟩:=G8 J;have bo:=J.size;simp at bo;have R:=BO.below (by first|exact V.drew|exact(V.alloc _).drew|exact V.drew.alloc _) J;obtain⟨b3,q1,q2,b4,q4⟩:=id R))
 all_goals
  clear cg ch b3 q1 q2 b4 q4 Z aa ab ad ak
  first
   |(have bp:g3=F.heap.size:=by simpa using ba
     subst bp;have T:=BO.new O H I (sL F.heap.size 0 G.length G.length) c;have bd:=R.alloc (.cells #[iN H,iN I,sL F.heap.size 0 G.length G.length,iN c] 27);have be:=(BO.below ap.drew J).alloc (.cells #[iN H,iN I,sL F.heap.size 0 G.length G.length,iN c] 27);have ao:=Bg.below bb ((nt O.heap.size O).alloc (nl _) (.cells #[iN H,iN I,sL F.heap.size 0 G.length G.length,iN c] 27));have bf:=((Q.drew).trans (J.mono Q.size)).alloc (rO R.lt) (.cells #[iN H,iN I,sL F.heap.size 0 G.length G.length,iN c] 27);have az:¬O.heap.size=F.heap.size:=by omega
     have bs:¬O.heap.size=w.heap.size:=by have:=R.lt;omega
     have bu:¬O.heap.size=w.heap.size+1:=by omega
     have bv:¬F.heap.size=w.heap.size+1:=by omega
     have bx:=rO R.lt;have bg:Hid (w.heap.size≤F.heap.size):=by show _≤_;omega
     clear R J bo bb b2 b0 Y bY Q ap V b1 ba;generalize O.alloc (.cells #[iN H,iN I,sL F.heap.size 0 G.length G.length,iN c] 27)=cl at T bd be ao bf⊢;generalize O.heap.size=co at T az bs bu bx⊢;generalize F.heap.size=bA at T ao az bv bg⊢)
   |(have bp:g3=F.heap.size+1:=by simpa using ba
     subst bp;have T:=(BO.below (BO.new F 0 0 nL 0).drew J).set H I (sL (F.heap.size+1) 0 G.length G.length) c;have bd:=(((R.other (p:=(aD F.heap.size 0)) (by simp;omega) (iN H)).other (p:=(aD F.heap.size 1)) (by simp;omega) (iN I)).other (p:=(aD F.heap.size 2)) (by simp;omega) (sL (F.heap.size+1) 0 G.length G.length)).other (p:=(aD F.heap.size 3)) (by simp;omega) (iN c);have be:=((((BO.below (ap.alloc _).drew J).other (p:=(aD F.heap.size 0)) (by simp;omega) (iN H)).other (p:=(aD F.heap.size 1)) (by simp;omega) (iN I)).other (p:=(aD F.heap.size 2)) (by simp;omega) (sL (F.heap.size+1) 0 G.length G.length)).other (p:=(aD F.heap.size 3)) (by simp;omega) (iN c);have ao:=(((bb.other (p:=(aD F.heap.size 0)) (by simp) (iN H)).other (p:=(aD F.heap.size 1)) (by simp) (iN I)).other (p:=(aD F.heap.size 2)) (by simp) (sL (F.heap.size+1) 0 G.length G.length)).other (p:=(aD F.heap.size 3)) (by simp) (iN c);have bf:=((((((Q.alloc (rO Y) _).drew).trans (J.mono (by simp;omega))).setCell (p:=(aD F.heap.size 0)) (rO Y) (iN H)).setCell (p:=(aD F.heap.size 1)) (rO Y) (iN I)).setCell (p:=(aD F.heap.size 2)) (rO Y) (sL (F.heap.size+1) 0 G.length G.length)).setCell (p:=(aD F.heap.size 3)) (rO Y) (iN c);have az:¬F.heap.size=F.heap.size+1:=by omega
     have bs:¬F.heap.size=w.heap.size:=by omega
     have bu:¬F.heap.size=w.heap.size+1:=by omega
     have bv:¬F.heap.size+1=w.heap.size+1:=by omega
     have bx:w.heap.size≤F.heap.size:=by omega
     have bg:Hid (w.heap.size≤F.heap.size+1):=by show _≤_;omega
     clear R J bo bb b2 b0 Y bY Q ap V b1 ba;generalize(((O.setCell (aD F.heap.size 0) (iN H)).setCell (aD F.heap.size 1) (iN I)).setCell (aD F.heap.size 2) (sL (F.heap.size+1) 0 G.length G.length)).setCell (aD F.heap.size 3) (iN c)=cl at T bd be ao bf⊢;generalize F.heap.size+1=bA at T ao az bv bg⊢;generalize F.heap.size=co at T az bs bu bx⊢)
  obtain⟨Z,aa,ab,ad,ak⟩:=id T;obtain⟨b3,q1,q2,b4,q4⟩:=id bd;obtain⟨cu,cx,cA,cB,c3⟩:=id be;go_wp2;refine nF (v:=Gj H I c bA G.length) (by simp[results,results99,go_sem,Gj, *]) rfl ⟨bA,rfl,?_,?_,bg.out⟩
  ·exact(((ao.other (by simp;omega) _).other (by simp;omega) _).other (by simp;omega) _).other (by simp;omega) _
  ·exact(((bf.setCell (by simp) _).setCell (by simp) _).setCell (by simp) _).setCell (by simp) _
end Go.Proofs.YtgppjbhaimmlpaaGreatDoor
