/-
  TopQuota: Cc Ch Yd Ye Yf.
-/
import Derived.Test.YtofhphibahcniaaGreatDoorApX
import Derived.Test.YtofhphibahcniaaGreatDoorXwX
import Derived.Deep.RegionHeld3
import Derived.Test.YtofhphibahcniaaGreatDoorFjX
set_option maxRecDepth 100000
set_option maxHeartbeats 16000000
namespace Go.Proofs.YtofhphibahcniaaGreatDoor
open Go.RowKit Go.Proofs.Tryz
def BS(w:World)(b:Nat)(u g:Int)(v:Value)(c:Int):Prop:=
 w.cell? ⟨b,0,none⟩=some (.int .i64 u)∧w.cell? ⟨b,1,none⟩=some (.int .i64 g)∧w.cell? ⟨b,2,none⟩=some v∧w.cell? ⟨b,3,none⟩=some (.int .i64 c)∧∀o,w.frozen? ⟨b,o,none⟩=false
theorem BS.new(w:World)(u g:Int)(v:Value)(c:Int):BS (w.alloc (.cells #[iN u,iN g,v,iN c] 27)) w.heap.size u g v c:=
 ⟨aC,aC,aC,aC,fun _=>nQ _ _ _ _ rfl⟩
theorem BS.lt{w:World}{b:Nat}{u g:Int}{v:Value}{c:Int}(h:BS w b u g v c):b<w.heap.size:=nz _ _ h.1
theorem BS.below{w w':World}{b:Nat}{u g:Int}{v:Value}{c:Int}(h:BS w b u g v c)(hb:Below w.heap.size w w'):BS w' b u g v c:=by
 have F:=h.lt;obtain⟨G,H,I,J,O⟩:=h;exact⟨(hb.cell (p:=(aD b 0)) F).trans G,(hb.cell (p:=(aD b 1)) F).trans H,(hb.cell (p:=(aD b 2)) F).trans I,(hb.cell (p:=(aD b 3)) F).trans J,fun o=>(hb.frozen (p:=(aD b o)) F).trans (O o)⟩
theorem BS.alloc{w:World}{b:Nat}{u g:Int}{v:Value}{c:Int}(h:BS w b u g v c)(o:Obj):BS (w.alloc o) b u g v c:=h.below ((nv _ _).alloc (nn _) _)
theorem BS.drew{w:World}{b:Nat}{u g:Int}{v:Value}{c:Int}(h:BS w b u g v c):BS w.drew b u g v c:=h
theorem BS.other{w:World}{b:Nat}{u g:Int}{v:Value}{c:Int}(h:BS w b u g v c){p:Addr}(F:p.block≠b)(x:Value):BS (w.setCell p x) b u g v c:=by
 obtain⟨G,H,I,J,O⟩:=h;have e:∀o,(w.setCell p x).cell? (aD b o)=w.cell? (aD b o):=fun o=>nA _ _ _ _ (fun e=>F (by rw[e]));exact⟨(e _).trans G,(e _).trans H,(e _).trans I,(e _).trans J,fun o=>by rw[rJ];exact O o⟩
theorem BS.set{w:World}{b:Nat}{u g:Int}{v:Value}{c:Int}(h:BS w b u g v c)(F G:Int)(H:Value)(I:Int):
 BS ((((w.setCell (aD b 0) (iN F)).setCell (aD b 1) (iN G)).setCell (aD b 2) H).setCell (aD b 3) (iN I)) b F G H I:=by
 obtain⟨J,O,Q,R,T⟩:=h;refine⟨?_,?_,?_,?_,fun o=>by simp[T]⟩<;>simp[nA,World.cell?_setCell_same',J,O,Q,R]
theorem A6.other{w:World}{g:Nat}{F:List Int}(h:A6 w (some (aD g 0)) F){p:Addr}(G:p.block≠g)(x:Value):A6 (w.setCell p x) (some (aD g 0)) F:=by
 rcases h with h|⟨b,H,I,J⟩
 ·exact .inl h
 ·obtain⟨rfl,rfl⟩:g=b∧0=H:=by simpa using I
  exact .inr ⟨g,0,rfl,fun i O=>(nA _ _ _ _ (fun e=>G (by rw[e]))).trans (J i O)⟩
def FO(n:Int):Value:=.tuple #[.agg #[.int .i64 0,.int .i64 0,.slice none 0 0,.int .i64 0],.iface 78 (.int .i64 n)]
theorem gh(u g c O Q:Int)(a:Option Addr)(cap:Nat)(F:List Int)(w:World)(R:F.length≤8)(h:A6 w a F)(H:Cx u g F c≠0):
 Calls prog 107 #[.agg #[iN u,iN g,.slice a F.length cap,iN c],iN O,iN Q] w fun e w'=>
  e=.returned (FO (Cx u g F c))∧Below w.heap.size w w':=by
 obtain⟨n,G⟩:∃n,Cx u g F c=n:=⟨_,rfl⟩;have I:=hid G;have T:n≠0:=G▸H;clear G H;go_enter func107,ntmps107;go_wp2_with fail
 refine(Hs u g c a cap F _ R ?_).mono ?_
 ·exact h.below (bN.alloc (by simp) _)
 rintro e J ⟨rfl,hb⟩;rw[AG I.out T];obtain⟨V,Z⟩:=Hg hb;have aa:w.heap.size+1<J.heap.size:=by have:=hb.size;simp at this;omega
 go_wp2;refine nG (v:=FO n) (by simp[results,results107,go_sem,FO,V]) rfl ⟨by rw[I.out],?_⟩;have Y:Below w.heap.size w J:=(bN.alloc (by simp) _).trans (hb.mono (by simp;omega));repeat(first|exact Y|refine Below.setCell ?_ (by simp) _)
theorem PR(u g c G I:Int)(a:Option Addr)(cap:Nat)(F:List Int)(w:World)(Q:F.length≤8)(h:A6 w a F)(J:Cx u g F c=0)(H:Bo G=false∨Bo G=true∧Bo I=false):
 Calls prog 107 #[.agg #[iN u,iN g,.slice a F.length cap,iN c],iN G,iN I] w fun e w'=>
  e=.returned (FO 1)∧Below w.heap.size w w':=by
 have R:=hid J;clear J;rcases H with H|⟨H,Y⟩
 all_goals
  go_enter func107,ntmps107;go_wp2_with fail
  refine(Hs u g c a cap F _ Q ?_).mono ?_
  ·exact h.below (bN.alloc (by simp) _)
  rintro e O ⟨rfl,hb⟩;rw[Co R.out];obtain⟨T,Z⟩:=Hg hb;have aa:w.heap.size+1<O.heap.size:=by have:=hb.size;simp at this;omega
  go_wp2_with (go_at_call 42;refine(EW _ _).mono ?_;rintro e w' ⟨rfl,rfl⟩)
  refine nG (v:=FO 1) (by simp[results,results107,go_sem,FO,T]) rfl ⟨rfl,?_⟩;have V:Below w.heap.size w O:=(bN.alloc (by simp) _).trans (hb.mono (by simp;omega));repeat(first|exact V|refine Below.setCell ?_ (by simp) _)
theorem Qh(u g c F Q:Int)(a:Option Addr)(cap:Nat)(G:List Int)(w:World)(T:G.length≤8)(h:A6 w a G)(ad:Cx u g G c=0)(bf:Bo F=true)(bg:Bo Q=true)
 (ak:(bits .and .i64 c 8==8)=false) (R:F≠u∨F=u∧En g G Q=false):
 Calls prog 107 #[.agg #[iN u,iN g,.slice a G.length cap,iN c],iN F,iN Q] w fun e w'=>
  e=.returned (FO 10)∧Below w.heap.size w w':=by
 have ao:=hid ad;clear ad;obtain⟨b8,az⟩:∃b8,(bits .and .i64 c 8==8)=b8:=⟨_,rfl⟩;have ap:=hid ak;clear az b8 ak;rcases R with R|⟨rfl,ar⟩
 ·have a1:(F !=u)=true:=by simpa using R
  clear R;go_enter func107,ntmps107;go_wp2_with fail
  refine(Hs u g c a cap G _ T ?_).mono ?_
  ·exact h.below (bN.alloc (by simp) _)
  rintro e H ⟨rfl,hb⟩;rw[Co ao.out];have J:Below w.heap.size w H:=(bN.alloc (by simp) _).trans (hb.mono (by simp;omega));obtain⟨V,a6⟩:=Hg hb;have Y:w.heap.size+1<H.heap.size:=by have:=hb.size;simp at this;omega
  go_wp2_with (go_at_call 42;refine(EW _ _).mono ?_;rintro e w' ⟨rfl,rfl⟩)
  refine(II u g c 8 _ _).mono ?_;rintro e Z ⟨rfl,I⟩;rw[ap.out];obtain⟨aa,a7⟩:=Hg I;have ay:w.heap.size+1<Z.heap.size:=by have:=I.size;omega
  have a8:w.heap.size<H.heap.size:=by omega
  go_wp2_with fail
  refine nG (v:=FO 10) (by simp[results,results107,go_sem,FO,V,Y,aa]) rfl ⟨rfl,?_⟩;have O:=J.trans (I.mono J.size);repeat(first|exact O|refine Below.setCell ?_ (by simp) _)
 ·have a1:(F !=F)=false:=by simp
  have ba:=hid ar;clear ar;go_enter func107,ntmps107;go_wp2_with fail
  refine(Hs F g c a cap G _ T ?_).mono ?_
  ·exact h.below (bN.alloc (by simp) _)
  rintro e H ⟨rfl,hb⟩;rw[Co ao.out];have J:Below w.heap.size w H:=(bN.alloc (by simp) _).trans (hb.mono (by simp;omega));obtain⟨V,a6⟩:=Hg hb;have Y:w.heap.size+1<H.heap.size:=by have:=hb.size;simp at this;omega
  go_wp2_with (go_at_call 42;refine(EW _ _).mono ?_;rintro e w' ⟨rfl,rfl⟩)
  refine(II F g c 8 _ _).mono ?_;rintro e Z ⟨rfl,I⟩;rw[ap.out];obtain⟨aa,a7⟩:=Hg I;have ay:w.heap.size+1<Z.heap.size:=by have:=I.size;omega
  have a8:w.heap.size<H.heap.size:=by omega
  have O:=J.trans (I.mono J.size);go_wp2_with fail
  refine(Lo F g Q c a cap G _ T (h.below O)).mono ?_;rintro e bb ⟨rfl,ab⟩;rw[ba.out];obtain⟨bd,bi⟩:=Hg ab;have bk:w.heap.size+1<bb.heap.size:=by have:=ab.size;omega
  have be:=O.trans (ab.mono O.size);go_wp2_with fail
  refine nG (v:=FO 10) (by simp[results,results107,go_sem,FO,V,Y,aa,ay,bd]) rfl ⟨rfl,?_⟩;repeat(first|exact be|refine Below.setCell ?_ (by simp) _)
def Gk(F G c:Int)(g n:Nat):Value:=.tuple #[.agg #[.int .i64 F,.int .i64 G,.slice (some ⟨g,0,none⟩) n n,.int .i64 c],.nilIface]
theorem Ni(u g c H I Z:Int)(a:Option Addr)(cap:Nat)(G:List Int)(w:World)(bx:G.length≤8)(h:A6 w a G)(bA:Cx u g G c=0)(cg:Bo H=true)(ch:Bo I=true)
 (bB:(bits .and .i64 c 8==8)=true)
 (bC:(H !=u)=false∧Z=c∨(H !=u)=true∧(H !=0)=false∧Z=c∨(H !=u)=true∧(H !=0)=true∧Z=0):
 Calls prog 107 #[.agg #[iN u,iN g,.slice a G.length cap,iN c],iN H,iN I] w fun e w'=>
  ∃b,e=.returned (Gk H I Z b G.length)∧A6 w' (some (aD b 0)) G∧Below w.heap.size w w'∧w.heap.size≤b:=by
 have b4:=hid bA;have b5:=hid bB;have az:=hid bC;clear bA bB bC;go_enter func107,ntmps107;go_wp2_with fail
 refine(Hs u g c a cap G _ bx ?_).mono ?_
 ·exact h.below (bN.alloc (by simp) _)
 rintro e a1 ⟨rfl,hb⟩;rw[Co b4.out];have bk:Below w.heap.size w a1:=(bN.alloc (by simp) _).trans (hb.mono (by simp;omega));have b6:w.heap.size+1<a1.heap.size:=by have:=hb.size;simp at this;omega
 have bl:BS a1 w.heap.size u g (.slice a G.length cap) c:=((BS.new w u g (.slice a G.length cap) c).alloc _).below hb;have bF:BS a1 (w.heap.size+1) 0 0 nL 0:=by
  have:=(BS.new (w.alloc (.cells #[iN u,iN g,.slice a G.length cap,iN c] 27)) 0 0 nL 0).below hb;simpa using this
 clear hb;obtain⟨a6,a7,a8,ba,bb⟩:=id bl;go_wp2_with (go_at_call 42;refine(EW _ _).mono ?_;rintro e w' ⟨rfl,rfl⟩)
 refine(II u g c 8 _ _).mono ?_;rintro e F ⟨rfl,bd⟩;rw[b5.out];have aa:=bl.below bd;have ap:=bF.below bd;have Q:=bk.trans (bd.mono bk.size);have bG:=ap.lt;have ab:=aa.lt;have bH:w.heap.size<F.heap.size+1:=by omega
 have bY:¬F.heap.size=w.heap.size:=by omega
 clear a6 a7 a8 ba bb bl bF bd bk b6;obtain⟨a6,a7,a8,ba,bb⟩:=id aa;go_wp2_with fail
 go_region_held3 (fun w'=>w'.cell? ⟨w.heap.size,2,none⟩=some (.slice a G.length cap)∧w'.cell? ⟨w.heap.size,3,none⟩=some (.int .i64 c)) (first|go_keep|(simp[*];done))
  (first|(go_at_call 150;refine(Tz a cap G _ bx ?_).mono ?_;(first|exact h.below Q.drew|exact h.below (Q.drew.alloc (by simp;omega) _)|exact h.below (Q.alloc (by simp;omega) _).drew);rintro e O ⟨g3,rfl,be,b0,bf,J⟩;obtain⟨b7,b9⟩:=Hg J;have bn:=J.size;simp at bn;have R:=BS.below (by first|exact aa.drew|exact(aa.alloc _).drew|exact aa.drew.alloc _) J;obtain⟨b1,q1,q2,b2,q4⟩:=id R))
 all_goals
  clear b7 b9 b1 q1 q2 b2 q4 a6 a7 a8 ba bb
  first
   |(have bo:g3=F.heap.size:=by simpa using be
     subst bo;have T:=BS.new O H I (sL F.heap.size 0 G.length G.length) c;have bg:=R.alloc (.cells #[iN H,iN I,sL F.heap.size 0 G.length G.length,iN c] 27);have bi:=(BS.below ap.drew J).alloc (.cells #[iN H,iN I,sL F.heap.size 0 G.length G.length,iN c] 27);have V:=A6.below bf ((nv O.heap.size O).alloc (nn _) (.cells #[iN H,iN I,sL F.heap.size 0 G.length G.length,iN c] 27));have ak:=((Q.drew).trans (J.mono Q.size)).alloc (rO R.lt) (.cells #[iN H,iN I,sL F.heap.size 0 G.length G.length,iN c] 27);have ar:¬O.heap.size=F.heap.size:=by omega
     have bp:¬O.heap.size=w.heap.size:=by have:=R.lt;omega
     have bs:¬O.heap.size=w.heap.size+1:=by omega
     have bu:¬F.heap.size=w.heap.size+1:=by omega
     have bv:=rO R.lt;have ao:Hid (w.heap.size≤F.heap.size):=by show _≤_;omega
     clear R J bn bf b0 bH ab bG Q ap aa bY be;generalize O.alloc (.cells #[iN H,iN I,sL F.heap.size 0 G.length G.length,iN c] 27)=cb at T bg bi V ak⊢;generalize O.heap.size=cd at T ar bp bs bv⊢;generalize F.heap.size=ad at T V ar bu ao⊢)
   |(have bo:g3=F.heap.size+1:=by simpa using be
     subst bo;have T:=(BS.below (BS.new F 0 0 nL 0).drew J).set H I (sL (F.heap.size+1) 0 G.length G.length) c;have bg:=(((R.other (p:=(aD F.heap.size 0)) (by simp;omega) (iN H)).other (p:=(aD F.heap.size 1)) (by simp;omega) (iN I)).other (p:=(aD F.heap.size 2)) (by simp;omega) (sL (F.heap.size+1) 0 G.length G.length)).other (p:=(aD F.heap.size 3)) (by simp;omega) (iN c);have bi:=((((BS.below (ap.alloc _).drew J).other (p:=(aD F.heap.size 0)) (by simp;omega) (iN H)).other (p:=(aD F.heap.size 1)) (by simp;omega) (iN I)).other (p:=(aD F.heap.size 2)) (by simp;omega) (sL (F.heap.size+1) 0 G.length G.length)).other (p:=(aD F.heap.size 3)) (by simp;omega) (iN c);have V:=(((bf.other (p:=(aD F.heap.size 0)) (by simp) (iN H)).other (p:=(aD F.heap.size 1)) (by simp) (iN I)).other (p:=(aD F.heap.size 2)) (by simp) (sL (F.heap.size+1) 0 G.length G.length)).other (p:=(aD F.heap.size 3)) (by simp) (iN c);have ak:=((((((Q.alloc (rO ab) _).drew).trans (J.mono (by simp;omega))).setCell (p:=(aD F.heap.size 0)) (rO ab) (iN H)).setCell (p:=(aD F.heap.size 1)) (rO ab) (iN I)).setCell (p:=(aD F.heap.size 2)) (rO ab) (sL (F.heap.size+1) 0 G.length G.length)).setCell (p:=(aD F.heap.size 3)) (rO ab) (iN c);have ar:¬F.heap.size=F.heap.size+1:=by omega
     have bp:¬F.heap.size=w.heap.size:=by omega
     have bs:¬F.heap.size=w.heap.size+1:=by omega
     have bu:¬F.heap.size+1=w.heap.size+1:=by omega
     have bv:w.heap.size≤F.heap.size:=by omega
     have ao:Hid (w.heap.size≤F.heap.size+1):=by show _≤_;omega
     clear R J bn bf b0 bH ab bG Q ap aa bY be;generalize(((O.setCell (aD F.heap.size 0) (iN H)).setCell (aD F.heap.size 1) (iN I)).setCell (aD F.heap.size 2) (sL (F.heap.size+1) 0 G.length G.length)).setCell (aD F.heap.size 3) (iN c)=cb at T bg bi V ak⊢;generalize F.heap.size+1=ad at T V ar bu ao⊢;generalize F.heap.size=cd at T ar bp bs bv⊢)
  obtain⟨a6,a7,a8,ba,bb⟩:=id T;obtain⟨b1,q1,q2,b2,q4⟩:=id bg;obtain⟨cl,co,cp,cr,cu⟩:=id bi;rcases az.out with⟨b3,Y⟩|⟨b3,cf,Y⟩|⟨b3,cf,Y⟩
  ·have ay:Hid (Z=c):=Y
   clear Y az;go_wp2;refine nG (v:=Gk H I c ad G.length) (by simp[results,results107,go_sem,Gk, *]) rfl ⟨ad,by rw[ay.out],?_,?_,ao.out⟩
   ·exact(((V.other (by simp;omega) _).other (by simp;omega) _).other (by simp;omega) _).other (by simp;omega) _
   ·exact(((ak.setCell (by simp) _).setCell (by simp) _).setCell (by simp) _).setCell (by simp) _
  ·have ay:Hid (Z=c):=Y
   clear Y az;go_wp2;refine nG (v:=Gk H I c ad G.length) (by simp[results,results107,go_sem,Gk, *]) rfl ⟨ad,by rw[ay.out],?_,?_,ao.out⟩
   ·exact(((V.other (by simp;omega) _).other (by simp;omega) _).other (by simp;omega) _).other (by simp;omega) _
   ·exact(((ak.setCell (by simp) _).setCell (by simp) _).setCell (by simp) _).setCell (by simp) _
  ·have ay:Hid (Z=0):=Y
   clear Y az;go_wp2;refine nG (v:=Gk H I 0 ad G.length) (by simp[results,results107,go_sem,Gk, *]) rfl ⟨ad,by rw[ay.out],?_,?_,ao.out⟩
   ·exact((((V.other (by simp;omega) _).other (by simp;omega) _).other (by simp;omega) _).other (by simp;omega) _).other (by simp;omega) _
   ·exact((((ak.setCell (by simp;omega) _).setCell (by simp) _).setCell (by simp) _).setCell (by simp) _).setCell (by simp) _
theorem SW{c:Int}(F:0≤c)(H:c≤15):(bits .and .i64 c 8==8)=I8 c 8:=by
 obtain⟨n,rfl⟩:=Int.eq_ofNat_of_zero_le F;have I:n≤15:=by omega
 have G:∀m:Fin 16,(bits .and .i64 ((m:Nat):Int) 8==8)=I8 ((m:Nat):Int) 8:=by decide+kernel
 exact G ⟨n,by omega⟩
def Ma(m:Int):Int:=if I8 m 1024=true then m-1024 else m
theorem WK{m:Int}(F:0≤m)(H:m≤4095):bits .andNot .i64 m 1024=Ma m:=by
 obtain⟨n,rfl⟩:=Int.eq_ofNat_of_zero_le F;have I:n≤4095:=by omega
 have G:∀a b:Fin 64,bits .andNot .i64 ((64*(a:Nat)+(b:Nat):Nat):Int) 1024=Ma ((64*(a:Nat)+(b:Nat):Nat):Int):=by decide+kernel
 have:=G ⟨n / 64,by omega⟩ ⟨n%64,by omega⟩;simp only[Nat.div_add_mod]at this;exact this
def Ev(g:Int)(G:List Int)(c F H:Int):Int:=if En g G H=true∨I8 c 8=true then F else Ma F
theorem RM(u g c F H:Int)(a:Option Addr)(cap:Nat)(G:List Int)(w:World)(Y:G.length≤8)(h:A6 w a G)(Z:0≤c)(aa:c≤15)(ab:0≤F)(ad:F≤4095):
 Calls prog 100 #[.agg #[iN u,iN g,.slice a G.length cap,iN c],iN F,iN H] w fun e w'=>
  e=.returned (iN (Ev g G c F H))∧Below w.heap.size w w':=by
 have ak:=hid (SW Z aa);have ao:=hid (WK ab ad);go_enter func100,ntmps100;go_wp2_with fail
 refine(Lo u g H c a cap G _ Y (h.below bN)).mono ?_;rintro e ap ⟨rfl,hb⟩;have ar:=(BS.new w u g (.slice a G.length cap) c).below hb;have I:Below w.heap.size w ap:=bN.trans (hb.mono (by simp));clear hb;obtain⟨az,a1,a6,a7,a8⟩:=id ar;obtain⟨t,O⟩:∃t,En g G H=t:=⟨_,rfl⟩;rw[O];have R:=hid O;clear O;cases t
 ·go_wp2_with fail
  refine(II u g c 8 _ _).mono ?_;rintro e ba ⟨rfl,T⟩;rw[ak.out];obtain⟨ay,Q⟩:∃t,I8 c 8=t:=⟨_,rfl⟩;rw[Q];have V:=hid Q;clear Q;cases ay
  ·have J:Hid (Ev g G c F H=Ma F):=nC (by rw[R.out,V.out];decide)
   go_wp2;go_ret;exact⟨IL (ao.out.trans J.out.symm),I.trans (T.mono I.size)⟩
  ·have J:Hid (Ev g G c F H=F):=nD (.inr V.out)
   go_wp2;go_ret;exact⟨IL J.out.symm,I.trans (T.mono I.size)⟩
 ·have J:Hid (Ev g G c F H=F):=nD (.inl R.out)
  go_wp2;go_ret;exact⟨IL J.out.symm,I⟩
theorem IK{u g:Int}{F:List Int}{c:Int}(h:Cx u g F c=0):(0≤c∧c≤15∧F.length≤8)∧A2 u∧A2 g:=by
 unfold Cx at h;split at h
 ·cases h
 ·rename_i hq
  split at h
  ·cases h
  ·rename_i h4
   have G:Bo u=true:=by
    cases e:Bo u with
    |true=>rfl
    |false=>exact absurd (.inl e) hq
   have H:Bo g=true:=by
    cases e:Bo g with
    |true=>rfl
    |false=>exact absurd (.inr (.inl e)) hq
   have I:¬(c<0∨15<c):=fun e=>hq (.inr (.inr e));unfold Bo at G H
   simp at G H;exact⟨⟨by omega,by omega,by omega⟩,⟨by omega,by omega⟩,⟨by omega,by omega⟩⟩
theorem Cw.up{w F w':World}{b:Nat}{B:Bx}{ni:List Nd}{G:Nd}{C:Int×Int×List Int×Int}(h:Cw F w' b B ni G C)(hb:Bw w F):Cw w w' b B ni G C:=by
 obtain⟨H,I,J,O,Q,R,T⟩:=h.2;exact⟨(Ao.of_below hb).trans h.1,H,I,J,O,Q,R,T.imp_right fun q p V=>nP hb.size (q p V)⟩
theorem Rs{k m u g F G H:Int}{o:Bool}{nh:List Kv}{d:BA}{ks:Ar}(h:AB (.mk k m u g o nh d ks)):AB (.mk k F G H o nh d ks):=by rw[AB]at h⊢;exact h
theorem Nq{k m u g F:Int}{o:Bool}{nh G:List Kv}{d H:BA}{ks:Ar}(h:AP (.mk k m u g o nh d ks)):AP (.mk k F u g o G H ks):=by rw[AP]at h⊢;exact h
theorem K3{k m u g F G H:Int}{o:Bool}{nh I:List Kv}{d J:BA}{ks:Ar}:cnt (.mk k F G H o I J ks)≤cnt (.mk k m u g o nh d ks):=by rw[cnt,cnt];omega
theorem YD{w:World}{b:Nat}{B:Bx}{x0:Nd}{ni:List Nd}(h:AX w b B)(ao:Bv B x0 ni){H I J:Nat}{cA O:Int}(aa:0≤cA∧cA≤4095)(c0:w.cell? ⟨H,0,none⟩=some (.pointer (some ⟨b,0,none⟩)))(c1:w.cell? ⟨I,5,none⟩=some (.int .i64 cA))(c2:w.cell? ⟨J,3,none⟩=some (.int .i64 O)):
 JF w (Nd.otM (Ev B.g B.cs B.k cA O)) (.func (.func 99) #[] #[.pointer (some ⟨H,0,none⟩),.pointer (some ⟨I,0,none⟩),.pointer (some ⟨J,0,none⟩)]):=by
 refine⟨_,_,rfl,fun args w=>by kernel_rfl,fun W nx x T V bo ab ap ar ay az=>?_⟩;have Y:=(IK ao.cred.1).1;have ad:=h.below V;obtain⟨_,_,_,a3,a4,a5,a1,_⟩:=ad.cells;have bp:H<w.heap.size:=nz w ⟨H,0,none⟩ c0;have bs:I<w.heap.size:=nz w ⟨I,5,none⟩ c1;have bu:J<w.heap.size:=nz w ⟨J,3,none⟩ c2;have bv:=h.lt;have Q:W.drew.cell? ⟨H,0,none⟩=some (.pointer (some ⟨b,0,none⟩))∧W.drew.cell? ⟨b,3,none⟩=some (.int .i64 B.u)∧W.drew.cell? ⟨b,4,none⟩=some (.int .i64 B.g)∧W.drew.cell? ⟨b,5,none⟩=some (.slice B.ca B.cs.length B.cc)∧W.drew.cell? ⟨b,6,none⟩=some (.int .i64 B.k)∧W.drew.cell? ⟨I,5,none⟩=some (.int .i64 cA)∧W.drew.cell? ⟨J,3,none⟩=some (.int .i64 O):=⟨Af V c0,a3,a4,a5,a1,Af V c1,Af V c2⟩;obtain⟨G,a6⟩:∃G,Hid (Ev B.g B.cs B.k cA O=G):=⟨_,rfl⟩;have a7:Hid (Calls prog 100 #[.agg #[.int .i64 B.u,.int .i64 B.g,.slice B.ca B.cs.length B.cc,.int .i64 B.k],.int .i64 cA,.int .i64 O] W.drew fun e w'=>e=.returned (.int .i64 G)∧Bw W.drew w'):=by
  have e:=RM B.u B.g B.k cA O B.ca B.cc B.cs W.drew Y.2.2 (ad.grp.below (nv _ _).drew) Y.1 Y.2.1 aa.1 aa.2;rw[a6.out]at e;exact e
 obtain⟨k,m,u,g,o,nh,d,ks⟩:=x;have a8:Hid (Av W nx (.mk k m u g o nh d ks) T):=ab;have bf:Hid (∀ba,8≤ba→W.cell? ⟨nx,ba,none⟩=none):=ap;have bg:Hid (Ah W.cell? (.mk k m u g o nh d ks) T):=ar;have bi:Hid (AB (.mk k m u g o nh d ks)):=ay;have bk:Hid (AP (.mk k m u g o nh d ks)):=az;have bx:nx<W.heap.size:=ab.1.lt;clear ab ap ar ay az ad a3 a4 a5 a1 c0 c1 c2 h ao Y aa;show Calls prog 99 #[.pointer (some ⟨nx,0,none⟩),.pointer (some ⟨H,0,none⟩),.pointer (some ⟨I,0,none⟩),.pointer (some ⟨J,0,none⟩)] W _;go_enter func99,ntmps99;go_upto_region 0 with fail
 go_region_held3 (fun w'=>w'.cell? ⟨H,0,none⟩=some (.pointer (some ⟨b,0,none⟩))∧w'.cell? ⟨b,3,none⟩=some (.int .i64 B.u)∧w'.cell? ⟨b,4,none⟩=some (.int .i64 B.g)∧w'.cell? ⟨b,5,none⟩=some (.slice B.ca B.cs.length B.cc)∧w'.cell? ⟨b,6,none⟩=some (.int .i64 B.k)∧w'.cell? ⟨I,5,none⟩=some (.int .i64 cA)∧w'.cell? ⟨J,3,none⟩=some (.int .i64 O)) (first|with_reducible exact Q|with_reducible exact R|with_reducible exact bb) (first|(go_at_call 100;(with_reducible refine np a7.out ?_);rintro e F ⟨rfl,q6⟩;have R:F.cell? ⟨H,0,none⟩=some (.pointer (some ⟨b,0,none⟩))∧F.cell? ⟨b,3,none⟩=some (.int .i64 B.u)∧F.cell? ⟨b,4,none⟩=some (.int .i64 B.g)∧F.cell? ⟨b,5,none⟩=some (.slice B.ca B.cs.length B.cc)∧F.cell? ⟨b,6,none⟩=some (.int .i64 B.k)∧F.cell? ⟨I,5,none⟩=some (.int .i64 cA)∧F.cell? ⟨J,3,none⟩=some (.int .i64 O):=⟨Af q6 Q.1,Af q6 Q.2.1,Af q6 Q.2.2.1,Af q6 Q.2.2.2.1,Af q6 Q.2.2.2.2.1,Af q6 Q.2.2.2.2.2.1,Af q6 Q.2.2.2.2.2.2⟩;have Z:Hid (Av F nx (.mk k m u g o nh d ks) T):=(a8.out.below (nv _ _).drew).below q6;have bl:F.cell? ⟨nx,1,none⟩=some (.int .i64 m):=Z.out.1.2.1;have bn:F.frozen? ⟨nx,1,none⟩=false:=Z.out.2 1;have bd:Hid (Bw W F):=(nv _ W).drew.trans q6;have bb:(F.setCell ⟨nx,1,none⟩ (.int .i64 G)).cell? ⟨H,0,none⟩=some (.pointer (some ⟨b,0,none⟩))∧(F.setCell ⟨nx,1,none⟩ (.int .i64 G)).cell? ⟨b,3,none⟩=some (.int .i64 B.u)∧(F.setCell ⟨nx,1,none⟩ (.int .i64 G)).cell? ⟨b,4,none⟩=some (.int .i64 B.g)∧(F.setCell ⟨nx,1,none⟩ (.int .i64 G)).cell? ⟨b,5,none⟩=some (.slice B.ca B.cs.length B.cc)∧(F.setCell ⟨nx,1,none⟩ (.int .i64 G)).cell? ⟨b,6,none⟩=some (.int .i64 B.k)∧(F.setCell ⟨nx,1,none⟩ (.int .i64 G)).cell? ⟨I,5,none⟩=some (.int .i64 cA)∧(F.setCell ⟨nx,1,none⟩ (.int .i64 G)).cell? ⟨J,3,none⟩=some (.int .i64 O):=⟨(Bk (by show H≠nx;omega)).trans R.1,(Bk (by show b≠nx;omega)).trans R.2.1,(Bk (by show b≠nx;omega)).trans R.2.2.1,(Bk (by show b≠nx;omega)).trans R.2.2.2.1,(Bk (by show b≠nx;omega)).trans R.2.2.2.2.1,(Bk (by show I≠nx;omega)).trans R.2.2.2.2.2.1,(Bk (by show J≠nx;omega)).trans R.2.2.2.2.2.2⟩;clear a7 q6))
 all_goals
  have ak:Ao nx W (F.setCell ⟨nx,1,none⟩ (.int .i64 G)):=(Ao.of_below bd.out).trans ((Ao.refl nx F).setCell 1 none _);have be:Hid (∃h',Av (F.setCell ⟨nx,1,none⟩ (.int .i64 G)) nx (.mk k G u g o nh d ks) h'∧Ah (F.setCell ⟨nx,1,none⟩ (.int .i64 G)).cell? (.mk k G u g o nh d ks) h'∧(AB (.mk k G u g o nh d ks)∧AP (.mk k G u g o nh d ks)∧cnt (.mk k G u g o nh d ks)≤cnt (.mk k m u g o nh d ks))∧Ao nx W (F.setCell ⟨nx,1,none⟩ (.int .i64 G))):=⟨T,Z.out.set1 G,Kq ak a8.out.1 bf.out (Lk bg.out),⟨Rs bi.out,Nq bk.out,K3⟩,ak⟩;clear ak Q R bb bl bn Z bd;generalize F.setCell ⟨nx,1,none⟩ (.int .i64 G)=bA at be;go_wp2;go_end0
  exact⟨⟨_,rfl⟩,by have e:=be.out;rw[←a6.out]at e;exact e⟩
noncomputable def AO.modeS (c:AO) (x0:Nd) (ni:List Nd) (cA:Int) (p:BA):Int×Nd:=if 0≤cA∧cA≤4095 then(match c.atP true p with
 |.error E=>(E,x0)
 |.ok f=>if c.bx.ownE f.1=0 then Fj c.us c.gs x0 ni (A4 p.data.toList) (Nd.otM (Ev c.g c.cs c.k cA f.1.g))else(c.bx.ownE f.1,x0))else(1,x0)
theorem Y8{w:World}{b:Nat}{B:Bx}{x0:Nd}{ni:List Nd}(h:AX w b B)(ap:Bv B x0 ni){cop cA cB:Int}{cpath coth cname cdata:BA}(bA:Int)(bB:w.cell? ⟨0,0,none⟩=some (.int .i64 bA)):
 Calls prog 53 #[.pointer (some ⟨b,0,none⟩),.agg #[.int .i64 cop,.string cpath,.string coth,.string cname,.string cdata,.int .i64 cA,.int .i64 cB]] w fun e w'=>e=.returned (Am (fin B.q x0 (B.cor.modeS x0 ni cA cpath)).1)∧Cw w w' b B ni (fin B.q x0 (B.cor.modeS x0 ni cA cpath)).2 B.crd:=by
 obtain⟨S,F⟩:∃S,Hid (B.cor.modeS x0 ni cA cpath=S):=⟨_,rfl⟩;rw[F.out];obtain⟨⟨cr,cu⟩,a7⟩:∃V,Hid (fin B.q x0 S=V):=⟨_,rfl⟩;rw[a7.out];have ar:Bw w ((w.alloc (.cells #[.pointer (some ⟨b,0,none⟩)] 35)).alloc (Az cop cpath coth cname cdata cA cB)):=((nv _ _).alloc (nn _) _).alloc ((nv _ _).alloc (nn _) _:Bw w _).size _;have ay:=hid ar;have a8:Ce ((w.alloc (.cells #[.pointer (some ⟨b,0,none⟩)] 35)).alloc (Az cop cpath coth cname cdata cA cB)) w.heap.size 0 (.pointer (some ⟨b,0,none⟩)):=AE (nl _ _ _ _ rfl);have bC:Ce ((w.alloc (.cells #[.pointer (some ⟨b,0,none⟩)] 35)).alloc (Az cop cpath coth cname cdata cA cB)) (w.heap.size+1) 1 (.string cpath):=nl _ _ _ _ (by rw[nw]);have ba:Ce ((w.alloc (.cells #[.pointer (some ⟨b,0,none⟩)] 35)).alloc (Az cop cpath coth cname cdata cA cB)) (w.heap.size+1) 5 (.int .i64 cA):=nl _ _ _ _ (by rw[nw]);have bF:Hid (Calls prog 44 #[.pointer (some ⟨b,0,none⟩),.string cpath] ((w.alloc (.cells #[.pointer (some ⟨b,0,none⟩)] 35)).alloc (Az cop cpath coth cname cdata cA cB)) fun e w'=>CL B w' cpath true (B.cor.atP true cpath) e∧Bw ((w.alloc (.cells #[.pointer (some ⟨b,0,none⟩)] 35)).alloc (Az cop cpath coth cname cdata cA cB)) w'):=by
  refine np (JH (h.below ar) ap.good cpath (Da _).1 (Da _).2 bA (Af ar bB)) ?_;rintro e w' ⟨cx,c3⟩;exact⟨IW ap.good cx,c3⟩
 have bb:=hid h;have bd:=hid ap;have be:=hid (Cw.stay bb.out bd.out);have bf:Hid (∀E,E≠0→S=(E,x0)→cr=E∧cu=x0):=fun E O e=>Hf O (e▸a7.out);have bG:Hid (∀Y,Calls prog 80 #[.int .i64 cA] Y fun e w'=>e=.returned (.bool (decide (0≤cA∧cA≤4095)))∧Y=w'):=fun Y=>Na Y cA
 clear h ap ar bB;go_enter func53,ntmps53;go_wp2_with fail
 refine np (bG.out _) ?_;rintro e de ⟨rfl,rfl⟩;by_cases Q:0≤cA∧cA≤4095
 ·rw[nF Q]
  have c4:=hid Q;unfold AO.modeS at F;rw[nD Q]at F;clear Q;go_wp2_with fail
  generalize((w.alloc (.cells #[.pointer (some ⟨b,0,none⟩)] 35)).alloc (Az cop cpath coth cname cdata cA cB))=Y at*;refine np bF.out ?_;rintro e G ⟨c5,q2⟩;clear bF bG;obtain⟨cs,E,rfl,bg,bH,bY,b0⟩:=c5;obtain⟨R,dg,H,b1,c6⟩:=F5 G cs bg bH;have c8:=BV cs;unfold Value.cells at c8;have dj:=hid bg;have bi:=hid (q2.trans (b1.out.mono q2.size));have az:=hid (ay.out.trans (bi.out.mono ay.out.size));have b2:Hid _:=bY;have b3:Hid _:=b0;have dk:=hid (nP ay.out.size q2.size);clear bH bY bg b0;by_cases O:E=0
  ·subst O
   obtain⟨f,I,b4,a1,bk,bl,b5,b6,b7⟩:=b2.out rfl;clear b2 b3;rw[b7]at F;have Z:=Fs b4;rw[←a1]at Z;obtain⟨⟨aa,ab,ad,T,ak⟩,⟨dm,dn,dp,dr,ds⟩,na,nc,nf,du,⟨dw,dx,dy,dz,d0,d1,d2,xs⟩,d3,ly⟩:=f;dsimp only[Fd.pur]at a1 bk bl b5 b6 Z F;have b9:Ce R G.heap.size 0 (.bool aa):=H.out 0 _ (by rw[I];rfl);have cb:Ce R G.heap.size 1 (.int .i64 ab):=H.out 1 _ (by rw[I];rfl);have cd:Ce R G.heap.size 2 (.int .i64 ad):=H.out 2 _ (by rw[I];rfl);have bn:Ce R G.heap.size 3 (.int .i64 T):=H.out 3 _ (by rw[I];rfl);have cf:Ce R G.heap.size 4 (.bool ak):=H.out 4 _ (by rw[I];rfl);have bo:Ce R G.heap.size 10 (.slice na nf.length nc):=H.out 10 _ (by rw[I];rfl);have bp:=Af bi.out a8;have bs:=Af bi.out ba;have cg:=hid (Sm (bb.out.below az.out) ⟨aa,ab,ad,T,ak⟩);rw[show B.cor.bx.ownE ⟨aa,ab,ad,T,ak⟩=B.ownE ⟨aa,ab,ad,T,ak⟩from rfl,←a1]at F;generalize B.ownE ⟨aa,ab,ad,T,ak⟩=V at*;have c9:=hid (bk.on (Aj b1.out));have ch:Hid ((∀s∈nf,AY s=true)∧nf.length≤6):=⟨Z.1,Z.2.1⟩;have da:=hid bl;rw[show Am 0=Value.nilIface from rfl];clear I b4 a1 bk bl b5 b6 b7 Z H a8 bC ba c6;go_wp2_with fail
   refine np cg.out ?_;rintro e d4 ⟨rfl,J⟩;have bu:=hid (az.out.trans (J.mono az.out.size));by_cases a6:V=0
   ·subst a6
    rw[nD rfl]at F;rw[show Am 0=Value.nilIface from rfl];have db:=Af J bp;have cl:=Af J bs;have co:=Af J bn;have d5:=Af J bo;have bv:=bb.out.below bu.out;have bx:=hid (J2 bv bd.out (c9.out.on (Aj J)) ch.out.1 (by have:=ch.out.2;omega) da.out rfl (YD bv bd.out c4.out db cl co));rw[show Fj B.M.us B.M.gs x0 ni nf (Nd.otM (Ev B.g B.cs B.k cA T))=S from F.out,a7.out]at bx;clear cg J b9 cb cd bn cf bo bp bs cl co bv;go_wp2_with fail
    refine np bx.out ?_;rintro e d6 ⟨rfl,cp⟩;have dd:=hid (cp.up bu.out);clear cp bx;go_wp2;go_ret;exact⟨rfl,dd.out⟩
   ·have ao:=AG (n:=V) rfl a6
    rw[ao];clear b9 cb cd bn cf bo bp bs;go_wp2;go_ret;obtain⟨rfl,rfl⟩:=bf.out V a6 (by rw[←F.out,nC a6]);exact⟨by rw[ao];rfl,be.out _ bu.out⟩
  ·have ao:=AG (n:=E) rfl O
   rw[ao];clear a8 bC ba;go_wp2;go_ret;obtain⟨rfl,rfl⟩:=bf.out E O (by rw[←F.out,b3.out O]);exact⟨by rw[ao];rfl,be.out _ az.out⟩
 ·rw[nB Q]
  go_wp2;go_ret;obtain⟨rfl,rfl⟩:=bf.out 1 (by decide) (by rw[←F.out];unfold AO.modeS;exact nC Q);exact⟨rfl,be.out _ ay.out⟩
def FN(c F:Int):Int:=if I8 c 8=true then F else bits .andNot .i64 F 3072
theorem SN(u g c G:Int)(v:Value)(w:World)(O:0≤c)(Q:c≤15):
 Calls prog 84 #[.agg #[.int .i64 u,.int .i64 g,v,.int .i64 c],.int .i64 G] w fun e w'=>e=.returned (.int .i64 (FN c G))∧Bw w w':=by
 have H:=hid (SW O Q);obtain⟨I,F⟩:∃I,Hid (FN c G=I):=⟨_,rfl⟩;rw[F.out];unfold FN at F;go_enter func84,ntmps84;go_wp2_with fail
 refine(II u g c 8 _ _).mono ?_;rintro e R ⟨rfl,T⟩;have J:Bw w R:=((nv _ _).alloc (nn _) _).trans (T.mono (by simp));rw[H.out];generalize I8 c 8=V at F⊢;clear H;cases V
 ·obtain rfl:=(nC (by decide)).symm.trans F.out
  go_wp2;go_ret;exact⟨rfl,J⟩
 ·obtain rfl:=(nD (by decide)).symm.trans F.out
  go_wp2;go_ret;exact⟨rfl,J⟩
theorem Av.set6{w:World}{b:Nat}{k m u g:Int}{o:Bool}{nh:List Kv}{d:BA}{ks:Ar}{h:Hd}(G:Av w b (.mk k m u g o nh d ks) h)(F:BA):Av (w.setCell ⟨b,6,none⟩ (.string F)) b (.mk k m u g o nh F ks) h:=by
 obtain⟨⟨H,I,J,O,Q,R,T,V⟩,Y⟩:=G;exact⟨⟨(AA (by omega)).trans H,(AA (by omega)).trans I,(AA (by omega)).trans J,(AA (by omega)).trans O,(AA (by omega)).trans Q,(AA (by omega)).trans R,nI _ _ _ T,(AA (by omega)).trans V⟩,fun j=>by simp[Y j]⟩
theorem aU{k m u g G H I:Int}{o:Bool}{nh:List Kv}{d F:BA}{ks:Ar}(h:AB (.mk k m u g o nh d ks))(hd:F.size≤300):AB (.mk k G H I o nh F ks):=by rw[AB]at h⊢;exact⟨h.1,hd,h.2.2⟩
theorem bM{k m u g I F G:Int}{o:Bool}{nh J:List Kv}{d O:BA}{ks:Ar}(h:AP (.mk k m u g o nh d ks))(H:A2 F∧A2 G):AP (.mk k I F G o J O ks):=by rw[AP]at h⊢;exact⟨H.1,H.2,h.2.2⟩
theorem X4{w:World}{b:Nat}{B:Bx}{x0:Nd}{ni:List Nd}(h:AX w b B)(ak:Bv B x0 ni){I R:Nat}{cdata:BA}(bi:cdata.size≤300)(c0:w.cell? ⟨I,0,none⟩=some (.pointer (some ⟨b,0,none⟩)))(c1:w.cell? ⟨R,4,none⟩=some (.string cdata)):
 JF w (Nd.otW (FN B.k) cdata) (.func (.func 83) #[] #[.pointer (some ⟨R,0,none⟩),.pointer (some ⟨I,0,none⟩)]):=by
 refine⟨_,_,rfl,fun args w=>by kernel_rfl,fun W nx x J V b6 O ao ap ar ay=>?_⟩;have az:=(IK ak.cred.1).1;have a1:Hid (0≤B.k∧B.k≤15∧B.cs.length≤8):=az;have a6:=h.below V;obtain⟨_,_,_,a3,a4,a5,a7,_⟩:=a6.cells;have b7:I<w.heap.size:=nz w ⟨I,0,none⟩ c0;have b9:R<w.heap.size:=nz w ⟨R,4,none⟩ c1;have cb:=h.lt;have T:Hid (w.heap.size≤W.heap.size):=V.size;have a8:=Af V c0;have ac:=Af V c1;obtain⟨k,m,u,g,o,nh,d,ks⟩:=x;have bk:Hid (Av W nx (.mk k m u g o nh d ks) J):=O;have bl:Hid (∀ba,8≤ba→W.cell? ⟨nx,ba,none⟩=none):=ao;have bn:Hid (Ah W.cell? (.mk k m u g o nh d ks) J):=ap;have bo:Hid (AB (.mk k m u g o nh d ks)):=ar;have bp:Hid (AP (.mk k m u g o nh d ks)):=ay;have cd:nx<W.heap.size:=O.1.lt;have f6:=O.2 6;have bs:Ce W nx 6 (.string d):=O.1.2.2.2.2.2.2.1;have Z:Hid (Av (W.setCell ⟨nx,6,none⟩ (.string cdata)) nx (.mk k m u g o nh cdata ks) J):=O.set6 cdata;have aa:Hid (Ao nx W (W.setCell ⟨nx,6,none⟩ (.string cdata))):=(Ao.refl nx W).setCell 6 none _;clear O ao ap ar ay a6 c0 c1 h ak az;show Calls prog 83 #[.pointer (some ⟨nx,0,none⟩),.pointer (some ⟨R,0,none⟩),.pointer (some ⟨I,0,none⟩)] W _;go_enter func83,ntmps83;go_upto_region 1 with fail
 generalize W.setCell ⟨nx,6,none⟩ (.string cdata)=G at Z aa;have ab:Hid (Av G nx (.mk k m u g o nh cdata ks) J):=Z.out;have Q:Hid (Ao nx W G):=aa.out;clear Z aa f6 bs ac;have cf:nx<G.heap.size:=ab.out.1.lt;obtain⟨⟨bu,bb,bv,bx,bA,bB,bC,bF⟩,bG⟩:=id ab.out;have bH:Ce G.drew nx 1 (.int .i64 m):=bb;have bY:G.drew.cell? ⟨I,0,none⟩=some (.pointer (some ⟨b,0,none⟩)):=(Q.out.cell (p:=⟨I,0,none⟩) (by show I<W.heap.size;have:=T.out;omega) (by show I≠nx;omega)).trans a8;have b0:G.drew.cell? ⟨b,3,none⟩=some (.int .i64 B.u):=(Q.out.cell (p:=⟨b,3,none⟩) (by show b<W.heap.size;have:=T.out;omega) (by show b≠nx;omega)).trans a3;have b1:G.drew.cell? ⟨b,4,none⟩=some (.int .i64 B.g):=(Q.out.cell (p:=⟨b,4,none⟩) (by show b<W.heap.size;have:=T.out;omega) (by show b≠nx;omega)).trans a4;have b2:G.drew.cell? ⟨b,5,none⟩=some (.slice B.ca B.cs.length B.cc):=(Q.out.cell (p:=⟨b,5,none⟩) (by show b<W.heap.size;have:=T.out;omega) (by show b≠nx;omega)).trans a5;have b3:G.drew.cell? ⟨b,6,none⟩=some (.int .i64 B.k):=(Q.out.cell (p:=⟨b,6,none⟩) (by show b<W.heap.size;have:=T.out;omega) (by show b≠nx;omega)).trans a7;obtain⟨F,bd⟩:∃F,Hid (FN B.k m=F):=⟨_,rfl⟩;have be:Hid (Calls prog 84 #[.agg #[.int .i64 B.u,.int .i64 B.g,.slice B.ca B.cs.length B.cc,.int .i64 B.k],.int .i64 m] G.drew fun e w'=>e=.returned (.int .i64 F)∧Bw G.drew w'):=by
  rw[←bd.out];exact SN B.u B.g B.k m (.slice B.ca B.cs.length B.cc) G.drew a1.out.1 a1.out.2.1
 clear bu bb bv bx bA bB bC bF bG a8 a3 a4 a5 a7;go_region_with (first|(go_at_call 84;(refine np be.out ?_);rintro e H ⟨rfl,q6⟩;have Y:Hid (Av H nx (.mk k m u g o nh cdata ks) J):=(ab.out.below (nv _ _).drew).below q6;have b4:H.cell? ⟨nx,1,none⟩=some (.int .i64 m):=Y.out.1.2.1;have b5:H.frozen? ⟨nx,1,none⟩=false:=Y.out.2 1;have bf:Hid (Ao nx W H):=Q.out.trans (Ao.of_below ((nv _ G).drew.trans q6));clear be q6))
 all_goals
  have ad:Ao nx W (H.setCell ⟨nx,1,none⟩ (.int .i64 F)):=bf.out.trans ((Ao.refl nx H).setCell 1 none _);have bg:Hid (∃h',Av (H.setCell ⟨nx,1,none⟩ (.int .i64 F)) nx (.mk k F u g o nh cdata ks) h'∧Ah (H.setCell ⟨nx,1,none⟩ (.int .i64 F)).cell? (.mk k F u g o nh cdata ks) h'∧(AB (.mk k F u g o nh cdata ks)∧AP (.mk k F u g o nh cdata ks)∧cnt (.mk k F u g o nh cdata ks)≤cnt (.mk k m u g o nh d ks))∧Ao nx W (H.setCell ⟨nx,1,none⟩ (.int .i64 F))):=⟨J,Y.out.set1 F,Kq ad bk.out.1 bl.out (Lk bn.out),⟨aU bo.out bi,Nq bp.out,K3⟩,ad⟩;clear ad b4 b5 Y bf bH bY b0 b1 b2 b3;generalize H.setCell ⟨nx,1,none⟩ (.int .i64 F)=cg at bg;go_wp2;go_end0
  exact⟨⟨_,rfl⟩,by have e:=bg.out;rw[←bd.out]at e;exact e⟩
theorem QX{w:World}{b:Nat}{B:Bx}{x0:Nd}{ni:List Nd}(h:AX w b B)(a6:Bv B x0 ni){Q H:Nat}{F G:Int}(a7:A2 F∧A2 G)(c0:w.cell? ⟨Q,0,none⟩=some (.pointer (some ⟨b,0,none⟩)))(c1:w.cell? ⟨H,2,none⟩=some (.int .i64 F))(c2:w.cell? ⟨H,3,none⟩=some (.int .i64 G)):
 JF w (Nd.otG (FN B.k) F G) (.func (.func 104) #[] #[.pointer (some ⟨H,0,none⟩),.pointer (some ⟨Q,0,none⟩)]):=by
 refine⟨_,_,rfl,fun args w=>by kernel_rfl,fun W nx x T Y cx R a8 ba bb bd=>?_⟩;have be:=(IK a6.cred.1).1;have bf:Hid (0≤B.k∧B.k≤15∧B.cs.length≤8):=be;have bg:=h.below Y;obtain⟨_,_,_,a3,a4,a5,bi,_⟩:=bg.cells;have c3:Q<w.heap.size:=nz w ⟨Q,0,none⟩ c0;have c4:H<w.heap.size:=nz w ⟨H,2,none⟩ c1;have c5:=h.lt;have Z:Hid (w.heap.size≤W.heap.size):=Y.size;have bk:=Af Y c0;have ac:=Af Y c1;obtain⟨k,m,u,g,o,nh,d,ks⟩:=x;have bB:Hid (Av W nx (.mk k m u g o nh d ks) T):=R;have bC:Hid (∀bl,8≤bl→W.cell? ⟨nx,bl,none⟩=none):=a8;have bF:Hid (Ah W.cell? (.mk k m u g o nh d ks) T):=ba;have bG:Hid (AB (.mk k m u g o nh d ks)):=bb;have bH:Hid (AP (.mk k m u g o nh d ks)):=bd;have c6:nx<W.heap.size:=R.1.lt;have ao:=Af Y c2;have bn:=R.2 2;have ap:=R.2 3;have ab:Ce W nx 2 (.int .i64 u):=R.1.2.2.1;have aa:Ce W nx 3 (.int .i64 g):=R.1.2.2.2.1;have bo:W.drew.cell? ⟨H,2,none⟩=some (.int .i64 F)∧W.drew.cell? ⟨H,3,none⟩=some (.int .i64 G):=⟨ac,ao⟩;have ad:(W.setCell ⟨nx,2,none⟩ (.int .i64 F)).drew.cell? ⟨H,2,none⟩=some (.int .i64 F)∧(W.setCell ⟨nx,2,none⟩ (.int .i64 F)).drew.cell? ⟨H,3,none⟩=some (.int .i64 G):=⟨(Bk (w:=W) (by show H≠nx;omega)).trans ac,(Bk (w:=W) (by show H≠nx;omega)).trans ao⟩;have bp:((W.setCell ⟨nx,2,none⟩ (.int .i64 F)).setCell ⟨nx,3,none⟩ (.int .i64 G)).drew.cell? ⟨H,2,none⟩=some (.int .i64 F)∧((W.setCell ⟨nx,2,none⟩ (.int .i64 F)).setCell ⟨nx,3,none⟩ (.int .i64 G)).drew.cell? ⟨H,3,none⟩=some (.int .i64 G):=⟨(Bk (w:=W.setCell ⟨nx,2,none⟩ (.int .i64 F)) (by show H≠nx;omega)).trans ad.1,(Bk (w:=W.setCell ⟨nx,2,none⟩ (.int .i64 F)) (by show H≠nx;omega)).trans ad.2⟩;have bY:Ce W.drew nx 2 (.int .i64 u):=ab;have b0:Ce W.drew nx 3 (.int .i64 g):=aa;have b1:W.drew.frozen? ⟨nx,2,none⟩=false:=bn;have g3:W.drew.frozen? ⟨nx,3,none⟩=false:=ap;have b2:Ce (W.setCell ⟨nx,2,none⟩ (.int .i64 F)).drew nx 3 (.int .i64 g):=(AA (w:=W) (by omega)).trans aa;have b3:(W.setCell ⟨nx,2,none⟩ (.int .i64 F)).drew.frozen? ⟨nx,3,none⟩=false:=by simpa using ap
 have ar:Hid (Av ((W.setCell ⟨nx,2,none⟩ (.int .i64 F)).setCell ⟨nx,3,none⟩ (.int .i64 G)).drew nx (.mk k m F G o nh d ks) T):=((R.set2 F).set3 G).below (nv _ _).drew;have ay:Hid (Ao nx W ((W.setCell ⟨nx,2,none⟩ (.int .i64 F)).setCell ⟨nx,3,none⟩ (.int .i64 G)).drew):=(((Ao.refl nx W).setCell 2 none _).setCell 3 none _).then ((nv _ _).drew);have b4:Hid (A2 F∧A2 G):=a7;clear R a8 ba bb bd bg c0 c1 c2 h a6 be a7;show Calls prog 104 #[.pointer (some ⟨nx,0,none⟩),.pointer (some ⟨H,0,none⟩),.pointer (some ⟨Q,0,none⟩)] W _;go_enter func104,ntmps104;go_upto_region 0 with fail
 go_region_held3 (fun w'=>w'.cell? ⟨H,2,none⟩=some (.int .i64 F)∧w'.cell? ⟨H,3,none⟩=some (.int .i64 G)) (first|with_reducible exact bo|with_reducible exact ad|with_reducible exact bp) (fail)
 all_goals
  generalize((W.setCell ⟨nx,2,none⟩ (.int .i64 F)).setCell ⟨nx,3,none⟩ (.int .i64 G)).drew=J at ar ay⊢;have az:Hid (Av J nx (.mk k m F G o nh d ks) T):=ar.out;have V:Hid (Ao nx W J):=ay.out;clear ar ay bo ad bp bY b0 b1 g3 b2 b3 ab aa bn ap ac ao;go_upto_region 1 with fail
  have c8:nx<J.heap.size:=az.out.1.lt;obtain⟨⟨b5,bs,ab,aa,b6,b7,b9,cb⟩,cd⟩:=id az.out;have cf:Ce J.drew nx 1 (.int .i64 m):=bs;have cg:J.drew.cell? ⟨Q,0,none⟩=some (.pointer (some ⟨b,0,none⟩)):=(V.out.cell (p:=⟨Q,0,none⟩) (by show Q<W.heap.size;have:=Z.out;omega) (by show Q≠nx;omega)).trans bk;have ch:J.drew.cell? ⟨b,3,none⟩=some (.int .i64 B.u):=(V.out.cell (p:=⟨b,3,none⟩) (by show b<W.heap.size;have:=Z.out;omega) (by show b≠nx;omega)).trans a3;have cl:J.drew.cell? ⟨b,4,none⟩=some (.int .i64 B.g):=(V.out.cell (p:=⟨b,4,none⟩) (by show b<W.heap.size;have:=Z.out;omega) (by show b≠nx;omega)).trans a4;have co:J.drew.cell? ⟨b,5,none⟩=some (.slice B.ca B.cs.length B.cc):=(V.out.cell (p:=⟨b,5,none⟩) (by show b<W.heap.size;have:=Z.out;omega) (by show b≠nx;omega)).trans a5;have cp:J.drew.cell? ⟨b,6,none⟩=some (.int .i64 B.k):=(V.out.cell (p:=⟨b,6,none⟩) (by show b<W.heap.size;have:=Z.out;omega) (by show b≠nx;omega)).trans bi;obtain⟨I,bu⟩:∃I,Hid (FN B.k m=I):=⟨_,rfl⟩;have bv:Hid (Calls prog 84 #[.agg #[.int .i64 B.u,.int .i64 B.g,.slice B.ca B.cs.length B.cc,.int .i64 B.k],.int .i64 m] J.drew fun e w'=>e=.returned (.int .i64 I)∧Bw J.drew w'):=by
   rw[←bu.out];exact SN B.u B.g B.k m (.slice B.ca B.cs.length B.cc) J.drew bf.out.1 bf.out.2.1
  clear b5 bs ab aa b6 b7 b9 cb cd bk a3 a4 a5 bi;go_region_with (first|(go_at_call 84;(refine np bv.out ?_);rintro e O ⟨rfl,q6⟩;have ak:Hid (Av O nx (.mk k m F G o nh d ks) T):=(az.out.below (nv _ _).drew).below q6;have cr:O.cell? ⟨nx,1,none⟩=some (.int .i64 m):=ak.out.1.2.1;have cu:O.frozen? ⟨nx,1,none⟩=false:=ak.out.2 1;have bx:Hid (Ao nx W O):=V.out.trans (Ao.of_below ((nv _ J).drew.trans q6));clear bv q6))
  all_goals
   have a1:Ao nx W (O.setCell ⟨nx,1,none⟩ (.int .i64 I)):=bx.out.trans ((Ao.refl nx O).setCell 1 none _);have bA:Hid (∃h',Av (O.setCell ⟨nx,1,none⟩ (.int .i64 I)) nx (.mk k I F G o nh d ks) h'∧Ah (O.setCell ⟨nx,1,none⟩ (.int .i64 I)).cell? (.mk k I F G o nh d ks) h'∧(AB (.mk k I F G o nh d ks)∧AP (.mk k I F G o nh d ks)∧cnt (.mk k I F G o nh d ks)≤cnt (.mk k m u g o nh d ks))∧Ao nx W (O.setCell ⟨nx,1,none⟩ (.int .i64 I))):=⟨T,ak.out.set1 I,Kq a1 bB.out.1 bC.out (Lk bF.out),⟨Rs bG.out,bM bH.out b4.out,K3⟩,a1⟩;clear a1 cr cu ak bx cf cg ch cl co cp;generalize O.setCell ⟨nx,1,none⟩ (.int .i64 I)=c9 at bA;go_wp2;go_end0
   exact⟨⟨_,rfl⟩,by have e:=bA.out;rw[←bu.out]at e;exact e⟩
abbrev fI:Oper:={dst:=some 10,op:=Op.fieldAddr 99 (Operand.tmp 5) 2,type:=0,pos:= "own.go:38",after:=#[],guard:=none}
abbrev fJ:Oper:={dst:=some 11,op:=Op.load 3 (Operand.tmp 10),type:=3,pos:= "own.go:38",after:=#[{on:=0,ground:=Ground.data}],guard:=none}
abbrev fK:Oper:={dst:=some 12,op:=Op.move (Operand.tmp 0),type:=35,pos:= "own.go:38",after:=#[],guard:=none}
abbrev fR:Oper:={dst:=some 13,op:=Op.nilCheck (Operand.tmp 12),type:=0,pos:= "own.go:38",after:=#[{on:=2,ground:=Ground.data}],guard:=none}
abbrev fM:Oper:={dst:=some 14,op:=Op.fieldAddr 70 (Operand.tmp 13) 1,type:=0,pos:= "own.go:38",after:=#[{on:=3,ground:=Ground.data}],guard:=none}
abbrev fH:Oper:={dst:=some 15,op:=Op.fieldAddr 27 (Operand.tmp 14) 0,type:=0,pos:= "own.go:38",after:=#[{on:=4,ground:=Ground.data}],guard:=none}
abbrev fO:Oper:={dst:=some 16,op:=Op.load 3 (Operand.tmp 15),type:=3,pos:= "own.go:38",after:=#[{on:=5,ground:=Ground.data}],guard:=none}
abbrev V5:Oper:={dst:=some 17,op:=Op.binOp BinOp.eql 3 (Operand.tmp 11) (Operand.tmp 16) 3,type:=4,pos:= "own.go:38",after:=#[{on:=1,ground:=Ground.data},{on:=6,ground:=Ground.data}],guard:=none}
abbrev V8:Oper:={dst:=some 18,op:=Op.move (Operand.tmp 17),type:=4,pos:= "own.go:38",after:=#[{on:=7,ground:=Ground.data}],guard:=none}
abbrev Wd:Oper:={dst:=some 19,op:=Op.move (Operand.tmp 2),type:=3,pos:= "own.go:38",after:=#[{on:=8,ground:=Ground.guard}],guard:=some (8,true)}
abbrev VM:Oper:={dst:=some 20,op:=Op.fieldAddr 99 (Operand.tmp 5) 2,type:=0,pos:= "own.go:38",after:=#[{on:=8,ground:=Ground.guard}],guard:=some (8,true)}
abbrev VC:Oper:={dst:=some 21,op:=Op.load 3 (Operand.tmp 20),type:=3,pos:= "own.go:38",after:=#[{on:=10,ground:=Ground.data},{on:=8,ground:=Ground.guard}],guard:=some (8,true)}
abbrev Ph:Oper:={dst:=some 22,op:=Op.binOp BinOp.eql 3 (Operand.tmp 19) (Operand.tmp 21) 3,type:=4,pos:= "own.go:38",after:=#[{on:=9,ground:=Ground.data},{on:=11,ground:=Ground.data},{on:=8,ground:=Ground.guard}],guard:=some (8,true)}
abbrev Pk:Oper:={dst:=some 23,op:=Op.pick (Operand.tmp 18) (Operand.tmp 22) (Operand.const (Value.bool false)),type:=4,pos:= "own.go:38",after:=#[{on:=8,ground:=Ground.data},{on:=12,ground:=Ground.data}],guard:=none}
abbrev Po:Oper:={dst:=some 24,op:=Op.move (Operand.tmp 23),type:=4,pos:= "own.go:38",after:=#[{on:=13,ground:=Ground.data},{on:=8,ground:=Ground.chain}],guard:=none}
abbrev Pa:Oper:={dst:=some 25,op:=Op.move (Operand.tmp 3),type:=3,pos:= "own.go:38",after:=#[{on:=14,ground:=Ground.guard}],guard:=some (14,true)}
abbrev O9:Oper:={dst:=some 26,op:=Op.fieldAddr 99 (Operand.tmp 5) 3,type:=0,pos:= "own.go:38",after:=#[{on:=14,ground:=Ground.guard}],guard:=some (14,true)}
abbrev O4:Oper:={dst:=some 27,op:=Op.load 3 (Operand.tmp 26),type:=3,pos:= "own.go:38",after:=#[{on:=16,ground:=Ground.data},{on:=14,ground:=Ground.guard}],guard:=some (14,true)}
abbrev Mu:Oper:={dst:=some 28,op:=Op.binOp BinOp.eql 3 (Operand.tmp 25) (Operand.tmp 27) 3,type:=4,pos:= "own.go:38",after:=#[{on:=15,ground:=Ground.data},{on:=17,ground:=Ground.data},{on:=14,ground:=Ground.guard}],guard:=some (14,true)}
abbrev Mw:Oper:={dst:=some 29,op:=Op.move (Operand.tmp 28),type:=4,pos:= "own.go:38",after:=#[{on:=18,ground:=Ground.data},{on:=14,ground:=Ground.chain},{on:=14,ground:=Ground.guard}],guard:=some (14,true)}
abbrev ME:Oper:={dst:=some 30,op:=Op.move (Operand.tmp 0),type:=35,pos:= "own.go:38",after:=#[{on:=19,ground:=Ground.guard}],guard:=some (19,false)}
abbrev Mr:Oper:={dst:=some 31,op:=Op.nilCheck (Operand.tmp 30),type:=0,pos:= "own.go:38",after:=#[{on:=20,ground:=Ground.data},{on:=19,ground:=Ground.guard}],guard:=some (19,false)}
abbrev Mx:Oper:={dst:=some 32,op:=Op.fieldAddr 70 (Operand.tmp 31) 1,type:=0,pos:= "own.go:38",after:=#[{on:=21,ground:=Ground.data},{on:=19,ground:=Ground.guard}],guard:=some (19,false)}
abbrev MF:Oper:={dst:=some 33,op:=Op.load 27 (Operand.tmp 32),type:=27,pos:= "own.go:38",after:=#[{on:=22,ground:=Ground.data},{on:=19,ground:=Ground.guard}],guard:=some (19,false)}
abbrev Mz:Oper:={dst:=some 34,op:=Op.move (Operand.tmp 3),type:=3,pos:= "own.go:38",after:=#[{on:=19,ground:=Ground.guard}],guard:=some (19,false)}
abbrev MD:Oper:={dst:=some 35,op:=Op.call {callee:=Callee.value (Operand.func 148),args:=#[Operand.tmp 33,Operand.tmp 34],argTypes:=#[27,3]},type:=4,pos:= "own.go:38",after:=#[{on:=23,ground:=Ground.data},{on:=24,ground:=Ground.data},{on:=19,ground:=Ground.chain},{on:=19,ground:=Ground.guard}],guard:=some (19,false)}
abbrev Ms:Oper:={dst:=some 36,op:=Op.pick (Operand.tmp 29) (Operand.const (Value.bool true)) (Operand.tmp 35),type:=4,pos:= "own.go:38",after:=#[{on:=19,ground:=Ground.data},{on:=25,ground:=Ground.data},{on:=14,ground:=Ground.guard}],guard:=some (14,true)}
abbrev MG:Oper:={dst:=some 37,op:=Op.pick (Operand.tmp 24) (Operand.tmp 36) (Operand.const (Value.bool false)),type:=4,pos:= "own.go:38",after:=#[{on:=14,ground:=Ground.data},{on:=26,ground:=Ground.data}],guard:=none}
abbrev Mt:Oper:={dst:=some 9,op:=Op.assign (Operand.tmp 37),type:=4,pos:= "own.go:38",after:=#[{on:=27,ground:=Ground.data},{on:=25,ground:=Ground.chain},{on:=0,ground:=Ground.phase},{on:=1,ground:=Ground.phase},{on:=2,ground:=Ground.phase},{on:=3,ground:=Ground.phase},{on:=4,ground:=Ground.phase},{on:=5,ground:=Ground.phase},{on:=6,ground:=Ground.phase},{on:=7,ground:=Ground.phase},{on:=8,ground:=Ground.phase},{on:=9,ground:=Ground.phase},{on:=10,ground:=Ground.phase},{on:=11,ground:=Ground.phase},{on:=12,ground:=Ground.phase},{on:=13,ground:=Ground.phase},{on:=14,ground:=Ground.phase},{on:=15,ground:=Ground.phase},{on:=16,ground:=Ground.phase},{on:=17,ground:=Ground.phase},{on:=18,ground:=Ground.phase},{on:=19,ground:=Ground.phase},{on:=20,ground:=Ground.phase},{on:=21,ground:=Ground.phase},{on:=22,ground:=Ground.phase},{on:=23,ground:=Ground.phase},{on:=24,ground:=Ground.phase},{on:=25,ground:=Ground.phase},{on:=26,ground:=Ground.phase},{on:=27,ground:=Ground.phase}],guard:=none}
def Bx.mgF(B:Bx)(H:Bool)(F I J G:Int):Bool:=H&&((decide (F=B.u)&&decide (J=F)&&(decide (G=I)||En B.g B.cs G))||(bits .and .i64 B.k 1==1))
theorem Qe{w:World}{b:Nat}{B:Bx}{x0:Nd}{ni:List Nd}(h:AX w b B)(bB:Bv B x0 ni)(J G:Bool)(O H I a8 ad:Int):
 Calls prog 103 #[.pointer (some ⟨b,0,none⟩),.agg #[.bool J,.int .i64 O,.int .i64 H,.int .i64 I,.bool G],.int .i64 a8,.int .i64 ad] w fun e w'=>e=.returned (.bool (B.mgF G H I a8 ad))∧Bw w w':=by
 obtain⟨Y,R⟩:∃Y,Hid (B.mgF G H I a8 ad=Y):=⟨_,rfl⟩;rw[R.out];unfold Bx.mgF at R;have bC:=(IK bB.cred.1).1;have bg:Bw w (w.alloc (.cells #[.bool J,.int .i64 O,.int .i64 H,.int .i64 I,.bool G] 99)):=(nv _ _).alloc (nn _) _;have bi:=h.below bg;obtain⟨_,_,_,a3,a4,a5,bF,_⟩:=bi.cells;have b6:=El.new w _ rfl J O H I G;obtain⟨bG,bH,bY,b0,b1⟩:=b6;have T:Ce (w.alloc (.cells #[.bool J,.int .i64 O,.int .i64 H,.int .i64 I,.bool G] 99)).drew w.heap.size 0 (.bool J)∧Ce (w.alloc (.cells #[.bool J,.int .i64 O,.int .i64 H,.int .i64 I,.bool G] 99)).drew w.heap.size 1 (.int .i64 O)∧Ce (w.alloc (.cells #[.bool J,.int .i64 O,.int .i64 H,.int .i64 I,.bool G] 99)).drew w.heap.size 2 (.int .i64 H)∧Ce (w.alloc (.cells #[.bool J,.int .i64 O,.int .i64 H,.int .i64 I,.bool G] 99)).drew w.heap.size 3 (.int .i64 I)∧Ce (w.alloc (.cells #[.bool J,.int .i64 O,.int .i64 H,.int .i64 I,.bool G] 99)).drew w.heap.size 4 (.bool G)∧Ce (w.alloc (.cells #[.bool J,.int .i64 O,.int .i64 H,.int .i64 I,.bool G] 99)).drew b 3 (.int .i64 B.u)∧Ce (w.alloc (.cells #[.bool J,.int .i64 O,.int .i64 H,.int .i64 I,.bool G] 99)).drew b 4 (.int .i64 B.g)∧Ce (w.alloc (.cells #[.bool J,.int .i64 O,.int .i64 H,.int .i64 I,.bool G] 99)).drew b 5 (.slice B.ca B.cs.length B.cc)∧Ce (w.alloc (.cells #[.bool J,.int .i64 O,.int .i64 H,.int .i64 I,.bool G] 99)).drew b 6 (.int .i64 B.k):=⟨bG,bH,bY,b0,b1,a3,a4,a5,bF⟩;have b2:=hid (Lo B.u B.g ad B.k B.ca B.cc B.cs (w.alloc (.cells #[.bool J,.int .i64 O,.int .i64 H,.int .i64 I,.bool G] 99)).drew bC.2.2 (bi.grp.below (nv _ _).drew));have bd:Hid (∀w',Calls prog 136 #[.agg #[.int .i64 B.u,.int .i64 B.g,.slice B.ca B.cs.length B.cc,.int .i64 B.k],.int .i64 1] w' fun e b7=>e=.returned (.bool (bits .and .i64 B.k 1==1))∧Bw w' b7):=fun w'=>II B.u B.g B.k 1 (.slice B.ca B.cs.length B.cc) w';have Z:=hid bg.drew
 generalize En B.g B.cs ad=be at b2 R;generalize(bits .and .i64 B.k 1==1)=cn at bd R;clear bG bH bY b0 b1 a3 a4 a5 bF bi bg h bB bC;go_enter func103,ntmps103;go_upto_region 1 with fail
 generalize(w.alloc (.cells #[.bool J,.int .i64 O,.int .i64 H,.int .i64 I,.bool G] 99))=b9 at*;refine wp_region_held_drew (S:=fun w'=>Ce w' w.heap.size 0 (.bool J)∧Ce w' w.heap.size 1 (.int .i64 O)∧Ce w' w.heap.size 2 (.int .i64 H)∧Ce w' w.heap.size 3 (.int .i64 I)∧Ce w' w.heap.size 4 (.bool G)∧Ce w' b 3 (.int .i64 B.u)∧Ce w' b 4 (.int .i64 B.g)∧Ce w' b 5 (.slice B.ca B.cs.length B.cc)∧Ce w' b 6 (.int .i64 B.k)) (by kernel_rfl) T (fun F=>?_);refine tI 0 fI (.pointer (some ⟨w.heap.size,2,none⟩)) F ?_;simp only[tk];refine tI 1 fJ (.int .i64 H) F ?_;simp only[tk];refine tI 2 fK (.pointer (some ⟨b,0,none⟩)) F ?_;simp only[tk];refine tI 3 fR (.pointer (some ⟨b,0,none⟩)) F ?_;simp only[tk];refine tI 4 fM (.pointer (some ⟨b,3,none⟩)) F ?_;simp only[tk];refine tI 5 fH (.pointer (some ⟨b,3,none⟩)) F ?_;simp only[tk];refine tI 6 fO (.int .i64 B.u) F ?_;simp only[tk];by_cases aa:H=B.u
 ·refine nT (i:=7) (oi:=V5) (v:=.bool true) rfl (by kernel_rfl) (by kernel_rfl) (by kernel_rfl) (fun _ _ _ h=>h) (Or.inl ⟨by rfl,fun w Q=>by obtain⟨ak,ao,ap,ar,ay,az,a1,a6,a7⟩:=Q;first|(go_simp;done)|(go_simp;simp[aa];done)⟩) F ?_
  simp only[tk];refine tI 8 V8 (.bool true) F ?_;simp only[tk];refine tI 9 Wd (.int .i64 a8) F ?_;simp only[tk];refine tI 10 VM (.pointer (some ⟨w.heap.size,2,none⟩)) F ?_;simp only[tk];refine tI 11 VC (.int .i64 H) F ?_;simp only[tk];by_cases V:a8=H
  ·refine nT (i:=12) (oi:=Ph) (v:=.bool true) rfl (by kernel_rfl) (by kernel_rfl) (by kernel_rfl) (fun _ _ _ h=>h) (Or.inl ⟨by rfl,fun w Q=>by obtain⟨ak,ao,ap,ar,ay,az,a1,a6,a7⟩:=Q;first|(go_simp;done)|(go_simp;simp[V];done)|(rw[aa]at V;go_simp;done)|(rw[aa]at V;go_simp;simp[V])⟩) F ?_
   simp only[tk];refine tI 13 Pk (.bool true) F ?_;simp only[tk];refine tI 14 Po (.bool true) F ?_;simp only[tk];refine tI 15 Pa (.int .i64 ad) F ?_;simp only[tk];refine tI 16 O9 (.pointer (some ⟨w.heap.size,3,none⟩)) F ?_;simp only[tk];refine tI 17 O4 (.int .i64 I) F ?_;simp only[tk];by_cases ba:ad=I
   ·refine nT (i:=18) (oi:=Mu) (v:=.bool true) rfl (by kernel_rfl) (by kernel_rfl) (by kernel_rfl) (fun _ _ _ h=>h) (Or.inl ⟨by rfl,fun w Q=>by obtain⟨ak,ao,ap,ar,ay,az,a1,a6,a7⟩:=Q;first|(go_simp;done)|(go_simp;simp[ba];done)⟩) F ?_
    simp only[tk];refine tI 19 Mw (.bool true) F ?_;simp only[tk];refine tO 20 ME F ?_;simp only[tk];refine tO 21 Mr F ?_;simp only[tk];refine tO 22 Mx F ?_;simp only[tk];refine tO 23 MF F ?_;simp only[tk];refine tO 24 Mz F ?_;simp only[tk];refine tO 25 MD F ?_;simp only[tk];refine tI 26 Ms (.bool true) F ?_;simp only[tk];refine tI 27 MG (.bool true) F ?_;simp only[tk];refine tI 28 Mt (.bool true) F ?_;simp only[tk];refine rN (by kernel_rfl) ?_ _;obtain⟨bk,bl,bn,bo,bp,bs,bu,bv,bx⟩:=T;cases G with
    |false=>
     go_wp2;go_ret;exact⟨nW (fun x=>Ending.returned (.bool x)) (show false=Y by rw[←R.out];simp),Z.out⟩
    |true=>
     go_wp2;go_ret;exact⟨nW (fun x=>Ending.returned (.bool x)) (show true=Y by rw[←R.out];simp[aa,V,ba]),Z.out⟩
   ·refine nT (i:=18) (oi:=Mu) (v:=.bool false) rfl (by kernel_rfl) (by kernel_rfl) (by kernel_rfl) (fun _ _ _ h=>h) (Or.inl ⟨by rfl,fun w Q=>by obtain⟨ak,ao,ap,ar,ay,az,a1,a6,a7⟩:=Q;first|(go_simp;done)|(go_simp;simp[ba];done)⟩) F ?_
    simp only[tk];refine tI 19 Mw (.bool false) F ?_;simp only[tk];refine tI 20 ME (.pointer (some ⟨b,0,none⟩)) F ?_;simp only[tk];refine tI 21 Mr (.pointer (some ⟨b,0,none⟩)) F ?_;simp only[tk];refine tI 22 Mx (.pointer (some ⟨b,3,none⟩)) F ?_;simp only[tk];refine tI 23 MF (.agg #[.int .i64 B.u,.int .i64 B.g,.slice B.ca B.cs.length B.cc,.int .i64 B.k]) F ?_;simp only[tk];refine tI 24 Mz (.int .i64 ad) F ?_;simp only[tk];refine wpAnyH_ready (rs:=[25]) (by kernel_rfl) (by simp) ?_;refine AllReadyH.cons (o:=MD) rfl (fun K b3=>?_) AllReadyH.nil;rw[nD (by rfl)];go_simp;refine np b2.out ?_;rintro e ab ⟨rfl,q6⟩;have b4:Ce ab w.heap.size 0 (.bool J)∧Ce ab w.heap.size 1 (.int .i64 O)∧Ce ab w.heap.size 2 (.int .i64 H)∧Ce ab w.heap.size 3 (.int .i64 I)∧Ce ab w.heap.size 4 (.bool G)∧Ce ab b 3 (.int .i64 B.u)∧Ce ab b 4 (.int .i64 B.g)∧Ce ab b 5 (.slice B.ca B.cs.length B.cc)∧Ce ab b 6 (.int .i64 B.k):=⟨Af q6 T.1,Af q6 T.2.1,Af q6 T.2.2.1,Af q6 T.2.2.2.1,Af q6 T.2.2.2.2.1,Af q6 T.2.2.2.2.2.1,Af q6 T.2.2.2.2.2.2.1,Af q6 T.2.2.2.2.2.2.2.1,Af q6 T.2.2.2.2.2.2.2.2⟩;have bf:=hid (Z.out.trans (q6.mono Z.out.size));clear q6;go_wp2_with fail
    refine b3.out _ _ b4 (fun bA=>?_);clear b3 K;refine nT (i:=26) (oi:=Ms) (v:=.bool be) rfl (by kernel_rfl) (by kernel_rfl) (by kernel_rfl) (fun _ _ _ h=>h) (Or.inl ⟨by rfl,fun w Q=>by obtain⟨ak,ao,ap,ar,ay,az,a1,a6,a7⟩:=Q;go_simp⟩) bA ?_;simp only[tk];refine nT (i:=27) (oi:=MG) (v:=.bool be) rfl (by kernel_rfl) (by kernel_rfl) (by kernel_rfl) (fun _ _ _ h=>h) (Or.inl ⟨by rfl,fun w Q=>by obtain⟨ak,ao,ap,ar,ay,az,a1,a6,a7⟩:=Q;go_simp⟩) bA ?_;simp only[tk];refine nT (i:=28) (oi:=Mt) (v:=.bool be) rfl (by kernel_rfl) (by kernel_rfl) (by kernel_rfl) (fun _ _ _ h=>h) (Or.inl ⟨by rfl,fun w Q=>by obtain⟨ak,ao,ap,ar,ay,az,a1,a6,a7⟩:=Q;go_simp⟩) bA ?_;simp only[tk];refine rN (by kernel_rfl) ?_ _;obtain⟨bk,bl,bn,bo,bp,bs,bu,bv,bx⟩:=b4;cases G with
    |false=>
     go_wp2;go_ret;exact⟨nW (fun x=>Ending.returned (.bool x)) (show false=Y by rw[←R.out];simp),bf.out⟩
    |true=>
     cases be with
     |true=>
      go_wp2;go_ret;exact⟨nW (fun x=>Ending.returned (.bool x)) (show true=Y by rw[←R.out];simp[aa,V,ba]),bf.out⟩
     |false=>
      go_wp2_with fail
      refine np (bd.out _) ?_;rintro e b5 ⟨rfl,q7⟩;have bb:=hid (bf.out.trans (q7.mono bf.out.size));clear q7;go_wp2;go_ret;exact⟨nW (fun x=>Ending.returned (.bool x)) (show cn=Y by rw[←R.out];simp[aa,V,ba]),bb.out⟩
  ·refine nT (i:=12) (oi:=Ph) (v:=.bool false) rfl (by kernel_rfl) (by kernel_rfl) (by kernel_rfl) (fun _ _ _ h=>h) (Or.inl ⟨by rfl,fun w Q=>by obtain⟨ak,ao,ap,ar,ay,az,a1,a6,a7⟩:=Q;first|(go_simp;done)|(go_simp;simp[V];done)|(rw[aa]at V;go_simp;done)|(rw[aa]at V;go_simp;simp[V])⟩) F ?_
   simp only[tk];refine tI 13 Pk (.bool false) F ?_;simp only[tk];refine tI 14 Po (.bool false) F ?_;simp only[tk];refine tO 15 Pa F ?_;simp only[tk];refine tO 16 O9 F ?_;simp only[tk];refine tO 17 O4 F ?_;simp only[tk];refine tO 18 Mu F ?_;simp only[tk];refine tO 19 Mw F ?_;simp only[tk];refine tO 20 ME F ?_;simp only[tk];refine tO 21 Mr F ?_;simp only[tk];refine tO 22 Mx F ?_;simp only[tk];refine tO 23 MF F ?_;simp only[tk];refine tO 24 Mz F ?_;simp only[tk];refine tO 25 MD F ?_;simp only[tk];refine tO 26 Ms F ?_;simp only[tk];refine tI 27 MG (.bool false) F ?_;simp only[tk];refine tI 28 Mt (.bool false) F ?_;simp only[tk];refine rN (by kernel_rfl) ?_ _;obtain⟨bk,bl,bn,bo,bp,bs,bu,bv,bx⟩:=T;cases G with
   |false=>
    go_wp2;go_ret;exact⟨nW (fun x=>Ending.returned (.bool x)) (show false=Y by rw[←R.out];simp),Z.out⟩
   |true=>
    go_wp2_with fail
    refine np (bd.out _) ?_;rintro e b5 ⟨rfl,q7⟩;have bb:=hid (Z.out.trans (q7.mono Z.out.size));clear q7;go_wp2;go_ret;exact⟨nW (fun x=>Ending.returned (.bool x)) (show cn=Y by rw[←R.out];simp[V]),bb.out⟩
 ·refine nT (i:=7) (oi:=V5) (v:=.bool false) rfl (by kernel_rfl) (by kernel_rfl) (by kernel_rfl) (fun _ _ _ h=>h) (Or.inl ⟨by rfl,fun w Q=>by obtain⟨ak,ao,ap,ar,ay,az,a1,a6,a7⟩:=Q;first|(go_simp;done)|(go_simp;simp[aa];done)⟩) F ?_
  simp only[tk];refine tI 8 V8 (.bool false) F ?_;simp only[tk];refine tO 9 Wd F ?_;simp only[tk];refine tO 10 VM F ?_;simp only[tk];refine tO 11 VC F ?_;simp only[tk];refine tO 12 Ph F ?_;simp only[tk];refine tI 13 Pk (.bool false) F ?_;simp only[tk];refine tI 14 Po (.bool false) F ?_;simp only[tk];refine tO 15 Pa F ?_;simp only[tk];refine tO 16 O9 F ?_;simp only[tk];refine tO 17 O4 F ?_;simp only[tk];refine tO 18 Mu F ?_;simp only[tk];refine tO 19 Mw F ?_;simp only[tk];refine tO 20 ME F ?_;simp only[tk];refine tO 21 Mr F ?_;simp only[tk];refine tO 22 Mx F ?_;simp only[tk];refine tO 23 MF F ?_;simp only[tk];refine tO 24 Mz F ?_;simp only[tk];refine tO 25 MD F ?_;simp only[tk];refine tO 26 Ms F ?_;simp only[tk];refine tI 27 MG (.bool false) F ?_;simp only[tk];refine tI 28 Mt (.bool false) F ?_;simp only[tk];refine rN (by kernel_rfl) ?_ _;obtain⟨bk,bl,bn,bo,bp,bs,bu,bv,bx⟩:=T;cases G with
  |false=>
   go_wp2;go_ret;exact⟨nW (fun x=>Ending.returned (.bool x)) (show false=Y by rw[←R.out];simp),Z.out⟩
  |true=>
   go_wp2_with fail
   refine np (bd.out _) ?_;rintro e b5 ⟨rfl,q7⟩;have bb:=hid (Z.out.trans (q7.mono Z.out.size));clear q7;go_wp2;go_ret;exact⟨nW (fun x=>Ending.returned (.bool x)) (show cn=Y by rw[←R.out];simp[aa]),bb.out⟩
end Go.Proofs.YtofhphibahcniaaGreatDoor
