/-
  TopOwned: Uc Ud Ub Ida Nd Uf Mk Ml Wq.
-/
import Derived.Test.YtgppjbhaimmlpaaGreatDoorApX
import Derived.Test.YtgppjbhaimmlpaaGreatDoorKbX
import Derived.Deep.QuietTactic
import Derived.BigQuiet
import Derived.Test.YtgppjbhaimmlpaaGreatDoorWoX
import Derived.Test.YtgppjbhaimmlpaaGreatDoorMaX
import Derived.Test.YtgppjbhaimmlpaaGreatDoorMcX
set_option maxRecDepth 100000
set_option maxHeartbeats 16000000
namespace Go.Proofs.YtgppjbhaimmlpaaGreatDoor
open Go.RowKit Go.Proofs.Tryz
structure CE where
 ua:Option Addr
 ga:Option Addr
 uc:Nat
 gc:Nat
 us:List Rg
 gs:List Rg
def CE.v(M:CE):Value:=.agg #[.slice M.ua M.us.length M.uc,.slice M.ga M.gs.length M.gc]
structure DD (W:World) (M:CE):Prop where
 u:Rgs W M.ua M.us
 g:Rgs W M.ga M.gs
 ul:M.us.length≤100
 gl:M.gs.length≤100
 cu:M.us.length≤M.uc
 cg:M.gs.length≤M.gc
 ou:∀r∈M.us,r.ok
 og:∀r∈M.gs,r.ok
theorem DD.below{W F:World}{M:CE}(h:DD W M)(hb:Below W.heap.size W F):DD F M:=⟨h.u.below hb,h.g.below hb,h.ul,h.gl,h.cu,h.cg,h.ou,h.og⟩
def Eu:Nd→Prop
 |.mk _ _ u g _ _ _ _=>AZ u∧AZ g
theorem JP(v:Int):Gm (some v)=.tuple #[.int .i64 v,.bool true]:=rfl
theorem JS:Gm none=.tuple #[.int .i64 0,.bool false]:=rfl
theorem cd{c:AJ}{k m u g F G:Int}{o:Bool}{nh:List Kv}{d:BA}{ks:At}{h:Hd}(H:Ah c (.mk k m u g o nh d ks) h):Ah c (.mk k m F G o nh d ks) h:=Cj.2 (Cj.1 H)
theorem aG{k m u g F G:Int}{o:Bool}{nh:List Kv}{d:BA}{ks:At}(h:A7 (.mk k m u g o nh d ks)):A7 (.mk k m F G o nh d ks):=by rw[A7]at h⊢;exact h
theorem ah{k m u g F G:Int}{o:Bool}{nh:List Kv}{d:BA}{ks:At}:cnt (.mk k m F G o nh d ks)=cnt (.mk k m u g o nh d ks):=by rw[cnt,cnt]
theorem As.ids{w:World}{b:Nat}{k m u g:Int}{o:Bool}{nh:List Kv}{d:BA}{ks:At}{h:Hd}(H:As w b (.mk k m u g o nh d ks) h)(F G:Int):As ((w.setCell ⟨b,2,none⟩ (.int .i64 F)).setCell ⟨b,3,none⟩ (.int .i64 G)) b (.mk k m F G o nh d ks) h:=by
 obtain⟨⟨I,J,O,Q,R,T,V,Y⟩,Z⟩:=H;refine⟨⟨?_,?_,?_,?_,?_,?_,?_,?_⟩,fun j=>?_⟩;all_goals first|(simp[go_sem,I,J,O,Q,R,T,V,Y];done)|(simp[go_sem,Z j];done)
theorem Pz(W A B C:World)(G H:Option Addr)(I J uc gc:Nat)(k m u g:Int)(o:Bool)(nh:List Kv)(d:BA)(ks:At)(h:Hd)
 (F:A=W.alloc (.cells #[.slice G I uc,.slice H J gc] 24)) (O:B=A.alloc (.cells #[.int .i64 k,.int .i64 m,.int .i64 u,.int .i64 g,.bool o,.slice h.aa nh.length h.ca,.string d,.slice h.ak ks.length h.ck] 50)) (Q:C=B.alloc (.cells #[.int .i64 0,.int .i64 0,.int .i64 0,.int .i64 0,.bool false,.slice none 0 0,.string ⟨#[]⟩,.slice none 0 0] 50)):
 C.cell? ⟨W.heap.size,0,none⟩=some (.slice G I uc)∧C.cell? ⟨W.heap.size,1,none⟩=some (.slice H J gc)∧As C (W.heap.size+1) (.mk k m u g o nh d ks) h∧As C (W.heap.size+1+1) zN zH∧Below W.heap.size W C∧C.heap.size=W.heap.size+1+1+1:=by
 have T:A.heap.size=W.heap.size+1:=by rw[F,nv]
 have V:B.heap.size=W.heap.size+1+1:=by rw[O,nv,T]
 have ak:C.heap.size=W.heap.size+1+1+1:=by rw[Q,nv,V]
 have Y:Below W.heap.size W A:=by rw[F];exact(nt _ _).alloc (nl _) _
 have Z:Below A.heap.size A B:=by rw[O];exact(nt _ _).alloc (nl _) _
 have R:Below B.heap.size B C:=by rw[Q];exact(nt _ _).alloc (nl _) _
 have c0:A.cell? ⟨W.heap.size,0,none⟩=some (.slice G I uc):=by rw[F];exact nk _ _ _ _ rfl
 have c1:A.cell? ⟨W.heap.size,1,none⟩=some (.slice H J gc):=by rw[F];exact nk _ _ _ _ rfl
 have aa:AR A.cell? C.cell?:=(Aj Z).trans (Aj R);have ab:=As.new A k m u g o nh d ks h;rw[←O,T]at ab;have ad:=As.zero B;rw[←Q,V]at ad;exact⟨aa _ _ c0,aa _ _ c1,ab.below R,ad,(Y.trans (Z.mono Y.size)).trans (R.mono (by omega)),ak⟩
def eh(F G:Option Int)(k m:Int)(o:Bool)(nh:List Kv)(d:BA)(ks:At):Option Nd:=match F,G with
 |some H,some g'=>some (.mk k m H g' o nh d ks)
 |_,_=>none
def Hh(W F:World)(S:Nat→Bool)(e:Ending):Option Nd→Prop
 |none=>e=.returned (.tuple #[Ao zN zH,.iface 74 (.int .i64 11)])∧Below W.heap.size W F
 |some y=>(∃h',e=.returned (.tuple #[Ao y h',.nilIface])∧Ah (Ag F.cell? S) y h')∧Below W.heap.size W F
theorem W7{W:World}{S:Nat→Bool}(c4:∀k,S k=true→k<W.heap.size){x:Nd}{h:Hd}(c5:Ah (Ag W.cell? S) x h)(c6:A7 x)(c8:cnt x≤1000)(hid:Eu x){M:CE}(c9:DD W M):
 Calls prog 62 #[M.v,Ao x h,.func (.func 63) #[] #[]] W fun e da=>Hh W da S e (Bh true M.us M.gs x):=by
 obtain⟨k,m,u,g,o,nh,d,ks⟩:=x;obtain⟨bs,bu,uc,gc,us,gs⟩:=M;obtain⟨bA,bB,bC,bF,bG,bH,bY,b0⟩:=c9;dsimp only at bA bB bC bF bG bH bY b0;obtain⟨db,dd⟩:=hid;obtain⟨bv,b9⟩:∃bv,Hid (Fp us u=bv):=⟨_,rfl⟩;obtain⟨bn,cb⟩:∃bn,Hid (Fp gs g=bn):=⟨_,rfl⟩;have cf:Hid (Bh true us gs (.mk k m u g o nh d ks)=eh bv bn k m o nh d ks):=by show _=_;rw[←b9.out,←cb.out];rfl
 rw[cf.out];clear cf;obtain⟨c0,c1,J,ab,O,de⟩:=Pz W _ _ _ bs bu us.length gs.length uc gc k m u g o nh d ks h rfl rfl rfl;have b1:Hid _:=MD bs uc us u (((W.alloc (.cells #[.slice bs us.length uc,.slice bu gs.length gc] 24)).alloc (.cells #[.int .i64 k,.int .i64 m,.int .i64 u,.int .i64 g,.bool o,.slice h.aa nh.length h.ca,.string d,.slice h.ak ks.length h.ck] 50)).alloc (.cells #[.int .i64 0,.int .i64 0,.int .i64 0,.int .i64 0,.bool false,.slice none 0 0,.string ⟨#[]⟩,.slice none 0 0] 50)) bC bG bY db (bA.below O);rw[b9.out]at b1;obtain⟨Q,R,T,V,Y,Z,f6,aa⟩:=J.1;show Calls prog 62 #[.agg #[.slice bs us.length uc,.slice bu gs.length gc],.agg #[.int .i64 k,.int .i64 m,.int .i64 u,.int .i64 g,.bool o,.slice h.aa nh.length h.ca,.string d,.slice h.ak ks.length h.ck],.func (.func 63) #[] #[]] W _;go_enter func62,ntmps62;go_wp2_with fail
 refine nn b1.out ?_;rintro e cg ⟨rfl,bk⟩;have a7:=O.trans (bk.mono O.size);have J:=J.below bk;have ab:=ab.below bk;have c1:=Aj bk _ _ c1;have bo:Hid _:=MD bu gc gs g cg bF bH b0 dd (bB.below a7);rw[cb.out]at bo;have dk:W.heap.size+1+1+1≤cg.heap.size:=by have:=bk.size;omega
 clear Q R T V Y Z f6 aa c0 b1 O bk bA bB bC bF bG bH bY b0 de;obtain⟨Q,R,T,V,Y,Z,f6,aa⟩:=J.1;cases bv with
 |none=>
  rw[JS];go_wp2_with fail
  refine nn bo.out ?_;rintro e G ⟨rfl,ao⟩;have ap:=a7.trans (ao.mono a7.size);have J:=J.below ao;have ab:=ab.below ao;clear Q R T V Y Z f6 aa c1 bo a7;cases bn with
  |none=>
   rw[JS];obtain⟨⟨Q,R,T,V,Y,Z,f6,aa⟩,F⟩:=ab;have z0:=F 0;have b2:=F 1;have b3:=F 2;have z3:=F 3;have z4:=F 4;have z5:=F 5;have b4:=F 6;have b5:=F 7;have az:=As.store (w:=G) (b:=(W.heap.size+1+1)) (y:=zN) (h':=zH) ⟨⟨Q,R,T,V,Y,Z,f6,aa⟩,F⟩ zN zH;have O:Below W.heap.size W (Ar G (W.heap.size+1+1) zN zH):=ap.trans (Cf.below (by omega) ap.size);go_wp2;obtain⟨a1,a6⟩:∃a1,Hid (Ar G (W.heap.size+1+1) zN zH=a1):=⟨_,rfl⟩;rw[a6.out]at az O;have ad:=a6.out;simp only[Ar,zN,zH]at ad;simp only[nQ]at ad;rw[ad];obtain⟨a8,ba,bb,bd,be,bf,bg,bi⟩:=az.1;refine nF (v:=.tuple #[Ao zN zH,.iface 74 (.int .i64 11)]) (by simp[results,results62,go_sem,Ao,zN,zH,a8,ba,bb,bd,be,bf,bg,bi]) rfl ⟨rfl,O⟩
  |some H=>
   rw[JP];obtain⟨⟨Q,R,T,V,Y,Z,f6,aa⟩,F⟩:=ab;have z0:=F 0;have b2:=F 1;have b3:=F 2;have z3:=F 3;have z4:=F 4;have z5:=F 5;have b4:=F 6;have b5:=F 7;have az:=As.store (w:=G) (b:=(W.heap.size+1+1)) (y:=zN) (h':=zH) ⟨⟨Q,R,T,V,Y,Z,f6,aa⟩,F⟩ zN zH;have O:Below W.heap.size W (Ar G (W.heap.size+1+1) zN zH):=ap.trans (Cf.below (by omega) ap.size);go_wp2;obtain⟨a1,a6⟩:∃a1,Hid (Ar G (W.heap.size+1+1) zN zH=a1):=⟨_,rfl⟩;rw[a6.out]at az O;have ad:=a6.out;simp only[Ar,zN,zH]at ad;simp only[nQ]at ad;rw[ad];obtain⟨a8,ba,bb,bd,be,bf,bg,bi⟩:=az.1;refine nF (v:=.tuple #[Ao zN zH,.iface 74 (.int .i64 11)]) (by simp[results,results62,go_sem,Ao,zN,zH,a8,ba,bb,bd,be,bf,bg,bi]) rfl ⟨rfl,O⟩
 |some I=>
  rw[JP];go_wp2_with fail
  refine nn bo.out ?_;rintro e G ⟨rfl,ao⟩;have ap:=a7.trans (ao.mono a7.size);have J:=J.below ao;have ab:=ab.below ao;clear Q R T V Y Z f6 aa c1 bo a7;cases bn with
  |none=>
   rw[JS];obtain⟨⟨Q,R,T,V,Y,Z,f6,aa⟩,F⟩:=ab;have z0:=F 0;have b2:=F 1;have b3:=F 2;have z3:=F 3;have z4:=F 4;have z5:=F 5;have b4:=F 6;have b5:=F 7;have az:=As.store (w:=G) (b:=(W.heap.size+1+1)) (y:=zN) (h':=zH) ⟨⟨Q,R,T,V,Y,Z,f6,aa⟩,F⟩ zN zH;have O:Below W.heap.size W (Ar G (W.heap.size+1+1) zN zH):=ap.trans (Cf.below (by omega) ap.size);go_wp2;obtain⟨a1,a6⟩:∃a1,Hid (Ar G (W.heap.size+1+1) zN zH=a1):=⟨_,rfl⟩;rw[a6.out]at az O;have ad:=a6.out;simp only[Ar,zN,zH]at ad;simp only[nQ]at ad;rw[ad];obtain⟨a8,ba,bb,bd,be,bf,bg,bi⟩:=az.1;refine nF (v:=.tuple #[Ao zN zH,.iface 74 (.int .i64 11)]) (by simp[results,results62,go_sem,Ao,zN,zH,a8,ba,bb,bd,be,bf,bg,bi]) rfl ⟨rfl,O⟩
  |some H=>
   rw[JP];have bx:Below W.heap.size W ((G.setCell ⟨(W.heap.size+1),2,none⟩ (.int .i64 I)).setCell ⟨(W.heap.size+1),3,none⟩ (.int .i64 H)):=(ap.setCell (p:=⟨(W.heap.size+1),2,none⟩) (by show W.heap.size≤W.heap.size+1;omega) _).setCell (p:=⟨(W.heap.size+1),3,none⟩) (by show W.heap.size≤W.heap.size+1;omega) _;have dg:=J.ids I H;have ch:As ((G.setCell ⟨(W.heap.size+1),2,none⟩ (.int .i64 I)).setCell ⟨(W.heap.size+1),3,none⟩ (.int .i64 H)) (W.heap.size+1+1) zN zH:=(ab.other (by show W.heap.size+1≠W.heap.size+1+1;omega) _).other (by show W.heap.size+1≠W.heap.size+1+1;omega) _;have cl:((G.setCell ⟨(W.heap.size+1),2,none⟩ (.int .i64 I)).setCell ⟨(W.heap.size+1),3,none⟩ (.int .i64 H)).heap.size=G.heap.size:=by simp
   have co:Hid _:=Hv (W:=((G.setCell ⟨(W.heap.size+1),2,none⟩ (.int .i64 I)).setCell ⟨(W.heap.size+1),3,none⟩ (.int .i64 H))) (S:=(fun k=>k==W.heap.size||k==W.heap.size+1||k==W.heap.size+1+1||S k)) (x:=(.mk k m I H o nh d ks)) (h:=h) (fun q bl=>by
    rw[cl];have dm:=ao.size;simp at bl;rcases bl with((e|e)|e)|e
    ·omega
    ·omega
    ·omega
    ·have:=c4 q e;omega) ((cd c5).on (Cb fun q bl bp=>⟨by simp[bp];omega,bx.block q bl⟩)) (aG c6) (by rw[ah (u:=u) (g:=g)];exact c8)
   have dj:=J.2 2;have g1:=J.2 3;obtain⟨Q,R,T,V,Y,Z,f6,aa⟩:=J.1;go_wp2_with fail
   refine nn co.out ?_;rintro e b6 ⟨⟨hx,rfl,cp⟩,b7⟩;have ak:=ch.below b7;have cq:=bx.trans (b7.mono bx.size);have cr:=ak.store (.mk k m I H o nh d ks) hx;have cu:Below W.heap.size W (Ar b6 (W.heap.size+1+1) (.mk k m I H o nh d ks) hx):=cq.trans (Cf.below (by omega) cq.size)
   have cx:Hid (Ah (Ag (Ar b6 (W.heap.size+1+1) (.mk k m I H o nh d ks) hx).cell? S) (.mk k m I H o nh d ks) hx):=cp.on (Cb fun q bl bp=>by
    simp at bp;exact⟨bp.2,Cf.block q bl bp.1.2⟩)
   clear Q R T V Y Z f6 aa dj g1 co J dg ab ch cp b7 bx ao ap cl;have z0:=ak.2 0;have b2:=ak.2 1;have b3:=ak.2 2;have z3:=ak.2 3;have z4:=ak.2 4;have z5:=ak.2 5;have b4:=ak.2 6;have b5:=ak.2 7;obtain⟨Q,R,T,V,Y,Z,f6,aa⟩:=ak.1;rw[show Ao (.mk k m I H o nh d ks) hx=.agg #[.int .i64 k,.int .i64 m,.int .i64 I,.int .i64 H,.bool o,.slice hx.aa nh.length hx.ca,.string d,.slice hx.ak ks.length hx.ck]from rfl];go_wp2;obtain⟨cA,cB⟩:∃cA,Hid (Ar b6 (W.heap.size+1+1) (.mk k m I H o nh d ks) hx=cA):=⟨_,rfl⟩;rw[cB.out]at cr cu cx;have c3:=cB.out;simp only[Ar]at c3;rw[c3];obtain⟨a8,ba,bb,bd,be,bf,bg,bi⟩:=cr.1;refine nF (v:=.tuple #[Ao (.mk k m I H o nh d ks) hx,.nilIface]) (by simp[results,results62,go_sem,Ao,a8,ba,bb,bd,be,bf,bg,bi]) rfl ⟨⟨hx,rfl,cx.out⟩,cu⟩
theorem Hk{W:World}{S:Nat→Bool}(bH:∀k,S k=true→k<W.heap.size){x:Nd}{h:Hd}(bg:Ah (Ag W.cell? S) x h)(bi:A7 x)(bk:cnt x≤1000)(hid:Eu x){M:CE}(bl:DD W M):
 Calls prog 30 #[M.v,Ao x h] W fun e ap=>Hh W ap S e (Bh true M.us M.gs x):=by
 obtain⟨bn,az⟩:=A3 (Bh true M.us M.gs x);rw[az.out];obtain⟨k,m,u,g,o,nh,d,ks⟩:=x;obtain⟨I,J,uc,gc,us,gs⟩:=M;obtain⟨c0,c1,bo,F,G,bY⟩:=Pz W _ _ _ I J us.length gs.length uc gc k m u g o nh d ks h rfl rfl rfl;have bp:Hid (cL 62 #[.agg #[.slice I us.length uc,.slice J gs.length gc],(AY k m u g o nh d ks h),.func (.func 63) #[] #[]] (((W.alloc (.cells #[.slice I us.length uc,.slice J gs.length gc] 24)).alloc (Ap k m u g o nh d ks h)).alloc AO) fun e ap=>Hh (((W.alloc (.cells #[.slice I us.length uc,.slice J gs.length gc] 24)).alloc (Ap k m u g o nh d ks h)).alloc AO) ap (fun k=>k==W.heap.size+1+1||S k) e bn):=by
  have:=W7 (W:=(((W.alloc (.cells #[.slice I us.length uc,.slice J gs.length gc] 24)).alloc (Ap k m u g o nh d ks h)).alloc AO)) (S:=fun k=>k==W.heap.size+1+1||S k) (M:=⟨I,J,uc,gc,us,gs⟩) (h:=h) (fun q Q=>by
   rw[bY];simp at Q;rcases Q with e|e
   ·omega
   ·have:=bH q e;omega) (bg.on (Cb fun q Q V=>⟨by simp[V];omega,G.block q Q⟩)) bi bk hid (bl.below G)
  rw[az.out]at this;exact this
 obtain⟨Y,Z,aa,ab,ad,ak,f6,ao⟩:=bo.1;show cL 30 #[.agg #[.slice I us.length uc,.slice J gs.length gc],(AY k m u g o nh d ks h)] W _;clear bl az bg bi bk hid;go_enter func30,ntmps30;go_wp2_with fail
 refine nn bp.out ?_;intro e R bs;clear Y Z aa ab ad ak f6 ao c0 c1 bp bo;cases bn with
 |none=>
  obtain⟨rfl,O⟩:=bs;have F:=F.below O;have T:=G.trans (O.mono G.size);rw[show Ao zN zH=.agg #[iN 0,iN 0,iN 0,iN 0,.bool false,nL,.string ⟨#[]⟩,nL]from rfl];clear O G;obtain⟨⟨Y,Z,aa,ab,ad,ak,f6,ao⟩,H⟩:=F;have z0:=H 0;have b0:=H 1;have b1:=H 2;have z3:=H 3;have z4:=H 4;have z5:=H 5;have b2:=H 6;have b3:=H 7;have bu:=As.store (w:=R) (b:=(W.heap.size+1+1)) (y:=zN) (h':=zH) ⟨⟨Y,Z,aa,ab,ad,ak,f6,ao⟩,H⟩ zN zH;have G:Below W.heap.size W (Ar R (W.heap.size+1+1) zN zH):=T.trans (Cf.below (by omega) T.size);go_wp2;obtain⟨b4,bv⟩:=A3 (Ar R (W.heap.size+1+1) zN zH);rw[bv.out]at bu G;have a1:=bv.out;simp only[Ar,zN,zH]at a1;simp only[nQ]at a1;rw[a1];obtain⟨a6,a7,a8,ba,bb,bd,be,bf⟩:=bu.1;refine nF (v:=.tuple #[Ao zN zH,.iface 74 (iN 11)]) (by simp[results,results30,go_sem,Ao,zN,zH,a6,a7,a8,ba,bb,bd,be,bf]) rfl ⟨rfl,G⟩
 |some y=>
  obtain⟨⟨hx,rfl,bx⟩,O⟩:=bs;obtain⟨k,m,u,g,o,nh,d,ks⟩:=y;have F:=F.below O;have T:=G.trans (O.mono G.size);have bA:=F.store (.mk k m u g o nh d ks) hx;have bB:Below W.heap.size W (Ar R (W.heap.size+1+1) (.mk k m u g o nh d ks) hx):=T.trans (Cf.below (by omega) T.size)
  have bC:Hid (Ah (Ag (Ar R (W.heap.size+1+1) (.mk k m u g o nh d ks) hx).cell? S) (.mk k m u g o nh d ks) hx):=bx.on (Cb fun q Q V=>by
   simp at V;exact⟨V.2,Cf.block q Q V.1⟩)
  clear bx O G T;have z0:=F.2 0;have b0:=F.2 1;have b1:=F.2 2;have z3:=F.2 3;have z4:=F.2 4;have z5:=F.2 5;have b2:=F.2 6;have b3:=F.2 7;obtain⟨Y,Z,aa,ab,ad,ak,f6,ao⟩:=F.1;rw[show Ao (.mk k m u g o nh d ks) hx=(AY k m u g o nh d ks hx)from rfl];go_wp2;obtain⟨b5,bF⟩:=A3 (Ar R (W.heap.size+1+1) (.mk k m u g o nh d ks) hx);rw[bF.out]at bA bB bC;have bG:=bF.out;simp only[Ar]at bG;rw[bG];obtain⟨a6,a7,a8,ba,bb,bd,be,bf⟩:=bA.1;refine nF (v:=.tuple #[Ao (.mk k m u g o nh d ks) hx,.nilIface]) (by simp[results,results30,go_sem,Ao,a6,a7,a8,ba,bb,bd,be,bf]) rfl ⟨⟨hx,rfl,bC.out⟩,bB⟩
def Ij(l:List (Nd×Nat)):Prop:=l.Pairwise fun a b=>a.2<b.2
theorem bj(xs:List Nd):Ij (BD xs):=by
 unfold Ij BD;rw[rZ];intro i j G H F;simpa using F
theorem TZ:∀l:List (Nd×Nat),(DZ l).Sublist l
 |[]=>List.Sublist.refl _
 |t::r=>by
  rw[DZ];split
  ·exact List.nil_sublist _
  split
  ·exact List.Sublist.cons_cons _ (List.nil_sublist _)
  ·exact List.Sublist.cons_cons _ (TZ r)
theorem LO(l:List (Nd×Nat)):(A8 l).Sublist l:=by
 cases l with
 |nil=>exact List.Sublist.refl _
 |cons t r=>
  rw[A8];split
  ·exact List.Sublist.cons_cons _ (List.nil_sublist _)
  ·exact TZ _
theorem RV{nm:BA}:∀{l:List (Nd×Nat)},Ij l→Ij (Bc nm l)
 |[],_=>List.Pairwise.nil
 |t::r,h=>by
  have F:=rq.1 h;have G:=RV (nm:=nm) F.2;show Ij ((t::r).filterMap _);rw[rr];cases CV nm t.1 with
  |none=>exact G
  |some y=>
   refine rq.2 ⟨fun q H=>?_,G⟩;obtain⟨p,I,e⟩:=rC.1 H;obtain⟨z,_,rfl⟩:=nY.1 e;exact F.1 p I
theorem Yd(xs:List Nd):∀nf:List BA,Ij (AP xs nf):=by
 intro nf;unfold AP;generalize F:A8 (BD xs)=l;have G:Ij l:=by rw[←F];exact(bj xs).sublist (LO _)
 clear F;induction nf generalizing l with
 |nil=>exact G
 |cons n r H=>rw[rK];exact H _ ((RV G).sublist (LO _))
theorem GT{l:List (Nd×Nat)}{q:Nd×Nat}{r:List (Nd×Nat)}(h:A8 l=q::r):(∃t,l=q::t)∧(q.1.kind=2∨q.1.kind=1∧r=[]):=by
 cases l with
 |nil=>cases h
 |cons t s=>
  rw[A8]at h;by_cases F:t.1.kind=1
  ·rw[nC F]at h
   cases h;exact⟨⟨_,rfl⟩,.inr ⟨F,rfl⟩⟩
  ·rw[nB F,DZ]at h
   by_cases G:t.1.kind≠2
   ·rw[nC G]at h;cases h
   rw[nB G]at h;have H:t.1.kind=2:=by simpa using G
   split at h
   ·cases h;exact⟨⟨_,rfl⟩,.inl H⟩
   ·cases h;exact⟨⟨_,rfl⟩,.inl H⟩
theorem Ls(nm:BA)(x:Nd):CV nm x=if x.kind≠2 then none else fk nm x.kids:=by
 obtain⟨k,m,u,g,o,nh,d,ks⟩:=x;show _=if k≠2 then none else fk nm ks
 unfold CV;by_cases F:k=2
 ·have G:He nm (.mk k m u g o nh d ks)=Bl nm ks 0:=nC F
  rw[G,nB (show¬k≠2 from fun q=>q F)];rcases Hp nm ks 0 with⟨H,I⟩|⟨j,y,H,I,J,_⟩
  ·rw[H,I];rfl
  ·rw[H,J,nB (by omega),nT,Int.toNat_natCast]
   show(ks[j]?).map _=_;rw[I];rfl
 ·have G:He nm (.mk k m u g o nh d ks)=-1:=nB F
  rw[G,nC (show k≠2 from F)];rfl
theorem WF{l:List (Nd×Nat)}{nm:BA}{q H:Nd×Nat}{r Z:List (Nd×Nat)}{aa:List (Nd×Nat)}(Q:A8 aa=l)(R:Ij l)(J:l=q::r)(ab:A8 (Bc nm l)=H::Z):
 q.1.kind=2∧(q.2≠0→H.2≠0)∧(q.2=0→H.2≠0→fk nm q.1.kids=none)∧(q.2=0→H.2=0→fk nm q.1.kids=some H.1):=by
 obtain⟨⟨t,F⟩,_⟩:=GT ab;have T:q.1.kind=2:=by
  rw[J]at Q;rcases(GT Q).2 with e|⟨e,rfl⟩
  ·exact e
  ·rw[J]at F
   have ad:CV nm q.1=none:=by rw[Ls,nC (by rw[e];decide)]
   have ak:Bc nm [q]=[]:=by
    show [q].filterMap _=[];rw[rr,ad];rfl
   rw[ak]at F;cases F
 have ao:CV nm q.1=fk nm q.1.kids:=by rw[Ls,nB (by simp[T])]
 rw[J]at R;have V:=rq.1 R;have O:H∈Bc nm l:=by rw[F];exact nJ ..
 rw[J]at F O
 have G:Bc nm (q::r)=match fk nm q.1.kids with
  |none=>Bc nm r
  |some y=>(y,q.2)::Bc nm r:=by
  show(q::r).filterMap _=_;rw[rr,ao];cases fk nm q.1.kids<;>rfl
 refine⟨T,fun h=>?_,fun Y h=>?_,fun Y h=>?_⟩
 ·obtain⟨p,I,e⟩:=rC.1 O
  obtain⟨z,_,rfl⟩:=nY.1 e;rcases nX.1 I with rfl|I
  ·exact h
  ·have:=V.1 p I
   show p.2≠0;omega
 ·cases hf:fk nm q.1.kids with
  |none=>rfl
  |some y=>
   rw[hf]at G;rw[G]at F;cases F;exact absurd Y h
 ·cases hf:fk nm q.1.kids with
  |none=>
   rw[hf]at G;dsimp only at G;rw[G]at O;obtain⟨p,I,e⟩:=rC.1 O;obtain⟨z,_,rfl⟩:=nY.1 e;have:=V.1 p I;have ap:p.2=0:=h;omega
  |some y=>
   rw[hf]at G;rw[G]at F;cases F;rfl
def E5(us gs:List Rg)(xs:List Nd)(nf:List BA)(U:Nd):Nat→Except Int Nd
 |0=>.ok U
 |k+1=>match E5 us gs xs nf U k with
  |.error f=>.error f
  |.ok F=>match AP xs (nf.take (k+1))with
   |[]=>.ok F
   |q::_=>if q.2=0 then .ok F else match Bh true us gs (CF q.1)with
    |none=>.error 11
    |some x=>AG (some x) (nf.take (k+1)) F
def FQ(xs:List Nd)(nf:List BA)(F:Nat→Nd×Nat):Prop:=∀i,i≤nf.length→∃r,AP xs (nf.take i)=F i::r
theorem SO(xs:List Nd)(nf:List BA):∃F,A8 F=AP xs nf:=by
 rcases List.eq_nil_or_concat nf with rfl|⟨l,b,rfl⟩
 ·exact⟨_,rfl⟩
 ·unfold AP
  rw[List.concat_eq_append,List.foldl_append];exact⟨_,rfl⟩
theorem Qg{xs:List Nd}{nf:List BA}{F:Nat→Nd×Nat}(h:FQ xs nf F):(F 0).2=0∧xs[0]? =some (F 0).1:=by
 obtain⟨r,H⟩:=h 0 (nM _);have e:=H;obtain⟨⟨t,G⟩,_⟩:=GT e;cases xs with
 |nil=>cases G
 |cons x xs=>
  have:BD (x::xs)=(x,0)::xs.zipIdx 1:=rfl;rw[this]at G;have I:(x,0)=F 0:=by injection G
  rw[←I];exact⟨rfl,rfl⟩
theorem Ho{xs:List Nd}{nf:List BA}{F:Nat→Nd×Nat}(h:FQ xs nf F){i:Nat}{nm:BA}(G:nf[i]? =some nm):
 (F i).1.kind=2∧((F i).2≠0→(F (i+1)).2≠0)∧((F i).2=0→(F (i+1)).2≠0→fk nm (F i).1.kids=none)∧((F i).2=0→(F (i+1)).2=0→fk nm (F i).1.kids=some (F (i+1)).1):=by
 have O:=(nw.1 G).1;obtain⟨r,I⟩:=h i (by omega);obtain⟨Q,H⟩:=h (i+1) (by omega);rw[I5 G]at H;obtain⟨R,J⟩:=SO xs (nf.take i);exact WF J (Yd _ _) I H
theorem Hm{F:Type}{l:List F}{n:Nat}{x:F}(h:l[n]? =some x):l.take (n+1)=l.take n++[x]:=by rw[rv,h];rfl
theorem KS{xs:List Nd}{nf:List BA}{F:Nat→Nd×Nat}(h:FQ xs nf F):∀i,i≤nf.length→(∀j,j≤i→(F j).2=0)→AV (nf.take i) (F 0).1=some (F i).1
 |0,_,_=>rfl
 |i+1,hi,hz=>by
  have e:nf[i]? =some nf[i]:=np (by omega);obtain⟨G,_,_,H⟩:=Ho h e;rw[Hm e,QN,KS h i (by omega) (fun j I=>hz j (by omega))];simp only[Option.bind_some];rw[nB (by simp[G])];exact H (hz i (by omega)) (hz (i+1) (nl _))
theorem Lo{us gs:List Rg}{xs:List Nd}{nf:List BA}{F:Nat→Nd×Nat}{U:Nd}(h:FQ xs nf F):∀k,k≤nf.length→(∀j,j≤k→(F j).2=0)→E5 us gs xs nf U k=.ok U
 |0,_,_=>rfl
 |k+1,hk,hz=>by
  obtain⟨r,G⟩:=h (k+1) hk;rw[E5,Lo h k (by omega) (fun j H=>hz j (by omega)),G];dsimp only;rw[nC (hz (k+1) (nl _))]
theorem Sh{us gs:List Rg}{xs:List Nd}{nf:List BA}{F:Nat→Nd×Nat}{U:Nd}(h:FQ xs nf F){k:Nat}(H:k+1≤nf.length)(I:(F (k+1)).2≠0):E5 us gs xs nf U (k+1)=match E5 us gs xs nf U k with
 |.error f=>.error f
 |.ok G=>match Bh true us gs (CF (F (k+1)).1)with
  |none=>.error 11
  |some x=>AG (some x) (nf.take (k+1)) G:=by
 obtain⟨r,J⟩:=h (k+1) H;rw[E5,J];cases E5 us gs xs nf U k with
 |error f=>rfl
 |ok G=>dsimp only;rw[nB I]
def D4(F:Nat→Nd×Nat)(nf:List BA)(k n:Nat):List (Nd×BA):=(List.range' (k+1) n).map fun i=>(CF (F i).1,nf.getD (i-1) ⟨#[]⟩)
theorem Ru(F:Nat→Nd×Nat)(nf:List BA)(k n:Nat):D4 F nf k (n+1)=D4 F nf k n++[(CF (F (k+n+1)).1,nf.getD (k+n) ⟨#[]⟩)]:=by
 unfold D4;rw[List.range'_concat,rA];simp;rw[show k+1+n=k+n+1 by omega]
theorem UO{us gs:List Rg}{xs:List Nd}{nf:List BA}{F:Nat→Nd×Nat}(h:FQ xs nf F){k:Nat}(Q:k<nf.length)(aa:∀j,j≤k→(F j).2=0)(ab:(F (k+1)).2≠0):
 ∀n,k+n+1≤nf.length→E5 us gs xs nf (F 0).1 (k+n+1)=match BW us gs (D4 F nf k (n+1))with
  |.error f=>.error f
  |.ok L=>AG (some (BN L)) (nf.take (k+1)) (F 0).1:=by
 have ao:∀n,k+n+1≤nf.length→(F (k+n+1)).2≠0:=by
  intro n;induction n with
  |zero=>exact fun _=>ab
  |succ n H=>
   intro I;have e:nf[k+n+1]? =some nf[k+n+1]:=np (by omega);exact(Ho h e).2.1 (H (by omega))
 have R:=np Q;have ad:=KS h k (by omega) aa;have ak:=(Ho h R).1;have J:∀i (G:i<nf.length),nf.getD i ⟨#[]⟩=nf[i]:=fun i G=>by simp[G]
 intro n;induction n with
 |zero=>
  intro I;show E5 us gs xs nf (F 0).1 (k+1)=_;rw[Sh h I ab,Lo h k (by omega) aa,Ru];rw[show D4 F nf k 0=[]from rfl];rw[JX];simp only[BW,rT,J k Q];cases Bh true us gs (CF (F (k+1)).1)with
  |none=>rfl
  |some x=>
   dsimp only;by_cases T:AQ nf[k]=false
   ·rw[nC T,Hm R,(K9 ad ak).1 T]
   ·rw[nB T];rfl
 |succ n H=>
  intro I;have H:=H (by omega);have ap:=ao (n+1) I;rw[Sh h I ap,show k+(n+1)=k+n+1 from rfl,H,Ru F nf k (n+1),JX];cases hb:BW us gs (D4 F nf k (n+1))with
  |error f=>rfl
  |ok L=>
   dsimp only;obtain⟨V,az,a1⟩:=Om hb;have a6:¬AQ nf[k]=false:=by
    have e:=az (CF (F (k+0+1)).1,nf.getD (k+0) ⟨#[]⟩) (by
     unfold D4;exact rx.2 ⟨k+1,by simp,by simp⟩)
    have e:AQ (nf.getD k ⟨#[]⟩)=true:=e;rw[J k Q]at e;rw[e];simp
   have a7:=a1 (fun p a8=>by
    obtain⟨i,G,rfl⟩:=rx.1 a8;rw[List.mem_range'_1]at G;have e:nf[i]? =some nf[i]:=np (by omega);exact⟨(JN _).trans (Ho h e).1,JO _⟩)
   have ba:L≠[]:=fun e=>by
    rw[e]at V;have:=nV List.length V;simp[D4]at this
   obtain⟨r,Y⟩:=(K9 (x:=BN L) ad ak).2 a6;rw[←Hm R]at Y;rw[Y];dsimp only;cases Bh true us gs (CF (F (k+n+1+1)).1)with
   |none=>rfl
   |some x=>
    dsimp only;have Z:nf.take (k+(n+1)+1)=nf.take (k+1)++(L.tail.map Prod.snd++[nf[k+(n+1)]]):=by
     rw[List.map_tail,V];have e:(D4 F nf k (n+1)).map Prod.snd=(nf.drop k).take (n+1):=by
      unfold D4;rw[r4];refine List.ext_getElem? fun i=>?_;rw[n4,rL]
      by_cases G:i<n+1
      ·rw[nC G,rM,np (l:=List.range' (k+1) (n+1)) (by simpa using G)]
       simp only[List.getElem_range',r0,Function.comp];rw[show k+1+1*i-1=k+i by omega,J (k+i) (by omega),np (l:=nf) (by omega)]
      ·rw[nB G,List.getElem?_eq_none (by simpa using G)];rfl
     rw[e,←List.drop_one,List.drop_take,List.drop_drop,Nat.add_sub_cancel];rw[show nf.take (k+(n+1)+1)=nf.take (k+1)++(nf.drop (k+1)).take (n+1) by rw[←List.take_add,show k+1+(n+1)=k+(n+1)+1 by omega]];congr 1;have bb:(nf.drop (k+1))[n]? =some nf[k+(n+1)]:=by
      rw[rM,show k+1+n=k+(n+1) by omega];exact np (by omega)
     rw[Hm bb]
    have Z:nf.take (k+n+1+1)=nf.take (k+1)++(L.tail.map Prod.snd++[nf[k+(n+1)]]):=Z;rw[Z,Qn (by simp) Y,QH ba a7,J (k+(n+1)) (by omega)];by_cases O:AQ nf[k+(n+1)]=false
    ·rw[nC O,nC O]
    ·rw[nB O,nB O]
mutual
def AM:Nd→Prop
 |.mk _ _ u g _ _ _ ks=>AZ u∧AZ g∧Bu ks
def Bu:List (BA×Nd)→Prop
 |[]=>True
 |(_,x)::l=>AM x∧Bu l
end
theorem TP:∀{ks:List (BA×Nd)} {i:Nat} {n:BA} {x:Nd},Bu ks→ks[i]? =some (n,x)→AM x
 |[],_,_,_,_,h=>by simp at h
 |(m,y)::l,0,n,x,hl,h=>by simp at h;rw[Bu]at hl;rw[←h.2];exact hl.1
 |(m,y)::l,i+1,n,x,hl,h=>by rw[Bu]at hl;exact TP hl.2 (by simpa using h)
theorem aE{x:Nd}(h:AM x):Bu x.kids:=by
 obtain⟨k,m,u,g,o,nh,d,ks⟩:=x;rw[AM]at h;exact h.2.2
def EO(l:List (Nd×Nat)):Prop:=∀q∈l,AM q.1
theorem EO.kid{l:List (Nd×Nat)}(h:EO l)(nm:BA):EO (Bc nm l):=fun q G=>by
 obtain⟨p,H,e⟩:=rC.1 G;obtain⟨y,F,rfl⟩:=nY.1 e;have I:=h p H;unfold CV at F;split at F
 ·cases F
 ·obtain⟨J,O,rfl⟩:=nY.1 F
  obtain⟨n,z⟩:=J;exact TP (aE I) O
theorem EO.sh{l:List (Nd×Nat)}(h:EO l):EO (A8 l):=fun q F=>h q (Hx l q F)
theorem Yg{xs:List Nd}(h:EO (BD xs)):∀nf:List BA,EO (AP xs nf):=by
 intro nf;unfold AP;generalize F:A8 (BD xs)=l;have G:EO l:=by rw[←F];exact h.sh
 clear F;induction nf generalizing l with
 |nil=>exact G
 |cons n r H=>rw[rK];exact H _ (G.kid n).sh
theorem Nv{m:BA}{z y:Nd}:∀{ks:At},fk m ks=some y→cntL (BQ m z ks)+cnt y=cntL ks+cnt z
 |[],h=>by cases h
 |(n,x)::l,h=>by
  rw[fk]at h;rw[BQ];by_cases e:n=m
  ·rw[nC e]at h⊢;simp only[nU]at h;subst h;rw[cntL,cntL];omega
  ·rw[nB e]at h⊢;have:=Nv (z:=z) h;rw[cntL,cntL];omega
theorem Sv(m:BA)(z:Nd):∀ks:At,cntL (Cy m z ks)=cntL ks+cnt z
 |[]=>by rw[Cy];simp[cntL]
 |(n,x)::l=>by
  rw[Cy];split
  ·rw[cntL,cntL];omega
  ·have:=Sv m z l;rw[cntL,cntL];omega
theorem Rl(m:BA):∀ks:At,cntL (DA m ks)≤cntL ks
 |[]=>by rw[DA];exact nl _
 |(n,x)::l=>by
  rw[DA];split
  ·rw[cntL];omega
  ·have:=Rl m l;rw[cntL,cntL];omega
theorem M9(x:Nd)(ks:At):cnt (x.with ks)=cntL ks+1:=by obtain⟨k,m,u,g,o,nh,d,F⟩:=x;rfl
theorem IE(x:Nd):cnt x=cntL x.kids+1:=by obtain⟨k,m,u,g,o,nh,d,F⟩:=x;rfl
def GF:Option Nd→Nat
 |none=>0
 |some x=>cnt x
theorem Jo{c:Option Nd}(P:Nd→Nd→Prop)(G:∀m n ks,n.kind=2→Dy c m n.kids=.ok ks→P n (n.with ks))(H:∀m n y z,n.kind=2→fk m n.kids=some y→P y z→P n (n.with (BQ m z n.kids))):
 ∀{l:List BA} {n r:Nd},AG c l n=.ok r→P n r
 |[],n,r,h=>by rw[AG]at h;cases h
 |[m],n,r,h=>by
  rw[Gf]at h;by_cases F:n.kind≠2
  ·rw[nC F]at h;cases h
  rw[nB F]at h;cases hl:Dy c m n.kids with
  |error f=>rw[hl]at h;cases h
  |ok ks=>
   rw[hl]at h;simp only[Except.map,rE]at h;subst h;exact G m n ks (by simpa using F) hl
 |m::I::l,n,r,h=>by
  rw[Gg]at h;by_cases F:n.kind≠2
  ·rw[nC F]at h;cases h
  rw[nB F]at h;cases hf:fk m n.kids with
  |none=>rw[hf]at h;cases h
  |some y=>
   rw[hf]at h;simp only at h;cases hc:AG c (I::l) y with
   |error f=>rw[hc]at h;cases h
   |ok z=>
    rw[hc]at h;simp only[Except.map,rE]at h;subst h;exact H m n y z (by simpa using F) hf (Jo P G H hc)
theorem JH{c:Option Nd}{m:BA}{ks G:At}(h:Dy c m ks=.ok G):(∃x,c=some x∧AQ m=true∧((fk m ks=none∧G=Cy m x ks)∨(fk m ks≠none∧G=BQ m x ks)))∨(c=none∧fk m ks≠none∧G=DA m ks):=by
 cases c with
 |some x=>
  left
  simp only[Dy]at h;by_cases F:AQ m=false
  ·rw[nC F]at h;cases h
  rw[nB F]at h;simp only[rE]at h;refine⟨x,rfl,by simpa using F,?_⟩;by_cases H:fk m ks=none
  ·rw[nC H]at h;exact .inl ⟨H,h.symm⟩
  ·rw[nB H]at h;exact .inr ⟨H,h.symm⟩
 |none=>
  right
  simp only[Dy]at h;by_cases F:fk m ks=none
  ·rw[nC F]at h;cases h
  rw[nB F]at h;simp only[rE]at h;exact⟨rfl,F,h.symm⟩
theorem Jr{c:Option Nd}{l:List BA}{n r:Nd}(h:AG c l n=.ok r):cnt r≤cnt n+GF c:=by
 refine Jo (c:=c) (fun n r=>cnt r≤cnt n+GF c) ?_ ?_ h
 ·intro m n ks _ G
  rw[M9,IE n];rcases JH G with⟨x,rfl,_,⟨_,rfl⟩|⟨F,rfl⟩⟩|⟨rfl,_,rfl⟩
  ·rw[Sv];show _≤_+cnt x;omega
  ·obtain⟨y,H⟩:=Option.ne_none_iff_exists'.1 F
   have:=Nv (z:=x) H;show _≤_+cnt x;omega
  ·have:=Rl m n.kids;omega
 ·intro m n y z _ F I
  have:=Nv (z:=z) F;rw[M9,IE n];omega
mutual
def Cq:Nd→Prop
 |.mk _ _ _ _ _ nh _ ks=>nh.length≤1000∧CA ks
def CA:At→Prop
 |[]=>True
 |(_,x)::l=>Cq x∧CA l
end
theorem Od{m:BA}{y:Nd}:∀{ks:At},CA ks→fk m ks=some y→Cq y
 |[],_,h=>by cases h
 |(n,x)::l,ha,h=>by
  rw[CA]at ha;rw[fk]at h;by_cases e:n=m
  ·rw[nC e]at h;simp only[nU]at h;subst h;exact ha.1
  ·rw[nB e]at h;exact Od ha.2 h
theorem Nf{m:BA}{z:Nd}(F:Cq z):∀{ks:At},CA ks→CA (BQ m z ks)
 |[],_=>by rw[BQ,CA];trivial
 |(n,x)::l,ha=>by
  rw[CA]at ha;rw[BQ];split
  ·rw[CA];exact⟨F,ha.2⟩
  ·rw[CA];exact⟨ha.1,Nf F ha.2⟩
theorem SC{m:BA}{z:Nd}(F:Cq z):∀{ks:At},CA ks→CA (Cy m z ks)
 |[],_=>by rw[Cy,CA,CA];exact⟨F,trivial⟩
 |(n,x)::l,ha=>by
  rw[Cy];split
  ·rw[CA];exact⟨F,ha⟩
  ·rw[CA]at ha⊢;exact⟨ha.1,SC F ha.2⟩
theorem RW{m:BA}:∀{ks:At},CA ks→CA (DA m ks)
 |[],_=>by rw[DA,CA];trivial
 |(n,x)::l,ha=>by
  rw[CA]at ha;rw[DA];split
  ·exact ha.2
  ·rw[CA];exact⟨ha.1,RW ha.2⟩
theorem Jf{x:Nd}{ks:At}:Cq (x.with ks)↔Cq (x.with [])∧CA ks:=by
 obtain⟨k,m,u,g,o,nh,d,F⟩:=x;show Cq (.mk k m u g o nh d ks)↔Cq (.mk k m u g o nh d [])∧CA ks;rw[Cq,Cq,CA];exact⟨fun h=>⟨⟨h.1,trivial⟩,h.2⟩,fun h=>⟨h.1.1,h.2⟩⟩
theorem Gx(x:Nd):x.with x.kids=x:=by obtain⟨k,m,u,g,o,nh,d,ks⟩:=x;rfl
theorem bI{c:Option Nd}{l:List BA}{n r:Nd}(h:AG c l n=.ok r)(G:∀x,c=some x→Cq x):Cq n→Cq r:=by
 refine Jo (c:=c) (fun n r=>Cq n→Cq r) ?_ ?_ h
 ·intro m n ks _ H F
  rw[←Gx n,Jf]at F;rw[Jf];refine⟨F.1,?_⟩;rcases JH H with⟨x,rfl,_,⟨_,rfl⟩|⟨_,rfl⟩⟩|⟨rfl,_,rfl⟩
  ·exact SC (G x rfl) F.2
  ·exact Nf (G x rfl) F.2
  ·exact RW F.2
 ·intro m n y z _ I J F
  rw[←Gx n,Jf]at F;rw[Jf];exact⟨F.1,Nf (J (Od F.2 I)) F.2⟩
mutual
theorem Ur:∀(x:Nd),Cq x→cnt x≤1000→A7 x
 |.mk _ _ _ _ _ nh d ks,ha,hc=>by
  rw[cnt]at hc;rw[Cq]at ha;rw[A7];have:=Hs ks;exact⟨ha.1,by omega,TT ks ha.2 (by omega)⟩
theorem TT:∀(l:At),CA l→cntL l≤1000→Dl l
 |[],_,_=>by rw[Dl];trivial
 |(n,x)::l,ha,hc=>by
  rw[cntL]at hc;rw[CA]at ha;rw[Dl];exact⟨Ur x ha.1 (by omega),TT l ha.2 (by omega)⟩
end
mutual
theorem UK:∀(x:Nd),AB x→Cq x
 |.mk _ _ _ _ _ nh d ks,h=>by
  rw[AB]at h;rw[Cq];have F:=h.1.1;exact⟨by omega,Uj ks h.2.2⟩
theorem Uj:∀(l:At),Bt l→CA l
 |[],_=>by rw[CA];trivial
 |(n,x)::l,h=>by rw[Bt]at h;rw[CA];exact⟨UK x h.2.1,Uj l h.2.2⟩
end
theorem cz{x:Nd}(h:AM x):Eu x:=by
 obtain⟨k,m,u,g,o,nh,d,ks⟩:=x;rw[AM]at h;exact⟨h.1,h.2.1⟩
theorem ZD{x:Nd}(h:Eu x):Eu (CF x):=by
 obtain⟨k,m,u,g,o,nh,d,ks⟩:=x;exact h
theorem Xa{xs:List Nd}{nf:List BA}{i:Nat}(_hi:i≤nf.length)(h:AP xs (nf.take i)=[]):AP xs nf=[]:=by
 have e:=(ry i nf).symm;unfold AP at h⊢;rw[e,List.foldl_append,h];generalize nf.drop i=r;induction r with
 |nil=>rfl
 |cons n r F=>rw[rK];exact F
theorem aY{xs:List Nd}{nf:List BA}(h:AP xs nf≠[]):∃H,FQ xs nf H:=by
 have G:∀i,∃q:Nd×Nat,i≤nf.length→∃r,AP xs (nf.take i)=q::r:=fun i=>by
  by_cases F:i≤nf.length
  ·cases hs:AP xs (nf.take i)with
   |nil=>exact absurd (Xa F hs) h
   |cons q r=>exact⟨q,fun _=>⟨r,rfl⟩⟩
  ·exact⟨(zN,0),fun e=>absurd e F⟩
 exact⟨fun i=>Classical.choose (G i),fun i F=>rg (G i) F⟩
theorem A0.take{c:AJ}{a:Option Addr}{l:List BA}(h:A0 c a l)(n:Nat):A0 c a (l.take n):=by
 rcases h with e|⟨b,G,e,h⟩
 ·subst e;exact .inl (by simp)
 ·refine .inr ⟨b,G,e,fun i s F=>h i s ?_⟩
  rw[rL]at F;split at F
  ·exact F
  ·cases F
theorem bS{F:Bool}{us gs:List Rg}{x y:Nd}(h:Bh F us gs x=some y):cnt y=cnt x:=by rw[IE,IE,(Gz h).2]
theorem Sb(x:Nd):cnt (CF x)=1:=by rw[IE,JO];rfl
structure Fl where
 x:Nd
 h:Hd
 ly:Nat
theorem WH{F:Type}{l:List F}{n:Nat}{x:F}(h:l[n]? =some x):l=l.take n++x::l.drop (n+1):=by
 obtain⟨H,e⟩:=nw.1 h;have G:=nN H;rw[e]at G;rw[←G,ry]
def ka(bare:Bool)(nm:BA)(l:List (Nd×Nat)):List (Nd×Nat):=l.filterMap fun q=>if bare=true∧q.2=0 then none else(CV nm q.1).map fun y=>(y,q.2)
def Ke(bare:Bool)(xs:List Nd)(nf:List BA)(i:Nat):List (Nd×Nat):=match i with
 |0=>A8 (BD xs)
 |i+1=>match nf[i]? with
  |some nm=>A8 (ka (bare&&decide (i+1=nf.length)) nm (Ke bare xs nf i))
  |none=>[]
theorem YD(nm:BA)(l:List (Nd×Nat)):ka false nm l=Bc nm l:=by
 unfold ka Bc;simp
def FT(W G:World)(S:Nat→Bool)(e:Ending)(F:Except Int Nd):Prop:=(∃h',e=.returned (.tuple #[Ao (DM F) h',Am (EG F)])∧Ah (Ag G.cell? S) (DM F) h')∧Below W.heap.size W G
theorem G5(c:AJ):Ah c zN zH:=Cj.2 ⟨.inl rfl,⟨nl _,by show(0:Nat)≤_;omega⟩,⟨nl _,by show(0:Nat)≤_;omega⟩,.inl rfl⟩
theorem N0{y:Nd}{n:Nat}(h:cnt y≤n):y.kids.length≤n:=by
 have F:=Hs y.kids;have G:=St y;omega
theorem PN{f:Int}(h:f≠0):(.iface 74 (.int .i64 f):Value)=Am f:=(AH rfl h).symm
theorem VC{W:World}{S:Nat→Bool}(eU:∀k,S k=true→k<W.heap.size){x0:Nd}{h:Hd}(eV:Ah (Ag W.cell? S) x0 h)(a:Option Addr)(ch:Nat)(l:List BA)(en:A0 W.cell? a l)(fy:l.length≤1000)(fA:l.length≤ch∧ch≤9223372036854775807)(eW:cnt x0≤800)(eo:∀r,AG none l x0=.ok r→A7 r∧cnt r≤1000):
 Calls prog 161 #[Ao x0 h,.slice a l.length ch,.func (.func 162) #[] #[]] W fun e eX=>FT W eX S e (AG none l x0):=by
 obtain⟨Z,b3⟩:∃Z,Hid (AG none l x0=Z):=⟨_,rfl⟩;have eY:Hid (∀r,Z=.ok r→A7 r∧cnt r≤1000):=by rw[←b3.out];exact eo
 clear eo;obtain⟨k,m,u,g,o,nh,d,ks⟩:=x0;have dx:=As.new W k m u g o nh d ks h;have dg:Below W.heap.size W (W.alloc (Ap k m u g o nh d ks h)):=(nt _ _).alloc (nl _) _;have b4:=As.zero (W.alloc (Ap k m u g o nh d ks h));rw[nv]at b4;have dy:=dx.below ((nt _ _).alloc (nl _) AO);have dz:Below W.heap.size W ((W.alloc (Ap k m u g o nh d ks h)).alloc AO):=dg.alloc dg.size _;show Calls prog 161 #[(AY k m u g o nh d ks h),.slice a l.length ch,.func (.func 162) #[] #[]] _ _;rw[b3.out];by_cases dj:l=[]
 ·subst dj
  have T:Hid (Z=.error 7):=by show _=_;rw[←b3.out,AG]
  obtain⟨bi,ap,az,a1,a6,a7,a8,ba,bb⟩:(∀j,((W.alloc (Ap k m u g o nh d ks h)).alloc AO).frozen? ⟨W.heap.size+1,j,none⟩=false)∧Cc ((W.alloc (Ap k m u g o nh d ks h)).alloc AO) (W.heap.size+1) zN zH:=⟨b4.2,b4.1⟩;clear dx dg dy b4;go_enter func161,ntmps161;go_wp2;refine nF (v:=.tuple #[Ao zN zH,Am 7]) (by simp[results,results161,go_sem,Ao,zN,zH,Am]) rfl ⟨⟨zH,by rw[T.out];rfl,by rw[T.out];exact G5 _⟩,?_⟩;exact dz
 obtain⟨b,V,rfl,ep⟩:∃b V,a=some ⟨b,V,none⟩∧∀i s,l[i]? =some s→W.cell? ⟨b,V+i,none⟩=some (.string s):=by
  rcases en with e|e
  ·exact absurd e dj
  ·exact e
 have dk:=hid ep;obtain⟨n,eq⟩:∃n,l.length=n+1:=⟨l.length-1,by have:=ri.2 dj;omega⟩;have eZ:=hid eq;have fB:n<l.length:=by omega
 have fC:n≤ch:=by omega
 have fD:n≤1000:=by omega
 have e0:IntKind.i64.wrap ((l.length:Int)-1)=(n:Int):=(Ez (by omega) (by omega)).trans (by omega);have e1:(l.length:Int)-1=(n:Int):=by omega
 have e2:((l.length:Int)==0)=false:=by simp;omega
 have Y:EX W ((W.alloc (Ap k m u g o nh d ks h)).alloc AO) S W.heap.size (.mk k m u g o nh d ks) none l l W.heap.size 0 (.mk k m u g o nh d ks) h:=EX.start dz rfl b4 dy eU eV;clear ep en dj eq dx dg dy b4 dz;go_enter func161,ntmps161;go_wp2;generalize(W.alloc (Ap k m u g o nh d ks h)).alloc AO=fE at Y⊢;generalize fF:W.heap.size=J at Y⊢;clear e0 e1 e2;go_loopw [27,8] (fun i v wr=>∃(j H I:Nat) (y:Nd) (F:Hd),j≤n∧i=.int .i64 j∧v=.pointer (some ⟨H,I,none⟩)∧EX W wr S J (.mk k m u g o nh d ks) none l (l.drop j) H I y F∧cnt y≤800) (fun i _ _=>n-(intOf i).toNat)
 case atStart=>exact⟨0,J,0,_,h,nM _,rfl,rfl,Y,eW⟩
 case round=>
  obtain⟨j,H,I,y,F,fG,rfl,rfl,Y,er⟩:=hrel;have es:y.kids.length≤800:=N0 er
  obtain⟨L,d0,d1⟩:=Og (show DP (Ag W.cell? S) F.ak y.kids by
   have d2:=Y.tree;obtain⟨bo,d3,d4,d5,d6,d7,d8,G⟩:=y;exact(Cj.1 d2).2.2.2)
  have eu:y.kids.length=L.length:=by rw[←d0,ER]
  have ev:y.kids.length≤F.ck∧F.ck≤9223372036854775807:=by
   have d2:=Y.tree;obtain⟨bo,d3,d4,d5,d6,d7,d8,G⟩:=y;exact(Cj.1 d2).2.2.1
  have dm:=hid d0;have b5:=hid eu;have d9:Cu wr.cell? F.ak L:=(d1.on (Ci _ _)).on (Aj Y.low);have ea:=Y.res;have bp:=ea.store zN zH;have eB:Au (J+1) wr (Ar wr (J+1) zN zH):=Cf;have eE:=Y.low.trans (eB.below (B:=W.heap.size) (by omega) Y.low.size);obtain⟨⟨z0,bs,bu,z3,z4,z5,bv,bx⟩,bi⟩:=id ea;have eF:=Y.atc;have b6:=Y.fz;have ao:=hid Y;have bA:Hid (∀f,f≠0→Z=.error f→FT W (Ar wr (J+1) zN zH) S (.returned (.tuple #[Ao zN zH,Am f])) Z):=by
   intro f _ e3;rw[e3];exact⟨⟨zH,rfl,G5 _⟩,eE⟩
  generalize bd:Ar wr (J+1) zN zH=fH at bp bA;have b7:=hid bd;have bf:Below W.heap.size W wr:=Y.low;clear bd eB eE ea d0 eu Y;by_cases fI:j<n;rotate_left
  ·
   have e4:j=n:=by omega
   subst e4;have e5:decide ((j:Int)<(j:Int))=false:=nA (by omega);obtain⟨nm,aa⟩:∃s,l[j]? =some s:=⟨l[j]'(by omega),np _⟩;have cl:Hid (l.drop j=[nm]):=by
    show _=_;rw[nN (by omega),n7 (by have:=eZ.out;omega)];rw[np (by omega)]at aa;simp at aa;rw[aa]
   rw[cl.out]at ao;have c0:wr.cell? ⟨b,V+j,none⟩=some (.string nm):=(bf.cell (p:=⟨b,V+j,none⟩) (ny _ _ (dk.out j nm aa))).trans (dk.out j nm aa);have co:Hid (∃ad:Nd→Nd,Z=(AG none [nm] y).map ad):=by
    obtain⟨ad,q,_⟩:=ao.out.wand;exact⟨ad,by rw[←b3.out];exact q⟩
   clear aa cl;obtain⟨bo,d3,d4,d5,d6,d7,d8,G⟩:=y;obtain⟨cp,cq,cr,cu,cx,cA,cB,bk⟩:=eF;have fJ:(j:Int)<(l.length:Int):=by omega
   by_cases bg:bo=2;rotate_left
   ·have eb:(bo !=2)=true:=bne_iff_ne.2 bg
    have T:Hid (Z=.error 7):=by
     obtain⟨ad,q⟩:=co.out;show _=_;rw[q,AG,nC (by exact bg)];rfl
    clear bg;go_wp2;have bd:=b7.out;simp only[Ar,zN,zH]at bd;simp only[nQ]at bd;rw[bd];obtain⟨ap,az,a1,a6,a7,a8,ba,bb⟩:=bp.1;refine nF (v:=.tuple #[Ao zN zH,Am 7]) (by simp[results,results161,go_sem,Ao,zN,zH,Am,ap,az,a1,a6,a7,a8,ba,bb]) rfl (bA.out 7 (by decide) T.out)
   subst bg;have eb:((2:Int)!=2)=false:=rfl;have c3:Below wr.heap.size wr wr.drew:=rz (nt _ _) 1;have c4:=Ys F.ak F.ck L nm wr.drew (by have:=b5.out;omega) (by have:=b5.out;have:=ev.1;omega) ev.2 (d9.on (Aj c3));rw[←b5.out]at c4;have c5:Hid (FM none nm G=match Ed none nm L with|.error f=>.error f|.ok M=>.ok (bare M)):=by
    have q:=RJ none nm L;rw[dm.out]at q;exact q
   cases hA:Ed none nm L with
   |error f=>
    rw[hA]at c5;have c6:Calls prog 162 #[.slice F.ak G.length F.ck,.string nm] wr.drew fun e w'=>(f≠0∧e=.returned (.tuple #[.slice none 0 0,.iface 74 (.int .i64 f)]))∧Below wr.drew.heap.size wr.drew w':=by
     refine c4.mono ?_;rintro e w' ⟨q|⟨M,v,q,_⟩,hb⟩
     ·obtain⟨fK,q1,q2,c8⟩:=q
      rw[hA]at q1;simp only[rS]at q1;subst q1;exact⟨⟨q2,c8⟩,hb⟩
     ·rw[hA]at q;cases q
    have T:Hid (Z=.error f):=by
     obtain⟨ad,q⟩:=co.out;show _=_;rw[q,AG,nB (by show¬(2:Int)≠2;simp)];show Except.map ad (Except.map _ (FM none nm G))=_;rw[c5.out];rfl
    have ab:wr.drew.cell? ⟨H,I+7,none⟩=some (.slice F.ak G.length F.ck)∧wr.drew.cell? ⟨b,V+j,none⟩=some (.string nm):=⟨bk,c0⟩;have c9:Hid _:=c6;clear hA c4 c6 c5;go_wp2;go_region_held3 (fun w'=>w'.cell? ⟨H,I+7,none⟩=some (.slice F.ak G.length F.ck)∧w'.cell? ⟨b,V+j,none⟩=some (.string nm)) (first|exact ab|exact b9) (first|(go_at_call 162;refine nn c9.out ?_;rintro e O ⟨⟨e6,rfl⟩,ak⟩;have b9:O.cell? ⟨H,I+7,none⟩=some (.slice F.ak G.length F.ck)∧O.cell? ⟨b,V+j,none⟩=some (.string nm):=⟨(ak.cell (p:=⟨H,I+7,none⟩) (ny _ _ ab.1)).trans ab.1,(ak.cell (p:=⟨b,V+j,none⟩) (ny _ _ ab.2)).trans ab.2⟩))
    all_goals
     have Q:Below wr.heap.size wr O:=c3.trans ak;have da:=ao.out.res.below Q;have bB:=bf.trans (Q.mono bf.size);have bl:=da.store zN zH;have be:Au (J+1) O (Ar O (J+1) zN zH):=Cf;have bn:=bB.trans (be.below (B:=W.heap.size) (by omega) bB.size);generalize R:Ar O (J+1) zN zH=eG at bl bn;have db:=hid R;clear R be cp cq cr cu cx cA cB bk z0 bs bu z3 z4 z5 bv bx bi c0 ak ab b9 bf bB c3 Q bp b7 bA c9 b6;obtain⟨⟨z0,bs,bu,z3,z4,z5,bv,bx⟩,bi⟩:=id da;go_wp2;have R:=db.out;simp only[Ar,zN,zH,nQ]at R;rw[R];obtain⟨ap,az,a1,a6,a7,a8,ba,bb⟩:=bl.1;refine nF (v:=.tuple #[Ao zN zH,.iface 74 (.int .i64 f)]) (by simp[results,results161,go_sem,Ao,zN,zH,ap,az,a1,a6,a7,a8,ba,bb]) rfl ⟨⟨zH,by rw[T.out,PN e6];rfl,by rw[T.out];exact G5 _⟩,bn⟩
   |ok M=>
    rw[hA]at c5;have c6:Calls prog 162 #[.slice F.ak G.length F.ck,.string nm] wr.drew fun e w'=>(∃cb ck,e=.returned (.tuple #[.slice cb M.length ck,.nilIface])∧w'.ownsRow wr.heap.size 73 9 (.slice cb M.length ck) M.length (BH M))∧Below wr.drew.heap.size wr.drew w':=by
     refine c4.mono ?_;rintro e w' ⟨⟨f,q,_⟩|⟨M',v,q,rfl,q2⟩,hb⟩
     ·rw[hA]at q;cases q
     ·rw[hA]at q
      simp only[rE]at q;subst q;obtain⟨cb,ck,dn,_⟩:=Ei q2;subst dn;exact⟨⟨cb,ck,rfl,q2⟩,hb⟩
    have e7:Hid (∀e∈M,Ah (Ag W.cell? S) e.2.1 e.2.2):=by
     intro e e8;simp only[Ed]at hA;split at hA
     ·cases hA
     ·simp only[rE]at hA
      subst hA;exact d1.2 e (aQ e8)
    have ab:wr.drew.cell? ⟨H,I+7,none⟩=some (.slice F.ak G.length F.ck)∧wr.drew.cell? ⟨b,V+j,none⟩=some (.string nm):=⟨bk,c0⟩;have c9:Hid _:=c6;clear hA c4 c6;go_wp2;go_region_held3 (fun w'=>w'.cell? ⟨H,I+7,none⟩=some (.slice F.ak G.length F.ck)∧w'.cell? ⟨b,V+j,none⟩=some (.string nm)) (first|exact ab|exact b9) (first|(go_at_call 162;refine nn c9.out ?_;rintro e O ⟨⟨cb,ck,rfl,bC⟩,ak⟩;have b9:O.cell? ⟨H,I+7,none⟩=some (.slice F.ak G.length F.ck)∧O.cell? ⟨b,V+j,none⟩=some (.string nm):=⟨(ak.cell (p:=⟨H,I+7,none⟩) (ny _ _ ab.1)).trans ab.1,(ak.cell (p:=⟨b,V+j,none⟩) (ny _ _ ab.2)).trans ab.2⟩))
    all_goals
     have Q:Below wr.heap.size wr O:=c3.trans ak;obtain⟨r,fL,q1,q2,c8,q4,q5⟩:=ao.out.fin Q (nl _) e7.out rfl c5.out rfl bC;have e9:O.frozen? ⟨H,I+7,none⟩=false:=(Q.frozen (p:=⟨H,I+7,none⟩) ao.out.atc.lt).trans (b6 _);have T:Hid (Z=.ok r):=by show _=_;rw[←b3.out];exact q1
     obtain⟨fa,fb⟩:=eY.out r T.out;have dd:=b9.1;clear q1 cp cq cr cu cx cA cB bk z0 bs bu z3 z4 z5 bv bx bi c0 ak ab b9 bf c3 Q bp b7 bA c9 b6 bC
     have eH:=Hv (S:=EN J S) (fun k de=>by
      simp[EN]at de;rcases de with de|de
      ·have:=q5.1.lt;omega
      ·have:=ao.out.hS k de;have:=q4.size;omega) c8 fa fb
     have ec:Hid _:=eH;clear eH;generalize eI:O.setCell ⟨H,I+7,none⟩ (.slice cb M.length ck)=cf at q2 c8 q4 q5 ec;have fM:=hid eI;obtain⟨bF,bG,u2,bH,bY,b0,b1,b2⟩:=r;obtain⟨x0,fc,fd,fe,ff,fg,fh,fi⟩:=id q2;go_wp2_with fail
     refine nn ec.out ?_;rintro e cg ⟨⟨h',rfl,fj⟩,ed⟩;have eJ:=q5.below ed;have ak:=q4.trans (ed.mono q4.size);have bl:=eJ.store (.mk bF bG u2 bH bY b0 b1 b2) h';have be:Au (J+1) cg (Ar cg (J+1) (.mk bF bG u2 bH bY b0 b1 b2) h'):=Cf;have bn:=ak.trans (be.below (B:=W.heap.size) (by omega) ak.size);have step:AR (Ag cg.cell? (EN J S)) (Ag (Ar cg (J+1) (.mk bF bG u2 bH bY b0 b1 b2) h').cell? S):=Cb fun q fl eK=>⟨(Ju.1 eK).2,be.block q fl (Ju.1 eK).1⟩;have fm:Ao (.mk bF bG u2 bH bY b0 b1 b2) h'=(AY bF bG u2 bH bY b0 b1 b2 h'):=rfl
     rw[fm];generalize R:Ar cg (J+1) (.mk bF bG u2 bH bY b0 b1 b2) h'=eG at bl be bn step;have db:=hid R;clear R eI x0 fc fd fe ff fg fh fi ec q2 c8 q4 q5 ed e9 dd be;obtain⟨⟨z0,bs,bu,z3,z4,z5,bv,bx⟩,bi⟩:=id eJ;go_wp2;have R:=db.out;simp only[Ar]at R;rw[R];obtain⟨ap,az,a1,a6,a7,a8,ba,bb⟩:=bl.1;refine nF (v:=.tuple #[Ao (.mk bF bG u2 bH bY b0 b1 b2) h',.nilIface]) (by simp[results,results161,go_sem,Ao,ap,az,a1,a6,a7,a8,ba,bb]) rfl ⟨⟨h',by rw[T.out];rfl,?_⟩,bn⟩;rw[T.out];exact fj.on step
  have e5:(j:Int)<(n:Int):=by omega
  obtain⟨nm,aa⟩:∃s,l[j]? =some s:=⟨l[j]'(by omega),np _⟩;obtain⟨ee,dp⟩:∃s,l[j+1]? =some s:=⟨l[j+1]'(by omega),np _⟩;have eL:Hid (l.drop (j+1)=ee::l.drop (j+2)):=by
   show _=_;rw[nN (by omega)];rw[np (by omega)]at dp;simp at dp;rw[dp]
  have cl:Hid (l.drop j=nm::ee::l.drop (j+2)):=by
   show _=_;rw[nN (by omega),eL.out];rw[np (by omega)]at aa;simp at aa;rw[aa]
  rw[cl.out]at ao;have c0:wr.cell? ⟨b,V+j,none⟩=some (.string nm):=(bf.cell (p:=⟨b,V+j,none⟩) (ny _ _ (dk.out j nm aa))).trans (dk.out j nm aa);have co:Hid (∃ad:Nd→Nd,Z=(AG none (nm::ee::l.drop (j+2)) y).map ad):=by
   obtain⟨ad,q,_⟩:=ao.out.wand;exact⟨ad,by rw[←b3.out];exact q⟩
  clear aa dp cl;have eM:H<wr.heap.size:=ao.out.atc.lt;obtain⟨bo,d3,d4,d5,d6,d7,d8,G⟩:=y;obtain⟨cp,cq,cr,cu,cx,cA,cB,bk⟩:=eF;by_cases bg:bo=2;rotate_left
  ·have eb:(bo !=2)=true:=bne_iff_ne.2 bg
   have T:Hid (Z=.error 7):=by
    obtain⟨ad,q⟩:=co.out;show _=_;rw[q,AG,nC (by exact bg)];rfl
   clear bg;go_wp2;have bd:=b7.out;simp only[Ar,zN,zH]at bd;simp only[nQ]at bd;rw[bd];obtain⟨ap,az,a1,a6,a7,a8,ba,bb⟩:=bp.1;refine nF (v:=.tuple #[Ao zN zH,Am 7]) (by simp[results,results161,go_sem,Ao,zN,zH,Am,ap,az,a1,a6,a7,a8,ba,bb]) rfl (bA.out 7 (by decide) T.out)
  subst bg;have eb:((2:Int)!=2)=false:=rfl
  have eN:Calls prog 137 #[.slice F.ak G.length F.ck,.string nm] wr fun e w'=>e=.returned (.int .i64 (Bl nm G 0))∧Below wr.heap.size wr w':=JT F.ak F.ck G nm wr (by exact nO es (by decide)) (by
   have q:=IB d9;rw[dm.out]at q;exact q)
  have dr:Hid _:=eN;clear eN;rcases Hw nm G 0 with⟨ef,_⟩|⟨p,z,eg,hx,_⟩
  ·have ds:Hid (Bl nm G 0=-1):=ef
   have T:Hid (Z=.error 5):=by
    obtain⟨ad,q⟩:=co.out;show _=_;rw[q,AG,nB (by show¬(2:Int)≠2;simp),nC (by show Bl nm G 0<0;rw[ef];decide)];rfl
   clear ef;go_wp2_with fail
   refine nn dr.out ?_;rintro e O ⟨rfl,Q⟩;rw[ds.out];have da:=ao.out.res.below Q;have bB:=bf.trans (Q.mono bf.size);have bl:=da.store zN zH;have be:Au (J+1) O (Ar O (J+1) zN zH):=Cf;have bn:=bB.trans (be.below (B:=W.heap.size) (by omega) bB.size);generalize R:Ar O (J+1) zN zH=eG at bl bn;have db:=hid R;clear R be cp cq cr cu cx cA cB bk z0 bs bu z3 z4 z5 bv bx bi c0 bf bB Q bp b7 bA b6 dr;obtain⟨⟨z0,bs,bu,z3,z4,z5,bv,bx⟩,bi⟩:=id da;go_wp2;have R:=db.out;simp only[Ar,zN,zH,nQ]at R;rw[R];obtain⟨ap,az,a1,a6,a7,a8,ba,bb⟩:=bl.1;refine nF (v:=.tuple #[Ao zN zH,.iface 74 (.int .i64 5)]) (by simp[results,results161,go_sem,Ao,zN,zH,ap,az,a1,a6,a7,a8,ba,bb]) rfl ⟨⟨zH,by rw[T.out];rfl,by rw[T.out];exact G5 _⟩,bn⟩
  rw[nT]at eg;have ds:=hid eg;have fN:p<G.length:=(nw.1 hx).1;have fo:cnt z≤800:=by
   have q1:=Iw hx;rw[cnt]at er;omega
  obtain⟨⟨fp,eO,fq⟩,ej⟩:∃e,L[p]? =some e:=⟨L[p]'(by have:=b5.out;simp only[Nd.kids]at this;omega),np _⟩;have fs:fp=nm∧eO=z:=by
   have q:=dm.out;have q2:(bare L)[p]? =some (nm,z):=by rw[q];exact hx
   unfold bare at q2;rw[n4,ej]at q2;simpa using q2
  obtain⟨rfl,rfl⟩:=fs;have ft:=hid ej;have fu:L.length≤1000:=by rw[←b5.out];exact nO es (by decide)
  clear eg hx ej;have fO:decide ((p:Int)<0)=false:=nA (by omega);have fP:(p:Int)<(G.length:Int):=by omega
  go_wp2_with fail
  refine nn dr.out ?_;rintro e O ⟨rfl,Q⟩;rw[ds.out];have dd:O.cell? ⟨H,I+7,none⟩=some (.slice F.ak G.length F.ck):=(Q.cell (p:=⟨H,I+7,none⟩) eM).trans bk;have eP:=d9.on (Aj Q);have ek:=MJ F.ak F.ck L O fu eP;have eQ:L.length=G.length:=b5.out.symm;rw[eQ]at ek;have eR:Hid _:=ek;clear ek eQ cp cq cr cu cx cA cB bk z0 bs bu z3 z4 z5 bv bx bi c0 bp b7 bA dr eP;go_wp2_with fail
  refine nn eR.out ?_;rintro e cf ⟨⟨v,rfl,bC⟩,el⟩;obtain⟨a3,du,dn,_,_,fv⟩:=Ei bC;rcases fv with⟨_,q,_⟩|⟨g3,rfl,fQ,_,_,_⟩
  ·omega
  rw[dn]at bC⊢;clear dn;have em:=Q.trans (el.mono Q.size);have eS:cf.cell? ⟨H,I+7,none⟩=some (.slice F.ak G.length F.ck):=(el.cell (p:=⟨H,I+7,none⟩) (ny _ _ dd)).trans dd;have fw:cf.frozen? ⟨H,I+7,none⟩=false:=(em.frozen (p:=⟨H,I+7,none⟩) eM).trans (b6 _);have dw:=ao.out.step em Q.size dm.out d1.2 rfl ds.out ft.out bC;have eT:(cf.setCell ⟨H,I+7,none⟩ (.slice (some ⟨g3,0,none⟩) G.length du)).cell? ⟨H,I+7,none⟩=some (.slice (some ⟨g3,0,none⟩) G.length du):=nH _ _ _ eS;rw[←eL.out]at dw;change EX W (cf.setCell ⟨H,I+7,none⟩ (.slice (some ⟨g3,0,none⟩) G.length du)) S J _ _ _ _ _ _ _ _ at dw;generalize fx:cf.setCell ⟨H,I+7,none⟩ (.slice (some ⟨g3,0,none⟩) G.length du)=cg at dw eT;clear bC Q el em dd eR b6;go_wp2;clear fx eS eT fw;go_roundw
  case rel=>exact⟨j+1,g3,p*9+1,eO,fq,by omega,by go_num,by first|rfl|simp,dw,fo⟩
  case measure=>simp[intOf];omega
end Go.Proofs.YtgppjbhaimmlpaaGreatDoor
