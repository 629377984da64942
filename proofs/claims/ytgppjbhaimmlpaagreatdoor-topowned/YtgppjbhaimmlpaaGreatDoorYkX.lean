/-
  TopOwned: Yk Yv Ys Yw.
-/
import Derived.Test.YtgppjbhaimmlpaaGreatDoorApX
import Derived.Test.YtgppjbhaimmlpaaGreatDoorVeX
import Derived.Test.YtgppjbhaimmlpaaGreatDoorCcX
import Derived.Test.YtgppjbhaimmlpaaGreatDoorYpX
set_option maxRecDepth 100000
set_option maxHeartbeats 16000000
namespace Go.Proofs.YtgppjbhaimmlpaaGreatDoor
open Go.RowKit Go.Proofs.Tryz
theorem CC.below{B:Bx}{w w':World}{p:BA}{F:Bool}{e:Ending}(h:CC B w p F e)(hb:Bw w w'):CC B w' p F e:=by
 obtain⟨cs,E,G,H,I,J⟩:=h;refine⟨cs,E,G,H,I,fun e=>?_⟩;obtain⟨f,O,Q,R,T,V,f6,Y⟩:=J e;exact⟨f,O,Q,R,T.on (Aj hb),V,⟨f6.t,f6.dir,f6.nd.on (Aj hb),f6.there,f6.no⟩,Y⟩
theorem CC.set{B:Bx}{w:World}{p:BA}{G:Bool}{e:Ending}(h:CC B w p G e)(Q:∀s∈BJ p.data.toList,s≠⟨#[]⟩){n:Nat}(H:∀o,w.cell? ⟨n,o,none⟩=([.bool false,.int .i64 0,.int .i64 0,.int .i64 0,.bool false,.bool false,.int .i64 0,.int .i64 0,.int .i64 0,.bool false,.slice none 0 0,.bool false,.int .i64 0,.int .i64 0,.int .i64 0,.int .i64 0,.bool false,.slice none 0 0,.string ⟨#[]⟩,.slice none 0 0,.int .i64 0]:List Value)[o]?)(R:List Value):CC B (w.setCells n 0 R) p G e:=by
 obtain⟨cs,E,T,V,Y,Z⟩:=h;refine⟨cs,E,T,V,Y,fun e=>?_⟩;obtain⟨f,aa,ab,I,ad,ak,f6,ao⟩:=Z e
 refine⟨f,aa,ab,I,?_,ak,⟨f6.t,f6.dir,(GY (fun ap az=>by
  have e:ap=n:=by simpa using az
  subst e;exact Lh H) f6.nd).on (Jh (nt _ _)),f6.there,f6.no⟩,ao⟩
 rcases ad with e|⟨J,a1,a6,O⟩
 ·exact .inl e
 ·refine .inr ⟨J,a1,a6,fun i s F=>(BM ?_).trans (O i s F)⟩
  intro e;have e:J=n:=e;subst e;exact Q s (by rw[←I];exact nD F) (LH ((H _).symm.trans (O i s F)))
theorem QX{w:World}{b:Nat}{B:Bx}{x0:Nd}{ni:List Nd}(h:A5 w b B)(bf:BS B x0 ni)(ao:BA)(dir:Bool)(bY:Int)(b0:w.cell? ⟨0,0,none⟩=some (.int .i64 bY)):
 Calls prog 35 #[.pointer (some ⟨b,0,none⟩),.string ao,.bool dir] w fun e w'=>CC B w' ao true e∧Bw w w':=by
 have bg:Bw w (w.alloc AF):=(nt _ _).alloc (nl _) _;have bk:=hid bg;have bl:=hid (A6.new w _ rfl CB 86);have b1:Hid (∀q,(w.alloc AF).frozen? ⟨w.heap.size,q,none⟩=false):=fun q=>nP _ _ _ _ rfl;have cx:Hid (∀o,(w.alloc AF).cell? ⟨w.heap.size,o,none⟩=CB[o]?):=fun o=>by rw[nk _ _ _ _ rfl];simp
 have b2:Hid (Calls prog 33 #[.pointer (some ⟨b,0,none⟩),.string ao] (w.alloc AF) fun e w'=>CC B w' ao true e∧Bw (w.alloc AF) w'):=by
  refine nn (Jt (h.below bg) bf.good ao (C7 _).1 (C7 _).2 bY (Ad bg b0)) ?_;rintro e w' ⟨cA,cB⟩;exact⟨IF bf.good cA,cB⟩
 have c3:=hid h;have ds:=hid bf;clear h bf bg b0;go_enter func35,ntmps35;go_upto_region 1 with fail
 generalize(w.alloc AF)=b3 at*;go_wp2_with fail
 refine nn b2.out ?_;rintro e F ⟨c4,q2⟩;clear b2;obtain⟨cs,E,rfl,bn,b4,b5⟩:=c4;obtain⟨G,bo,O,bp,c5⟩:=FV F cs bn b4;have bs:=BT cs;unfold Value.cells at bs;have a6:=hid bn;have ap:=hid (q2.trans (bp.out.mono q2.size));have a7:=hid (bk.out.trans (ap.out.mono bk.out.size));have b6:Hid _:=b5;have du:=hid (nO bk.out.size q2.size);clear b4 b5 bn;have a8:w.heap.size<b3.heap.size:=ny b3 ⟨w.heap.size,0,none⟩ (bl.out 0 _ rfl);have dw:=nG a8 q2.size;have ba:=hid (bl.out.below ap.out);have bu:Hid (∀q,G.frozen? ⟨w.heap.size,q,none⟩=false):=fun q=>(ap.out.frozen (p:=⟨w.heap.size,q,none⟩) a8).trans (b1.out q);clear bl b1
 by_cases bv:E=0
 ·subst bv
  obtain⟨f,Q,b7,b9,cb,cf,Z,cg⟩:=b6.out rfl;clear b6;obtain⟨⟨I,R,T,tg,V⟩,dx,na,nc,nf,dy,⟨dz,d0,d1,d2,d3,d4,d5,xs⟩,d6,ly⟩:=f;have ch:=Z.t;dsimp only at ch;have c6:Ce G F.heap.size 0 (.bool I):=O.out 0 _ (by rw[Q];rfl);have c8:Ce G F.heap.size 1 (.int .i64 R):=O.out 1 _ (by rw[Q];rfl);have c9:Ce G F.heap.size 2 (.int .i64 T):=O.out 2 _ (by rw[Q];rfl);have da:Ce G F.heap.size 3 (.int .i64 tg):=O.out 3 _ (by rw[Q];rfl);have db:Ce G F.heap.size 4 (.bool V):=O.out 4 _ (by rw[Q];rfl);rw[show Am 0=Value.nilIface from rfl];have dd:Hid (∀w',Bw F w'→∀az,CC B w' ao true (.returned (.tuple #[BK cs,Am az]))):=fun w' hb az=>⟨cs,az,rfl,a6.out,by rw[Q];exact Ej _,fun e=>⟨_,Q,b7,b9,cb.on (Aj hb),cf,⟨Z.t,Z.dir,Z.nd.on (Aj hb),Z.there,Z.no⟩,cg⟩⟩;have de:Hid (∀v∈cs,v.oneCell'=true):=by rw[Q];exact Ej _
  clear Q b7 b9 cb cf Z cg c5;by_cases bx:I=dir
  ·subst bx
   have dg:=hid (IC ((c3.out.below a7.out).below (nt _ _).drew) ⟨I,R,T,tg,V⟩ 4 ch.1);generalize B.mayE ⟨I,R,T,tg,V⟩ 4=az at*;have aa:G.drew.rangeAt F.heap.size 0 cs∧Ce G.drew F.heap.size 0 (.bool I)∧Ce G.drew F.heap.size 1 (.int .i64 R)∧Ce G.drew F.heap.size 2 (.int .i64 T)∧Ce G.drew F.heap.size 3 (.int .i64 tg)∧Ce G.drew F.heap.size 4 (.bool V):=⟨O.out,c6,c8,c9,da,db⟩;have d7:=hid O.out;clear O;have d8:(I !=I)=false:=by simp
   have d9:(I==I)=true:=by simp
   skip
   all_goals
    go_upto_region 6 with fail
    clear bo;refine wp_region_held_drew (S:=fun w'=>w'.rangeAt F.heap.size 0 cs∧Ce w' F.heap.size 0 (.bool I)∧Ce w' F.heap.size 1 (.int .i64 R)∧Ce w' F.heap.size 2 (.int .i64 T)∧Ce w' F.heap.size 3 (.int .i64 tg)∧Ce w' F.heap.size 4 (.bool V)) (by kernel_rfl) aa (fun bi=>?_);refine nS (i:=0) (oi:=_) (v:=BK cs) rfl (by kernel_rfl) (by kernel_rfl) (by kernel_rfl) (fun _ _ _ h=>h) (yieldsIf_load_mid (by rfl) _ _ rfl _ _ rfl cs _ (fun w h=>h.1) underlying86 rfl (by rw[a6.out];rfl)) bi ?_;simp only[Act.put,List.setIfInBounds_toArray];refine nS (i:=1) (oi:=_) (v:=.pointer (some ⟨b,0,none⟩)) rfl (by kernel_rfl) (by kernel_rfl) (by kernel_rfl) (fun _ _ _ h=>h) (Or.inl ⟨by rfl,fun w dj=>by go_simp⟩) bi ?_;simp only[Act.put];refine nS (i:=2) (oi:=_) (v:=.pointer (some ⟨F.heap.size,0,none⟩)) rfl (by kernel_rfl) (by kernel_rfl) (by kernel_rfl) (fun _ _ _ h=>h) (Or.inl ⟨by rfl,fun w dj=>by go_simp⟩) bi ?_;simp only[Act.put];refine tI 3 _ (.agg #[.bool I,.int .i64 R,.int .i64 T,.int .i64 tg,.bool V]) bi ?_;simp only[Act.put];refine wpAnyH_ready (rs:=[4]) (by kernel_rfl) (by simp) ?_;refine AllReadyH.cons (o:=_) rfl (fun K Y=>?_) AllReadyH.nil;rw[nC (by rfl)];go_simp;refine nn dg.out ?_;rintro e H ⟨rfl,J⟩;have ab:H.rangeAt F.heap.size 0 cs∧Ce H F.heap.size 0 (.bool I)∧Ce H F.heap.size 1 (.int .i64 R)∧Ce H F.heap.size 2 (.int .i64 T)∧Ce H F.heap.size 3 (.int .i64 tg)∧Ce H F.heap.size 4 (.bool V):=⟨A6.below aa.1 J,Ad J aa.2.1,Ad J aa.2.2.1,Ad J aa.2.2.2.1,Ad J aa.2.2.2.2.1,Ad J aa.2.2.2.2.2⟩;have cl:=hid ((ba.out.below (nt _ _).drew).below J);have dk:Hid (∀q,H.frozen? ⟨w.heap.size,q,none⟩=false):=fun q=>(J.frozen (p:=⟨w.heap.size,q,none⟩) (nG a8 ap.out.size)).trans (bu.out q);have ea:=Cd (P:=prog) cl.out dk.out (by rw[a6.out];rfl) de.out
    have co:=hid (C5 cs cl.out (by rw[a6.out];rfl));have cp:Hid (Bw w (H.setCells w.heap.size 0 cs)):=CP cs (nl _) (a7.out.trans (((nt _ G).drew.trans J).mono a7.out.size));have a1:∀o,(H.setCells w.heap.size 0 cs).cell? ⟨F.heap.size,o,none⟩=H.cell? ⟨F.heap.size,o,none⟩:=fun o=>BM (by show F.heap.size≠w.heap.size;omega);have cq:(H.setCells w.heap.size 0 cs).rangeAt F.heap.size 0 cs∧Ce (H.setCells w.heap.size 0 cs) F.heap.size 0 (.bool I)∧Ce (H.setCells w.heap.size 0 cs) F.heap.size 1 (.int .i64 R)∧Ce (H.setCells w.heap.size 0 cs) F.heap.size 2 (.int .i64 T)∧Ce (H.setCells w.heap.size 0 cs) F.heap.size 3 (.int .i64 tg)∧Ce (H.setCells w.heap.size 0 cs) F.heap.size 4 (.bool V):=⟨fun j v dm=>(a1 _).trans (ab.1 j v dm),(a1 _).trans ab.2.1,(a1 _).trans ab.2.2.1,(a1 _).trans ab.2.2.2.1,(a1 _).trans ab.2.2.2.2.1,(a1 _).trans ab.2.2.2.2.2⟩
    have cr:=hid ((dd.out H (bp.out.trans (((nt _ G).drew.trans J).mono bp.out.size)) az).set (C7 _).2 (fun o=>(J.cell (p:=⟨w.heap.size,o,none⟩) (nG a8 ap.out.size)).trans ((ap.out.cell (p:=⟨w.heap.size,o,none⟩) a8).trans (cx.out o))) cs);go_wp2_with fail
    refine Y.out _ _ ab (fun eb=>?_);clear Y K;refine wpAnyH_ready (rs:=[5]) (by kernel_rfl) (by simp) ?_;refine AllReadyH.cons (o:=_) rfl (fun K Y=>?_) AllReadyH.nil;rw[nC (by rfl)];go_simp;refine Y.out _ _ cq (fun ec=>?_);clear Y K;refine wpAnyH_ready (rs:=[6]) (by kernel_rfl) (by simp) ?_;refine AllReadyH.cons (o:=_) rfl (fun K Y=>?_) AllReadyH.nil;rw[nC (by rfl)];go_simp;refine Y.out _ _ cq (fun ed=>?_);clear Y K;refine rN (by kernel_rfl) ?_ _;generalize H.setCells w.heap.size 0 cs=dn at co cp cr⊢;have dp:=run_loadVar_mid (P:=prog) dn w.heap.size 0 86 cs _ co.out rfl rfl (by rw[a6.out];rfl);go_wp2;refine nF (v:=.tuple #[.agg cs.toArray,Am az]) ?_ rfl ⟨cr.out,cp.out⟩;simp[results,results35,asAddr,dp]
  ·have ee:(I !=dir)=true:=by simp[bx]
   have ef:(I==dir)=false:=by simpa using bx
   go_upto_region 5 with fail
   clear bo bs O;obtain⟨c0,ad,ak,bA⟩:=z21;have bb:=hid ad;have bB:=hid ak;have bC:=Cd (P:=prog) (ba.out) (bu.out) ad.symm ak;have bd:=hid (C5 c0 (ba.out) ad.symm);have be:Hid (Bw w (G.setCells (w.heap.size) 0 c0)):=CP c0 (nl _) (a7.out);generalize G.setCells (w.heap.size) 0 c0=bF at bC bd be;have bG:=run_loadVar_mid (P:=prog) bF (w.heap.size) 0 86 c0 _ bd.out rfl rfl (by rw[bb.out];rfl);have dr:=bA.out;have bH:=BT c0;unfold Value.cells at bH;clear ak;go_wp2;refine nF (v:=.tuple #[.agg c0.toArray,.iface 74 (.int .i64 7)]) ?_ rfl ⟨⟨c0,7,rfl,bb.out,bB.out,fun e=>absurd e (by decide)⟩,be.out⟩;simp[results,results35,asAddr,bG]
 ·have cu:=AH (n:=E) rfl bv
  rw[cu];go_upto_region 3 with fail
  clear bo bs O;obtain⟨c0,ad,ak,bA⟩:=z21;have bb:=hid ad;have bB:=hid ak;have bC:=Cd (P:=prog) (ba.out) (bu.out) ad.symm ak;have bd:=hid (C5 c0 (ba.out) ad.symm);have be:Hid (Bw w (G.setCells (w.heap.size) 0 c0)):=CP c0 (nl _) (a7.out);generalize G.setCells (w.heap.size) 0 c0=bF at bC bd be;have bG:=run_loadVar_mid (P:=prog) bF (w.heap.size) 0 86 c0 _ bd.out rfl rfl (by rw[bb.out];rfl);have dr:=bA.out;have bH:=BT c0;unfold Value.cells at bH;clear ak;go_wp2;refine nF (v:=.tuple #[.agg c0.toArray,.iface 74 (.int .i64 E)]) ?_ rfl ⟨⟨c0,E,by rw[cu];rfl,bb.out,bB.out,fun e=>absurd e (bv)⟩,be.out⟩;simp[results,results35,asAddr,bG]
structure DK (w W:World) (ra rb:Nat) (vs us:List Value):Prop where
 bel:Bw w W
 ga:w.heap.size≤ra
 gb:w.heap.size≤rb
 ne:ra≠rb
 a:∀o,W.cell? ⟨ra,o,none⟩=vs[o]?
 b:∀o,W.cell? ⟨rb,o,none⟩=us[o]?
 fa:∀q,W.frozen? ⟨ra,q,none⟩=false
 fb:∀q,W.frozen? ⟨rb,q,none⟩=false
 la:vs.length=21
 lb:us.length=21
theorem DK.rowA{w W:World}{F H:Nat}{G us:List Value}(h:DK w W F H G us):A6 W F 0 G:=fun i v I=>by rw[nT,h.a,I]
theorem DK.rowB{w W:World}{G F:Nat}{H us:List Value}(h:DK w W G F H us):A6 W F 0 us:=fun i v I=>by rw[nT,h.b,I]
theorem DK.lta{w W:World}{F H:Nat}{G us:List Value}(h:DK w W F H G us):F<W.heap.size:=ny W ⟨F,0,none⟩ (h.rowA 0 (G[0]'(by rw[h.la];omega)) (np (by rw[h.la];omega)))
theorem DK.ltb{w W:World}{G F:Nat}{H us:List Value}(h:DK w W G F H us):F<W.heap.size:=ny W ⟨F,0,none⟩ (h.rowB 0 (us[0]'(by rw[h.lb];omega)) (np (by rw[h.lb];omega)))
theorem DK.below{w W H:World}{F G:Nat}{I us:List Value}(h:DK w W F G I us)(hb:Bw W H):DK w H F G I us:=
 ⟨h.bel.trans (hb.mono h.bel.size),h.ga,h.gb,h.ne,fun o=>(hb.cell (p:=⟨F,o,none⟩) h.lta).trans (h.a o),fun o=>(hb.cell (p:=⟨G,o,none⟩) h.ltb).trans (h.b o),fun o=>(hb.frozen (p:=⟨F,o,none⟩) h.lta).trans (h.fa o),fun o=>(hb.frozen (p:=⟨G,o,none⟩) h.ltb).trans (h.fb o),h.la,h.lb⟩
theorem NQ{W:World}{r:Nat}{F cs:List Value}(H:∀o,W.cell? ⟨r,o,none⟩=F[o]?)(h:F.length=cs.length)(o:Nat):(W.setCells r 0 cs).cell? ⟨r,o,none⟩=cs[o]?:=by
 have I:A6 W r 0 F:=fun i v J=>by rw[nT,H,J]
 rcases Nat.lt_or_ge o cs.length with G|G
 ·have e:=C5 cs I h o cs[o] (np G)
  rw[nT]at e;rw[e,np G]
 ·rw[←Hz,IA _ _ _ (fun j O e=>by injection e with _ e2;omega),H,List.getElem?_eq_none (by omega),List.getElem?_eq_none (by omega)]
theorem DK.setA{w W:World}{F G:Nat}{I us:List Value}(h:DK w W F G I us)(cs:List Value)(H:cs.length=21):DK w (W.setCells F 0 cs) F G cs us:=
 ⟨CP cs h.ga h.bel,h.ga,h.gb,h.ne,NQ h.a (by rw[H,h.la]),fun o=>(BM (fun e=>h.ne e.symm)).trans (h.b o),fun q=>by rw[rl];exact h.fa q,fun q=>by rw[rl];exact h.fb q,H,h.lb⟩
theorem DK.setB{w W:World}{G F:Nat}{H us:List Value}(h:DK w W G F H us)(cs:List Value)(I:cs.length=21):DK w (W.setCells F 0 cs) G F H cs:=
 ⟨CP cs h.gb h.bel,h.ga,h.gb,h.ne,fun o=>(BM (fun e=>h.ne e)).trans (h.a o),NQ h.b (by rw[I,h.lb]),fun q=>by rw[rl];exact h.fa q,fun q=>by rw[rl];exact h.fb q,h.la,I⟩
theorem Le{W:World}{r:Nat}{cs:List Value}(G:∀o,W.cell? ⟨r,o,none⟩=cs[o]?):AR W.cell? (W.setCells r 0 cs).cell?:=fun q v F=>by
 obtain⟨H,J,I⟩:=q;by_cases hb:H=r
 ·subst hb
  cases I with
  |none=>rw[NQ G rfl,←G];exact F
  |some s=>rw[←Hz,IA _ _ _ (fun j _ e=>by injection e with _ _ e3;cases e3)];exact F
 ·exact(BM hb).trans F
theorem CC.mle{B:Bx}{w w':World}{p:BA}{F:Bool}{e:Ending}(h:CC B w p F e)(hb:AR w.cell? w'.cell?):CC B w' p F e:=by
 obtain⟨cs,E,G,H,I,J⟩:=h;refine⟨cs,E,G,H,I,fun e=>?_⟩;obtain⟨f,O,Q,R,T,V,f6,Y⟩:=J e;exact⟨f,O,Q,R,T.on hb,V,⟨f6.t,f6.dir,f6.nd.on hb,f6.there,f6.no⟩,Y⟩
theorem CC.open{B:Bx}{w:World}{p:BA}{H:Bool}{cs:List Value}(h:CC B w p H (.returned (.tuple #[BK cs,Am 0]))):∃f:Fd,cs=f.l∧Db p.data.toList=0∧f.nf=BJ p.data.toList∧A0 w.cell? f.na f.nf∧(f.nf.length≤f.nc∧f.nc≤9223372036854775807)∧GL B w f.nf f∧(H=true→f.there=true):=by
 obtain⟨J,O,F,_,_,Q⟩:=h;injection F with F
 injection F with F
 have G:=nV Array.toList F;injection G with he2 G
 injection G with he3 _
 have R:cs=J:=by
  unfold BK at he2;injection he2 with he2
  exact List.toArray_inj he2
 have T:(0:Int)=O:=RD he3;obtain⟨f,I,V⟩:=Q T.symm;rw[←R]at I;exact⟨f,I,V⟩
def Vr(B:Bx)(w:World)(p o:BA)(e:Ending):Prop:=∃cs F E,e=.returned (.tuple #[BK cs,BK F,Am E])∧(cs.length=21∧F.length=21)∧((∀v∈cs,v.oneCell'=true)∧∀v∈F,v.oneCell'=true)∧(E=0→(p.data.toList≠[47]∧o.data.toList≠[47])∧CC B w p true (.returned (.tuple #[BK cs,Am 0]))∧CC B w o false (.returned (.tuple #[BK F,Am 0])))
theorem Ra{w:World}{b:Nat}{B:Bx}(h:A5 w b B)(J:Ik B){p:BA}(O:Db p.data.toList=0){an:Option Addr}{nj:Nat}{N:List BA}(Q:BJ p.data.toList=N)(G:A0 w.cell? an N)(H:N.length≤nj∧nj≤9223372036854775807):
 Calls prog 114 #[.pointer (some ⟨b,0,none⟩),.slice an N.length nj] w fun e w'=>(∃cs E F,e=.returned (.tuple #[BK cs,Am E])∧FE B w' p (.returned (.tuple #[BK cs,Am E]))∧cs.length=21∧(∀v∈cs,v.oneCell'=true)∧cs[11]? =some (.bool F))∧Bw w w':=by
 subst Q;refine nn (SA h J (an:=an) (nj:=nj) (nf:=BJ p.data.toList) G (C7 _).1) ?_;rintro e w' ⟨R,c⟩;have I:FE B w' p e:=.inr ⟨O,an,nj,G.on (Aj c),H.1,H.2,R⟩;obtain⟨cs,E,F,rfl,T,V,Y⟩:=I.form;exact⟨⟨cs,E,F,rfl,I,T,V,Y⟩,c⟩
theorem YJ{w:World}{b:Nat}{B:Bx}{x0:Nd}{ni:List Nd}(h:A5 w b B)(d5:BS B x0 ni){ak ao ap:Int}{T R az a1:BA}(c3:Int)(c4:w.cell? ⟨0,0,none⟩=some (.int .i64 c3)):
 Calls prog 83 #[.pointer (some ⟨b,0,none⟩),.agg #[.int .i64 ak,.string T,.string R,.string az,.string a1,.int .i64 ao,.int .i64 ap]] w fun e w'=>Vr B w' T R e∧Bw w w':=by
 have bH:Bw w (w.alloc (Ax ak T R az a1 ao ap)):=(nt _ _).alloc (nl _) _;have cg:Bw w (((w.alloc (Ax ak T R az a1 ao ap)).alloc AF).alloc AF):=(bH.alloc bH.size _).alloc (bH.alloc bH.size _).size _;have c5:Ce (((w.alloc (Ax ak T R az a1 ao ap)).alloc AF).alloc AF) w.heap.size 1 (.string T):=Ay (Ay (nk _ _ _ _ rfl));have ch:Ce (((w.alloc (Ax ak T R az a1 ao ap)).alloc AF).alloc AF) w.heap.size 2 (.string R):=Ay (Ay (nk _ _ _ _ rfl));have be:Hid (DK w (((w.alloc (Ax ak T R az a1 ao ap)).alloc AF).alloc AF) (w.heap.size+1) (w.heap.size+1+1) CB CB):=by
  have c6:(w.alloc (Ax ak T R az a1 ao ap)).heap.size=w.heap.size+1:=nv _ _;have d6:((w.alloc (Ax ak T R az a1 ao ap)).alloc AF).heap.size=w.heap.size+1+1:=by rw[nv,c6]
  have d7:Bw ((w.alloc (Ax ak T R az a1 ao ap)).alloc AF) (((w.alloc (Ax ak T R az a1 ao ap)).alloc AF).alloc AF):=(nt _ _).alloc (nl _) _;refine⟨cg,by omega,by omega,by omega,fun o=>?_,fun o=>?_,fun q=>?_,fun q=>?_,rfl,rfl⟩
  ·rw[d7.cell (p:=⟨w.heap.size+1,o,none⟩) (by show w.heap.size+1<_;omega),nk _ _ _ _ c6.symm];simp
  ·rw[nk _ _ _ _ d6.symm];simp
  ·rw[d7.frozen (p:=⟨w.heap.size+1,q,none⟩) (by show w.heap.size+1<_;omega)];exact nP _ _ _ _ c6.symm
  ·exact nP _ _ _ _ d6.symm
 have c8:=hid h;have cl:=hid d5;have c9:Hid (∀bo s,Calls prog 78 #[.string s] bo fun e w'=>(∃r,e=.returned (.bool r)∧(r=false→s.data.toList≠[47]))∧bo=w'):=fun bo s=>P4 bo s;have da:Hid _:=Mt T (((w.alloc (Ax ak T R az a1 ao ap)).alloc AF).alloc AF) c3 (Ad cg c4)
 obtain⟨bi,d8⟩:∃bi,Hid (Db T.data.toList=bi):=⟨_,rfl⟩;obtain⟨N,d9⟩:∃N,Hid (BJ T.data.toList=N):=⟨_,rfl⟩;rw[d8.out,d9.out]at da;have ea:=hid (Ad cg c4);clear h d5 cg bH c4;go_enter func83,ntmps83;go_upto_region 1 with fail
 generalize(((w.alloc (Ax ak T R az a1 ao ap)).alloc AF).alloc AF)=bo at*;generalize w.heap.size+1+1=V at*;generalize w.heap.size+1=O at*;go_wp2_with fail
 refine nn (c9.out _ _) ?_;rintro e eH ⟨⟨r,rfl,bp⟩,rfl⟩;cases r with
 |true=>
  clear bp c5 ch;go_upto_region 2 with fail
  obtain⟨c0,G,H,a6⟩:=z21;have I:=hid G;have Y:=hid H;have a7:=Cd (P:=prog) be.out.rowA be.out.fa (be.out.la.trans G.symm) H;have F:=hid (be.out.setA c0 G);generalize bo.setCells O 0 c0=a8 at a7 F;have ba:=Cd (P:=prog) F.out.rowB F.out.fb (F.out.lb.trans G.symm) H;have J:=hid (F.out.setB c0 G);generalize a8.setCells V 0 c0=Q at ba J;have ab:=run_loadVar_mid (P:=prog) Q O 0 86 c0 _ J.out.rowA rfl rfl (by rw[I.out];rfl);have ad:=run_loadVar_mid (P:=prog) Q V 0 86 c0 _ J.out.rowB rfl rfl (by rw[I.out];rfl);have bY:=a6.out;have bb:=BT c0;unfold Value.cells at bb;clear H F;go_wp2;refine nF (v:=.tuple #[.agg c0.toArray,.agg c0.toArray,.iface 74 (.int .i64 15)]) ?_ rfl ⟨⟨c0,c0,15,rfl,⟨I.out,I.out⟩,⟨Y.out,Y.out⟩,fun e=>absurd e (by decide)⟩,J.out.bel⟩;simp[results,results83,asAddr,ab,ad]
 |false=>
  have eI:=hid (bp rfl);clear bp;go_wp2_with fail
  refine nn (c9.out _ _) ?_;rintro e eH ⟨⟨r,rfl,bp⟩,rfl⟩;cases r with
  |true=>
   clear bp c5 ch;go_upto_region 2 with fail
   obtain⟨c0,G,H,a6⟩:=z21;have I:=hid G;have Y:=hid H;have a7:=Cd (P:=prog) be.out.rowA be.out.fa (be.out.la.trans G.symm) H;have F:=hid (be.out.setA c0 G);generalize bo.setCells O 0 c0=a8 at a7 F;have ba:=Cd (P:=prog) F.out.rowB F.out.fb (F.out.lb.trans G.symm) H;have J:=hid (F.out.setB c0 G);generalize a8.setCells V 0 c0=Q at ba J;have ab:=run_loadVar_mid (P:=prog) Q O 0 86 c0 _ J.out.rowA rfl rfl (by rw[I.out];rfl);have ad:=run_loadVar_mid (P:=prog) Q V 0 86 c0 _ J.out.rowB rfl rfl (by rw[I.out];rfl);have bY:=a6.out;have bb:=BT c0;unfold Value.cells at bb;clear H F;go_wp2;refine nF (v:=.tuple #[.agg c0.toArray,.agg c0.toArray,.iface 74 (.int .i64 15)]) ?_ rfl ⟨⟨c0,c0,15,rfl,⟨I.out,I.out⟩,⟨Y.out,Y.out⟩,fun e=>absurd e (by decide)⟩,J.out.bel⟩;simp[results,results83,asAddr,ab,ad]
  |false=>
   have eJ:=hid (bp rfl);clear bp c9;go_wp2_with fail
   refine nn da.out ?_;rintro e db ⟨⟨eb,ec,rfl,b0,b1,b2⟩,c2⟩;have bA:=hid (be.out.below c2);have ed:=Ad c2 ch;have dd:Hid _:=Mt R db c3 (Ad c2 ea.out);obtain⟨co,ee⟩:∃bi,Hid (Db R.data.toList=bi):=⟨_,rfl⟩;obtain⟨cp,de⟩:∃N,Hid (BJ R.data.toList=N):=⟨_,rfl⟩;rw[ee.out,de.out]at dd;have eK:Hid (N.length≤ec∧ec≤9223372036854775807):=⟨b0,b1⟩;have b3:Hid (A0 db.cell? eb N):=b2;clear da c2 c5 ch b0 b1 b2 ea be;by_cases hF:bi=0
   case neg=>
    have bd:=AH (n:=bi) rfl hF;rw[bd];clear ed;go_upto_region 5 with fail
    obtain⟨c0,G,H,a6⟩:=z21;have I:=hid G;have Y:=hid H;have a7:=Cd (P:=prog) bA.out.rowA bA.out.fa (bA.out.la.trans G.symm) H;have F:=hid (bA.out.setA c0 G);generalize db.setCells O 0 c0=a8 at a7 F;have ba:=Cd (P:=prog) F.out.rowB F.out.fb (F.out.lb.trans G.symm) H;have J:=hid (F.out.setB c0 G);generalize a8.setCells V 0 c0=Q at ba J;have ab:=run_loadVar_mid (P:=prog) Q O 0 86 c0 _ J.out.rowA rfl rfl (by rw[I.out];rfl);have ad:=run_loadVar_mid (P:=prog) Q V 0 86 c0 _ J.out.rowB rfl rfl (by rw[I.out];rfl);have bY:=a6.out;have bb:=BT c0;unfold Value.cells at bb;clear H F;go_wp2;refine nF (v:=.tuple #[.agg c0.toArray,.agg c0.toArray,.iface 74 (.int .i64 bi)]) ?_ rfl ⟨⟨c0,c0,bi,by rw[bd];rfl,⟨I.out,I.out⟩,⟨Y.out,Y.out⟩,fun e=>absurd e (hF)⟩,J.out.bel⟩;simp[results,results83,asAddr,ab,ad]
   case pos=>
    subst hF;rw[show Am 0=Value.nilIface from rfl];go_wp2_with fail
    refine nn dd.out ?_;rintro e dg ⟨⟨dj,ef,rfl,b0,b1,b2⟩,dk⟩;have bs:=hid (bA.out.below dk);have eL:Hid (cp.length≤ef∧ef≤9223372036854775807):=⟨b0,b1⟩;have b4:Hid (A0 dg.cell? dj cp):=b2;have eg:Hid (A0 dg.cell? eb N):=b3.out.on (Aj dk);clear dd dk ed b0 b1 b2 bA b3;by_cases dm:co=0
    case neg=>
     have bd:=AH (n:=co) rfl dm;rw[bd];go_upto_region 8 with fail
     obtain⟨c0,G,H,a6⟩:=z21;have I:=hid G;have Y:=hid H;have a7:=Cd (P:=prog) bs.out.rowA bs.out.fa (bs.out.la.trans G.symm) H;have F:=hid (bs.out.setA c0 G);generalize dg.setCells O 0 c0=a8 at a7 F;have ba:=Cd (P:=prog) F.out.rowB F.out.fb (F.out.lb.trans G.symm) H;have J:=hid (F.out.setB c0 G);generalize a8.setCells V 0 c0=Q at ba J;have ab:=run_loadVar_mid (P:=prog) Q O 0 86 c0 _ J.out.rowA rfl rfl (by rw[I.out];rfl);have ad:=run_loadVar_mid (P:=prog) Q V 0 86 c0 _ J.out.rowB rfl rfl (by rw[I.out];rfl);have bY:=a6.out;have bb:=BT c0;unfold Value.cells at bb;clear H F;go_wp2;refine nF (v:=.tuple #[.agg c0.toArray,.agg c0.toArray,.iface 74 (.int .i64 co)]) ?_ rfl ⟨⟨c0,c0,co,by rw[bd];rfl,⟨I.out,I.out⟩,⟨Y.out,Y.out⟩,fun e=>absurd e (dm)⟩,J.out.bel⟩;simp[results,results83,asAddr,ab,ad]
    case pos=>
     subst dm;rw[show Am 0=Value.nilIface from rfl];have b5:=hid (Ra (c8.out.below bs.out.bel) cl.out.good d8.out d9.out eg.out eK.out);go_wp2_with fail
     refine nn b5.out ?_;rintro e eM ⟨⟨cs,E,b6,rfl,b7,bf,bu,b9⟩,dn⟩;have ej:Hid _:=Pk eM cs bf bu b6 b9 E;clear b5;go_wp2_with fail
     refine nn ej.out ?_;rintro e dp ⟨rfl,cq⟩;obtain⟨Z,D,dr,cr,ds⟩:=Rt cs bf bu E b6;have bB:=hid ((bs.out.below dn).below cq);have ek:Hid (A0 dp.cell? dj cp):=(b4.out.on (Aj dn)).on (Aj cq);have el:=IF cl.out.good ⟨cs,E,b6,b7.below cq,bf,b9,by rw[dr]⟩;have cu:=hid (el.set (C7 _).2 bB.out.a Z);have du:Hid (A0 (dp.setCells O 0 Z).cell? dj cp):=by
      rcases ek.out with e|⟨em,eN,eO,en⟩
      ·exact .inl e
      ·refine .inr ⟨em,eN,eO,fun i s dw=>(BM ?_).trans (en i s dw)⟩
       intro e;have e:em=O:=e;subst e;exact(C7 R.data.toList).2 s (by rw[de.out];exact nD dw) (LH ((bB.out.a _).symm.trans (en i s dw)))
     have bC:=Cd (P:=prog) bB.out.rowA bB.out.fa (by rw[cr];rfl) ds;have bg:=hid (bB.out.setA Z cr);generalize dp.setCells O 0 Z=eP at bC bg cu du;have bF:=BT Z;unfold Value.cells at bF;have cb:=hid cr;have eo:=hid ds;rw[dr];clear dr b7 bu bf b9 dn cq el ds cr ej bs b4 eg bB ek;by_cases dx:D=0
     case neg=>
      have bd:=AH (n:=D) rfl dx;rw[bd];go_upto_region 11 with fail
      clear bC bF;obtain⟨c0,G,H,a6⟩:=z21;have I:=hid G;have Y:=hid H;have a7:=Cd (P:=prog) bg.out.rowA bg.out.fa (bg.out.la.trans G.symm) H;have F:=hid (bg.out.setA c0 G);generalize eP.setCells O 0 c0=a8 at a7 F;have ba:=Cd (P:=prog) F.out.rowB F.out.fb (F.out.lb.trans G.symm) H;have J:=hid (F.out.setB c0 G);generalize a8.setCells V 0 c0=Q at ba J;have ab:=run_loadVar_mid (P:=prog) Q O 0 86 c0 _ J.out.rowA rfl rfl (by rw[I.out];rfl);have ad:=run_loadVar_mid (P:=prog) Q V 0 86 c0 _ J.out.rowB rfl rfl (by rw[I.out];rfl);have bY:=a6.out;have bb:=BT c0;unfold Value.cells at bb;clear H F;go_wp2;refine nF (v:=.tuple #[.agg c0.toArray,.agg c0.toArray,.iface 74 (.int .i64 D)]) ?_ rfl ⟨⟨c0,c0,D,by rw[bd];rfl,⟨I.out,I.out⟩,⟨Y.out,Y.out⟩,fun e=>absurd e (dx)⟩,J.out.bel⟩;simp[results,results83,asAddr,ab,ad,Am]
     case pos=>
      subst dx;obtain⟨f,ep,eQ,eR,eS,eT,eq,eU⟩:=cu.out.open;have dy:=hid (Nw (c8.out.below bg.out.bel) Z f.t f.dir (by rw[ep];obtain⟨t,dir,na,nc,nf,b6,⟨e2,e3,e4,e5,e6,e7,e8,xs⟩,e9,ly⟩:=f;rfl) eq.dir.1);generalize B.takE f.t f.dir=cx at dy;clear ep eQ eR eS eT eq eU f;rw[show Am 0=Value.nilIface from rfl];go_upto_region 12 with fail
      clear bC;refine rU ?_;refine KF rfl _ rfl ?_;simp only[tk];refine wpList_load_mid rfl _ _ rfl _ _ rfl Z _ bg.out.rowA rfl rfl (by rw[cb.out];rfl) ?_;simp only[tk];go_wp2_with fail
      refine nn dy.out ?_;rintro e eV ⟨rfl,q7⟩;have bv:=hid (bg.out.below q7);have er:=hid (cu.out.below q7);have es:=hid (du.out.on (Aj q7));clear dy q7 bg cu du bF;by_cases dz:cx=0
      case neg=>
       have bd:=AH (n:=cx) rfl dz;rw[bd];go_upto_region 14 with fail
       obtain⟨c0,G,H,a6⟩:=z21;have I:=hid G;have Y:=hid H;have a7:=Cd (P:=prog) bv.out.rowA bv.out.fa (bv.out.la.trans G.symm) H;have F:=hid (bv.out.setA c0 G);generalize eV.setCells O 0 c0=a8 at a7 F;have ba:=Cd (P:=prog) F.out.rowB F.out.fb (F.out.lb.trans G.symm) H;have J:=hid (F.out.setB c0 G);generalize a8.setCells V 0 c0=Q at ba J;have ab:=run_loadVar_mid (P:=prog) Q O 0 86 c0 _ J.out.rowA rfl rfl (by rw[I.out];rfl);have ad:=run_loadVar_mid (P:=prog) Q V 0 86 c0 _ J.out.rowB rfl rfl (by rw[I.out];rfl);have bY:=a6.out;have bb:=BT c0;unfold Value.cells at bb;clear H F;go_wp2;refine nF (v:=.tuple #[.agg c0.toArray,.agg c0.toArray,.iface 74 (.int .i64 cx)]) ?_ rfl ⟨⟨c0,c0,cx,by rw[bd];rfl,⟨I.out,I.out⟩,⟨Y.out,Y.out⟩,fun e=>absurd e (dz)⟩,J.out.bel⟩;simp[results,results83,asAddr,ab,ad,Am]
      case pos=>
       subst dz;rw[show Am 0=Value.nilIface from rfl];have b5:=hid (Ra (c8.out.below bv.out.bel) cl.out.good ee.out de.out es.out eL.out);go_wp2_with fail
       refine nn b5.out ?_;rintro e eW ⟨⟨aa,E,b6,rfl,b7,bf,bu,b9⟩,d0⟩;have bG:=hid (bv.out.below d0);have d1:=hid ((LU cl.out.good b7).set (C7 _).2 bG.out.b aa);have d2:=hid ((er.out.below d0).set (C7 _).2 bG.out.b aa);have bC:=Cd (P:=prog) bG.out.rowB bG.out.fb (by rw[bf];rfl) bu;have d3:=hid (bG.out.setB aa bf);generalize eW.setCells V 0 aa=cf at bC d3 d2 d1;have cA:=hid bf;have eu:=hid bu;have bF:=BT aa;unfold Value.cells at bF;clear b7 bf bu b9 d0 b5 bv bG er es;go_upto_region 16 with fail
       clear bC bF;have cB:Bw cf cf.drew:=(nt _ _).drew;have bx:=hid (d3.out.below cB);have eX:=hid (d2.out.below cB);have eY:=hid (d1.out.below cB);have eZ:cf.drew.rangeAt O 0 Z∧cf.drew.rangeAt V 0 aa:=⟨bx.out.rowA,bx.out.rowB⟩;clear cB d3 d2 d1;refine wp_region_held_drew (S:=fun w'=>w'.rangeAt O 0 Z∧w'.rangeAt V 0 aa) (by kernel_rfl) eZ (fun d4=>?_);refine nS (i:=0) (oi:=_) (v:=BK Z) rfl (by kernel_rfl) (by kernel_rfl) (by kernel_rfl) (fun _ _ _ h=>h) (yieldsIf_load_mid (by rfl) _ _ rfl _ _ rfl Z _ (fun w h=>h.1) underlying86 rfl (by rw[cb.out];rfl)) d4 ?_;simp only[Act.put,List.setIfInBounds_toArray];refine nS (i:=1) (oi:=_) (v:=BK aa) rfl (by kernel_rfl) (by kernel_rfl) (by kernel_rfl) (fun _ _ _ h=>h) (yieldsIf_load_mid (by rfl) _ _ rfl _ _ rfl aa _ (fun w h=>h.2) underlying86 rfl (by rw[cA.out];rfl)) d4 ?_;simp only[Act.put];refine nS (i:=2) (oi:=_) (v:=Am E) rfl (by kernel_rfl) (by kernel_rfl) (by kernel_rfl) (fun _ _ _ h=>h) (Or.inl ⟨by rfl,fun w fa=>by go_simp⟩) d4 ?_;simp only[Act.put];have b3:=Cd (P:=prog) bx.out.rowA bx.out.fa rfl eo.out;have bk:=hid (bx.out.setA Z cb.out);have ev:=hid (eX.out.mle (Le bx.out.a));have eB:=hid (eY.out.mle (Le bx.out.a));generalize cf.drew.setCells O 0 Z=Q at b3 bk ev eB;have b4:=Cd (P:=prog) bk.out.rowB bk.out.fb rfl eu.out;have bl:=hid (bk.out.setB aa cA.out);have eE:=hid (ev.out.mle (Le bk.out.b));have eF:=hid (eB.out.mle (Le bk.out.b));generalize Q.setCells V 0 aa=eG at b4 bl eE eF;have e0:=BT Z;unfold Value.cells at e0;have e1:=BT aa;unfold Value.cells at e1;refine wpAnyH_ready (rs:=[3]) (by kernel_rfl) (by simp) ?_;refine AllReadyH.cons (o:=_) rfl (fun K bn=>?_) AllReadyH.nil;rw[nC (by rfl)];go_simp;refine bn.out _ _ ⟨bk.out.rowA,bk.out.rowB⟩ (fun fb=>?_);clear bn K;refine wpAnyH_ready (rs:=[4]) (by kernel_rfl) (by simp) ?_;refine AllReadyH.cons (o:=_) rfl (fun K bn=>?_) AllReadyH.nil;rw[nC (by rfl)];go_simp;refine bn.out _ _ ⟨bl.out.rowA,bl.out.rowB⟩ (fun fc=>?_);clear bn K;refine wpAnyH_ready (rs:=[5]) (by kernel_rfl) (by simp) ?_;refine AllReadyH.cons (o:=_) rfl (fun K bn=>?_) AllReadyH.nil;rw[nC (by rfl)];go_simp;refine bn.out _ _ ⟨bl.out.rowA,bl.out.rowB⟩ (fun fd=>?_);clear bn K;refine rN (by kernel_rfl) ?_ _;clear b3 b4;have ab:=run_loadVar_mid (P:=prog) eG O 0 86 Z _ bl.out.rowA rfl rfl (by rw[cb.out];rfl);have ad:=run_loadVar_mid (P:=prog) eG V 0 86 aa _ bl.out.rowB rfl rfl (by rw[cA.out];rfl);go_wp2;refine nF (v:=.tuple #[.agg Z.toArray,.agg aa.toArray,Am E]) ?_ rfl ⟨⟨Z,aa,E,rfl,⟨cb.out,cA.out⟩,⟨eo.out,eu.out⟩,fun e=>⟨⟨eI.out,eJ.out⟩,eE.out,by have q:=eF.out;rw[e]at q;exact q⟩⟩,bl.out.bel⟩;simp[results,results83,asAddr,ab,ad]
def Vo(x0:Nd)(ni:List Nd)(f t:Fd)(e:Ending):Prop:=∃E,e=.returned (Am E)∧(E=0→Es f.nf t.nf=false∧(f.t.d=true→f.ly=0∧(f.x.opq=true∨DX (x0::ni) f.nf=false)))
theorem VW{w:World}{b:Nat}{B:Bx}{x0:Nd}{ni:List Nd}(h:A5 w b B)(bG:BS B x0 ni)(f t:Fd)(dn:GL B w f.nf f)(b6:GL B w t.nf t)(b7:A0 w.cell? f.na f.nf)(cu:A0 w.cell? t.na t.nf)(dp:f.nf.length≤6)(dr:t.nf.length≤6)(cx:f.nf.length≤f.nc∧f.nc≤9223372036854775807):
 Calls prog 85 #[.pointer (some ⟨b,0,none⟩),BK f.l,BK t.l] w fun e w'=>Vo x0 ni f t e∧Bw w w':=by
 obtain⟨F,ds⟩:∃F,kb f.l F:=⟨_,rfl⟩;obtain⟨H,du⟩:∃H,kb t.l H:=⟨_,rfl⟩;have bb:f.l=F:=ds;have Z:t.l=H:=du;have dw:F.length=21:=by rw[←bb];exact DW _
 have dx:H.length=21:=by rw[←Z];exact DW _
 rw[bb,Z];have cA:Bw w (w.alloc (.cells F.toArray 86)):=(nt _ _).alloc (nl _) _;have cB:Bw (w.alloc (.cells F.toArray 86)) ((w.alloc (.cells F.toArray 86)).alloc (.cells H.toArray 86)):=(nt _ _).alloc (nl _) _;have bH:=cA.trans (cB.mono cA.size);have b9:A6 ((w.alloc (.cells F.toArray 86)).alloc (.cells H.toArray 86)) w.heap.size 0 F:=A6.below (A6.new2 w _ rfl F 86) cB;have az:A6 ((w.alloc (.cells F.toArray 86)).alloc (.cells H.toArray 86)) (w.heap.size+1) 0 H:=A6.new2 (w.alloc (.cells F.toArray 86)) _ (by rw[nv]) H 86;obtain⟨⟨c3,fg,fh,tg,fi⟩,fj,an,nj,nf,fl,⟨fm,fo,fp,fq,eu,fs,ft,xs⟩,fu,ly⟩:=f;obtain⟨⟨cb,dy,dz,d0,d1⟩,⟨bs,bu,bv,bx,bA⟩,bB,bC,bi,d2,⟨fv,fw,fx,fy,fA,fB,fC,fD⟩,fE,fF⟩:=t;dsimp only at dn b6 b7 cu dp dr cx;have ev:Ce ((w.alloc (.cells F.toArray 86)).alloc (.cells H.toArray 86)) w.heap.size 0 (.bool c3):=b9 0 _ (by rw[←bb];rfl);have eB:Ce ((w.alloc (.cells F.toArray 86)).alloc (.cells H.toArray 86)) w.heap.size 10 (.slice an nf.length nj):=b9 10 _ (by rw[←bb];rfl);have t0:Ce ((w.alloc (.cells F.toArray 86)).alloc (.cells H.toArray 86)) (w.heap.size+1) 0 (.bool cb):=az 0 _ (by rw[←Z];rfl);have t5:Ce ((w.alloc (.cells F.toArray 86)).alloc (.cells H.toArray 86)) (w.heap.size+1) 5 (.bool bs):=az 5 _ (by rw[←Z];rfl);have fG:Ce ((w.alloc (.cells F.toArray 86)).alloc (.cells H.toArray 86)) (w.heap.size+1) 6 (.int .i64 bu):=az 6 _ (by rw[←Z];rfl);have fH:Ce ((w.alloc (.cells F.toArray 86)).alloc (.cells H.toArray 86)) (w.heap.size+1) 7 (.int .i64 bv):=az 7 _ (by rw[←Z];rfl);have fI:Ce ((w.alloc (.cells F.toArray 86)).alloc (.cells H.toArray 86)) (w.heap.size+1) 8 (.int .i64 bx):=az 8 _ (by rw[←Z];rfl);have t9:Ce ((w.alloc (.cells F.toArray 86)).alloc (.cells H.toArray 86)) (w.heap.size+1) 9 (.bool bA):=az 9 _ (by rw[←Z];rfl);have eE:Ce ((w.alloc (.cells F.toArray 86)).alloc (.cells H.toArray 86)) (w.heap.size+1) 10 (.slice bB bi.length bC):=az 10 _ (by rw[←Z];rfl);have eF:Ce ((w.alloc (.cells F.toArray 86)).alloc (.cells H.toArray 86)) (w.heap.size+1) 11 (.bool d2):=az 11 _ (by rw[←Z];rfl);have eG:=hid b9;have eH:=hid az;have eI:=hid dw;have eJ:=hid dx;have d3:=hid (b7.on (Aj bH));have eK:=hid (cu.on (Aj bH));have c4:=hid bH;have eL:Hid (nf.length≤1000):=by show nf.length≤1000;omega
 obtain⟨cf,c5⟩:∃cf,Hid (Es nf bi=cf):=⟨_,rfl⟩;have d4:Hid (Calls prog 133 #[.slice an nf.length nj,.slice bB bi.length bC] ((w.alloc (.cells F.toArray 86)).alloc (.cells H.toArray 86)) fun e w'=>e=.returned (.bool cf)∧((w.alloc (.cells F.toArray 86)).alloc (.cells H.toArray 86))=w'):=by
  have e:=Xq an bB nj bC nf bi ((w.alloc (.cells F.toArray 86)).alloc (.cells H.toArray 86)) (by omega) (by omega) d3.out eK.out;rw[c5.out]at e;exact e
 obtain⟨bd,eM⟩:∃bd,Hid (B.mayE ⟨bs,bu,bv,bx,bA⟩ 2=bd):=⟨_,rfl⟩;have d5:Hid (Calls prog 69 #[.pointer (some ⟨b,0,none⟩),.agg #[.bool bs,.int .i64 bu,.int .i64 bv,.int .i64 bx,.bool bA],.int .i64 2] ((w.alloc (.cells F.toArray 86)).alloc (.cells H.toArray 86)) fun e w'=>e=.returned (Am bd)∧Bw ((w.alloc (.cells F.toArray 86)).alloc (.cells H.toArray 86)) w'):=by
  have e:=IC (h.below bH) ⟨bs,bu,bv,bx,bA⟩ 2 b6.dir.1;rw[eM.out]at e;exact e
 obtain⟨cg,eN⟩:∃bd,Hid (B.takE ⟨cb,dy,dz,d0,d1⟩ ⟨bs,bu,bv,bx,bA⟩=bd):=⟨_,rfl⟩;have eO:Hid (∀w',Bw w w'→Calls prog 79 #[.pointer (some ⟨b,0,none⟩),BK H] w' fun e bk=>e=.returned (Am cg)∧Bw w' bk):=fun w' hb=>by
  have e:=Nw (h.below hb) H ⟨cb,dy,dz,d0,d1⟩ ⟨bs,bu,bv,bx,bA⟩ (by rw[←Z];rfl) b6.dir.1;rw[eN.out]at e;exact e
 have eP:Hid (∀w',Bw w w'→Calls prog 134 #[.pointer (some ⟨b,0,none⟩),BK F] w' fun e bk=>Vn x0 ni nf eu ly e∧Bw w' bk):=fun w' hb=>Yl (h.below hb) bG F (by rw[←bb];rfl) (by rw[←bb];rfl) (by rw[←bb];rfl) (b7.on (Aj hb)) (by omega) cx;have eQ:=h
 have d6:Hid (∀c6,Bw w c6→∀w',Bw c6 w'→Calls prog 22 #[.pointer (some ⟨b,0,none⟩)] w' fun e bk=>(∃h',e=.returned (Ao x0 h')∧Ah bk.cell? x0 h')∧Bw w' bk):=fun c6 eR w' hb=>by
  have d7:=(h.below eR).below hb;have d8:=d7.lay;have d9:=d7.cells.2.2.1;rw[bG.xs]at d8 d9;refine nn (Gy d9 d8) ?_;rintro e bk ⟨⟨h',eS,_,eT⟩,eU⟩;exact⟨⟨h',eS,eT⟩,eU⟩
 have c8:Hid (cnt x0≤800∧A7 x0):=by
  have:=bG.fine.cnt;exact⟨by omega,GB x0 (by omega) bG.fine.lil⟩
 obtain⟨Y,eV⟩:∃Y,Hid (x0=Y):=⟨_,rfl⟩;rw[eV.out]at d6 c8;obtain⟨c9,eW⟩:∃c9,Hid ((AV nf Y).getD zN=c9):=⟨_,rfl⟩;obtain⟨ch,eX⟩:∃b,Hid ((AV nf Y).isSome=b):=⟨_,rfl⟩;obtain⟨k,m,u,g,o,nh,d,ks⟩:=c9;have ea:=BT F;unfold Value.cells at ea;have eb:=BT H;unfold Value.cells at eb;clear dn b6 b7 cu dp dr cx h bG eQ b9 az cA bH cB dw dx ds du bb Z;go_enter func85,ntmps85;go_wp2_with fail
 clear ea eb;generalize((w.alloc (.cells F.toArray 86)).alloc (.cells H.toArray 86))=fJ at*;refine nn d4.out ?_;rintro e fK ⟨rfl,rfl⟩;clear d4;cases cf with
 |true=>
  go_wp2;go_ret;exact⟨⟨3,rfl,fun e=>absurd e (by decide)⟩,c4.out⟩
 |false=>
  go_wp2_with fail
  refine nn d5.out ?_;rintro e ec ⟨rfl,da⟩;have a1:=hid da;have a6:=hid (c4.out.trans (da.mono c4.out.size));clear d5 da;by_cases db:bd=0;rotate_left
  ·have bY:=AH (n:=bd) rfl db
   rw[bY];go_wp2;go_ret;exact⟨⟨bd,by rw[bY];rfl,fun e=>absurd e db⟩,a6.out⟩
  subst db;rw[show Am 0=Value.nilIface from rfl];have cl:=Ad a1.out ev;have fL:=Ad a1.out eF;have fM:=Ad a1.out t0;cases d2;rotate_left
  focus
   cases c3;rotate_left
   ·go_wp2
    go_ret;exact⟨⟨6,rfl,fun e=>absurd e (by decide)⟩,a6.out⟩
   cases cb;rotate_left
   ·go_wp2
    go_ret;exact⟨⟨6,rfl,fun e=>absurd e (by decide)⟩,a6.out⟩
   go_upto_region 9 with fail
   refine rU ?_;refine rV (by rfl) (fun K Q=>?_);go_simp;refine Q _ _ ?_;clear Q K;refine rV (by rfl) (fun K Q=>?_);refine wp_load_mid _ _ rfl _ _ rfl H _ (A6.below eH.out a1.out) rfl rfl (by rw[eJ.out];rfl) (Q _ _ ?_);clear Q K;simp only[tk];go_wp2_with fail
   refine nn (eO.out ec a6.out) ?_;rintro e G ⟨rfl,q4⟩;have b0:=hid (a1.out.trans (q4.mono a1.out.size));have bl:=hid (a6.out.trans (q4.mono a6.out.size));have fN:=Ad q4 cl;clear q4;by_cases dd:cg=0;rotate_left
   ·have bY:=AH (n:=cg) rfl dd
    rw[bY];go_wp2;go_ret;exact⟨⟨cg,by rw[bY];rfl,fun e=>absurd e dd⟩,bl.out⟩
   subst dd;rw[show Am 0=Value.nilIface from rfl]
  rotate_left
  focus
   cases c3
   focus
    rename World=>G
    have b0:=a1;have bl:=a6
   rotate_left
   focus
    go_upto_region 12 with fail
    refine rU ?_;refine rV (by rfl) (fun K Q=>?_);go_simp;refine Q _ _ ?_;clear Q K;refine rV (by rfl) (fun K Q=>?_);go_simp;refine Q _ _ ?_;clear Q K;refine rV (by rfl) (fun K Q=>?_);go_simp;refine Q _ _ ?_;clear Q K;refine rV (by rfl) (fun K Q=>?_);go_simp;refine Q _ _ ?_;clear Q K;refine rV (by rfl) (fun K Q=>?_);go_simp;refine Q _ _ ?_;clear Q K;refine rV (by rfl) (fun K Q=>?_);refine wp_load_mid _ _ rfl _ _ rfl F _ (A6.below eG.out a1.out) rfl rfl (by rw[eI.out];rfl) (Q _ _ ?_);clear Q K;simp only[tk];go_wp2_with fail
    refine nn (eP.out ec a6.out) ?_;rintro e G ⟨⟨r,rfl,ed⟩,q4⟩;have eY:=hid ed;have b0:=hid (a1.out.trans (q4.mono a1.out.size));have bl:=hid (a6.out.trans (q4.mono a6.out.size));clear q4 ed;cases r
    ·go_wp2
     go_ret;exact⟨⟨14,rfl,fun e=>absurd e (by decide)⟩,bl.out⟩
  all_goals
   have be:=Ad b0.out eB;have ee:=Ad b0.out eE;have eZ:=hid (d3.out.on (Aj b0.out));have ef:=hid (d6.out G bl.out);have de:Ce G.drew w.heap.size 10 (.slice an nf.length nj):=be;have co:Hid (Bw G G.drew):=(nt _ _).drew;have b1:Hid (Bw G (G.alloc AO).drew):=((nt _ _).alloc (nl _) _).drew;have eg:Ce (G.alloc AO).drew w.heap.size 10 (.slice an nf.length nj):=Ad b1.out be;have dg:Hid (Calls prog 22 #[.pointer (some ⟨b,0,none⟩)] G.drew fun e w'=>(∃h',e=.returned (Ao Y h')∧Ah w'.cell? Y h')∧Bw G.drew w'):=ef.out _ co.out;have dj:Hid (Calls prog 22 #[.pointer (some ⟨b,0,none⟩)] (G.alloc AO).drew fun e w'=>(∃h',e=.returned (Ao Y h')∧Ah w'.cell? Y h')∧Bw (G.alloc AO).drew w'):=ef.out _ b1.out;have cp:Hid (∀(I:World) (ad:Hd),Bw G I→Ah I.cell? Y ad→Calls prog 89 #[Ao Y ad,.slice an nf.length nj] I fun e ak=>(∃h',e=.returned (.tuple #[(AY k m u g o nh d ks h'),.bool ch])∧Ah ak.cell? (.mk k m u g o nh d ks) h')∧Bw I ak):=fun I ad e0 bf=>by
    have e:=KK bf an nj nf (eZ.out.on (Aj e0)) eL.out c8.out.1 c8.out.2;rw[eW.out,eX.out]at e;exact e
   have b2:w.heap.size<G.heap.size:=ny G ⟨w.heap.size,10,none⟩ be;go_upto_region 14 with fail
   go_region_held3 (fun w'=>w'.cell? ⟨w.heap.size,10,none⟩=some (.slice an nf.length nj)) (first|with_reducible exact de|with_reducible exact eg|with_reducible exact cq|with_reducible exact bn|(with_reducible refine Ay ?_;with_reducible exact de)|(with_reducible refine Ay ?_;with_reducible exact cq)|(with_reducible refine Ay ?_;with_reducible exact bn)|(with_reducible refine ED ?_ bn;show w.heap.size≠_;have g4:=dk.out;omega)|(with_reducible refine ED ?_ bn;show w.heap.size≠_;skip;omega)) (first|(go_at_call 22;(with_reducible refine nn dg.out ?_);rintro e I ⟨⟨ad,rfl,bf⟩,q6⟩;have T:Hid (Bw G I):=co.out.trans (q6.mono co.out.size);have cq:I.cell? ⟨w.heap.size,10,none⟩=some (.slice an nf.length nj):=(T.out.cell (p:=⟨w.heap.size,10,none⟩) b2).trans be;have b3:Hid (Calls prog 89 #[Ao Y ad,.slice an nf.length nj] I fun e ak=>(∃h',e=.returned (.tuple #[(AY k m u g o nh d ks h'),.bool ch])∧Ah ak.cell? (.mk k m u g o nh d ks) h')∧Bw I ak):=cp.out I ad T.out bf;have ej:Hid (Calls prog 89 #[Ao Y ad,.slice an nf.length nj] (I.alloc AO) fun e ak=>(∃h',e=.returned (.tuple #[(AY k m u g o nh d ks h'),.bool ch])∧Ah ak.cell? (.mk k m u g o nh d ks) h')∧Bw (I.alloc AO) ak):=cp.out _ ad (T.out.alloc T.out.size _) (bf.on (Aj ((nt _ _).alloc (nl _) _)));clear dg dj bf q6)|(go_at_call 22;(with_reducible refine nn dj.out ?_);rintro e I ⟨⟨ad,rfl,bf⟩,q6⟩;have T:Hid (Bw G I):=b1.out.trans (q6.mono b1.out.size);have cq:I.cell? ⟨w.heap.size,10,none⟩=some (.slice an nf.length nj):=(T.out.cell (p:=⟨w.heap.size,10,none⟩) b2).trans be;have b3:Hid (Calls prog 89 #[Ao Y ad,.slice an nf.length nj] I fun e ak=>(∃h',e=.returned (.tuple #[(AY k m u g o nh d ks h'),.bool ch])∧Ah ak.cell? (.mk k m u g o nh d ks) h')∧Bw I ak):=cp.out I ad T.out bf;have e1:Hid (BV I G.heap.size):=((BV.new G).below ((nt _ _).drew)).below q6;clear dg dj bf q6)|(go_at_call 89;(with_reducible refine nn b3.out ?_);rintro e O ⟨⟨J,rfl,bg⟩,q7⟩;have aa:Hid (Bw G O):=T.out.trans (q7.mono T.out.size);have bn:O.cell? ⟨w.heap.size,10,none⟩=some (.slice an nf.length nj):=(aa.out.cell (p:=⟨w.heap.size,10,none⟩) b2).trans be;have e2:Hid (Bw I O):=q7;have bF:Hid (Ah O.cell? (.mk k m u g o nh d ks) J):=bg;have b4:Hid (BV O G.heap.size):=e1.out.below q7;obtain⟨⟨⟨z0,e3,e4,z3,z4,z5,e5,e6⟩,R⟩,_⟩:=id b4.out;have e7:=R 0;have e8:=R 1;have e9:=R 2;have fa:=R 3;have fb:=R 4;have fc:=R 5;have fd:=R 6;have fe:=R 7;clear R;clear b3 bg q7)|(go_at_call 89;(with_reducible refine nn b3.out ?_);rintro e O ⟨⟨J,rfl,bg⟩,q7⟩;have aa:Hid (Bw G O):=T.out.trans (q7.mono T.out.size);have bn:O.cell? ⟨w.heap.size,10,none⟩=some (.slice an nf.length nj):=(aa.out.cell (p:=⟨w.heap.size,10,none⟩) b2).trans be;have e2:Hid (Bw I O):=q7;have bF:Hid (Ah O.cell? (.mk k m u g o nh d ks) J):=bg;clear b3 bg q7)|(go_at_call 89;(with_reducible refine nn ej.out ?_);rintro e O ⟨⟨J,rfl,bg⟩,q7⟩;have aa:Hid (Bw G O):=(T.out.alloc T.out.size _).trans (q7.mono (nO T.out.size ((nt _ _).alloc (nl _) _:Bw I _).size));have bn:O.cell? ⟨w.heap.size,10,none⟩=some (.slice an nf.length nj):=(aa.out.cell (p:=⟨w.heap.size,10,none⟩) b2).trans be;have bF:Hid (Ah O.cell? (.mk k m u g o nh d ks) J):=bg;have b4:Hid (BV O I.heap.size):=(BV.new I).below q7;have dk:Hid (G.heap.size≤I.heap.size):=T.out.size;obtain⟨⟨⟨z0,e3,e4,z3,z4,z5,e5,e6⟩,R⟩,_⟩:=id b4.out;have e7:=R 0;have e8:=R 1;have e9:=R 2;have fa:=R 3;have fb:=R 4;have fc:=R 5;have fd:=R 6;have fe:=R 7;clear R;clear ej bg q7))
   all_goals
    first|(obtain⟨a7,bo,ab,ba⟩:=BV.store b4.out bF.out;have ab:=aa.out.trans (ab.below (B:=G.heap.size) dk.out aa.out.size);generalize bp:Ar O I.heap.size (.mk k m u g o nh d ks) J=V at a7 bo ab ba;simp only[Ar]at bp;rw[bp];clear bp;generalize b5:I.heap.size=nx at a7 ba⊢;have cr:G.heap.size≤nx:=(by rw[←b5];exact dk.out);clear b5)|(obtain⟨a7,bo,ab,ba⟩:=BV.store b4.out bF.out;have ab:=aa.out.trans (ab.below (B:=G.heap.size) (nl _) aa.out.size);generalize bp:Ar O G.heap.size (.mk k m u g o nh d ks) J=V at a7 bo ab ba;simp only[Ar]at bp;rw[bp];clear bp;generalize b5:G.heap.size=nx at a7 ba⊢;have cr:G.heap.size≤nx:=(by rw[←b5];exact(nl _));clear b5)|(obtain⟨a7,bo,ab,ba⟩:As (O.alloc (Ap k m u g o nh d ks J)) O.heap.size (.mk k m u g o nh d ks) J∧Ah (O.alloc (Ap k m u g o nh d ks J)).cell? (.mk k m u g o nh d ks) J∧Bw G (O.alloc (Ap k m u g o nh d ks J))∧(∀ek,8≤ek→(O.alloc (Ap k m u g o nh d ks J)).cell? ⟨O.heap.size,ek,none⟩=none):=⟨As.new O k m u g o nh d ks J,bF.out.on (Aj ((nt _ _).alloc (nl _) _)),aa.out.alloc aa.out.size _,fun o ff=>(by rw[nk _ _ _ _ rfl];exact rG (by simpa using ff))⟩;have cr:=aa.out.size;generalize O.alloc (Ap k m u g o nh d ks J)=V at a7 bo ab ba⊢;generalize O.heap.size=nx at a7 ba cr⊢)
    clear de eg cq bn co b1 cp;have el:=(ab.cell (p:=⟨w.heap.size+1,10,none⟩) (ny _ _ ee)).trans ee;have em:Hid (Bw w V):=bl.out.trans (ab.mono bl.out.size);obtain⟨cl,g1,en,g3,g4,eo,ep,eq⟩:=id a7.1;have ao:V.drew.cell? ⟨w.heap.size+1,10,none⟩=some (.slice bB bi.length bC)∧V.drew.cell? ⟨nx,0,none⟩=some (.int .i64 k)∧V.drew.cell? ⟨nx,1,none⟩=some (.int .i64 m)∧V.drew.cell? ⟨nx,2,none⟩=some (.int .i64 u)∧V.drew.cell? ⟨nx,3,none⟩=some (.int .i64 g)∧V.drew.cell? ⟨nx,4,none⟩=some (.bool o)∧V.drew.cell? ⟨nx,5,none⟩=some (.slice J.aa nh.length J.ca)∧V.drew.cell? ⟨nx,6,none⟩=some (.string d)∧V.drew.cell? ⟨nx,7,none⟩=some (.slice J.ak ks.length J.ck):=⟨el,cl,g1,en,g3,g4,eo,ep,eq⟩;have er:Hid (Calls prog 135 #[(AY k m u g o nh d ks J)] V.drew fun e w'=>(∃d,e=.returned (.int .i64 d))∧Bw V.drew w'):=XM (w:=V.drew) bo _ (nt _ _);clear a7 bo ab ba bF cr el cl g1 en g3 g4 eo ep eq;go_upto_region 15 with fail
    go_region_held3 (fun w'=>w'.cell? ⟨w.heap.size+1,10,none⟩=some (.slice bB bi.length bC)∧w'.cell? ⟨nx,0,none⟩=some (.int .i64 k)∧w'.cell? ⟨nx,1,none⟩=some (.int .i64 m)∧w'.cell? ⟨nx,2,none⟩=some (.int .i64 u)∧w'.cell? ⟨nx,3,none⟩=some (.int .i64 g)∧w'.cell? ⟨nx,4,none⟩=some (.bool o)∧w'.cell? ⟨nx,5,none⟩=some (.slice J.aa nh.length J.ca)∧w'.cell? ⟨nx,6,none⟩=some (.string d)∧w'.cell? ⟨nx,7,none⟩=some (.slice J.ak ks.length J.ck)) (first|with_reducible exact ao|with_reducible exact es) (first|(go_at_call 135;(with_reducible refine nn er.out ?_);rintro e a8 ⟨⟨fO,rfl⟩,ap⟩;have es:a8.cell? ⟨w.heap.size+1,10,none⟩=some (.slice bB bi.length bC)∧a8.cell? ⟨nx,0,none⟩=some (.int .i64 k)∧a8.cell? ⟨nx,1,none⟩=some (.int .i64 m)∧a8.cell? ⟨nx,2,none⟩=some (.int .i64 u)∧a8.cell? ⟨nx,3,none⟩=some (.int .i64 g)∧a8.cell? ⟨nx,4,none⟩=some (.bool o)∧a8.cell? ⟨nx,5,none⟩=some (.slice J.aa nh.length J.ca)∧a8.cell? ⟨nx,6,none⟩=some (.string d)∧a8.cell? ⟨nx,7,none⟩=some (.slice J.ak ks.length J.ck):=⟨Ad ap ao.1,Ad ap ao.2.1,Ad ap ao.2.2.1,Ad ap ao.2.2.2.1,Ad ap ao.2.2.2.2.1,Ad ap ao.2.2.2.2.2.1,Ad ap ao.2.2.2.2.2.2.1,Ad ap ao.2.2.2.2.2.2.2.1,Ad ap ao.2.2.2.2.2.2.2.2⟩;have dm:Hid (Bw w a8):=em.out.drew.trans (ap.mono em.out.drew.size);clear er ap))
    all_goals
     clear ao es;go_wp2
     all_goals
      go_ret;first
      |exact⟨⟨2,rfl,fun e=>absurd e (by decide)⟩,dm.out⟩
      |exact⟨⟨0,rfl,fun _=>⟨c5.out,fun e=>Bool.noConfusion e⟩⟩,dm.out⟩
      |exact⟨⟨0,rfl,fun _=>⟨c5.out,fun _=>eY.out trivial⟩⟩,dm.out⟩
theorem DK.new2(w:World):DK w ((w.alloc (.cells #[.bool false,.int .i64 0,.int .i64 0,.int .i64 0,.bool false,.bool false,.int .i64 0,.int .i64 0,.int .i64 0,.bool false,.slice none 0 0,.bool false,.int .i64 0,.int .i64 0,.int .i64 0,.int .i64 0,.bool false,.slice none 0 0,.string ⟨#[]⟩,.slice none 0 0,.int .i64 0] 86)).alloc (.cells #[.bool false,.int .i64 0,.int .i64 0,.int .i64 0,.bool false,.bool false,.int .i64 0,.int .i64 0,.int .i64 0,.bool false,.slice none 0 0,.bool false,.int .i64 0,.int .i64 0,.int .i64 0,.int .i64 0,.bool false,.slice none 0 0,.string ⟨#[]⟩,.slice none 0 0,.int .i64 0] 86)) w.heap.size (w.heap.size+1) [.bool false,.int .i64 0,.int .i64 0,.int .i64 0,.bool false,.bool false,.int .i64 0,.int .i64 0,.int .i64 0,.bool false,.slice none 0 0,.bool false,.int .i64 0,.int .i64 0,.int .i64 0,.int .i64 0,.bool false,.slice none 0 0,.string ⟨#[]⟩,.slice none 0 0,.int .i64 0] [.bool false,.int .i64 0,.int .i64 0,.int .i64 0,.bool false,.bool false,.int .i64 0,.int .i64 0,.int .i64 0,.bool false,.slice none 0 0,.bool false,.int .i64 0,.int .i64 0,.int .i64 0,.int .i64 0,.bool false,.slice none 0 0,.string ⟨#[]⟩,.slice none 0 0,.int .i64 0]:=by
 have F:Bw w (w.alloc AF):=(nt _ _).alloc (nl _) _;have G:(w.alloc AF).heap.size=w.heap.size+1:=nv _ _;have H:Bw (w.alloc AF) ((w.alloc AF).alloc AF):=(nt _ _).alloc (nl _) _;refine⟨F.alloc F.size _,by omega,by omega,by omega,fun o=>?_,fun o=>?_,fun q=>?_,fun q=>?_,rfl,rfl⟩
 ·rw[H.cell (p:=⟨w.heap.size,o,none⟩) (by show w.heap.size<_;omega),nk _ _ _ _ rfl];simp
 ·rw[nk _ _ _ _ G.symm];simp
 ·rw[H.frozen (p:=⟨w.heap.size,q,none⟩) (by show w.heap.size<_;omega)];exact nP _ _ _ _ rfl
 ·exact nP _ _ _ _ G.symm
theorem Xf{w:World}{b:Nat}{B:Bx}{x0:Nd}{ni:List Nd}(h:A5 w b B)(bA:BS B x0 ni){Y Z aa:Int}{O Q ab ad:BA}(cq:Int)(cr:w.cell? ⟨0,0,none⟩=some (.int .i64 cq)):
 Calls prog 41 #[.pointer (some ⟨b,0,none⟩),.agg #[.int .i64 Y,.string O,.string Q,.string ab,.string ad,.int .i64 Z,.int .i64 aa]] w fun e w'=>(∃E,e=.returned (Am E))∧BI w w' b B ni:=by
 have bi:Bw w (w.alloc (Ax Y O Q ab ad Z aa)):=(nt _ _).alloc (nl _) _;have cu:=hid bi;have cx:Hid (Calls prog 83 #[.pointer (some ⟨b,0,none⟩),El Y O Q ab ad Z aa] (w.alloc (Ax Y O Q ab ad Z aa)) fun e w'=>Vr B w' O Q e∧Bw (w.alloc (Ax Y O Q ab ad Z aa)) w'):=YJ (h.below bi) bA cq (Ad bi cr);have bB:=hid h;have R:=hid bA;have bC:Hid (∀w',Bw w w'→BI w w' b B ni):=fun w' hb=>⟨Au.of_below hb,B,x0,bB.out.below hb,R.out,rfl,rfl⟩;clear h bA bi cr
 go_enter func41,ntmps41;go_wp2_with fail
 generalize(w.alloc (Ax Y O Q ab ad Z aa))=eU at*;refine nn cx.out ?_;rintro e F ⟨es,q2⟩;obtain⟨cs,H,E,rfl,⟨bk,bl⟩,⟨cA,cB⟩,c3⟩:=es;have ba:=DK.new2 F;have c4:=Cd (P:=prog) ba.rowA ba.fa (by rw[bk];rfl) cA;have bb:=ba.setA cs bk;have c5:Hid (∀p I X,CC B F p I X→CC B (((F.alloc AF).alloc AF).setCells F.heap.size 0 cs) p I X):=fun p I X hx=>(hx.below ((nt _ _).alloc (nl _) _ |>.alloc (by rw[nv];omega) _)).set (C7 _).2 ba.a cs;have bF:=Cd (P:=prog) bb.rowB bb.fb (by rw[bl];rfl) cB
 have ak:=hid (bb.setB H bl);have bd:Hid (∀p I X,CC B F p I X→CC B ((((F.alloc AF).alloc AF).setCells F.heap.size 0 cs).setCells (F.heap.size+1) 0 H) p I X):=fun p I X hx=>(c5.out p I X hx).set (C7 _).2 bb.b H;generalize(((F.alloc AF).alloc AF).setCells F.heap.size 0 cs).setCells (F.heap.size+1) 0 H=ao at bF ak bd
 generalize((F.alloc AF).alloc AF).setCells F.heap.size 0 cs=eV at c4 bF;have c6:=BT cs;unfold Value.cells at c6;have c8:=BT H;unfold Value.cells at c8;have eu:=hid bk;have ev:=hid bl;have c9:=hid (cu.out.trans (q2.mono cu.out.size));have be:=hid (c9.out.trans (ak.out.bel.mono c9.out.size));have bG:Hid _:=c3;clear ba bb c5 bk bl cA cB c3 q2 cx;by_cases da:E=0
 ·subst da
  obtain⟨⟨db,dd⟩,hF,de⟩:=bG.out rfl;obtain⟨f,bn,dg,dj,bH,bY,T,bo⟩:=(bd.out _ _ _ hF).open;obtain⟨t,b0,dk,dm,b1,dn,ap,eB⟩:=(bd.out _ _ _ de).open;have az:=Fu dg;rw[←dj]at az;have a1:=Fu dk;rw[←dm]at a1;replace bo:=bo rfl;obtain⟨q,r,g1,b2,g3,g4⟩:=T.there bo;rw[R.out.xs]at g1;have dp:=hid g1;have dr:Hid ((f.t.d=true→f.ly=0∧(f.x.opq=true∨DX (x0::ni) f.nf=false))→q.1.kind=2→q.2=0∧(q.1.opq=true∨DX (x0::ni) f.nf=false)):=fun eE eF=>by
   have hd:f.t.d=true:=by
    rw[g4,b2];obtain⟨⟨eG,eW,eX,eY,eZ,e0,e1,e2⟩,e3⟩:=q;have:eG=2:=eF;subst this;rfl
   obtain⟨eH,ds⟩:=eE hd;refine⟨by rw[g3]at eH;omega,?_⟩;rw[b2,Rm]at ds;exact ds
  have du:Hid (∀w',Bw ao w'→Calls prog 85 #[.pointer (some ⟨b,0,none⟩),BK cs,BK H] w' fun e bp=>Vo x0 ni f t e∧Bw w' bp):=fun w' hb=>by
   rw[bn,b0];exact VW (bB.out.below (be.out.trans (hb.mono be.out.size))) R.out f t ⟨T.t,T.dir,T.nd.on (Aj hb),T.there,T.no⟩ ⟨ap.t,ap.dir,ap.nd.on (Aj hb),ap.there,ap.no⟩ (bH.on (Aj hb)) (b1.on (Aj hb)) az.2.1 a1.2.1 bY
  have bs:Ce ao F.heap.size 0 (.bool f.t.d):=(ak.out.a 0).trans (by rw[bn];obtain⟨⟨dw,dx,dy,tg,dz⟩,dir,na,nc,nf,d0,⟨d1,d2,d3,d4,d5,d6,d7,xs⟩,d8,ly⟩:=f;rfl);have a6:Ce ao F.heap.size 10 (.slice f.na f.nf.length f.nc):=(ak.out.a 10).trans (by rw[bn];obtain⟨⟨dw,dx,dy,tg,dz⟩,dir,na,nc,nf,d0,⟨d1,d2,d3,d4,d5,d6,d7,xs⟩,d8,ly⟩:=f;rfl);have a7:Ce ao (F.heap.size+1) 10 (.slice t.na t.nf.length t.nc):=(ak.out.b 10).trans (by rw[b0];obtain⟨⟨dw,dx,dy,tg,dz⟩,dir,na,nc,nf,d0,⟨d1,d2,d3,d4,d5,d6,d7,xs⟩,d8,ly⟩:=t;rfl);have bu:=hid bH;have bv:=hid b1;have d9:=hid bY;have ea:=hid dn;have bf:Hid ((∀s∈f.nf,AQ s=true)∧f.nf.length≤6∧f.nf≠[]):=⟨az.1,az.2.1,az.2.2 db⟩;have bx:Hid ((∀s∈t.nf,AQ s=true)∧t.nf.length≤6∧t.nf≠[]):=⟨a1.1,a1.2.1,a1.2.2 dd⟩;obtain⟨eI,b3⟩:∃a,Hid (f.na=a):=⟨_,rfl⟩;obtain⟨eJ,b4⟩:∃a,Hid (f.nc=a):=⟨_,rfl⟩;obtain⟨b5,J⟩:∃a,Hid (f.nf=a):=⟨_,rfl⟩;obtain⟨eK,b6⟩:∃a,Hid (t.na=a):=⟨_,rfl⟩;obtain⟨eL,b7⟩:∃a,Hid (t.nc=a):=⟨_,rfl⟩;obtain⟨eb,a8⟩:∃a,Hid (t.nf=a):=⟨_,rfl⟩;obtain⟨e4,ec⟩:∃a,Hid (f.t.d=a):=⟨_,rfl⟩;rw[b3.out,J.out]at bu;rw[b6.out,a8.out]at bv;rw[b4.out,J.out]at d9;rw[b7.out,a8.out]at ea;rw[J.out]at bf;rw[a8.out]at bx;rw[ec.out]at bs;rw[b3.out,b4.out,J.out]at a6;rw[b6.out,b7.out,a8.out]at a7;have ed:Hid (∀w',Bw ao w'→Calls prog 85 #[.pointer (some ⟨b,0,none⟩),BK cs,BK H] w' fun e bp=>(∃E,e=.returned (Am E)∧(E=0→¬b5<+:eb∧(q.1.kind=2→q.2=0∧(q.1.opq=true∨DX (x0::ni) b5=false))))∧Bw w' bp):=fun w' hb=>by
   refine nn (du.out w' hb) ?_;rintro e bp ⟨⟨E,a6,a7⟩,eM⟩;refine⟨⟨E,a6,fun eN=>?_⟩,eM⟩;obtain⟨b9,a2⟩:=a7 eN;have a3:=dr.out a2;rw[J.out,a8.out]at b9;rw[J.out]at a3;refine⟨fun eO=>?_,a3⟩;rw[(Oa _ _).2 eO]at b9;cases b9
  rw[J.out]at dp;have ee:=hid (Z2 eI eK eJ eL b5 eb ao (by have:=bf.out.2.1;omega) bu.out bv.out);rw[show Am 0=Value.nilIface from rfl];clear bG bd hF de bn dg dj bH bY T bo b0 dk dm b1 dn ap eB az a1 g1 b2 g3 g4 du dr db dd b3 b4 J b6 b7 a8 ec f t;go_wp2_with fail
  refine nn ee.out ?_;rintro e eP ⟨⟨eQ,rfl⟩,G⟩;have cb:=hid (be.out.trans (G.mono be.out.size));have cf:=hid (ak.out.below G);cases eQ with
  |true=>
   clear bs a6 a7 G;go_wp2;go_ret;exact⟨⟨0,rfl⟩,bC.out _ cb.out⟩
  |false=>
   have ef:=hid (ed.out eP G);have eg:=Ad G bs;have ej:=Ad G a6;have ek:=Ad G a7;have el:=hid (bu.out.on (Aj G));have em:=hid (bv.out.on (Aj G));clear bs a6 a7 G ed ee c4 bF c6 c8 bu bv;go_upto_region 4 with fail
   refine rU ?_;refine KF rfl _ rfl ?_;simp only[tk];refine wpList_load_mid rfl _ _ rfl _ _ rfl cs _ cf.out.rowA rfl rfl (by rw[eu.out];rfl) ?_;simp only[tk];refine wpList_load_mid rfl _ _ rfl _ _ rfl H _ cf.out.rowB rfl rfl (by rw[ev.out];rfl) ?_;simp only[tk];go_wp2_with fail
   refine nn ef.out ?_;rintro e e5 ⟨⟨E,rfl,cg⟩,V⟩;have ch:=hid (cb.out.trans (V.mono cb.out.size));have cl:=Ad V eg;have co:=Ad V ej;have cp:=Ad V ek;have eR:=hid (el.out.on (Aj V));have eS:=hid (em.out.on (Aj V));clear ef V eg ej ek el em cf;by_cases en:E=0
   ·subst en
    obtain⟨eo,ep⟩:=cg rfl;have eq:=hid (I8 (bB.out.below ch.out) (nt _ _) R.out (Yj (nt _ _) R.out.fine R.out.sz R.out.vv eR.out bf.out.1 bf.out.2.2 bf.out.2.1 d9.out eS.out bx.out.1 bx.out.2.2 bx.out.2.1 ea.out cl co cp eo dp.out ep));rw[show Am 0=Value.nilIface from rfl];clear eo ep cl co cp cg;go_wp2_with fail
    refine nn eq.out ?_;rintro e e6 ⟨⟨E,rfl⟩,er⟩;have eT:=hid (er.up ch.out);clear er eq;go_wp2;go_ret;exact⟨⟨E,rfl⟩,eT.out⟩
   ·have bg:=AH (n:=E) rfl en
    rw[bg];clear cl co cp cg;go_wp2;go_ret;exact⟨⟨E,by rw[bg];rfl⟩,bC.out _ ch.out⟩
 ·have bg:=AH (n:=E) rfl da
  rw[bg];clear bG bd;go_wp2;go_ret;exact⟨⟨E,by rw[bg];rfl⟩,bC.out _ be.out⟩
end Go.Proofs.YtgppjbhaimmlpaaGreatDoor
