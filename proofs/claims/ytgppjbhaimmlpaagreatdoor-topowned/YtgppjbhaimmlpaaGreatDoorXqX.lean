/-
  TopOwned: Xq Xt Xu Xv Va Vb Vc Vd.
-/
import Derived.Test.YtgppjbhaimmlpaaGreatDoorApX
import Derived.Test.YtgppjbhaimmlpaaGreatDoorXoX
import Derived.Deep.AppendSrc
import Derived.Lib.AppendStr
import Derived.Test.YtgppjbhaimmlpaaGreatDoorMaX
import Derived.Deep.RegionHeld3
import Derived.Deep.Cut
set_option maxRecDepth 100000
set_option maxHeartbeats 16000000
namespace Go.Proofs.YtgppjbhaimmlpaaGreatDoor
open Go.RowKit Go.Proofs.Tryz
theorem bV(x:Nd)(h:Hd)(o:Nat)(v:Value)(F:(Bi x h)[o]? =some v):((∃s,v=.string s)→o%8=6)∧(o%8=7→¬Ha v):=by
 obtain⟨k,m,u,g,G,nh,d,ks⟩:=x;have H:o<8:=by
  have:=(nw.1 F).1;rwa [DT]at this
 rcases(by omega:o=0∨o=1∨o=2∨o=3∨o=4∨o=5∨o=6∨o=7)with q|q|q|q|q|q|q|q<;>subst q<;>simp[Bi]at F<;>subst F<;>simp[Ha]
theorem Uo:∀(L:List Fl) (o:Nat) (v:Value),(Be L)[o]? =some v→((∃s,v=.string s)→o%8=6)∧(o%8=7→¬Ha v)
 |[],o,v,h=>by simp[Be]at h
 |f::r,o,v,h=>by
  rw[Be]at h;by_cases F:o<8
  ·rw[rH (by rw[DT];omega)]at h
   exact bV _ _ _ _ h
  ·rw[rm (by rw[DT];omega),DT]at h
   have:=Uo r (o-8) v h;rwa [show(o-8)%8=o%8 by omega]at this
abbrev Gs:Value:=.agg #[.int .i64 0,.int .i64 0,.int .i64 0,.int .i64 0,.bool false,.slice none 0 0,.string ⟨#[]⟩,.slice none 0 0]
theorem cV(k o:Nat)(v:Value)(h:(Builtin.zeroCells Gs.cells k)[o]? =some v):((∃s,v=.string s)→o%8=6)∧(o%8=7→¬Ha v):=by
 have e:Gs.cells=#[.int .i64 0,.int .i64 0,.int .i64 0,.int .i64 0,.bool false,.slice none 0 0,.string ⟨#[]⟩,.slice none 0 0]:=rfl;rw[e]at h;unfold Builtin.zeroCells at h;rw[Array.getElem?_map]at h;obtain⟨a,F,rfl⟩:=nY.1 h;have H:o=a:=by
  rw[nI]at F;obtain⟨J,G⟩:=F;rw[Array.getElem_range]at G;exact G
 subst H;have I:o%8<8:=by omega
 show((∃s,(#[.int .i64 0,.int .i64 0,.int .i64 0,.int .i64 0,.bool false,.slice none 0 0,.string ⟨#[]⟩,.slice none 0 0]:Array Value)[o%8]! =.string s)→o%8=6)∧(o%8=7→¬Ha (#[.int .i64 0,.int .i64 0,.int .i64 0,.int .i64 0,.bool false,.slice none 0 0,.string ⟨#[]⟩,.slice none 0 0]:Array Value)[o%8]!);generalize o%8=q at I;rcases(by omega:q=0∨q=1∨q=2∨q=3∨q=4∨q=5∨q=6∨q=7)with e|e|e|e|e|e|e|e<;>subst e<;>simp[Ha]
theorem WG{w:World}(b H cap:Nat)(L:List Fl)(bn:0<L.length)(bo:L.length≤1000)(ao:∀j u,(Be L)[j]? =some u→w.cell? ⟨b,H+j,none⟩=some u):
 Calls prog 160 #[.slice (some ⟨b,H,none⟩) L.length cap] w fun e w'=>(∃F G,e=.returned (.slice (some ⟨F,0,none⟩) L.length G)∧(L.length≤G∧G≤9223372036854775807)∧w.heap.size≤F∧(∀j u,(Be L)[j]? =some u→w'.cell? ⟨F,j,none⟩=some u)∧DE w'.cell? F∧∀o,w'.frozen? ⟨F,o,none⟩=false)∧Bw w w':=by
 have bp:=fun(W:World) (n c:Nat)=>rY (P:=prog) W 30 50 (some ⟨b,H,none⟩) n c 0 0 underlying30;obtain⟨ap,az,a1,a6,a7⟩:=Eb Tryz.infoNd
 have J:Bw w (w.alloc (.cells #[] 50)):=(nt _ _).alloc (nl _) _;have a8:Src prog ap.size 30 (.slice (some ⟨b,H,none⟩) L.length cap) L.length (Be L) (w.alloc (.cells #[] 50)):=by
  rw[a6];exact Src.ofSlice _ underlying30 ⟨b,H,none⟩ L.length cap (Be L) (Ka L) (fun j u I=>by rw[Addr.add_lit];exact Ad J (ao j u I)) (NP L)
 have ba:∀V,(Builtin.append_ #[30,30] V #[.slice (some ⟨w.heap.size,0,none⟩) 0 0,.slice (some ⟨b,H,none⟩) L.length cap]).run prog (w.alloc (.cells #[] 50))=_:=fun V=>run_append_grow_src _ 30 30 V 50 ap Gs underlying30 az a1 (some ⟨w.heap.size,0,none⟩) 0 0 [] (run_firstCells_some _ _ 0 ⟨w.heap.size,0,none⟩ 0 0 [] (by simp) (fun j u I=>by simp at I)) _ L.length (Be L) a8 (by omega) (by omega) (by rw[nextslicecap_zero (by omega),a7];omega);have bb:0+L.length≤grownCap (w.alloc (.cells #[] 50)) (0+L.length) 0 50:=grownCap_ge _ _ 0 50
 have O:grownCap (w.alloc (.cells #[] 50)) (0+L.length) 0 50≤maxLen:=grownCap_le_maxLen _ _ 0 50 (by unfold maxLen;omega);generalize grownCap (w.alloc (.cells #[] 50)) (0+L.length) 0 50=c at ba bb O;have Y:∀o,((w.alloc (.cells #[] 50)).drew.alloc (.cells (([]++Be L).toArray++Builtin.zeroCells Gs.cells (c-(0+L.length))) 50)).cell? ⟨(w.alloc (.cells #[] 50)).heap.size,o,none⟩=(([]++Be L).toArray++Builtin.zeroCells Gs.cells (c-(0+L.length)))[o]?:=fun o=>nk _ _ _ _ rfl;have Z:∀o,((w.alloc (.cells #[] 50)).drew.alloc (.cells (([]++Be L).toArray++Builtin.zeroCells Gs.cells (c-(0+L.length))) 50)).frozen? ⟨(w.alloc (.cells #[] 50)).heap.size,o,none⟩=false:=fun o=>nP _ _ _ _ rfl
 have bd:Bw w ((w.alloc (.cells #[] 50)).drew.alloc (.cells (([]++Be L).toArray++Builtin.zeroCells Gs.cells (c-(0+L.length))) 50)):=(J.drew).alloc J.size _;have aa:w.heap.size≤(w.alloc (.cells #[] 50)).heap.size:=J.size;have ab:∀j u,(Be L)[j]? =some u→((w.alloc (.cells #[] 50)).drew.alloc (.cells (([]++Be L).toArray++Builtin.zeroCells Gs.cells (c-(0+L.length))) 50)).cell? ⟨(w.alloc (.cells #[] 50)).heap.size,j,none⟩=some u:=fun j u I=>by
  have bg:=(nw.1 I).1;rw[Y,Array.getElem?_append_left (by simpa using bg)];simpa using I
 have ad:∀o v,(([]++Be L).toArray++Builtin.zeroCells Gs.cells (c-(0+L.length)))[o]? =some v→((∃s,v=.string s)→o%8=6)∧(o%8=7→¬Ha v):=fun o v Q=>by
  rcases Nat.lt_or_ge o (Be L).length with R|R
  ·rw[Array.getElem?_append_left (by simpa using R)]at Q
   exact Uo L o v (by simpa using Q)
  ·rw[Array.getElem?_append_right (by simpa using R)]at Q
   have:=cV _ _ v Q;have bi:([]++Be L).toArray.size=L.length*8:=by simp[Ka]
   rw[bi,show(o-L.length*8)%8=o%8 by rw[Ka]at R;omega]at this;exact this
 have ak:DE ((w.alloc (.cells #[] 50)).drew.alloc (.cells (([]++Be L).toArray++Builtin.zeroCells Gs.cells (c-(0+L.length))) 50)).cell? (w.alloc (.cells #[] 50)).heap.size:=fun o s v be bf=>by
  rw[Y]at be bf;have bs:=(ad _ _ be).1 ⟨s,rfl⟩;exact(ad _ _ bf).2 (by omega)
 generalize bk:((w.alloc (.cells #[] 50)).drew.alloc (.cells (([]++Be L).toArray++Builtin.zeroCells Gs.cells (c-(0+L.length))) 50))=T at*;clear bk ad Y a8;unfold maxLen at O;simp only[nv]at ab ak Z aa;have bl:Hid ((∃F G,Ending.returned (.slice (some ⟨w.heap.size+1,0,none⟩) L.length c)=.returned (.slice (some ⟨F,0,none⟩) L.length G)∧(L.length≤G∧G≤9223372036854775807)∧w.heap.size≤F∧(∀j u,(Be L)[j]? =some u→T.cell? ⟨F,j,none⟩=some u)∧DE T.cell? F∧∀o,T.frozen? ⟨F,o,none⟩=false)∧Bw w T):=⟨⟨_,c,rfl,⟨by omega,O⟩,aa,ab,ak,Z⟩,bd⟩;clear ab ak Z bd aa bb O ao J az a1 a6 a7;go_enter func160,ntmps160;go_wp2_with (at_builtin;refine Lib.wpList_append_run _ rfl _ _ _ _ rfl _ _ rfl rfl _ _ (ba _) ?_)
 go_wp2;go_ret;exact bl.out
theorem Tj{c:Option Nd}{l:List BA}{x0 r:Nd}(F:AB x0)(G:∀x,c=some x→AB x)(I:cnt x0+GF c≤1000)(h:AG c l x0=.ok r):A7 r∧cnt r≤1000:=by
 have J:=Jr h;have H:AB r:=by
  cases c with
  |none=>exact Ug h F
  |some x=>exact Lk h (G x rfl) F
 exact⟨GB r (by omega) H,by omega⟩
theorem Je{Q w:World}{J H lc:Nat}{M:CE}{x0:Nd}{ni:List Nd}(h:Bd Q w J H lc M x0 ni){n:Nat}(V:Fo n x0 ni)(db:n≤400){x:Nd}{hd:Hd}(ap:Ah w.cell? x hd)(hx:AB x)(dd:cnt x≤400){an:Option Addr}{nj:Nat}{nf:List BA}(az:A0 Q.cell? an nf)(b4:nf.length≤500)(bl:nf.length≤nj∧nj≤9223372036854775807):
 Calls prog 90 #[.pointer (some ⟨J,0,none⟩),.slice an nf.length nj,Ao x hd] w fun e w'=>e=.returned (Am (Cn x nf x0).1)∧Bd Q w' J H lc M (Cn x nf x0).2 ni∧Au H w w':=by
 obtain⟨k,m,u,g,o,nh,d,ks⟩:=x;have aa:=As.new w k m u g o nh d ks hd;have T:Bw w (w.alloc (Ap k m u g o nh d ks hd)):=(nt _ _).alloc (nl _) _;have ab:=h.below T;have ad:=ap.on (Aj T);have b5:w.heap.size≠H:=by have:=h.ltn;omega
 have b6:Hid _:=T;show Calls prog 90 #[.pointer (some ⟨J,0,none⟩),.slice an nf.length nj,(AY k m u g o nh d ks hd)] w _;obtain⟨P,R⟩:∃P,Hid (Cn (.mk k m u g o nh d ks) nf x0=P):=⟨_,rfl⟩;rw[R.out];unfold Cn at R;by_cases Y:nf=[]
 ·have bn:Hid (Calls prog 131 #[.pointer (some ⟨J,0,none⟩),(AY k m u g o nh d ks hd),.nilIface] (w.alloc (Ap k m u g o nh d ks hd)) fun e w'=>e=.returned (.nilIface)∧Bd Q w' J H lc M (.mk k m u g o nh d ks) ni∧Au H (w.alloc (Ap k m u g o nh d ks hd)) w'):=by
   have e:=La ab ad 0;rw[nC rfl]at e;exact e
  have bo:Hid (P=(0,.mk k m u g o nh d ks)):=by show P=_;rw[←R.out,nC Y]
  rw[bo.out];subst Y;obtain⟨a1,a6,a7,a8,ba,bb,bd,be⟩:=aa.1;clear h T ab ad aa az V ap R bo;go_enter func90,ntmps90;go_wp2_with fail
  refine nn bn.out ?_;rintro e de ⟨rfl,bp,bs⟩;have b7:=hid bp;have b9:=hid ((Au.of_below b6.out).trans bs);clear bp bs bn a1 a6 a7 a8 ba bb bd be;go_wp2;go_ret;exact⟨rfl,b7.out,b9.out⟩
 ·rw[nB Y]at R
  have ak:Bw (w.alloc (Ap k m u g o nh d ks hd)) (w.alloc (Ap k m u g o nh d ks hd)).drew:=(nt _ _).drew;have Z:=ab.below ak;have cb:=hid (az.on (Aj Z.base));have bf:=aa.below ak;have cf:=hid bf;have cg:=hid (ad.on (Aj ak));have bu:=hid (Gy Z.c2 Z.lay);have ch:=hid Z;have bv:=hid T.drew;obtain⟨I,bx⟩:∃I,Hid (AG (some (.mk k m u g o nh d ks)) nf x0=I):=⟨_,rfl⟩;have cl:Hid (∀r,AG (some (.mk k m u g o nh d ks)) nf x0=.ok r→A7 r∧cnt r≤1000):=fun r co=>Tj V.lil (fun y bg=>by injection bg with bg;subst bg;exact hx) (by have e:GF (some (.mk k m u g o nh d ks:Nd))=cnt (.mk k m u g o nh d ks):=rfl;have:=V.cnt;omega) co;have cp:Hid (cnt x0≤800):=by have:=V.cnt;show _≤_;omega
  have bA:Hid (P=(EG I,if EG I=0 then DM I else x0)):=by show P=_;rw[←R.out,bx.out];rfl
  rw[bA.out];obtain⟨ao,bi⟩:∃ao,Hid ((if EG I=0 then DM I else x0)=ao):=⟨_,rfl⟩;rw[bi.out];obtain⟨N,bk⟩:∃N,nf.length=N+1:=⟨nf.length-1,by have:=ri.2 Y;omega⟩;rw[bk];have cq:=hid bk;have cr:=hid bl;have cu:Hid (nf.length≤1000):=by show _≤_;omega
  have cx:(w.alloc (Ap k m u g o nh d ks hd)).drew.cell? ⟨w.heap.size,0,none⟩=some (.int .i64 k)∧(w.alloc (Ap k m u g o nh d ks hd)).drew.cell? ⟨w.heap.size,1,none⟩=some (.int .i64 m)∧(w.alloc (Ap k m u g o nh d ks hd)).drew.cell? ⟨w.heap.size,2,none⟩=some (.int .i64 u)∧(w.alloc (Ap k m u g o nh d ks hd)).drew.cell? ⟨w.heap.size,3,none⟩=some (.int .i64 g)∧(w.alloc (Ap k m u g o nh d ks hd)).drew.cell? ⟨w.heap.size,4,none⟩=some (.bool o)∧(w.alloc (Ap k m u g o nh d ks hd)).drew.cell? ⟨w.heap.size,5,none⟩=some (.slice hd.aa nh.length hd.ca)∧(w.alloc (Ap k m u g o nh d ks hd)).drew.cell? ⟨w.heap.size,6,none⟩=some (.string d)∧(w.alloc (Ap k m u g o nh d ks hd)).drew.cell? ⟨w.heap.size,7,none⟩=some (.slice hd.ak ks.length hd.ck):=by
   obtain⟨a1,a6,a7,a8,ba,bb,bd,be⟩:=bf.1;exact⟨a1,a6,a7,a8,ba,bb,bd,be⟩
  clear h T ab ad aa az V ap R bA ak Z bf Y bk bl b4;obtain⟨E,bB⟩:∃E,Hid (EG I=E):=⟨_,rfl⟩;rw[bB.out]at bi⊢;go_enter func90,ntmps90;go_upto_region 3 with fail
  generalize(w.alloc (Ap k m u g o nh d ks hd))=dg at*;go_region_held3 (fun w'=>w'.cell? ⟨w.heap.size,0,none⟩=some (.int .i64 k)∧w'.cell? ⟨w.heap.size,1,none⟩=some (.int .i64 m)∧w'.cell? ⟨w.heap.size,2,none⟩=some (.int .i64 u)∧w'.cell? ⟨w.heap.size,3,none⟩=some (.int .i64 g)∧w'.cell? ⟨w.heap.size,4,none⟩=some (.bool o)∧w'.cell? ⟨w.heap.size,5,none⟩=some (.slice hd.aa nh.length hd.ca)∧w'.cell? ⟨w.heap.size,6,none⟩=some (.string d)∧w'.cell? ⟨w.heap.size,7,none⟩=some (.slice hd.ak ks.length hd.ck)) (first|with_reducible exact cx|with_reducible exact cA|with_reducible exact cB|with_reducible exact c3) (first|(go_at_call 22;(with_reducible refine nn bu.out ?_);rintro e F ⟨⟨c4,rfl,_,bC⟩,q6⟩;have bF:Hid (As F w.heap.size (.mk k m u g o nh d ks) hd):=cf.out.below q6;have cA:F.cell? ⟨w.heap.size,0,none⟩=some (.int .i64 k)∧F.cell? ⟨w.heap.size,1,none⟩=some (.int .i64 m)∧F.cell? ⟨w.heap.size,2,none⟩=some (.int .i64 u)∧F.cell? ⟨w.heap.size,3,none⟩=some (.int .i64 g)∧F.cell? ⟨w.heap.size,4,none⟩=some (.bool o)∧F.cell? ⟨w.heap.size,5,none⟩=some (.slice hd.aa nh.length hd.ca)∧F.cell? ⟨w.heap.size,6,none⟩=some (.string d)∧F.cell? ⟨w.heap.size,7,none⟩=some (.slice hd.ak ks.length hd.ck):=bF.out.1;have bG:Hid (Calls prog 138 #[Ao x0 c4,.slice an (N+1) nj,(AY k m u g o nh d ks hd)] F fun e bH=>(∃h',e=.returned (.tuple #[Ao (DM I) h',Am E])∧Ah bH.cell? (DM I) h')∧Bw F bH):=(by have e:=ZK bC an nj nf (cb.out.on (Aj q6)) cu.out cr.out cp.out (.mk k m u g o nh d ks) hd (cg.out.on (Aj q6)) cl.out;rw[bx.out,cq.out]at e;unfold Mm at e;rw[bB.out]at e;exact e);have c5:Hid (Bd Q F J H lc M x0 ni):=ch.out.below q6;have bY:Hid (Bw w F):=bv.out.trans (q6.mono bv.out.size);clear bu bC q6)|(go_at_call 138;(with_reducible refine nn bG.out ?_);rintro e G ⟨⟨c6,rfl,b0⟩,q7⟩;have b1:Hid (As G w.heap.size (.mk k m u g o nh d ks) hd):=bF.out.below q7;have cB:G.cell? ⟨w.heap.size,0,none⟩=some (.int .i64 k)∧G.cell? ⟨w.heap.size,1,none⟩=some (.int .i64 m)∧G.cell? ⟨w.heap.size,2,none⟩=some (.int .i64 u)∧G.cell? ⟨w.heap.size,3,none⟩=some (.int .i64 g)∧G.cell? ⟨w.heap.size,4,none⟩=some (.bool o)∧G.cell? ⟨w.heap.size,5,none⟩=some (.slice hd.aa nh.length hd.ca)∧G.cell? ⟨w.heap.size,6,none⟩=some (.string d)∧G.cell? ⟨w.heap.size,7,none⟩=some (.slice hd.ak ks.length hd.ck):=b1.out.1;have b2:Hid (Calls prog 131 #[.pointer (some ⟨J,0,none⟩),Ao (DM I) c6,Am E] G fun e w'=>e=.returned (Am E)∧Bd Q w' J H lc M ao ni∧Au H G w'):=(by have e:=La (c5.out.below q7) b0 E;rw[bi.out]at e;exact e);have c8:Hid (Bw w G):=bY.out.trans (q7.mono bY.out.size);clear bG b0 q7)|(go_at_call 131;(with_reducible refine nn b2.out ?_);rintro e O ⟨rfl,b3,b8⟩;have c3:O.cell? ⟨w.heap.size,0,none⟩=some (.int .i64 k)∧O.cell? ⟨w.heap.size,1,none⟩=some (.int .i64 m)∧O.cell? ⟨w.heap.size,2,none⟩=some (.int .i64 u)∧O.cell? ⟨w.heap.size,3,none⟩=some (.int .i64 g)∧O.cell? ⟨w.heap.size,4,none⟩=some (.bool o)∧O.cell? ⟨w.heap.size,5,none⟩=some (.slice hd.aa nh.length hd.ca)∧O.cell? ⟨w.heap.size,6,none⟩=some (.string d)∧O.cell? ⟨w.heap.size,7,none⟩=some (.slice hd.ak ks.length hd.ck):=(b1.out.but b8 b5).1;have c9:Hid (Bd Q O J H lc M ao ni):=b3;have da:Hid (Au H w O):=(Au.of_below c8.out).trans b8;clear b2 b3 b8))
  all_goals
   go_wp2;go_ret;exact⟨rfl,c9.out,da.out⟩
theorem PD{O w:World}{I F lc:Nat}{M:CE}{x0:Nd}{ni:List Nd}(h:Bd O w I F lc M x0 ni){n:Nat}(bk:Fo n x0 ni){an:Option Addr}{nj:Nat}{nf:List BA}(ao:A0 O.cell? an nf)(ab:nf≠[])(bl:n+nf.length≤399)(ap:nf.length≤nj∧nj≤9223372036854775807)(az:(Bo M.us M.gs x0 ni nf.dropLast).1=0→Fo (n+nf.length) (Bo M.us M.gs x0 ni nf.dropLast).2 ni):
 Calls prog 82 #[.pointer (some ⟨I,0,none⟩),.slice an nf.length nj] w fun e w'=>e=.returned (Am (Et M.us M.gs x0 ni nf).1)∧Bd O w' I F lc M (Et M.us M.gs x0 ni nf).2 ni∧Au F w w':=by
 have cf:nf.dropLast.length≤nf.length:=by rw[r7];omega
 have bn:A0 O.cell? an nf.dropLast:=by
  rcases ao with e|⟨b,cg,ch,cl⟩
  ·exact absurd e ab
  ·refine .inr ⟨b,cg,ch,fun i s Y=>cl i s ?_⟩
   have dg:=(nw.1 Y).1;rw[List.getElem?_dropLast]at Y;split at Y
   ·exact Y
   ·cases Y
 obtain⟨dl,bo⟩:∃dl,Hid (nf.dropLast.length=dl):=⟨_,rfl⟩;have bp:Hid (Calls prog 88 #[.slice an nf.length nj] w fun e w'=>e=.returned (.slice an dl nj)∧Bw w w'):=by
  have e:=MH w an nj nf ab ap;rw[bo.out]at e;exact e
 have a1:∀Q,Bw w Q→Hid (Calls prog 87 #[.pointer (some ⟨I,0,none⟩),.slice an dl nj] Q fun e w'=>e=.returned (Am (Bo M.us M.gs x0 ni nf.dropLast).1)∧Bd O w' I F lc M (Bo M.us M.gs x0 ni nf.dropLast).2 ni∧Au F Q w'):=fun Q hb=>by
  have e:=J7 (h.below hb) bk (by omega) bn (nj:=nj) (by omega) (by omega);rw[bo.out]at e;exact e
 obtain⟨a6,G⟩:∃a6,Hid (Et M.us M.gs x0 ni nf=a6):=⟨_,rfl⟩;rw[G.out];have hF:=G.out;unfold Et at hF;clear G;generalize Bo M.us M.gs x0 ni nf.dropLast=P at*;obtain⟨E,H⟩:=P;dsimp only at a1 az hF;have G:Hid _:=hF;clear hF;have a7:Hid _:=ap;have bs:=hid bl;have dj:=hid ab;have a8:=hid ao;have co:Hid _:=az;clear ao ap bn bk ab az bl cf;go_enter func82,ntmps82;go_wp2_with fail
 refine nn bp.out ?_;rintro e Q ⟨rfl,q2⟩;have bu:=a1 Q q2;clear a1 bp;go_wp2_with fail
 refine nn bu.out ?_;rintro e ba ⟨rfl,R,bv⟩;have Z:=hid ((Au.of_below q2).trans bv);have ad:=hid R;clear bu q2 bv h;by_cases bb:E=0
 ·subst bb
  have bd:=co.out rfl;have bx:=bd.ok (by have:=bs.out;omega);have bA:=a8.out.on (Aj R.base);have dk:=bs.out;have dm:=R.c2;have be:Hid (Calls prog 24 #[.slice (some ⟨F,0,none⟩) (ni.length+1) lc,.slice an nf.length nj] ba fun e w'=>e=.returned (.bool (DX (H::ni) nf))∧Bw ba w'):=KE (w:=ba) (S:=fun _=>false) (xs:=H::ni) (fun _ cp=>by cases cp) (by rw[C4];exact R.lay) (by rw[C4];exact bA) bx (by omega) a7.out;have T:Hid _:=bd;clear R bd bx bA;rw[show Am 0=Value.nilIface from rfl];have hF:=G.out;rw[nC rfl]at hF;generalize DX (H::ni) nf=cq at*;have ak:Hid _:=hF;clear hF G;go_wp2_with fail
  refine nn be.out ?_;rintro e dn ⟨rfl,q4⟩;have V:=ad.out.below q4;cases cq with
  |true=>
   have hF:=ak.out;rw[nC rfl]at hF;clear ak;have bf:=hid (Je V T.out (by omega) (x:=Ih) (hd:=zH) (Cj.2 ⟨.inl rfl,⟨nl _,by decide⟩,⟨nl _,by decide⟩,.inl rfl⟩) (by unfold Ih;rw[AB,Bt];exact⟨⟨by decide,fun r bg=>by cases bg⟩,by decide,trivial⟩) (by decide) a8.out (by omega) a7.out);rw[hF]at bf;clear hF;have bi:=hid (Z.out.then q4);clear V q4 be Z ad T;go_wp2_with fail
   refine nn bf.out ?_;rintro e dp ⟨rfl,bB,bC⟩;have cr:=hid bB;have cu:=hid (bi.out.trans bC);clear bB bC bf;go_wp2;go_ret;exact⟨rfl,cr.out,cu.out⟩
  |false=>
   have hF:=ak.out;rw[nB (by decide)]at hF;have bF:Hid _:=hF;clear ak hF;have bG:=hid (Gy V.c2 V.lay);have cx:=hid V;have bi:=hid (Z.out.then q4);obtain⟨J,bH⟩:∃J,Hid (AG none nf H=J):=⟨_,rfl⟩;have cA:Hid (∀r,AG none nf H=.ok r→A7 r∧cnt r≤1000):=fun r bg=>Tj T.out.lil (fun y cB=>by cases cB) (by have e:GF (none:Option Nd)=0:=rfl;have:=T.out.cnt;omega) bg;have c3:Hid (cnt H≤800):=by have:=T.out.cnt;show _≤_;omega
   have c4:Hid (nf.length≤1000):=by show _≤_;omega
   have aa:=bF.out;rw[bH.out]at aa;unfold Gu at aa;obtain⟨E,bY⟩:=a6;have b0:Hid (EG J=E):=nV Prod.fst aa;have c5:Hid ((if E=0 then DM J else H)=bY):=by
    have e:=nV Prod.snd aa;dsimp only at e;rw[b0.out]at e;exact e
   clear aa bF;clear V q4 be Z ad T;go_wp2_with fail
   refine nn bG.out ?_;rintro e b1 ⟨⟨c6,rfl,_,b2⟩,q6⟩;have b3:=hid (cx.out.below q6);have c8:=hid (bi.out.then q6);have b4:Hid (Calls prog 132 #[Ao H c6,.slice an nf.length nj] b1 fun e b5=>(∃h',e=.returned (.tuple #[Ao (DM J) h',Am E])∧Ah b5.cell? (DM J) h')∧Bw b1 b5):=by
    have e:=YR b2 an nj nf (a8.out.on (Aj b3.out.base)) c4.out a7.out c3.out cA.out;rw[bH.out]at e;unfold Mm at e;rw[b0.out]at e;exact e
   clear bG b2 q6;go_wp2_with fail
   refine nn b4.out ?_;rintro e b6 ⟨⟨c9,rfl,b7⟩,q7⟩;have b9:Hid (Calls prog 131 #[.pointer (some ⟨I,0,none⟩),Ao (DM J) c9,Am E] b6 fun e w'=>e=.returned (Am E)∧Bd O w' I F lc M bY ni∧Au F b6 w'):=by
    have e:=La (b3.out.below q7) b7 E;rw[c5.out]at e;exact e
   have da:=hid (c8.out.then q7);clear b4 b7 q7;go_wp2_with fail
   refine nn b9.out ?_;rintro e dr ⟨rfl,cb,b8⟩;have db:=hid cb;have dd:=hid (da.out.trans b8);clear b9 cb b8;go_wp2;go_ret;exact⟨rfl,db.out,dd.out⟩
 ·have de:=AH (n:=E) rfl bb
  have hF:=G.out;rw[nB bb]at hF;subst hF;rw[de];clear R G;go_wp2;go_ret;exact⟨rfl,ad.out,Z.out⟩
def O2(w w':World)(F G:Nat)(xs:List Nd):Prop:=(xs.length≤G∧G≤9223372036854775807)∧w.heap.size≤F∧Ch w'.cell? (some ⟨F,0,none⟩) xs∧DE w'.cell? F∧∀o,w'.frozen? ⟨F,o,none⟩=false
theorem Nj{w:World}{r:Nat}(v0 F G:Value):Au r w (((w.setCell ⟨r,0,none⟩ v0).setCell ⟨r,1,none⟩ F).setCell ⟨r,2,none⟩ G):=(((Au.refl r w).setCell 0 none v0).setCell 1 none F).setCell 2 none G
theorem PT{w:World}{r:Nat}{u0 u1 u2:Value}(H:w.cell? ⟨r,0,none⟩=some u0)(I:w.cell? ⟨r,1,none⟩=some u1)(J:w.cell? ⟨r,2,none⟩=some u2)(v0 F G:Value):
 (((w.setCell ⟨r,0,none⟩ v0).setCell ⟨r,1,none⟩ F).setCell ⟨r,2,none⟩ G).cell? ⟨r,0,none⟩=some v0∧(((w.setCell ⟨r,0,none⟩ v0).setCell ⟨r,1,none⟩ F).setCell ⟨r,2,none⟩ G).cell? ⟨r,1,none⟩=some F∧(((w.setCell ⟨r,0,none⟩ v0).setCell ⟨r,1,none⟩ F).setCell ⟨r,2,none⟩ G).cell? ⟨r,2,none⟩=some G:=by
 refine⟨?_,?_,?_⟩
 ·rw[nz _ _ _ _ (by simp),nz _ _ _ _ (by simp)]
  exact nH _ _ _ H
 ·rw[nz _ _ _ _ (by simp)]
  exact nH _ _ _ ((nz _ _ _ _ (by simp)).trans I)
 ·exact nH _ _ _ ((nz _ _ _ _ (by simp)).trans ((nz _ _ _ _ (by simp)).trans J))
theorem TX{c:AJ}{F:Nat}:∀(L:List Fl),(∀j u,(Be L)[j]? =some u→c ⟨F,j,none⟩=some u)→∀(i:Nat) f,L[i]? =some f→Bj c F (0+i*8) f.x f.h:=fun L h i f G=>by
 rw[nT];exact Fe.2 fun q u H=>h _ _ (Jn L i f G q u H)
theorem Wm{w:World}{b:Nat}{M:CE}{la:Option Addr}{lc:Nat}{x0:Nd}{ni:List Nd}(ab:w.cell? ⟨b,0,none⟩=some (.slice M.ua M.us.length M.uc))(az:w.cell? ⟨b,1,none⟩=some (.slice M.ga M.gs.length M.gc))(bd:w.cell? ⟨b,2,none⟩=some (.slice la (ni.length+1) lc))(be:Ch w.cell? la (x0::ni))(cu:ni.length≤4):
 Calls prog 130 #[.pointer (some ⟨b,0,none⟩)] w fun e w'=>(∃F G,e=.returned (.agg #[.slice M.ua M.us.length M.uc,.slice M.ga M.gs.length M.gc,.slice (some ⟨F,0,none⟩) (ni.length+1) G])∧O2 w w' F G (x0::ni))∧Bw w w':=by
 obtain⟨I,J,uc,gc,us,gs⟩:=M;dsimp only at ab az⊢;obtain⟨lb,Q,rfl,f,bf⟩:∃F bg,la=some ⟨F,bg,none⟩∧∃f:Nat→Hd,∀i y,(x0::ni)[i]? =some y→Bj w.cell? F (bg+i*8) y (f i)∧Ah w.cell? y (f i):=by
  rcases be with e|e
  ·cases e
  ·exact e
 obtain⟨L,a1,bi,bk⟩:=Ot (x0::ni) Q f bf;have a6:L.length=ni.length+1:=by rw[←rk (f:=Fl.x),a1];rfl
 have bl:Bw w (w.alloc (.cells #[.slice none 0 0,.slice none 0 0,.slice none 0 0] 64)):=(nt _ _).alloc (nl _) _;have T:Bw w (w.alloc (.cells #[.slice none 0 0,.slice none 0 0,.slice none 0 0] 64)).drew:=bl.drew;have a7:=hid T;have Z:(w.alloc (.cells #[.slice none 0 0,.slice none 0 0,.slice none 0 0] 64)).drew.cell? ⟨b,0,none⟩=some (.slice I us.length uc)∧(w.alloc (.cells #[.slice none 0 0,.slice none 0 0,.slice none 0 0] 64)).drew.cell? ⟨b,1,none⟩=some (.slice J gs.length gc)∧(w.alloc (.cells #[.slice none 0 0,.slice none 0 0,.slice none 0 0] 64)).drew.cell? ⟨b,2,none⟩=some (.slice (some ⟨lb,Q,none⟩) (ni.length+1) lc):=⟨Ad T ab,Ad T az,Ad T bd⟩;have R:Hid ((w.alloc (.cells #[.slice none 0 0,.slice none 0 0,.slice none 0 0] 64)).drew.cell? ⟨w.heap.size,0,none⟩=some (.slice none 0 0)∧(w.alloc (.cells #[.slice none 0 0,.slice none 0 0,.slice none 0 0] 64)).drew.cell? ⟨w.heap.size,1,none⟩=some (.slice none 0 0)∧(w.alloc (.cells #[.slice none 0 0,.slice none 0 0,.slice none 0 0] 64)).drew.cell? ⟨w.heap.size,2,none⟩=some (.slice none 0 0)∧(w.alloc (.cells #[.slice none 0 0,.slice none 0 0,.slice none 0 0] 64)).drew.frozen? ⟨w.heap.size,0,none⟩=false∧(w.alloc (.cells #[.slice none 0 0,.slice none 0 0,.slice none 0 0] 64)).drew.frozen? ⟨w.heap.size,1,none⟩=false∧(w.alloc (.cells #[.slice none 0 0,.slice none 0 0,.slice none 0 0] 64)).drew.frozen? ⟨w.heap.size,2,none⟩=false):=⟨nk _ _ _ _ rfl,nk _ _ _ _ rfl,nk _ _ _ _ rfl,nP _ _ _ _ rfl,nP _ _ _ _ rfl,nP _ _ _ _ rfl⟩;have V:Hid (w.heap.size<(w.alloc (.cells #[.slice none 0 0,.slice none 0 0,.slice none 0 0] 64)).drew.heap.size):=by show _<(w.alloc (.cells #[.slice none 0 0,.slice none 0 0,.slice none 0 0] 64)).heap.size;rw[nv];omega
 have bn:Hid (Calls prog 160 #[.slice (some ⟨lb,Q,none⟩) (ni.length+1) lc] (w.alloc (.cells #[.slice none 0 0,.slice none 0 0,.slice none 0 0] 64)).drew fun e w'=>(∃F G,e=.returned (.slice (some ⟨F,0,none⟩) (ni.length+1) G)∧(ni.length+1≤G∧G≤9223372036854775807)∧(w.alloc (.cells #[.slice none 0 0,.slice none 0 0,.slice none 0 0] 64)).drew.heap.size≤F∧(∀j u,(Be L)[j]? =some u→w'.cell? ⟨F,j,none⟩=some u)∧DE w'.cell? F∧∀o,w'.frozen? ⟨F,o,none⟩=false)∧Bw (w.alloc (.cells #[.slice none 0 0,.slice none 0 0,.slice none 0 0] 64)).drew w'):=by
  have e:=WG (w:=(w.alloc (.cells #[.slice none 0 0,.slice none 0 0,.slice none 0 0] 64)).drew) lb Q lc L (by omega) (by omega) (fun j u a8=>Ad T (bi j u a8));rw[a6]at e;exact e
 have ad:Hid (b≠w.heap.size):=by have:=ny _ _ ab;show b≠_;have e:b<w.heap.size:=this;omega
 have bo:Hid _:=a1;have bp:Hid _:=bk;have bs:Hid _:=a6;clear ab az bd be bf bl T a1 bi bk a6;go_enter func130,ntmps130;go_upto_region 1 with fail
 generalize(w.alloc (.cells #[.slice none 0 0,.slice none 0 0,.slice none 0 0] 64))=b7 at*;go_region_held3 (fun w'=>w'.cell? ⟨b,0,none⟩=some (.slice I us.length uc)∧w'.cell? ⟨b,1,none⟩=some (.slice J gs.length gc)∧w'.cell? ⟨b,2,none⟩=some (.slice (some ⟨lb,Q,none⟩) (ni.length+1) lc)) (first|with_reducible exact Z|with_reducible exact Y|with_reducible exact bu) (first|(go_at_call 160;(with_reducible refine nn bn.out ?_);rintro e H ⟨⟨F,G,rfl,bv,bx,bA,bB,bC⟩,q6⟩;have Y:H.cell? ⟨b,0,none⟩=some (.slice I us.length uc)∧H.cell? ⟨b,1,none⟩=some (.slice J gs.length gc)∧H.cell? ⟨b,2,none⟩=some (.slice (some ⟨lb,Q,none⟩) (ni.length+1) lc):=⟨Ad q6 Z.1,Ad q6 Z.2.1,Ad q6 Z.2.2⟩;have bF:=Ad q6 R.out.1;have bG:=Ad q6 R.out.2.1;have bH:=Ad q6 R.out.2.2.1;have b9:=(q6.frozen (p:=⟨w.heap.size,0,none⟩) V.out).trans R.out.2.2.2.1;have cb:=(q6.frozen (p:=⟨w.heap.size,1,none⟩) V.out).trans R.out.2.2.2.2.1;have cf:=(q6.frozen (p:=⟨w.heap.size,2,none⟩) V.out).trans R.out.2.2.2.2.2;have ak:b<H.heap.size:=ny H ⟨b,0,none⟩ Y.1;have O:Hid (Au w.heap.size H (((H.setCell ⟨w.heap.size,0,none⟩ (.slice I us.length uc)).setCell ⟨w.heap.size,1,none⟩ (.slice J gs.length gc)).setCell ⟨w.heap.size,2,none⟩ (.slice (some ⟨F,0,none⟩) (ni.length+1) G))):=Nj _ _ _;have bu:(((H.setCell ⟨w.heap.size,0,none⟩ (.slice I us.length uc)).setCell ⟨w.heap.size,1,none⟩ (.slice J gs.length gc)).setCell ⟨w.heap.size,2,none⟩ (.slice (some ⟨F,0,none⟩) (ni.length+1) G)).cell? ⟨b,0,none⟩=some (.slice I us.length uc)∧(((H.setCell ⟨w.heap.size,0,none⟩ (.slice I us.length uc)).setCell ⟨w.heap.size,1,none⟩ (.slice J gs.length gc)).setCell ⟨w.heap.size,2,none⟩ (.slice (some ⟨F,0,none⟩) (ni.length+1) G)).cell? ⟨b,1,none⟩=some (.slice J gs.length gc)∧(((H.setCell ⟨w.heap.size,0,none⟩ (.slice I us.length uc)).setCell ⟨w.heap.size,1,none⟩ (.slice J gs.length gc)).setCell ⟨w.heap.size,2,none⟩ (.slice (some ⟨F,0,none⟩) (ni.length+1) G)).cell? ⟨b,2,none⟩=some (.slice (some ⟨lb,Q,none⟩) (ni.length+1) lc):=⟨(O.out.cell (p:=⟨b,0,none⟩) ak ad.out).trans Y.1,(O.out.cell (p:=⟨b,1,none⟩) ak ad.out).trans Y.2.1,(O.out.cell (p:=⟨b,2,none⟩) ak ad.out).trans Y.2.2⟩;have ba:Hid (∀j u,(Be L)[j]? =some u→H.cell? ⟨F,j,none⟩=some u):=bA;have bY:Hid (DE H.cell? F):=bB;have b0:Hid (∀o,H.frozen? ⟨F,o,none⟩=false):=bC;have b1:Hid (ni.length+1≤G∧G≤9223372036854775807):=bv;have b2:Hid (b7.drew.heap.size≤F):=bx;have aa:Hid (Bw w H):=a7.out.trans (q6.mono a7.out.size);have cg:Hid (w.heap.size<H.heap.size):=nG V.out q6.size;clear bn bA bB bC bv bx q6))
 all_goals
  obtain⟨ch,cl,co⟩:=PT bF bG bH (.slice I us.length uc) (.slice J gs.length gc) (.slice (some ⟨F,0,none⟩) (ni.length+1) G);have cx:=b2.out;have cA:=V.out;have b3:F<H.heap.size:=by
   obtain⟨ao,cp⟩:∃ao,L[0]? =some ao:=⟨_,np (by have:=bs.out;omega)⟩;have:=TX L ba.out 0 ao cp;obtain⟨⟨k,m,u,g,o,nh,d,ks⟩,cB,ly⟩:=ao;exact ny _ _ this.1
  have b4:F≠w.heap.size:=by omega
  have cq:Hid (O2 w (((H.setCell ⟨w.heap.size,0,none⟩ (.slice I us.length uc)).setCell ⟨w.heap.size,1,none⟩ (.slice J gs.length gc)).setCell ⟨w.heap.size,2,none⟩ (.slice (some ⟨F,0,none⟩) (ni.length+1) G)) F G (x0::ni)):=by
   have b5:∀o,(((H.setCell ⟨w.heap.size,0,none⟩ (.slice I us.length uc)).setCell ⟨w.heap.size,1,none⟩ (.slice J gs.length gc)).setCell ⟨w.heap.size,2,none⟩ (.slice (some ⟨F,0,none⟩) (ni.length+1) G)).cell? ⟨F,o,none⟩=H.cell? ⟨F,o,none⟩:=fun o=>O.out.cell (p:=⟨F,o,none⟩) b3 b4;refine⟨b1.out,by omega,.inr ⟨F,0,rfl,fun i=>((L[i]?).map Fl.h).getD zH,fun i y b6=>?_⟩,GU bY.out b5,fun o=>(O.out.frozen (p:=⟨F,o,none⟩) b3 b4).trans (b0.out o)⟩
   rw[←bo.out,n4]at b6;obtain⟨ap,bb,rfl⟩:=nY.1 b6;show Bj _ F (0+i*8) ap.x (((L[i]?).map Fl.h).getD zH)∧Ah _ ap.x (((L[i]?).map Fl.h).getD zH);rw[bb];refine⟨TX L (fun j u a8=>(b5 j).trans (ba.out j u a8)) i ap bb,?_⟩;exact(bp.out ap (nD bb)).on (Aj (aa.out.trans (O.out.below (nl _) aa.out.size)))
  have cr:=hid (aa.out.trans (O.out.below (nl _) aa.out.size));generalize(((H.setCell ⟨w.heap.size,0,none⟩ (.slice I us.length uc)).setCell ⟨w.heap.size,1,none⟩ (.slice J gs.length gc)).setCell ⟨w.heap.size,2,none⟩ (.slice (some ⟨F,0,none⟩) (ni.length+1) G))=c3 at*;clear bu Y Z O aa ba bY b0 b1 b2 bF bG bH b9 cb cf bo bp bs V cg ak R a7 ad;go_wp2;refine nF (v:=.agg #[.slice I us.length uc,.slice J gs.length gc,.slice (some ⟨F,0,none⟩) (ni.length+1) G]) (by simp[results,results130,go_sem,ch,cl,co]) rfl ⟨⟨F,G,rfl,cq.out⟩,cr.out⟩
def b8(z:Int):UInt8:=UInt8.ofNat (z%256).toNat
theorem On(z:Int):((b8 z).toNat:Int)=z%256:=by
 unfold b8;have F:0≤z%256:=Int.emod_nonneg _ (by decide);have G:z%256<256:=Int.emod_lt_of_pos _ (by decide);rw[UInt8.toNat_ofNat'];omega
def bc(l:List UInt8):List Value:=l.map fun b=>.int .u8 b.toNat
theorem Qu(a b:List UInt8):bc (a++b)=bc a++bc b:=by simp[bc]
theorem II(a:List UInt8):∀u∈bc a,u.oneCell'=true:=by
 intro u F;unfold bc at F;obtain⟨b,_,rfl⟩:=rx.1 F;rfl
def Bs(s:BA):List UInt8:=b8 s.size::s.data.toList
theorem FG(s:BA):(Bs s).length=1+s.size:=by simp[Bs];omega
def Dz(z:Int):List UInt8:=[b8 (z / 256),b8 z]
def Dt:List Kv→List UInt8
 |[]=>[]
 |r::l=>Bs r.n++(Bs r.v++Dt l)
mutual
def C0:Nd→List UInt8
 |.mk k m u g o nh d ks=>b8 (if o=true then k+8 else k)::(Dz m++(Dz u++(Dz g++(b8 nh.length::(Dt nh++(Bs d++(b8 ks.length::CN ks)))))))
def CN:At→List UInt8
 |[]=>[]
 |p::l=>Bs p.1++(C0 p.2++CN l)
end
structure Gr (w w':World) (v v':Value):Prop where
 g:w.grownBy w' v.ownBlock
 o:v'.ownBlock=v.ownBlock∨∃s,v'.ownBlock=some s∧w.heap.size≤s
theorem Gr.trans{w F G:World}{v H I:Value}(h:Gr w F v H)(k:Gr F G H I):Gr w G v I:=by
 obtain⟨⟨T,a2,a3,a4,a5⟩,J⟩:=h;obtain⟨⟨V,Y,Z,aa,ab⟩,ad⟩:=k;refine⟨⟨V.trans T,Y.trans a2,Z.trans a3,nO a4 aa,fun q O Q=>?_⟩,?_⟩
 ·refine(ab q (nG O a4) ?_).trans (a5 q O Q)
  rcases J with e|⟨s,e,R⟩
  ·rw[e];exact Q
  ·rw[e];intro ak
   have:q=s:=by simpa using ak
   omega
 ·rcases ad with e|⟨s,e,R⟩
  ·rw[e];exact J
  ·exact .inr ⟨s,e,nO a4 R⟩
theorem Vw{P:Program}(w:World)(base:Nat)(t u G e:TypeId)(i:TypeInfo)(H:P.underlying t=some (.slice e))(I:P.underlying u=some .string)(J:P.info? e=some i)(T:i.zero=some (.int .u8 0))(O:i.size=1)(V:i.bytes=1)
 (v:Value) (n:Nat) (xs:List Value) (Q:w.ownsRow base e 1 v n xs) (a6:0<n) (s:BA) (a7:n+s.size≤100000000) (Z:base≤w.heap.size):
 ∃F w',(Builtin.append_ #[t,u] G #[v,.string s]).run P w=.ok F w'∧w'.ownsRow base e 1 F (n+s.size) (xs++bc s.data.toList)∧Gr w w' v F:=by
 obtain⟨F,w',R,aa,ab,_⟩:=Lib.run_append_own_string (P:=P) w base t u G e i H I J T O V v n xs Q s (by unfold maxLen;omega) (by omega) Z;refine⟨F,w',R,aa,ab,?_⟩;obtain⟨a,cap,rfl,a8,ba,ad⟩:=JG Q;rcases ad with⟨_,bb,_⟩|⟨g,ak,rfl,hb,Y,ao,hx⟩
 ·omega
 ·by_cases ap:n+s.size≤cap
  ·have q:=Lib.run_append_room_string (P:=P) w t u G e i H I J O g n cap ak Y s ap (by rw[ao];omega)
   rw[R]at q;obtain⟨rfl,_⟩:F=sL g 0 (n+s.size) cap∧w'=_:=by simpa using q
   exact .inl rfl
  ·have az:xs.length=n*1:=Q.1
   have q:=Lib.run_append_grow_string (P:=P) w t u G e i (.int .u8 0) H I J T (aD g 0) n cap xs (by rw[O];exact az) (fun j u a1=>by rw[DV,nT];exact Fq Y hx a1) s (by omega) (by omega) (by rw[V];exact growslice_fits (by omega) (by omega));rw[R]at q;obtain⟨rfl,_⟩:F=sL w.heap.size 0 (n+s.size) (grownCap w (n+s.size) cap e)∧w'=_:=by simpa using q
   exact .inr ⟨w.heap.size,rfl,nl _⟩
theorem Vu{P:Program}(w:World){G:Array Oper}{ni:List Oper}{o:Oper}{a:Act}{H:Exit→Act→World→Prop}(J:o.guard=none)(I x:Operand)(t u:TypeId)
 (O:o.op=.call {callee:=.builtin .append,args:=#[I,x],argTypes:=#[t,u]})
 (base:Nat) (e:TypeId) (i:TypeInfo) (Q:P.underlying t=some (.slice e)) (R:P.underlying u=some .string) (T:P.info? e=some i) (V:i.zero=some (.int .u8 0)) (Y:i.size=1) (Z:i.bytes=1)
 (v:Value) (n:Nat) (xs:List Value) (aa:a.eval I=v) (ab:w.ownsRow base e 1 v n xs) (ad:0<n) (s:BA) (hx:a.eval x=.string s) (ak:n+s.size≤100000000) (ao:base≤w.heap.size)
 (h:∀F w',w'.ownsRow base e 1 F (n+s.size) (xs++bc s.data.toList)→Gr w w' v F→wpList P G H ni (a.put o.dst F) w'):wpList P G H (o::ni) a w:=by
 refine wpList_plain J fun K ap=>?_;obtain⟨F,w',az,a1,a6⟩:=Vw (P:=P) w base t u o.type e i Q R T V Y Z v n xs ab ad s ak ao
 unfold Oper.wp execOp;simp only[O,resolve,invoke,builtin,Sem.run_bind,Sem.run_pure,Result.andThen_ok,List.map_toArray,rh,List.map_nil,aa,hx,az];exact ap _ _ (h F w' a1 a6)
theorem Tryz.infoB:(prog.info? 5).map (fun i=>(i.zero,i.size,i.bytes))=some (some (.int .u8 0),1,1):=by kernel_rfl
theorem K8(w:World)(z:Int)(t:TypeId):∀j u,(bc [b8 z])[j]? =some u→(w.alloc (.cells #[.int .u8 (IntKind.u8.wrap z)] t)).cell? (((aD w.heap.size 0):Addr).add j)=some u:=by
 intro j u F;rw[DV,nT];refine aC.trans ?_;cases j with
 |zero=>
  simp[bc]at F;subst F;simp[IntKind.wrap_u8,On]
 |succ j=>simp[bc]at F
theorem IK{w w':World}{o:Obj}{v F:Value}(H:(w.alloc o).grownBy w' v.ownBlock)(I:F.ownBlock=v.ownBlock∨F.ownBlock=some (w.heap.size+1)):Gr w w' v F:=by
 refine⟨?_,?_⟩
 ·obtain⟨J,a2,a3,a4,a5⟩:=H
  have b:=(nt _ w).alloc (nl _) o;exact⟨J.trans b.os,a2.trans b.tape,a3.trans b.output,nO b.size a4,fun q G O=>(a5 q (nG G b.size) O).trans (b.block q G)⟩
 ·rcases I with e|e
  ·exact .inl e
  ·exact .inr ⟨_,e,by omega⟩
theorem Gr.size{w w':World}{v F:Value}(h:Gr w w' v F):w.heap.size≤w'.heap.size:=h.g.size
theorem Kt{base:Nat}(s:BA)(W:World)(v:Value)(n:Nat)(xs:List Value)(H:W.ownsRow base 5 1 v n xs)(ab:base≤W.heap.size)(a6:n+s.size≤90000000):
 Calls prog 145 #[v,.string s] W fun e w'=>∃F,e=.returned F∧w'.ownsRow base 5 1 F (n+(1+s.size)) (xs++bc (Bs s))∧Gr W w' v F:=by
 obtain⟨I,J,O,Q,R⟩:=Eb Tryz.infoB;have T:=hid H;clear H;go_enter func145,ntmps145;go_wp2_with (at_builtin;refine Ea (W.alloc (.cells #[.int .u8 (IntKind.u8.wrap s.size)] 5)) rfl (.tmp 5) (.tmp 9) 168 rfl base 5 I (.int .u8 0) 1 1 underlying168 J O Q R rfl (by decide) v n xs rfl (T.out.alloc _) (some (aD W.heap.size 0)) 1 1 (bc [b8 s.size]) rfl rfl (.inr ⟨_,rfl,K8 _ _ _⟩) (II _) (by unfold maxLen;omega) (by omega) (by rw[nv];omega) ?_)
 intro V Y ad Z aa;have G:Gr W Y v V:=IK Z aa;have ak:=nO ab G.size;have ao:=hid G;clear Z aa G T;go_wp2_with (at_builtin;refine Vu Y rfl (.tmp 11) (.tmp 12) 168 9 rfl base 5 I underlying168 underlying9 J O Q R V (n+1) (xs++bc [b8 s.size]) rfl ad (by omega) s rfl (by omega) ak ?_)
 intro ap a7 az a1;go_wp2;go_ret;refine⟨ap,rfl,?_,ao.out.trans a1⟩;rw[show n+(1+s.size)=n+1+s.size by omega,show bc (Bs s)=bc [b8 s.size]++bc s.data.toList from by rw[←Qu];rfl];exact az
mutual
def IZ:Nd→Prop
 |.mk k m u g _ nh d ks=>(0≤k∧k≤100)∧(0≤m∧m≤65535)∧(0≤u∧u≤65535)∧(0≤g∧g≤65535)∧(nh.length≤1000∧∀r∈nh,r.n.size≤1000∧r.v.size≤1000)∧d.size≤1000∧ks.length≤1000∧Ic ks
def Ic:At→Prop
 |[]=>True
 |p::l=>p.1.size≤1000∧IZ p.2∧Ic l
end
theorem RL:∀{ks:At} {i:Nat} {n:BA} {x:Nd},Ic ks→ks[i]? =some (n,x)→n.size≤1000∧IZ x
 |[],i,n,x,_,h=>by simp at h
 |p::l,0,n,x,h,e=>by
  rw[Ic]at h;simp at e;subst e;exact⟨h.1,h.2.1⟩
 |p::l,i+1,n,x,h,e=>by
  rw[Ic]at h;exact RL h.2.2 (by simpa using e)
structure LS (w0 W wr:World) (v vr:Value) (n:Nat) (xs:List Value) (sb:Nat) (x:Nd) (h:Hd) (pre:List UInt8):Prop where
 row:wr.ownsRow w0.heap.size 5 1 vr (n+pre.length) (xs++bc pre)
 gr:Gr W wr v vr
 box:Cc wr sb x h
 ne:some sb≠vr.ownBlock
 low:Below w0.heap.size w0 wr
theorem Cc.gr{w w':World}{v G:Value}{F:Nat}{x:Nd}{h:Hd}(hb:Cc w F x h)(H:Gr w w' v G)(I:some F≠v.ownBlock):Cc w' F x h:=by
 have J:=hb.lt;obtain⟨k,m,u,g,o,nh,d,ks⟩:=x;have q:∀j,w'.cell? (aD F j)=w.cell? (aD F j):=fun j=>nR (w:=w) (H.g.block F J I);obtain⟨O,Q,R,T,V,Y,Z,aa⟩:=hb
 exact⟨(q 0).trans O,(q 1).trans Q,(q 2).trans R,(q 3).trans T,(q 4).trans V,(q 5).trans Y,(q 6).trans Z,(q 7).trans aa⟩
theorem OC{w w':World}{v G:Value}{F:Nat}(H:Gr w w' v G)(J:F<w.heap.size)(I:some F≠v.ownBlock):some F≠G.ownBlock:=by
 rcases H.o with e|⟨s,e,O⟩
 ·rw[e];exact I
 ·rw[e];intro q
  have:F=s:=by simpa using q
  omega
theorem LS.app{I W wr w':World}{v Q J:Value}{n:Nat}{xs:List Value}{R:Nat}{x:Nd}{h:Hd}{G:List UInt8}(F:LS I W wr v Q n xs R x h G)(H:Gr wr w' Q J)(O:List UInt8){q:Nat}(T:w'.ownsRow I.heap.size 5 1 J q (xs++(bc G++bc O)))(V:q=n+G.length+O.length):LS I W w' v J n xs R x h (G++O):=by
 refine⟨?_,F.gr.trans H,F.box.gr H F.ne,OC H F.box.lt F.ne,?_⟩
 ·rw[nK,Qu,←Nat.add_assoc,←V];exact T
 ·exact F.low.grown H.g F.low.size (fun q e=>(F.row.lt q e).1)
theorem LS.alloc{G W wr:World}{v H:Value}{n:Nat}{xs:List Value}{I:Nat}{x:Nd}{h:Hd}{J:List UInt8}(F:LS G W wr v H n xs I x h J)(o:Obj):LS G W (wr.alloc o) v H n xs I x h J:=by
 have b:Below wr.heap.size wr (wr.alloc o):=(nt _ _).alloc (nl _) o;exact⟨F.row.alloc _,F.gr.trans ⟨⟨b.os,b.tape,b.output,b.size,fun q O _=>b.block q O⟩,.inl rfl⟩,F.box.below b,F.ne,F.low.trans (b.mono F.low.size)⟩
theorem LS.drew{G W wr:World}{v H:Value}{n:Nat}{xs:List Value}{I:Nat}{x:Nd}{h:Hd}{J:List UInt8}(F:LS G W wr v H n xs I x h J):LS G W wr.drew v H n xs I x h J:=by
 have b:Below wr.heap.size wr wr.drew:=rz (nt _ wr) 1;exact⟨F.row.drew,F.gr.trans ⟨⟨b.os,b.tape,b.output,b.size,fun q O _=>b.block q O⟩,.inl rfl⟩,F.box.below b,F.ne,F.low.trans (b.mono F.low.size)⟩
theorem LS.start{F W:World}{v:Value}{n:Nat}{xs:List Value}(G:Below F.heap.size F W)(H:W.ownsRow F.heap.size 5 1 v n xs)(k m u g:Int)(o:Bool)(nh:List Kv)(d:BA)(ks:At)(h:Hd):
 LS F W (W.alloc (.cells #[iN k,iN m,iN u,iN g,.bool o,.slice h.aa nh.length h.ca,.string d,.slice h.ak ks.length h.ck] 50)) v v n xs W.heap.size (.mk k m u g o nh d ks) h []:=by
 have b:Below W.heap.size W (W.alloc (Ap k m u g o nh d ks h)):=bN;refine⟨?_,⟨⟨b.os,b.tape,b.output,b.size,fun q I _=>b.block q I⟩,.inl rfl⟩,Cc.new W k m u g o nh d ks h,?_,G.trans (b.mono G.size)⟩
 ·have:=H.alloc (Ap k m u g o nh d ks h)
  rw[show bc []=[]from rfl,rQ];exact this
 ·intro e
  have:=(H.lt _ e.symm).2;omega
theorem XX(w:World)(z:Int)(t:TypeId)(F:0≤z∧z≤255):∀j u,(bc [b8 z])[j]? =some u→(w.alloc (.cells #[.int .u8 z] t)).cell? (((aD w.heap.size 0):Addr).add j)=some u:=by
 have e:IntKind.u8.wrap z=z:=by rw[IntKind.wrap_u8];omega
 have:=K8 w z t;rwa [e]at this
theorem O0(x y z:Value)(w:World):(Instr.index 200 (.agg #[x,y,z]) (.int .i64 0)).run prog w=.ok x w∧(Instr.index 200 (.agg #[x,y,z]) (.int .i64 1)).run prog w=.ok y w∧(Instr.index 200 (.agg #[x,y,z]) (.int .i64 2)).run prog w=.ok z w:=⟨by kernel_rfl,by kernel_rfl,by kernel_rfl⟩
def Gq:List Int→List UInt8
 |[]=>[]
 |z::l=>Dz z++Gq l
theorem MF(w:World)(z:Int)(t:TypeId)(G:0≤z∧z≤65535):∀j u,(bc (Dz z))[j]? =some u→(w.alloc (.cells #[.int .u8 (z / 256),.int .u8 (z%256)] t)).cell? (((aD w.heap.size 0):Addr).add j)=some u:=by
 intro j u F;rw[DV,nT];refine aC.trans ?_;have e:z / 256%256=z / 256:=by omega
 match j with
 |0=>simp[bc,Dz]at F;subst F;simp[On,e]
 |1=>simp[bc,Dz]at F;subst F;simp[On]
 |j+2=>simp[bc,Dz]at F
theorem Ks(z:Int):(Dz z).length=2:=rfl
theorem Zu{l:List Kv}{j:Nat}{r:Kv}(h:l[j]? =some r):Dt (l.drop j)=Bs r.n++(Bs r.v++Dt (l.drop (j+1))):=by
 obtain⟨F,G⟩:=nw.1 h;rw[nN F,G,Dt]
theorem YA{l:At}{j:Nat}{m:BA}{x:Nd}(h:l[j]? =some (m,x)):CN (l.drop j)=Bs m++(C0 x++CN (l.drop (j+1))):=by
 obtain⟨F,G⟩:=nw.1 h;rw[nN F,G,CN]
theorem ar{O:World}{x:Nd}{h:Hd}(eE:Ah O.cell? x h):∀(W:World) (v:Value) (n:Nat) (xs:List Value),IZ x→Below O.heap.size O W→W.ownsRow O.heap.size 5 1 v n xs→n+(C0 x).length≤80000000→
 Calls prog 108 #[v,Ao x h] W fun e w'=>∃bo,e=.returned bo∧w'.ownsRow O.heap.size 5 1 bo (n+(C0 x).length) (xs++bc (C0 x))∧Gr W w' v bo:=by
 obtain⟨b6,d2,d3,d4,b1⟩:=Eb Tryz.infoB;have b7:Hid _:=d2;have b9:Hid _:=d3;have cb:Hid _:=d4;have cf:Hid _:=b1;clear d2 d3 d4 b1;induction eE with
 |@mk k m u g o nh d ks h b eY f d5 eZ e0 d6 d7 bH d8=>
  intro W v n xs d9 eF ea eb;rw[IZ]at d9;obtain⟨⟨e1,e2⟩,⟨e3,e4⟩,⟨e5,e6⟩,⟨e7,e8⟩,⟨e9,ec⟩,fa,fb,ed⟩:=d9;have eG:=hid ec;have eH:=hid ed;have ee:=hid d5;have eI:=hid d7;have eJ:Hid _:=d8;have ef:=hid d6;have dg:=LS.start eF ea k m u g o nh d ks h;have c4:Hid (C0 (.mk k m u g o nh d ks)=b8 (if o=true then k+8 else k)::(Dz m++(Dz u++(Dz g++(b8 nh.length::(Dt nh++(Bs d++(b8 ks.length::CN ks)))))))):=by show _=_;rw[C0]
  have eg:=hid eb;obtain⟨V,ej⟩:=A3 (C0 (.mk k m u g o nh d ks));rw[ej.out]at c4 eg;rw[ej.out];have ek:∀(p q:List UInt8),V=p++q→n+p.length≤80000000:=fun p q e=>by have:=eg.out;rw[e,nK]at this;omega
  have bC:=hid ek;clear ec ed d5 d7 d8 d6 bH ea eb ek;have b5:=hid dg;have fc:=bC.out [] V rfl;show cL 108 #[v,.agg #[iN k,iN m,iN u,iN g,.bool o,.slice h.aa nh.length h.ca,.string d,.slice h.ak ks.length h.ck]] _ _;obtain⟨bp,bf,bg,bi,bs,Q,bk,R⟩:=dg.box;obtain⟨el,b2⟩:=A3 h.aa;obtain⟨em,b3⟩:=A3 h.ak;rw[b2.out,b3.out]at b5 bp bf bg bi bs Q bk R⊢;rw[b2.out]at ee;rw[b3.out]at ef;clear dg;obtain⟨kd,c5⟩:∃kd,Hid ((if o=true then k+8 else k)=kd):=⟨_,rfl⟩;rw[c5.out]at c4;go_enter func108,ntmps108;have fd:0≤kd∧kd≤255:=by rw[←c5.out];split<;>omega
  go_upto_if 15 with fail
  go_cut [5]from 16 (fun t5 wr=>t5=iN kd∧wr=W.alloc (.cells #[iN k,iN m,iN u,iN g,.bool o,.slice el nh.length h.ca,.string d,.slice em ks.length h.ck] 50))
  case first=>
   cases o
   ·go_wp2
    go_meet
    exact⟨by rw[←c5.out];rfl,rfl⟩
   ·go_wp2
    go_meet
    exact⟨by rw[←c5.out];rfl,rfl⟩
  case rest=>
   obtain⟨rfl,rfl⟩:=hcut;have en:Hid (V=[]++(b8 kd::(Gq [m,u,g]++(b8 nh.length::(Dt nh++(Bs d++(b8 ks.length::CN ks))))))):=by
    show _=_;rw[c4.out];simp[Gq]
   have fe:([]:List UInt8).length=0:=rfl;clear c4;clear bp bs;generalize eK:W.alloc (.cells #[iN k,iN m,iN u,iN g,.bool o,.slice el nh.length h.ca,.string d,.slice em ks.length h.ck] 50)=eo at b5 bf bg bi Q bk R⊢;clear eK;generalize ff:W.heap.size=bY at b5 bf bg bi Q bk R⊢;go_wp2_with (at_builtin;refine Ea (eo.alloc (.cells #[.int .u8 kd] 5)) rfl (.tmp 18) (.tmp 21) 168 rfl O.heap.size 5 b6 (.int .u8 0) 1 1 underlying168 b7.out b9.out cb.out cf.out rfl (by decide) v (n+([]:List UInt8).length) (xs++bc ([]:List UInt8)) rfl (b5.out.row.alloc _) (some (aD eo.heap.size 0)) 1 1 (bc [b8 kd]) rfl rfl (.inr ⟨_,rfl,XX _ _ _ (by omega)⟩) (II _) (by unfold maxLen;omega) (by omega) (nO b5.out.low.size (by rw[nv];omega)) ?_)
   intro fg fh ak ao ap;have c6:=hid (b5.out.app (IK ao ap) [b8 kd] ak (by simp));clear ak ao ap b5;have Y:Hid (V=([]++[b8 kd])++(Gq [m,u,g]++(b8 nh.length::(Dt nh++(Bs d++(b8 ks.length::CN ks)))))):=by show _=_;rw[en.out];rfl
   generalize([]++[b8 kd]:List UInt8)=dj at c6 Y;clear en bf bg bi Q bk R;obtain⟨bp,bf,bg,bi,bs,Q,bk,R⟩:=c6.out.box;rw[b2.out]at Q;rw[b3.out]at R;go_wp2;clear bp bf bg bi bs Q bk R;go_loopw [30,0] (fun i co wr=>∃(j:Nat) (H:List UInt8),j≤3∧i=iN j∧Hid (V=H++(Gq ([m,u,g].drop j)++(b8 nh.length::(Dt nh++(Bs d++(b8 ks.length::CN ks))))))∧Hid (LS O W wr v co n xs bY (.mk k m u g o nh d ks) h H)) (fun i _ _=>3-(intOf i).toNat)
   case atStart=>exact⟨0,dj,by omega,rfl,Y.out,c6.out⟩
   case round=>
    obtain⟨j,H,eL,rfl,ab,I⟩:=hrel;clear c6 Y;have hb:=bC.out _ _ ab.out;have eM:j=0∨j=1∨j=2∨j=3:=by omega
    have c8:=(O0 (iN m) (iN u) (iN g) wr).1;have c9:=(O0 (iN m) (iN u) (iN g) wr).2.1;have da:=(O0 (iN m) (iN u) (iN g) wr).2.2;rcases eM with rfl|rfl|rfl|rfl
    ·have b1:0≤m∧m≤65535:=by omega
     go_wp2_with (at_builtin;refine Ea (wr.alloc (.cells #[.int .u8 (m / 256),.int .u8 (m%256)] 5)) rfl (.tmp 33) (.tmp 39) 168 rfl O.heap.size 5 b6 (.int .u8 0) 1 1 underlying168 b7.out b9.out cb.out cf.out rfl (by decide) u0 (n+H.length) (xs++bc H) rfl (I.out.row.alloc _) (some (aD wr.heap.size 0)) 2 2 (bc (Dz m)) rfl rfl (.inr ⟨_,rfl,MF _ _ _ b1⟩) (II _) (by unfold maxLen;omega) (by omega) (nO I.out.low.size (by rw[nv];omega)) ?_)
     intro v3 ep ak ao ap;have cp:=hid (I.out.app (IK ao ap) (Dz m) ak (by simp[Ks]));have b4:Hid (V=(H++Dz m)++(Gq ([m,u,g].drop (0+1))++(b8 nh.length::(Dt nh++(Bs d++(b8 ks.length::CN ks)))))):=by show _=_;rw[ab.out];simp[Gq]
     clear ak ao ap c8 c9 da;go_wp2;go_roundw
     case rel=>exact⟨0+1,_,by omega,by go_num,b4.out,cp.out⟩
     case measure=>simp[intOf]
    ·have b1:0≤u∧u≤65535:=by omega
     go_wp2_with (at_builtin;refine Ea (wr.alloc (.cells #[.int .u8 (u / 256),.int .u8 (u%256)] 5)) rfl (.tmp 33) (.tmp 39) 168 rfl O.heap.size 5 b6 (.int .u8 0) 1 1 underlying168 b7.out b9.out cb.out cf.out rfl (by decide) u0 (n+H.length) (xs++bc H) rfl (I.out.row.alloc _) (some (aD wr.heap.size 0)) 2 2 (bc (Dz u)) rfl rfl (.inr ⟨_,rfl,MF _ _ _ b1⟩) (II _) (by unfold maxLen;omega) (by omega) (nO I.out.low.size (by rw[nv];omega)) ?_)
     intro v3 ep ak ao ap;have cp:=hid (I.out.app (IK ao ap) (Dz u) ak (by simp[Ks]));have b4:Hid (V=(H++Dz u)++(Gq ([m,u,g].drop (1+1))++(b8 nh.length::(Dt nh++(Bs d++(b8 ks.length::CN ks)))))):=by show _=_;rw[ab.out];simp[Gq]
     clear ak ao ap c8 c9 da;go_wp2;go_roundw
     case rel=>exact⟨1+1,_,by omega,by go_num,b4.out,cp.out⟩
     case measure=>simp[intOf]
    ·have b1:0≤g∧g≤65535:=by omega
     go_wp2_with (at_builtin;refine Ea (wr.alloc (.cells #[.int .u8 (g / 256),.int .u8 (g%256)] 5)) rfl (.tmp 33) (.tmp 39) 168 rfl O.heap.size 5 b6 (.int .u8 0) 1 1 underlying168 b7.out b9.out cb.out cf.out rfl (by decide) u0 (n+H.length) (xs++bc H) rfl (I.out.row.alloc _) (some (aD wr.heap.size 0)) 2 2 (bc (Dz g)) rfl rfl (.inr ⟨_,rfl,MF _ _ _ b1⟩) (II _) (by unfold maxLen;omega) (by omega) (nO I.out.low.size (by rw[nv];omega)) ?_)
     intro v3 ep ak ao ap;have cp:=hid (I.out.app (IK ao ap) (Dz g) ak (by simp[Ks]));have b4:Hid (V=(H++Dz g)++(Gq ([m,u,g].drop (2+1))++(b8 nh.length::(Dt nh++(Bs d++(b8 ks.length::CN ks)))))):=by show _=_;rw[ab.out];simp[Gq]
     clear ak ao ap c8 c9 da;go_wp2;go_roundw
     case rel=>exact⟨2+1,_,by omega,by go_num,b4.out,cp.out⟩
     case measure=>simp[intOf]
    ·clear c8 c9 da
     have b4:Hid (V=H++(b8 nh.length::(Dt nh++(Bs d++(b8 ks.length::CN ks))))):=ab.out;clear ab;obtain⟨bp,bf,bg,bi,bs,Q,bk,R⟩:=I.out.box;rw[b2.out]at Q;rw[b3.out]at R;go_wp2_with (at_builtin;refine Ea (wr.alloc (.cells #[.int .u8 (IntKind.u8.wrap ((nh.length:Int)))] 5)) rfl (.tmp 42) (.tmp 47) 168 rfl O.heap.size 5 b6 (.int .u8 0) 1 1 underlying168 b7.out b9.out cb.out cf.out rfl (by decide) u0 (n+H.length) (xs++bc H) rfl (I.out.row.alloc _) (some (aD wr.heap.size 0)) 1 1 (bc [b8 ((nh.length:Int))]) rfl rfl (.inr ⟨_,rfl,K8 _ _ _⟩) (II _) (by unfold maxLen;omega) (by omega) (nO I.out.low.size (by rw[nv];omega)) ?_)
     intro v4 fi ak ao ap;have db:=hid (I.out.app (IK ao ap) [b8 ((nh.length:Int))] ak (by simp));clear ak ao ap I;clear bp bf bg bi bs Q bk R;have dk:Hid (V=(H++[b8 (nh.length:Int)])++(Dt (nh.drop 0)++(Bs d++(b8 ks.length::CN ks)))):=by show _=_;rw[b4.out];simp
     clear b4;generalize H++[b8 (nh.length:Int)]=dm at db dk;obtain⟨bp,bf,bg,bi,bs,Q,bk,R⟩:=db.out.box;rw[b2.out]at Q;rw[b3.out]at R;go_wp2;clear bp bf bg bi bs Q bk R;go_loopw [52,0] (fun i co wr=>∃(j:Nat) (H:List UInt8),j≤nh.length∧i=iN j∧Hid (V=H++(Dt (nh.drop j)++(Bs d++(b8 ks.length::CN ks))))∧Hid (LS O W wr v co n xs bY (.mk k m u g o nh d ks) h H)) (fun i _ _=>nh.length-(intOf i).toNat)
     case atStart=>exact⟨0,dm,nM _,rfl,dk.out,db.out⟩
     case round=>
      obtain⟨j,H,eL,rfl,ab,I⟩:=hrel;clear db dk;have hb:=bC.out _ _ ab.out;by_cases dn:j<nh.length
      ·have eN:(j:Int)<(nh.length:Int):=by omega
       obtain⟨r,bH⟩:∃r,nh[j]? =some r:=⟨nh[j],by simp[dn]⟩;have fj:=eG.out r (nD bH);have Y:Hid (V=H++(Bs r.n++(Bs r.v++(Dt (nh.drop (j+1))++(Bs d++(b8 ks.length::CN ks)))))):=by show _=_;rw[ab.out,Zu bH];simp
       clear ab;rcases ee.out with dp|⟨fl,fm,rfl,cq⟩
       ·rw[dp]at dn;simp at dn
       have eO:=(I.out.low.cell (bL (cq j r bH).1)).trans (cq j r bH).1;have q1:=(I.out.low.cell (bL (cq j r bH).2)).trans (cq j r bH).2;clear cq bH;go_upto_region 14 with fail
       have bB:Hid (LS O W (wr.alloc (.cells #[.string r.n,.string r.v] 122)).drew v u0 n xs bY (.mk k m u g o nh d ks) h H):=(I.out.alloc _).drew
       have Z:Ce (wr.alloc (.cells #[.string r.n,.string r.v] 122)).drew wr.heap.size 0 (.string r.n)∧Ce (wr.alloc (.cells #[.string r.n,.string r.v] 122)).drew wr.heap.size 1 (.string r.v):=
        ⟨aC,aC⟩
       have ad:some wr.heap.size≠u0.ownBlock:=fun e=>by have:=(I.out.row.lt _ e.symm).2;omega
       have T:wr.heap.size<(wr.alloc (.cells #[.string r.n,.string r.v] 122)).drew.heap.size:=by show _<(wr.alloc _).heap.size;rw[nv];omega
       clear eO q1 I;generalize wr.alloc (.cells #[.string r.n,.string r.v] 122)=az at bB Z T⊢;generalize wr.heap.size=G at Z ad T⊢;have cr:=bC.out (H++Bs r.n) _ (by rw[Y.out,n8]);have eq:=bC.out (H++(Bs r.n++Bs r.v)) (Dt (nh.drop (j+1))++(Bs d++(b8 ks.length::CN ks))) (by rw[Y.out];simp only[n8]);simp only[nK,FG]at cr eq;have cu:=hid (Kt r.n az.drew u0 _ _ bB.out.row bB.out.low.size (by omega));go_region_held3 (fun w'=>Ce w' G 0 (.string r.n)∧Ce w' G 1 (.string r.v)) (first|exact Z|exact bl|exact cx) (first|(go_at_call 145;(with_reducible refine nn cu.out ?_);rintro e J ⟨bF,rfl,cA,aa⟩;have bl:Ce J G 0 (.string r.n)∧Ce J G 1 (.string r.v):=⟨(nR (w:=az.drew) (aa.g.block G T ad)).trans Z.1,(nR (w:=az.drew) (aa.g.block G T ad)).trans Z.2⟩;have bu:=OC aa T ad;have bv:=nG T aa.size;have b0:Hid (LS O W J v bF n xs bY (.mk k m u g o nh d ks) h (H++Bs r.n)):=bB.out.app aa (Bs r.n) (by rw[←n8];exact cA) (by rw[FG]);have cB:Hid (cL 145 #[bF,.string r.v] J fun e w'=>∃bo,e=.returned bo∧w'.ownsRow O.heap.size 5 1 bo (n+(H++Bs r.n).length+(1+r.v.size)) (xs++bc (H++Bs r.n)++bc (Bs r.v))∧Gr J w' bF bo):=Kt r.v J bF _ _ b0.out.row b0.out.low.size (by rw[nK,FG];omega);clear cu cA aa)|(go_at_call 145;(with_reducible refine nn cB.out ?_);rintro e bx ⟨dr,rfl,c3,bn⟩;have cx:Ce bx G 0 (.string r.n)∧Ce bx G 1 (.string r.v):=⟨(nR (w:=J) (bn.g.block G bv bu)).trans bl.1,(nR (w:=J) (bn.g.block G bv bu)).trans bl.2⟩;have ds:Hid (LS O W bx v dr n xs bY (.mk k m u g o nh d ks) h ((H++Bs r.n)++Bs r.v)):=b0.out.app bn (Bs r.v) (by rw[←n8];exact c3) (by rw[FG]);clear cB c3 bn))
       all_goals
        have du:Hid (V=((H++Bs r.n)++Bs r.v)++(Dt (nh.drop (j+1))++(Bs d++(b8 ks.length::CN ks)))):=by show _=_;rw[Y.out];simp only[n8]
        clear Z bl cx bB b0 Y ad bu T bv cr eq;go_wp2;go_roundw
        case rel=>exact⟨j+1,_,by omega,by go_num,du.out,ds.out⟩
        case measure=>simp[intOf];omega
      ·have eN:decide ((j:Int)<(nh.length:Int))=false:=nA (by omega)
       have Y:Hid (V=H++(Bs d++(b8 ks.length::CN ks))):=by show _=_;rw[ab.out,n7 (by omega)];simp[Dt]
       clear ab;have cr:=bC.out (H++Bs d) _ (by rw[Y.out,n8]);simp only[nK,FG]at cr;obtain⟨bp,bf,bg,bi,bs,Q,bk,R⟩:=I.out.box;rw[b2.out]at Q;rw[b3.out]at R;go_wp2_with fail
       refine(Kt d wr u0 _ _ I.out.row I.out.low.size (by omega)).mono ?_;rintro e az ⟨v5,rfl,er,es⟩;have cg:=hid (I.out.app es (Bs d) (by rw[←n8];exact er) (by rw[FG]));have dd:Hid (V=(H++Bs d)++(b8 ks.length::CN ks)):=by show _=_;rw[Y.out,n8]
       clear I Y er es bp bf bg bi bs Q bk R cr hb;generalize H++Bs d=ch at cg dd;have dw:=bC.out _ _ dd.out;obtain⟨bp,bf,bg,bi,bs,Q,bk,R⟩:=cg.out.box;rw[b2.out]at Q;rw[b3.out]at R;go_wp2_with (at_builtin;refine Ea (az.alloc (.cells #[.int .u8 (IntKind.u8.wrap ((ks.length:Int)))] 5)) rfl (.tmp 68) (.tmp 73) 168 rfl O.heap.size 5 b6 (.int .u8 0) 1 1 underlying168 b7.out b9.out cb.out cf.out rfl (by decide) v5 (n+ch.length) (xs++bc ch) rfl (cg.out.row.alloc _) (some (aD az.heap.size 0)) 1 1 (bc [b8 ((ks.length:Int))]) rfl rfl (.inr ⟨_,rfl,K8 _ _ _⟩) (II _) (by unfold maxLen;omega) (by omega) (nO cg.out.low.size (by rw[nv];omega)) ?_)
       intro bF J ak ao ap;have de:=hid (cg.out.app (IK ao ap) [b8 ((ks.length:Int))] ak (by simp));clear ak ao ap cg;clear bp bf bg bi bs Q bk R;have dx:Hid (V=(ch++[b8 (ks.length:Int)])++CN (ks.drop 0)):=by show _=_;rw[dd.out];simp
       clear dd;generalize ch++[b8 (ks.length:Int)]=dy at de dx;obtain⟨bp,bf,bg,bi,bs,Q,bk,R⟩:=de.out.box;rw[b2.out]at Q;rw[b3.out]at R;go_wp2;clear bp bf bg bi bs Q bk R;go_loopw [78,0] (fun i co wr=>∃(j:Nat) (H:List UInt8),j≤ks.length∧i=iN j∧Hid (V=H++CN (ks.drop j))∧Hid (LS O W wr v co n xs bY (.mk k m u g o nh d ks) h H)) (fun i _ _=>ks.length-(intOf i).toNat)
       case atStart=>exact⟨0,dy,nM _,rfl,dx.out,de.out⟩
       case round=>
        obtain⟨bA,bG,fo,rfl,ab,I⟩:=hrel;clear de dx;have fp:=bC.out _ _ ab.out;by_cases dz:bA<ks.length
        ·have eP:(bA:Int)<(ks.length:Int):=by omega
         obtain⟨⟨nm,x⟩,hx⟩:∃x,ks[bA]? =some x:=⟨ks[bA],by simp[dz]⟩;obtain⟨fq,eu⟩:=RL eH.out hx;have Y:Hid (V=bG++(Bs nm++(C0 x++CN (ks.drop (bA+1))))):=by show _=_;rw[ab.out,YA hx]
         rcases ef.out with dp|rfl
         ·rw[dp]at dz;simp at dz
         have d0:=(eI.out bA nm x hx).on (Aj I.out.low);have d1:Hid (∀(W:World) (v:Value) (n:Nat) (xs:List Value),Below O.heap.size O W→W.ownsRow O.heap.size 5 1 v n xs→n+(C0 x).length≤80000000→cL 108 #[v,Ao x (f bA)] W fun e w'=>∃bo,e=.returned bo∧w'.ownsRow O.heap.size 5 1 bo (n+(C0 x).length) (xs++bc (C0 x))∧Gr W w' v bo):=fun W v n xs eQ eR eS=>eJ.out bA nm x hx W v n xs eu eQ eR eS;clear hx eu ab
         obtain⟨cl,ev⟩:=A3 (C0 x);rw[ev.out]at Y d1;generalize f bA=F at d0 d1;obtain⟨a1,a6,a7,a8,ba,bb,bd,be⟩:=x;obtain⟨eT,eU,dj,eV,dm,ch,dy,eW,eX⟩:=d0.nine;clear d0 ev;go_upto_region 21 with fail
         have bB:Hid (LS O W (wr.alloc (.cells #[.string nm,iN a1,iN a6,iN a7,iN a8,.bool ba,.slice F.aa bb.length F.ca,.string bd,.slice F.ak be.length F.ck] 73)).drew v u0 n xs bY (.mk k m u g o nh d ks) h bG):=(I.out.alloc _).drew
         have Z:Ce (wr.alloc (.cells #[.string nm,iN a1,iN a6,iN a7,iN a8,.bool ba,.slice F.aa bb.length F.ca,.string bd,.slice F.ak be.length F.ck] 73)).drew wr.heap.size 0 (.string nm)∧Ce (wr.alloc (.cells #[.string nm,iN a1,iN a6,iN a7,iN a8,.bool ba,.slice F.aa bb.length F.ca,.string bd,.slice F.ak be.length F.ck] 73)).drew wr.heap.size 1 (iN a1)∧Ce (wr.alloc (.cells #[.string nm,iN a1,iN a6,iN a7,iN a8,.bool ba,.slice F.aa bb.length F.ca,.string bd,.slice F.ak be.length F.ck] 73)).drew wr.heap.size 2 (iN a6)∧Ce (wr.alloc (.cells #[.string nm,iN a1,iN a6,iN a7,iN a8,.bool ba,.slice F.aa bb.length F.ca,.string bd,.slice F.ak be.length F.ck] 73)).drew wr.heap.size 3 (iN a7)∧Ce (wr.alloc (.cells #[.string nm,iN a1,iN a6,iN a7,iN a8,.bool ba,.slice F.aa bb.length F.ca,.string bd,.slice F.ak be.length F.ck] 73)).drew wr.heap.size 4 (iN a8)∧Ce (wr.alloc (.cells #[.string nm,iN a1,iN a6,iN a7,iN a8,.bool ba,.slice F.aa bb.length F.ca,.string bd,.slice F.ak be.length F.ck] 73)).drew wr.heap.size 5 (.bool ba)∧Ce (wr.alloc (.cells #[.string nm,iN a1,iN a6,iN a7,iN a8,.bool ba,.slice F.aa bb.length F.ca,.string bd,.slice F.ak be.length F.ck] 73)).drew wr.heap.size 6 (.slice F.aa bb.length F.ca)∧Ce (wr.alloc (.cells #[.string nm,iN a1,iN a6,iN a7,iN a8,.bool ba,.slice F.aa bb.length F.ca,.string bd,.slice F.ak be.length F.ck] 73)).drew wr.heap.size 7 (.string bd)∧Ce (wr.alloc (.cells #[.string nm,iN a1,iN a6,iN a7,iN a8,.bool ba,.slice F.aa bb.length F.ca,.string bd,.slice F.ak be.length F.ck] 73)).drew wr.heap.size 8 (.slice F.ak be.length F.ck):=
          ⟨aC,aC,aC,aC,aC,aC,aC,aC,aC⟩
         have ad:some wr.heap.size≠u0.ownBlock:=fun e=>by have:=(I.out.row.lt _ e.symm).2;omega
         have T:wr.heap.size<(wr.alloc (.cells #[.string nm,iN a1,iN a6,iN a7,iN a8,.bool ba,.slice F.aa bb.length F.ca,.string bd,.slice F.ak be.length F.ck] 73)).drew.heap.size:=by show _<(wr.alloc _).heap.size;rw[nv];omega
         clear eT eU dj eV dm ch dy eW eX I;generalize wr.alloc (.cells #[.string nm,iN a1,iN a6,iN a7,iN a8,.bool ba,.slice F.aa bb.length F.ca,.string bd,.slice F.ak be.length F.ck] 73)=az at bB Z T⊢;generalize wr.heap.size=G at Z ad T⊢;have eB:=bC.out (bG++Bs nm) _ (by rw[Y.out,n8]);have dw:=bC.out (bG++(Bs nm++cl)) (CN (ks.drop (bA+1))) (by rw[Y.out];simp only[n8]);simp only[nK,FG]at eB dw;have cu:=hid (Kt nm az.drew u0 _ _ bB.out.row bB.out.low.size (by omega));go_region_held3 (fun w'=>Ce w' G 0 (.string nm)∧Ce w' G 1 (iN a1)∧Ce w' G 2 (iN a6)∧Ce w' G 3 (iN a7)∧Ce w' G 4 (iN a8)∧Ce w' G 5 (.bool ba)∧Ce w' G 6 (.slice F.aa bb.length F.ca)∧Ce w' G 7 (.string bd)∧Ce w' G 8 (.slice F.ak be.length F.ck)) (first|exact Z|exact bl|exact cx) (first|(go_at_call 145;(with_reducible refine nn cu.out ?_);rintro e J ⟨bF,rfl,cA,aa⟩;have bl:Ce J G 0 (.string nm)∧Ce J G 1 (iN a1)∧Ce J G 2 (iN a6)∧Ce J G 3 (iN a7)∧Ce J G 4 (iN a8)∧Ce J G 5 (.bool ba)∧Ce J G 6 (.slice F.aa bb.length F.ca)∧Ce J G 7 (.string bd)∧Ce J G 8 (.slice F.ak be.length F.ck):=⟨(nR (w:=az.drew) (aa.g.block G T ad)).trans Z.1,(nR (w:=az.drew) (aa.g.block G T ad)).trans Z.2.1,(nR (w:=az.drew) (aa.g.block G T ad)).trans Z.2.2.1,(nR (w:=az.drew) (aa.g.block G T ad)).trans Z.2.2.2.1,(nR (w:=az.drew) (aa.g.block G T ad)).trans Z.2.2.2.2.1,(nR (w:=az.drew) (aa.g.block G T ad)).trans Z.2.2.2.2.2.1,(nR (w:=az.drew) (aa.g.block G T ad)).trans Z.2.2.2.2.2.2.1,(nR (w:=az.drew) (aa.g.block G T ad)).trans Z.2.2.2.2.2.2.2.1,(nR (w:=az.drew) (aa.g.block G T ad)).trans Z.2.2.2.2.2.2.2.2⟩;have bu:=OC aa T ad;have bv:=nG T aa.size;have b0:Hid (LS O W J v bF n xs bY (.mk k m u g o nh d ks) h (bG++Bs nm)):=bB.out.app aa (Bs nm) (by rw[←n8];exact cA) (by rw[FG]);have cB:Hid (cL 108 #[bF,.agg #[iN a1,iN a6,iN a7,iN a8,.bool ba,.slice F.aa bb.length F.ca,.string bd,.slice F.ak be.length F.ck]] J fun e w'=>∃bo,e=.returned bo∧w'.ownsRow O.heap.size 5 1 bo (n+(bG++Bs nm).length+cl.length) (xs++bc (bG++Bs nm)++bc cl)∧Gr J w' bF bo):=d1.out J bF _ _ b0.out.low b0.out.row (by rw[nK,FG];omega);clear cu cA aa)|(go_at_call 108;(with_reducible refine nn cB.out ?_);rintro e bx ⟨dr,rfl,c3,bn⟩;have cx:Ce bx G 0 (.string nm)∧Ce bx G 1 (iN a1)∧Ce bx G 2 (iN a6)∧Ce bx G 3 (iN a7)∧Ce bx G 4 (iN a8)∧Ce bx G 5 (.bool ba)∧Ce bx G 6 (.slice F.aa bb.length F.ca)∧Ce bx G 7 (.string bd)∧Ce bx G 8 (.slice F.ak be.length F.ck):=⟨(nR (w:=J) (bn.g.block G bv bu)).trans bl.1,(nR (w:=J) (bn.g.block G bv bu)).trans bl.2.1,(nR (w:=J) (bn.g.block G bv bu)).trans bl.2.2.1,(nR (w:=J) (bn.g.block G bv bu)).trans bl.2.2.2.1,(nR (w:=J) (bn.g.block G bv bu)).trans bl.2.2.2.2.1,(nR (w:=J) (bn.g.block G bv bu)).trans bl.2.2.2.2.2.1,(nR (w:=J) (bn.g.block G bv bu)).trans bl.2.2.2.2.2.2.1,(nR (w:=J) (bn.g.block G bv bu)).trans bl.2.2.2.2.2.2.2.1,(nR (w:=J) (bn.g.block G bv bu)).trans bl.2.2.2.2.2.2.2.2⟩;have ds:Hid (LS O W bx v dr n xs bY (.mk k m u g o nh d ks) h ((bG++Bs nm)++cl)):=b0.out.app bn cl (by rw[←n8];exact c3) rfl;clear cB c3 bn))
         all_goals
          have du:Hid (V=((bG++Bs nm)++cl)++CN (ks.drop (bA+1))):=by show _=_;rw[Y.out];simp only[n8]
          clear Z bl cx bB b0 Y ad bu T bv eB dw;go_wp2;go_roundw
          case rel=>exact⟨bA+1,_,by omega,by go_num,du.out,ds.out⟩
          case measure=>simp[intOf];omega
        ·have eP:decide ((bA:Int)<(ks.length:Int))=false:=nA (by omega)
         have Y:Hid (V=bG):=by show _=_;rw[ab.out,n7 (by omega)];simp[CN]
         clear ab;go_wp2;go_ret;refine⟨_,rfl,?_,I.out.gr⟩;rw[Y.out];exact I.out.row
end Go.Proofs.YtgppjbhaimmlpaaGreatDoor
