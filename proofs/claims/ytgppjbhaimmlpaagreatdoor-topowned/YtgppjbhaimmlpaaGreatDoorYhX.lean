/-
  TopOwned: Yh Yl Ab Ah Ai Aj Ak.
-/
import Derived.Test.YtgppjbhaimmlpaaGreatDoorApX
import Derived.Test.YtgppjbhaimmlpaaGreatDoorVeX
import Derived.Test.YtgppjbhaimmlpaaGreatDoorYbX
import Derived.Test.YtgppjbhaimmlpaaGreatDoorCcX
import Derived.Test.YtgppjbhaimmlpaaGreatDoorYpX
import Derived.Test.YtgppjbhaimmlpaaGreatDoorYkX
import Derived.Test.YtgppjbhaimmlpaaGreatDoorMaX
import Derived.Shelf.SlSorted.Search
import Derived.Lib.AppendZeros
import Derived.Deep.RegionHeld3
set_option maxRecDepth 100000
set_option maxHeartbeats 16000000
namespace Go.Proofs.YtgppjbhaimmlpaaGreatDoor
open Go.RowKit Go.Proofs.Tryz
theorem GL.below{B:Bx}{w w':World}{nf:List BA}{f:Fd}(h:GL B w nf f)(hb:Bw w w'):GL B w' nf f:=⟨h.t,h.dir,h.nd.on (Aj hb),h.there,h.no⟩
theorem X7{P:Program}{F:Array Oper}{ni:List Oper}{o:Oper}{a:Act}{w:World}{G:Exit→Act→World→Prop}(I:o.guard=none)(H:TypeId)(x:Operand)(J:o.op=.load H x)(v:Value)(O:(Instr.loadAt H (a.eval x)).run P w=.ok v w)(h:wpList P F G ni (a.put o.dst v) w):wpList P F G (o::ni) a w:=
 wpList_plain I fun _ Q=>by
  unfold Oper.wp execOp;simp only[J,O,Sem.run_bind,Result.andThen_ok,Sem.run_pure];exact Q _ _ h
theorem VI{w:World}{b:Nat}{B:Bx}{x0:Nd}{ni:List Nd}(h:A5 w b B)(Y:BS B x0 ni){H F I:Int}{G J O Q:BA}(be:Int)(bf:w.cell? ⟨0,0,none⟩=some (.int .i64 be)):
 Calls prog 39 #[.pointer (some ⟨b,0,none⟩),.agg #[.int .i64 H,.string G,.string J,.string O,.string Q,.int .i64 F,.int .i64 I]] w fun e w'=>(∃E,e=.returned (Am E))∧BI w w' b B ni:=by
 have Z:Bw w (w.alloc (Ax H G J O Q F I)):=(nt _ _).alloc (nl _) _;have bH:Ce (w.alloc (Ax H G J O Q F I)) w.heap.size 1 (.string G):=nk _ _ _ _ rfl;have bg:Ce (w.alloc (Ax H G J O Q F I)) w.heap.size 5 (.int .i64 F):=nk _ _ _ _ rfl;have aa:=hid Z;have bi:Hid (Calls prog 67 #[.pointer (some ⟨b,0,none⟩),.string G] (w.alloc (Ax H G J O Q F I)) fun e w'=>CC B w' G false e∧Bw (w.alloc (Ax H G J O Q F I)) w'):=by
  refine nn (MT (h.below Z) Y.good G (C7 _).1 (C7 _).2 be (Ad Z bf)) ?_;rintro e w' ⟨bY,b0⟩;exact⟨LU Y.good bY,b0⟩
 have bk:=hid h;have bl:=hid Y;have ap:Hid (∀w',Bw w w'→BI w w' b B ni):=fun w' hb=>⟨Au.of_below hb,B,x0,bk.out.below hb,bl.out,rfl,rfl⟩;have bn:Hid (∀R,Calls prog 73 #[.int .i64 F] R fun e w'=>e=.returned (.bool (decide (0≤F∧F≤4095)))∧R=w'):=fun R=>MG R F
 clear h Y Z bf;go_enter func39,ntmps39;go_wp2_with fail
 refine nn (bn.out _) ?_;rintro e cq ⟨rfl,rfl⟩;by_cases ab:0≤F∧F≤4095
 ·rw[nE ab]
  have b1:=hid ab;clear ab;go_wp2_with fail
  generalize(w.alloc (Ax H G J O Q F I))=R at*;refine nn bi.out ?_;rintro e az ⟨b2,q2⟩;clear bi bn;obtain⟨cs,E,rfl,a1,bo,bp⟩:=b2;obtain⟨ad,b3,ak,a6,bs⟩:=FV az cs a1 bo;have bu:=BT cs;unfold Value.cells at bu;have b4:=hid a1;have bv:=hid (q2.trans (a6.out.mono q2.size));have ao:=hid (aa.out.trans (bv.out.mono aa.out.size));have bx:Hid _:=bp;have cr:=hid (nO aa.out.size q2.size);clear bo bp a1;by_cases bA:E=0
  ·subst bA
   obtain⟨f,T,a7,a8,ba,bb,bd,bB⟩:=bx.out rfl;clear bx;have V:=Fu a7;rw[←a8]at V;have cu:=Ad bv.out bg;cases hth:f.there with
   |true=>
    have b5:Ce ad az.heap.size 11 (.bool true):=ak.out 11 _ (by rw[T];obtain⟨t,dir,na,nc,nf,b6,⟨b7,b9,cb,cf,cg,ch,cl,xs⟩,co,ly⟩:=f;dsimp only at hth;subst hth;rfl);rw[show Am 0=Value.nilIface from rfl];clear T a7 a8 ba bb bd bB V bs;go_wp2;go_ret;exact⟨⟨6,rfl⟩,ap.out _ ao.out⟩
   |false=>
    have bC:Hid (Calls prog 74 #[.pointer (some ⟨b,0,none⟩),BK cs,.agg #[.int .i64 2,.int .i64 F,.int .i64 0,.int .i64 0,.bool false,.slice none 0 0,.string ⟨#[]⟩,.slice none 0 0]] ad fun e w'=>(∃E,e=.returned (Am E))∧BI ad w' b B ni):=by
     have e:=PX (bk.out.below ao.out) bl.out (bd.below a6.out) hth (ba.on (Aj a6.out)) V.1 (by have:=V.2.1;omega) bb (kd:=2) (md:=F) (dat:=⟨#[]⟩) (by first|exact .inl rfl|exact .inr rfl) b1.out (by decide);rw[←T]at e;exact e
    have b5:Ce ad az.heap.size 11 (.bool false):=ak.out 11 _ (by rw[T];obtain⟨t,dir,na,nc,nf,b6,⟨b7,b9,cb,cf,cg,ch,cl,xs⟩,co,ly⟩:=f;dsimp only at hth;subst hth;rfl);rw[show Am 0=Value.nilIface from rfl];clear T a7 a8 ba bb bd bB V bs;go_upto_region 8 with fail
    clear b3 bu;refine rU ?_;refine KF rfl _ rfl ?_;simp only[tk];refine wpList_load_mid rfl _ _ rfl _ _ rfl cs _ ak.out rfl rfl (by rw[b4.out];rfl) ?_;simp only[tk];go_wp2_with fail
    refine nn bC.out ?_;rintro e cx ⟨⟨E,rfl⟩,bF⟩;have cp:=hid (bF.up ao.out);clear bF bC ak;go_wp2;go_ret;exact⟨⟨E,rfl⟩,cp.out⟩
  ·have bG:=AH (n:=E) rfl bA
   rw[bG];clear bH bg;go_wp2;go_ret;exact⟨⟨E,by rw[bG];rfl⟩,ap.out _ ao.out⟩
 ·rw[nA ab]
  go_wp2;go_ret;exact⟨⟨1,rfl⟩,ap.out _ aa.out⟩
theorem WT{w:World}{b:Nat}{B:Bx}{x0:Nd}{ni:List Nd}(h:A5 w b B)(a8:BS B x0 ni){Q F R:Int}{H T V G:BA}(b1:Int)(b2:w.cell? ⟨0,0,none⟩=some (.int .i64 b1)):
 Calls prog 38 #[.pointer (some ⟨b,0,none⟩),.agg #[.int .i64 Q,.string H,.string T,.string V,.string G,.int .i64 F,.int .i64 R]] w fun e w'=>(∃E,e=.returned (Am E))∧BI w w' b B ni:=by
 have ba:Bw w ((w.alloc (.cells #[.pointer (some ⟨b,0,none⟩)] 35)).alloc (Ax Q H T V G F R)):=((nt _ _).alloc (nl _) _).alloc ((nt _ _).alloc (nl _) _:Bw w _).size _;have bn:Ce ((w.alloc (.cells #[.pointer (some ⟨b,0,none⟩)] 35)).alloc (Ax Q H T V G F R)) w.heap.size 0 (.pointer (some ⟨b,0,none⟩)):=Ay (nk _ _ _ _ rfl);have b3:Ce ((w.alloc (.cells #[.pointer (some ⟨b,0,none⟩)] 35)).alloc (Ax Q H T V G F R)) (w.heap.size+1) 1 (.string H):=nk _ _ _ _ (by rw[nv]);have bo:Ce ((w.alloc (.cells #[.pointer (some ⟨b,0,none⟩)] 35)).alloc (Ax Q H T V G F R)) (w.heap.size+1) 4 (.string G):=nk _ _ _ _ (by rw[nv]);have bp:Ce ((w.alloc (.cells #[.pointer (some ⟨b,0,none⟩)] 35)).alloc (Ax Q H T V G F R)) (w.heap.size+1) 5 (.int .i64 F):=nk _ _ _ _ (by rw[nv]);have ad:=hid ba;have b4:Hid (Calls prog 67 #[.pointer (some ⟨b,0,none⟩),.string H] ((w.alloc (.cells #[.pointer (some ⟨b,0,none⟩)] 35)).alloc (Ax Q H T V G F R)) fun e w'=>CC B w' H false e∧Bw ((w.alloc (.cells #[.pointer (some ⟨b,0,none⟩)] 35)).alloc (Ax Q H T V G F R)) w'):=by
  refine nn (MT (h.below ba) a8.good H (C7 _).1 (C7 _).2 b1 (Ad ba b2)) ?_;rintro e w' ⟨c9,da⟩;exact⟨LU a8.good c9,da⟩
 have bb:=hid h;have bd:=hid a8;have ak:Hid (∀w',Bw w w'→BI w w' b B ni):=fun w' hb=>⟨Au.of_below hb,B,x0,bb.out.below hb,bd.out,rfl,rfl⟩;have b5:Hid (∀ao,Calls prog 73 #[.int .i64 F] ao fun e w'=>e=.returned (.bool (decide (0≤F∧F≤4095)))∧ao=w'):=fun ao=>MG ao F
 clear h a8 ba b2;go_enter func38,ntmps38;go_wp2_with fail
 refine nn (b5.out _) ?_;rintro e d4 ⟨rfl,rfl⟩;by_cases be:0≤F∧F≤4095
 ·rw[nE be]
  have db:=hid be;clear be;by_cases b6:200<G.size
  ·have dd:decide ((200:Int)<(G.size:Int))=true:=nE (by omega)
   have de:=nE b6;go_wp2;go_ret;exact⟨⟨1,rfl⟩,ak.out _ ad.out⟩
  ·have dd:decide ((200:Int)<(G.size:Int))=false:=nA (by omega)
   have de:=nA b6;have b7:Hid (G.size≤300):=by show _≤_;omega
   go_wp2_with fail
   generalize((w.alloc (.cells #[.pointer (some ⟨b,0,none⟩)] 35)).alloc (Ax Q H T V G F R))=ao at*;refine nn b4.out ?_;rintro e Y ⟨dg,q2⟩;clear b4 b5;obtain⟨cs,E,rfl,bs,b9,cb⟩:=dg;obtain⟨O,dj,I,bf,cf⟩:=FV Y cs bs b9;have cg:=BT cs;unfold Value.cells at cg;have dk:=hid bs;have bg:=hid (q2.trans (bf.out.mono q2.size));have aa:=hid (ad.out.trans (bg.out.mono ad.out.size));have ch:Hid _:=cb;have d5:=hid (nO ad.out.size q2.size);clear b9 cb bs;by_cases cl:E=0
   ·subst cl
    obtain⟨f,J,bu,bi,ap,az,a1,bv⟩:=ch.out rfl;clear ch;have Z:=Fu bu;rw[←bi]at Z;have bk:=Ad bg.out bn;have co:=Ad bg.out bo;have cp:=Ad bg.out bp;cases hth:f.there with
    |true=>
     obtain⟨⟨bl,bx,bA,tg,bB⟩,⟨d6,d7,d8,d9,ea⟩,na,nc,nf,dm,⟨dn,dp,dr,ds,du,dw,dx,xs⟩,dy,ly⟩:=f;dsimp only at bi ap az a1 bv Z hth;subst hth;have bC:=a1.t;dsimp only at bC;have cq:Ce O Y.heap.size 0 (.bool bl):=I.out 0 _ (by rw[J];rfl);have cr:Ce O Y.heap.size 1 (.int .i64 bx):=I.out 1 _ (by rw[J];rfl);have cu:Ce O Y.heap.size 2 (.int .i64 bA):=I.out 2 _ (by rw[J];rfl);have cx:Ce O Y.heap.size 3 (.int .i64 tg):=I.out 3 _ (by rw[J];rfl);have cA:Ce O Y.heap.size 4 (.bool bB):=I.out 4 _ (by rw[J];rfl);have bF:Ce O Y.heap.size 10 (.slice na nf.length nc):=I.out 10 _ (by rw[J];rfl);have cB:Ce O Y.heap.size 11 (.bool true):=I.out 11 _ (by rw[J];rfl);have c3:=hid (IC (bb.out.below aa.out) ⟨bl,bx,bA,tg,bB⟩ 2 bC.1);generalize B.mayE ⟨bl,bx,bA,tg,bB⟩ 2=bG at*;have dz:=hid (ap.on (Aj bf.out));have c4:Hid ((∀s∈nf,AQ s=true)∧nf.length≤6):=⟨Z.1,Z.2.1⟩;have d0:=hid az;rw[show Am 0=Value.nilIface from rfl];clear J bu bi ap az a1 bv Z I bn b3 bo bp cf bC;cases bl with
     |true=>
      go_wp2;go_ret;exact⟨⟨7,rfl⟩,ak.out _ aa.out⟩
     |false=>
      go_wp2_with fail
      refine nn c3.out ?_;rintro e eb ⟨rfl,ab⟩;have bH:=hid (aa.out.trans (ab.mono aa.out.size));by_cases c5:bG=0
      ·subst c5
       rw[show Am 0=Value.nilIface from rfl];have d1:=Ad ab bk;have d2:=Ad ab co;have ec:=Ad ab bF;have bY:=bb.out.below bH.out;have c6:=hid (JM bY bd.out (dz.out.on (Aj ab)) c4.out.1 (by have:=c4.out.2;omega) d0.out rfl (WX bY bd.out b7.out d1 d2));clear c3 ab cq cr cu cx cA bF cB bk co cp bY;go_wp2_with fail
       refine nn c6.out ?_;rintro e d3 ⟨⟨E,rfl⟩,a6⟩;have b0:=hid (a6.up bH.out);clear a6 c6;go_wp2;go_ret;exact⟨⟨E,rfl⟩,b0.out⟩
      ·have a7:=AH (n:=bG) rfl c5
       rw[a7];clear cq cr cu cx cA bF bk cp;go_wp2;go_ret;exact⟨⟨bG,by rw[a7];rfl⟩,ak.out _ bH.out⟩
    |false=>
     have c8:Hid (Calls prog 74 #[.pointer (some ⟨b,0,none⟩),BK cs,.agg #[.int .i64 1,.int .i64 F,.int .i64 0,.int .i64 0,.bool false,.slice none 0 0,.string G,.slice none 0 0]] O fun e w'=>(∃E,e=.returned (Am E))∧BI O w' b B ni):=by
      have e:=PX (bb.out.below aa.out) bd.out (a1.below bf.out) hth (ap.on (Aj bf.out)) Z.1 (by have:=Z.2.1;omega) az (kd:=1) (md:=F) (dat:=G) (by first|exact .inl rfl|exact .inr rfl) db.out b7.out;rw[←J]at e;exact e
     have cB:Ce O Y.heap.size 11 (.bool false):=I.out 11 _ (by rw[J];obtain⟨t,dir,na,nc,nf,dm,⟨dn,dp,dr,ds,du,dw,dx,xs⟩,dy,ly⟩:=f;dsimp only at hth;subst hth;rfl);rw[show Am 0=Value.nilIface from rfl];clear J bu bi ap az a1 bv Z cf;go_upto_region 7 with fail
     clear dj cg;refine rU ?_;refine X7 rfl _ _ rfl (.pointer (some ⟨b,0,none⟩)) (by simp[Instr.loadAt,Act.eval,go_sem,bk]) ?_;simp only[tk];refine wpList_load_mid rfl _ _ rfl _ _ rfl cs _ I.out rfl rfl (by rw[dk.out];rfl) ?_;simp only[tk];go_wp2_with fail
     refine nn c8.out ?_;rintro e d3 ⟨⟨E,rfl⟩,a6⟩;have b0:=hid (a6.up aa.out);clear a6 c8 I;go_wp2;go_ret;exact⟨⟨E,rfl⟩,b0.out⟩
   ·have a7:=AH (n:=E) rfl cl
    rw[a7];clear bn b3 bo bp;go_wp2;go_ret;exact⟨⟨E,by rw[a7];rfl⟩,ak.out _ aa.out⟩
 ·rw[nA be]
  go_wp2;go_ret;exact⟨⟨1,rfl⟩,ak.out _ ad.out⟩
theorem Ph{w:World}{b:Nat}{B:Bx}{x0:Nd}{ni:List Nd}(h:A5 w b B)(b9:BS B x0 ni){O Y Z:Int}{I aa J Q:BA}(cb:Int)(dg:Int)(dj:w.cell? ⟨0,0,none⟩=some (.int .i64 dg))(eg:J.size≤1000):
 Calls prog 36 #[.pointer (some ⟨b,0,none⟩),.agg #[.int .i64 O,.string I,.string aa,.string J,.string Q,.int .i64 Y,.int .i64 Z],.int .i64 cb] w fun e w'=>CC B w' I true e∧Bw w w':=by
 have cr:Bw w (w.alloc (Ax O I aa J Q Y Z)):=(nt _ _).alloc (nl _) _;have cf:Bw w ((w.alloc (Ax O I aa J Q Y Z)).alloc AF):=cr.alloc cr.size _;have bf:=hid cf;have bx:Ce ((w.alloc (Ax O I aa J Q Y Z)).alloc AF) w.heap.size 0 (.int .i64 O):=Ay (nk _ _ _ _ rfl);have bA:Ce ((w.alloc (Ax O I aa J Q Y Z)).alloc AF) w.heap.size 1 (.string I):=Ay (nk _ _ _ _ rfl);have ej:Ce ((w.alloc (Ax O I aa J Q Y Z)).alloc AF) w.heap.size 3 (.string J):=Ay (nk _ _ _ _ rfl);have bB:Ce ((w.alloc (Ax O I aa J Q Y Z)).alloc AF) w.heap.size 4 (.string Q):=Ay (nk _ _ _ _ rfl);have cu:Hid (A6 ((w.alloc (Ax O I aa J Q Y Z)).alloc AF) (w.heap.size+1) 0 CB):=A6.new _ _ (by rw[nv]) CB 86;have dk:Hid (∀q,((w.alloc (Ax O I aa J Q Y Z)).alloc AF).frozen? ⟨w.heap.size+1,q,none⟩=false):=fun q=>nP _ _ _ _ (by rw[nv]);have bC:Hid (∀o,((w.alloc (Ax O I aa J Q Y Z)).alloc AF).cell? ⟨w.heap.size+1,o,none⟩=CB[o]?):=fun o=>by rw[nk _ _ _ _ (by rw[nv])];simp
 have dm:Hid (∀w',Bw ((w.alloc (Ax O I aa J Q Y Z)).alloc AF) w'→Calls prog 33 #[.pointer (some ⟨b,0,none⟩),.string I] w' fun e dn=>CC B dn I true e∧Bw w' dn):=fun w' hb=>by
  refine nn (Jt ((h.below cf).below hb) b9.good I (C7 _).1 (C7 _).2 dg (Ad hb (Ad cf dj))) ?_;rintro e w' ⟨cx,ek⟩;exact⟨IF b9.good cx,ek⟩
 have cA:Hid (Calls prog 70 #[.string J] ((w.alloc (Ax O I aa J Q Y Z)).alloc AF) fun e w'=>e=.returned (.int .i64 (CW J))∧Bw ((w.alloc (Ax O I aa J Q Y Z)).alloc AF) w'):=by
  refine nn (KI J _ eg) ?_;rintro e F ⟨cx,n,rfl⟩;exact⟨cx,rz (nt _ _) n⟩
 have dp:=hid h;have eB:=hid b9;generalize(CW J)=cg at cA;clear h b9 cf cr dj;go_enter func36,ntmps36;go_upto_region 1 with fail
 generalize((w.alloc (Ax O I aa J Q Y Z)).alloc AF)=dr at*;go_wp2_with fail
 refine nn cA.out ?_;rintro e bo ⟨rfl,a7⟩;have cB:=bf;clear bf;have bf:=hid (cB.out.trans (a7.mono cB.out.size));have ch:w.heap.size+1<dr.heap.size:=ny dr ⟨w.heap.size+1,0,none⟩ (cu.out 0 _ rfl);have bu:=hid (cu.out.below a7);have cl:Hid (∀q,bo.frozen? ⟨w.heap.size+1,q,none⟩=false):=fun q=>(a7.frozen (p:=⟨w.heap.size+1,q,none⟩) ch).trans (dk.out q);have ds:Hid (∀o,bo.cell? ⟨w.heap.size+1,o,none⟩=CB[o]?):=fun o=>(a7.cell (p:=⟨w.heap.size+1,o,none⟩) ch).trans (bC.out o)
 have co:=hid (dm.out bo a7);have bx:=Ad a7 bx;have bA:=Ad a7 bA;have bB:=Ad a7 bB;have bg:=nG ch a7.size;clear cA dm cu dk bC ej a7 ch cB;have bC:=hid ds.out;clear ds;by_cases c3:cg=0
 ·subst c3
  clear bx bA bB co;go_upto_region 3 with fail
  obtain⟨c0,a1,a6,bF⟩:=z21;have bi:=hid a1;have bG:=hid a6;have bH:=Cd (P:=prog) (bu.out) (cl.out) a1.symm a6;have bk:=hid (C5 c0 (bu.out) a1.symm);have bl:Hid (Bw w (bo.setCells (w.heap.size+1) 0 c0)):=CP c0 (by omega) (bf.out);generalize bo.setCells (w.heap.size+1) 0 c0=bY at bH bk bl;have b0:=run_loadVar_mid (P:=prog) bY (w.heap.size+1) 0 86 c0 _ bk.out rfl rfl (by rw[bi.out];rfl);have du:=bF.out;have b1:=BT c0;unfold Value.cells at b1;clear a6;go_wp2;refine nF (v:=.tuple #[.agg c0.toArray,.iface 74 (.int .i64 4)]) ?_ rfl ⟨⟨c0,4,rfl,bi.out,bG.out,fun e=>absurd e (by decide)⟩,bl.out⟩;simp[results,results36,asAddr,b0]
 ·have eE:(cg==0)=false:=by simpa using c3
  clear c3;by_cases c4:O=10∧20<Q.size
  ·obtain⟨rfl,el⟩:=c4
   have dw:decide ((20:Int)<(Q.size:Int))=true:=nE (by omega);have em:=nE el;clear co;go_upto_region 5 with fail
   clear bx bA bB;obtain⟨c0,a1,a6,bF⟩:=z21;have bi:=hid a1;have bG:=hid a6;have bH:=Cd (P:=prog) (bu.out) (cl.out) a1.symm a6;have bk:=hid (C5 c0 (bu.out) a1.symm);have bl:Hid (Bw w (bo.setCells (w.heap.size+1) 0 c0)):=CP c0 (by omega) (bf.out);generalize bo.setCells (w.heap.size+1) 0 c0=bY at bH bk bl;have b0:=run_loadVar_mid (P:=prog) bY (w.heap.size+1) 0 86 c0 _ bk.out rfl rfl (by rw[bi.out];rfl);have du:=bF.out;have b1:=BT c0;unfold Value.cells at b1;clear a6;go_wp2;refine nF (v:=.tuple #[.agg c0.toArray,.iface 74 (.int .i64 1)]) ?_ rfl ⟨⟨c0,1,rfl,bi.out,bG.out,fun e=>absurd e (by decide)⟩,bl.out⟩;simp[results,results36,asAddr,b0]
  ·rcases(by
    by_cases bv:O=10
    ·exact .inr ⟨bv,nA (fun h=>c4 ⟨bv,by omega⟩)⟩
    ·exact .inl (by simpa using bv):(O==10)=false∨O=10∧decide ((20:Int)<(Q.size:Int))=false)with bv|⟨bv,dw⟩
   case' inr=>
    subst bv;have em:decide (20<Q.size)=false:=by
     have:=of_decide_eq_false dw;exact nA (by omega)
   all_goals
    clear c4;go_wp2_with fail
    refine nn co.out ?_;rintro e F ⟨en,q2⟩;clear co bx bA bB;obtain⟨cs,E,rfl,c5,dx,dy⟩:=en;obtain⟨R,c6,bn,b2,eo⟩:=FV F cs c5 dx;have dz:=BT cs;unfold Value.cells at dz;have ba:=hid c5;have bb:=hid (q2.trans (b2.out.mono q2.size));have bp:=hid (bf.out.trans (bb.out.mono bf.out.size));have d0:Hid _:=dy;have eF:=hid (nO bf.out.size q2.size);clear dx dy c5;have eG:=nG bg q2.size;have cp:=hid (bu.out.below bb.out);have c8:Hid (∀q,R.frozen? ⟨w.heap.size+1,q,none⟩=false):=fun q=>(bb.out.frozen (p:=⟨w.heap.size+1,q,none⟩) bg).trans (cl.out q);clear bu cl
    by_cases c9:E=0
    ·subst c9
     obtain⟨f,bd,d1,d2,d3,d4,bs,d5⟩:=d0.out rfl;clear d0;obtain⟨⟨ab,ad,ak,tg,ao⟩,eH,na,nc,nf,eI,⟨eJ,eK,eL,eM,eN,eO,eP,xs⟩,eQ,ly⟩:=f;have d6:=bs.t;dsimp only at d6;have d7:Ce R F.heap.size 0 (.bool ab):=bn.out 0 _ (by rw[bd];rfl);have d8:Ce R F.heap.size 1 (.int .i64 ad):=bn.out 1 _ (by rw[bd];rfl);have d9:Ce R F.heap.size 2 (.int .i64 ak):=bn.out 2 _ (by rw[bd];rfl);have ea:Ce R F.heap.size 3 (.int .i64 tg):=bn.out 3 _ (by rw[bd];rfl);have eb:Ce R F.heap.size 4 (.bool ao):=bn.out 4 _ (by rw[bd];rfl);rw[show Am 0=Value.nilIface from rfl];have ec:Hid (∀w',Bw F w'→∀be,CC B w' I true (.returned (.tuple #[BK cs,Am be]))):=fun w' hb be=>⟨cs,be,rfl,ba.out,by rw[bd];exact Ej _,fun e=>⟨_,bd,d1,d2,d3.on (Aj hb),d4,⟨bs.t,bs.dir,bs.nd.on (Aj hb),bs.there,bs.no⟩,d5⟩⟩;have ed:Hid (∀v∈cs,v.oneCell'=true):=by rw[bd];exact Ej _
     have ap:R.drew.rangeAt F.heap.size 0 cs∧Ce R.drew F.heap.size 0 (.bool ab)∧Ce R.drew F.heap.size 1 (.int .i64 ad)∧Ce R.drew F.heap.size 2 (.int .i64 ak)∧Ce R.drew F.heap.size 3 (.int .i64 tg)∧Ce R.drew F.heap.size 4 (.bool ao):=⟨bn.out,d7,d8,d9,ea,eb⟩;clear bd d1 d2 d3 d4 bs d5 eo bn d7 d8 d9 ea eb;by_cases ee:cg=1
     ·subst ee
      have ep:=hid (IC ((dp.out.below bp.out).below (nt _ _).drew) ⟨ab,ad,ak,tg,ao⟩ cb d6.1);generalize B.mayE ⟨ab,ad,ak,tg,ao⟩ cb=be at*;go_upto_region 10 with fail
      clear c6;refine wp_region_held_drew (S:=fun w'=>w'.rangeAt F.heap.size 0 cs∧Ce w' F.heap.size 0 (.bool ab)∧Ce w' F.heap.size 1 (.int .i64 ad)∧Ce w' F.heap.size 2 (.int .i64 ak)∧Ce w' F.heap.size 3 (.int .i64 tg)∧Ce w' F.heap.size 4 (.bool ao)) (by kernel_rfl) ap (fun a8=>?_);refine nS (i:=0) (oi:=_) (v:=BK cs) rfl (by kernel_rfl) (by kernel_rfl) (by kernel_rfl) (fun _ _ _ h=>h) (yieldsIf_load_mid (by rfl) _ _ rfl _ _ rfl cs _ (fun w h=>h.1) underlying86 rfl (by rw[ba.out];rfl)) a8 ?_;simp only[Act.put,List.setIfInBounds_toArray];refine nS (i:=1) (oi:=_) (v:=.pointer (some ⟨b,0,none⟩)) rfl (by kernel_rfl) (by kernel_rfl) (by kernel_rfl) (fun _ _ _ h=>h) (Or.inl ⟨by rfl,fun w cq=>by go_simp⟩) a8 ?_;simp only[Act.put];refine nS (i:=2) (oi:=_) (v:=.pointer (some ⟨F.heap.size,0,none⟩)) rfl (by kernel_rfl) (by kernel_rfl) (by kernel_rfl) (fun _ _ _ h=>h) (Or.inl ⟨by rfl,fun w cq=>by go_simp⟩) a8 ?_;simp only[Act.put];refine tI 3 _ (.agg #[.bool ab,.int .i64 ad,.int .i64 ak,.int .i64 tg,.bool ao]) a8 ?_;simp only[Act.put];refine nS (i:=4) (oi:=_) (v:=.int .i64 cb) rfl (by kernel_rfl) (by kernel_rfl) (by kernel_rfl) (fun _ _ _ h=>h) (Or.inl ⟨by rfl,fun w cq=>by go_simp⟩) a8 ?_;simp only[Act.put];refine wpAnyH_ready (rs:=[5]) (by kernel_rfl) (by simp) ?_;refine AllReadyH.cons (o:=_) rfl (fun K T=>?_) AllReadyH.nil;rw[nC (by rfl)];go_simp;refine nn ep.out ?_;rintro e G ⟨rfl,H⟩;have V:G.rangeAt F.heap.size 0 cs∧Ce G F.heap.size 0 (.bool ab)∧Ce G F.heap.size 1 (.int .i64 ad)∧Ce G F.heap.size 2 (.int .i64 ak)∧Ce G F.heap.size 3 (.int .i64 tg)∧Ce G F.heap.size 4 (.bool ao):=⟨A6.below ap.1 H,Ad H ap.2.1,Ad H ap.2.2.1,Ad H ap.2.2.2.1,Ad H ap.2.2.2.2.1,Ad H ap.2.2.2.2.2⟩;have b3:=hid ((cp.out.below (nt _ _).drew).below H);have da:Hid (∀q,G.frozen? ⟨w.heap.size+1,q,none⟩=false):=fun q=>(H.frozen (p:=⟨w.heap.size+1,q,none⟩) (nG bg bb.out.size)).trans (c8.out q);have eq:=Cd (P:=prog) b3.out da.out (by rw[ba.out];rfl) ed.out
      have b4:=hid (C5 cs b3.out (by rw[ba.out];rfl));have b5:Hid (Bw w (G.setCells (w.heap.size+1) 0 cs)):=CP cs (by omega) (bp.out.trans (((nt _ R).drew.trans H).mono bp.out.size));have az:∀o,(G.setCells (w.heap.size+1) 0 cs).cell? ⟨F.heap.size,o,none⟩=G.cell? ⟨F.heap.size,o,none⟩:=fun o=>BM (by show F.heap.size≠w.heap.size+1;omega);have b6:(G.setCells (w.heap.size+1) 0 cs).rangeAt F.heap.size 0 cs∧Ce (G.setCells (w.heap.size+1) 0 cs) F.heap.size 0 (.bool ab)∧Ce (G.setCells (w.heap.size+1) 0 cs) F.heap.size 1 (.int .i64 ad)∧Ce (G.setCells (w.heap.size+1) 0 cs) F.heap.size 2 (.int .i64 ak)∧Ce (G.setCells (w.heap.size+1) 0 cs) F.heap.size 3 (.int .i64 tg)∧Ce (G.setCells (w.heap.size+1) 0 cs) F.heap.size 4 (.bool ao):=⟨fun j v db=>(az _).trans (V.1 j v db),(az _).trans V.2.1,(az _).trans V.2.2.1,(az _).trans V.2.2.2.1,(az _).trans V.2.2.2.2.1,(az _).trans V.2.2.2.2.2⟩
      have b7:=hid ((ec.out G (b2.out.trans (((nt _ R).drew.trans H).mono b2.out.size)) be).set (C7 _).2 (fun o=>(H.cell (p:=⟨w.heap.size+1,o,none⟩) (nG bg bb.out.size)).trans ((bb.out.cell (p:=⟨w.heap.size+1,o,none⟩) bg).trans (bC.out o))) cs);go_wp2_with fail
      refine T.out _ _ V (fun er=>?_);clear T K;refine wpAnyH_ready (rs:=[6]) (by kernel_rfl) (by simp) ?_;refine AllReadyH.cons (o:=_) rfl (fun K T=>?_) AllReadyH.nil;rw[nC (by rfl)];go_simp;refine T.out _ _ b6 (fun es=>?_);clear T K;refine wpAnyH_ready (rs:=[7]) (by kernel_rfl) (by simp) ?_;refine AllReadyH.cons (o:=_) rfl (fun K T=>?_) AllReadyH.nil;rw[nC (by rfl)];go_simp;refine T.out _ _ b6 (fun eu=>?_);clear T K;refine rN (by kernel_rfl) ?_ _;generalize G.setCells (w.heap.size+1) 0 cs=dd at b4 b5 b7⊢;have de:=run_loadVar_mid (P:=prog) dd (w.heap.size+1) 0 86 cs _ b4.out rfl rfl (by rw[ba.out];rfl);go_wp2;refine nF (v:=.tuple #[.agg cs.toArray,Am be]) ?_ rfl ⟨b7.out,b5.out⟩;simp[results,results36,asAddr,de]
     ·have eR:(cg==1)=false:=by simpa using ee
      have ev:=hid (Rw ((dp.out.below bp.out).below (nt _ _).drew) ⟨ab,ad,ak,tg,ao⟩);generalize B.ownE ⟨ab,ad,ak,tg,ao⟩=be at*;go_upto_region 11 with fail
      clear c6;refine wp_region_held_drew (S:=fun w'=>w'.rangeAt F.heap.size 0 cs∧Ce w' F.heap.size 0 (.bool ab)∧Ce w' F.heap.size 1 (.int .i64 ad)∧Ce w' F.heap.size 2 (.int .i64 ak)∧Ce w' F.heap.size 3 (.int .i64 tg)∧Ce w' F.heap.size 4 (.bool ao)) (by kernel_rfl) ap (fun a8=>?_);refine nS (i:=0) (oi:=_) (v:=BK cs) rfl (by kernel_rfl) (by kernel_rfl) (by kernel_rfl) (fun _ _ _ h=>h) (yieldsIf_load_mid (by rfl) _ _ rfl _ _ rfl cs _ (fun w h=>h.1) underlying86 rfl (by rw[ba.out];rfl)) a8 ?_;simp only[Act.put,List.setIfInBounds_toArray];refine nS (i:=1) (oi:=_) (v:=.pointer (some ⟨b,0,none⟩)) rfl (by kernel_rfl) (by kernel_rfl) (by kernel_rfl) (fun _ _ _ h=>h) (Or.inl ⟨by rfl,fun w cq=>by go_simp⟩) a8 ?_;simp only[Act.put];refine nS (i:=2) (oi:=_) (v:=.pointer (some ⟨F.heap.size,0,none⟩)) rfl (by kernel_rfl) (by kernel_rfl) (by kernel_rfl) (fun _ _ _ h=>h) (Or.inl ⟨by rfl,fun w cq=>by go_simp⟩) a8 ?_;simp only[Act.put];refine tI 3 _ (.agg #[.bool ab,.int .i64 ad,.int .i64 ak,.int .i64 tg,.bool ao]) a8 ?_;simp only[Act.put];refine wpAnyH_ready (rs:=[4]) (by kernel_rfl) (by simp) ?_;refine AllReadyH.cons (o:=_) rfl (fun K T=>?_) AllReadyH.nil;rw[nC (by rfl)];go_simp;refine nn ev.out ?_;rintro e G ⟨rfl,H⟩;have V:G.rangeAt F.heap.size 0 cs∧Ce G F.heap.size 0 (.bool ab)∧Ce G F.heap.size 1 (.int .i64 ad)∧Ce G F.heap.size 2 (.int .i64 ak)∧Ce G F.heap.size 3 (.int .i64 tg)∧Ce G F.heap.size 4 (.bool ao):=⟨A6.below ap.1 H,Ad H ap.2.1,Ad H ap.2.2.1,Ad H ap.2.2.2.1,Ad H ap.2.2.2.2.1,Ad H ap.2.2.2.2.2⟩;have b3:=hid ((cp.out.below (nt _ _).drew).below H);have da:Hid (∀q,G.frozen? ⟨w.heap.size+1,q,none⟩=false):=fun q=>(H.frozen (p:=⟨w.heap.size+1,q,none⟩) (nG bg bb.out.size)).trans (c8.out q);have eq:=Cd (P:=prog) b3.out da.out (by rw[ba.out];rfl) ed.out
      have b4:=hid (C5 cs b3.out (by rw[ba.out];rfl));have b5:Hid (Bw w (G.setCells (w.heap.size+1) 0 cs)):=CP cs (by omega) (bp.out.trans (((nt _ R).drew.trans H).mono bp.out.size));have az:∀o,(G.setCells (w.heap.size+1) 0 cs).cell? ⟨F.heap.size,o,none⟩=G.cell? ⟨F.heap.size,o,none⟩:=fun o=>BM (by show F.heap.size≠w.heap.size+1;omega);have b6:(G.setCells (w.heap.size+1) 0 cs).rangeAt F.heap.size 0 cs∧Ce (G.setCells (w.heap.size+1) 0 cs) F.heap.size 0 (.bool ab)∧Ce (G.setCells (w.heap.size+1) 0 cs) F.heap.size 1 (.int .i64 ad)∧Ce (G.setCells (w.heap.size+1) 0 cs) F.heap.size 2 (.int .i64 ak)∧Ce (G.setCells (w.heap.size+1) 0 cs) F.heap.size 3 (.int .i64 tg)∧Ce (G.setCells (w.heap.size+1) 0 cs) F.heap.size 4 (.bool ao):=⟨fun j v db=>(az _).trans (V.1 j v db),(az _).trans V.2.1,(az _).trans V.2.2.1,(az _).trans V.2.2.2.1,(az _).trans V.2.2.2.2.1,(az _).trans V.2.2.2.2.2⟩
      have b7:=hid ((ec.out G (b2.out.trans (((nt _ R).drew.trans H).mono b2.out.size)) be).set (C7 _).2 (fun o=>(H.cell (p:=⟨w.heap.size+1,o,none⟩) (nG bg bb.out.size)).trans ((bb.out.cell (p:=⟨w.heap.size+1,o,none⟩) bg).trans (bC.out o))) cs);go_wp2_with fail
      refine T.out _ _ V (fun er=>?_);clear T K;refine wpAnyH_ready (rs:=[5]) (by kernel_rfl) (by simp) ?_;refine AllReadyH.cons (o:=_) rfl (fun K T=>?_) AllReadyH.nil;rw[nC (by rfl)];go_simp;refine T.out _ _ b6 (fun es=>?_);clear T K;refine wpAnyH_ready (rs:=[6]) (by kernel_rfl) (by simp) ?_;refine AllReadyH.cons (o:=_) rfl (fun K T=>?_) AllReadyH.nil;rw[nC (by rfl)];go_simp;refine T.out _ _ b6 (fun eu=>?_);clear T K;refine rN (by kernel_rfl) ?_ _;generalize G.setCells (w.heap.size+1) 0 cs=dd at b4 b5 b7⊢;have de:=run_loadVar_mid (P:=prog) dd (w.heap.size+1) 0 86 cs _ b4.out rfl rfl (by rw[ba.out];rfl);go_wp2;refine nF (v:=.tuple #[.agg cs.toArray,Am be]) ?_ rfl ⟨b7.out,b5.out⟩;simp[results,results36,asAddr,de]
    ·have ef:=AH (n:=E) rfl c9
     rw[ef];go_upto_region 8 with fail
     clear c6 dz bn;obtain⟨c0,a1,a6,bF⟩:=z21;have bi:=hid a1;have bG:=hid a6;have bH:=Cd (P:=prog) (cp.out) (c8.out) a1.symm a6;have bk:=hid (C5 c0 (cp.out) a1.symm);have bl:Hid (Bw w (R.setCells (w.heap.size+1) 0 c0)):=CP c0 (by omega) (bp.out);generalize R.setCells (w.heap.size+1) 0 c0=bY at bH bk bl;have b0:=run_loadVar_mid (P:=prog) bY (w.heap.size+1) 0 86 c0 _ bk.out rfl rfl (by rw[bi.out];rfl);have du:=bF.out;have b1:=BT c0;unfold Value.cells at b1;clear a6;go_wp2;refine nF (v:=.tuple #[.agg c0.toArray,.iface 74 (.int .i64 E)]) ?_ rfl ⟨⟨c0,E,by rw[ef];rfl,bi.out,bG.out,fun e=>absurd e (c9)⟩,bl.out⟩;simp[results,results36,asAddr,b0]
abbrev Eg(l:List Kv):Prop:=l.Pairwise (fun p x=>AX p.n x.n=true)
def plc(l:List Kv)(m:BA):Nat:=l.countP (fun x=>AX x.n m)
def CT(l:List Kv)(m:BA):Option Kv:=l.find? (fun x=>decide (x.n=m))
def Kk(l:List Kv)(m:BA):List Kv:=l.filter (fun x=>AX x.n m)
def EE(l:List Kv)(m:BA):List Kv:=l.filter (fun x=>AX m x.n)
def Da(l:List Kv)(m v:BA):List Kv:=Kk l m++⟨m,v⟩::EE l m
def EK(l:List Kv)(m:BA):List Kv:=Kk l m++EE l m
theorem MN{q:Kv→Bool}:∀{l:List Kv},l.Pairwise (fun p x=>q x=true→q p=true)→l.take (l.countP q)=l.filter q∧l.drop (l.countP q)=l.filter (fun x=> !q x)
 |[],_=>by simp
 |a::l,h=>by
  obtain⟨G,H⟩:=rq.1 h;obtain⟨I,J⟩:=MN H;cases ha:q a with
  |true=>
   rw[List.countP_cons_of_pos ha];simp[ha,I,J]
  |false=>
   have F:∀x∈l,q x=false:=fun x hx=>by
    cases hq:q x with
    |false=>rfl
    |true=>have:=G x hx hq;rw[ha]at this;cases this
   have O:l.countP q=0:=List.countP_eq_zero.2 fun x hx=>by rw[F x hx];decide
   rw[List.countP_cons_of_neg (by rw[ha];decide),O];have Q:l.filter q=[]:=List.filter_eq_nil_iff.2 fun x hx=>by rw[F x hx];decide
   have R:l.filter (fun x=> !q x)=l:=List.filter_eq_self.2 fun x hx=>by rw[F x hx];rfl
   simp[ha,Q,R]
theorem Rp{l:List Kv}(m:BA)(h:Eg l):l.Pairwise (fun p x=>AX x.n m=true→AX p.n m=true):=
 h.imp fun F G=>F5 F G
theorem Ng{l:List Kv}(m:BA)(h:Eg l):l.take (plc l m)=Kk l m:=(MN (Rp m h)).1
theorem Xg{l:List Kv}(m:BA)(h:Eg l):l.drop (plc l m)=l.filter (fun x=> !AX x.n m):=(MN (Rp m h)).2
theorem PH{a:Kv}{l:List Kv}{m:BA}(h:a.n=m):CT (a::l) m=some a:=by simp[CT,h]
theorem Pv{a:Kv}{l:List Kv}{m:BA}(h:a.n≠m):CT (a::l) m=CT l m:=by simp[CT,h]
theorem XP{l:List Kv}{m:BA}(h:∀x∈l,x.n≠m):CT l m=none:=by
 unfold CT;rw[List.find?_eq_none];intro x hx;simpa using h x hx
theorem YO{l:List Kv}{m:BA}{x:Kv}(h:CT l m=some x):x∈l∧x.n=m:=by
 unfold CT at h;exact⟨List.mem_of_find?_eq_some h,by have:=List.find?_some h;simpa using this⟩
theorem YG{l:List Kv}{x:Kv}:Eg l→x∈l→CT l x.n=some x:=by
 induction l with
 |nil=>intro _ h;cases h
 |cons a l F=>
  intro G hx;obtain⟨H,I⟩:=rq.1 G;rcases nX.1 hx with rfl|hx
  ·exact PH rfl
  ·rw[Pv (GX (H x hx))];exact F I hx
theorem QE{l:List Kv}{m:BA}(h:∀x∈l,AX m x.n=true):EE l m=l:=List.filter_eq_self.2 h
theorem P9{l:List Kv}{m:BA}(h:∀x∈l,AX m x.n=true):l.filter (fun x=> !AX x.n m)=l:=
 List.filter_eq_self.2 fun x hx=>by rw[JQ (h x hx)];rfl
theorem Nc{l:List Kv}(m:BA)(h:Eg l):l.drop (plc l m)=(CT l m).toList++EE l m:=by
 rw[Xg m h];induction l with
 |nil=>rfl
 |cons a l J=>
  obtain⟨G,O⟩:=rq.1 h;rcases It a.n m with F|F|F
  ·rw[Pv (GX F)]
   have H:EE (a::l) m=EE l m:=by simp[EE,JQ F]
   rw[H,←J O];simp[F]
  ·subst F
   rw[PH rfl];have H:EE (a::l) a.n=l:=by unfold EE;rw[List.filter_cons_of_neg (by rw[Hn];decide)];exact QE G
   rw[H,List.filter_cons_of_pos (by rw[Hn];rfl),P9 G];rfl
  ·have I:∀x∈a::l,AX m x.n=true:=fun x hx=>by
    rcases nX.1 hx with rfl|hx
    ·exact F
    ·exact F5 F (G x hx)
   rw[P9 I,QE I,XP (fun x hx e=>GX (I x hx) e.symm)];rfl
theorem LL{l:List Kv}(m:BA)(h:Eg l){x:Kv}(F:CT l m=some x):l[plc l m]? =some x∧l.drop (plc l m+1)=EE l m:=by
 have hd:=Nc m h;rw[F]at hd;constructor
 ·have:(l.drop (plc l m))[0]? =some x:=by rw[hd];rfl
  simpa using this
 ·have:(l.drop (plc l m)).drop 1=EE l m:=by rw[hd];rfl
  rwa [List.drop_drop]at this
theorem Pr{l:List Kv}(m:BA)(h:Eg l)(F:CT l m=none):l.drop (plc l m)=EE l m∧∀x,l[plc l m]? =some x→x.n≠m:=by
 have hd:=Nc m h;rw[F]at hd;refine⟨hd,fun x hx e=>?_⟩;have G:x∈l:=nD hx;have:=YG h G;rw[e,F]at this;cases this
theorem UD(l:List Kv)(m:BA):plc l m≤l.length:=List.countP_le_length
def CS(l:List Kv)(m:BA):Int:=if CX l≠0 then CX l else if CW m=0 then 4 else 0
def GK(l:List Kv)(m:BA):Int:=if CS l m≠0 then CS l m else if CT l m=none then 5 else 0
def G9(l:List Kv)(m:BA):BA:=if GK l m≠0 then ByteArray.empty else match CT l m with
 |some x=>x.v
 |none=>ByteArray.empty
def Gn(l:List Kv)(m v:BA):Int:=if CS l m≠0 then CS l m else if 20<v.size then 1 else if CT l m=none∧l.length=4 then 2 else 0
def GH(l:List Kv)(m v:BA):List Kv:=if Gn l m v≠0 then []else Da l m v
def Hb(l:List Kv)(m:BA):Int:=if CS l m≠0 then CS l m else if CT l m=none then 5 else 0
def GM(l:List Kv)(m:BA):List Kv:=if Hb l m≠0 then []else EK l m
theorem Jd{l:List Kv}{m:BA}:CS l m=0↔Hc l∧CW m≠0:=by
 unfold CS;by_cases h:CX l=0
 ·rw[nB (by simpa using h)]
  by_cases F:CW m=0
  ·rw[nC F];simp[F]
  ·rw[nB F];simp[F,(Nb l).1 h]
 ·rw[nC h]
  constructor
  ·intro e;exact absurd e h
  ·intro e;exact(Nb l).2 e.1
theorem Lb{l:List Kv}{m:BA}{x:Kv}:x∈Kk l m↔x∈l∧AX x.n m=true:=List.mem_filter
theorem KJ{l:List Kv}{m:BA}{x:Kv}:x∈EE l m↔x∈l∧AX m x.n=true:=List.mem_filter
theorem Yz{l:List Kv}(m v:BA)(h:Eg l):Eg (Da l m v):=by
 unfold Da;refine List.pairwise_append.2 ⟨h.filter _,rq.2 ⟨fun x hx=>(KJ.1 hx).2,h.filter _⟩,?_⟩;intro a F b hb;rcases nX.1 hb with rfl|hb
 ·exact(Lb.1 F).2
 ·exact F5 (Lb.1 F).2 (KJ.1 hb).2
theorem Ze{l:List Kv}(m:BA)(h:Eg l):Eg (EK l m):=by
 unfold EK;refine List.pairwise_append.2 ⟨h.filter _,h.filter _,?_⟩;intro a F b hb;exact F5 (Lb.1 F).2 (KJ.1 hb).2
theorem QO{l:List Kv}(m:BA)(h:Eg l):l.length=(Kk l m).length+((CT l m).toList.length+(EE l m).length):=by
 have e:l=l.take (plc l m)++l.drop (plc l m):=(ry _ _).symm;conv=>lhs;rw[e]
 rw[Ng m h,Nc m h,nK,nK]
theorem TK{l:List Kv}{m:BA}{x:Kv}:x∈EK l m↔x∈l∧x.n≠m:=by
 unfold EK;rw[rd,Lb,KJ];constructor
 ·rintro(⟨h,F⟩|⟨h,F⟩)
  ·exact⟨h,GX F⟩
  ·exact⟨h,fun e=>GX F e.symm⟩
 ·rintro⟨h,F⟩
  rcases It x.n m with e|e|e
  ·exact .inl ⟨h,e⟩
  ·exact absurd e F
  ·exact .inr ⟨h,e⟩
theorem ay{l:List Kv}{m v:BA}{x:Kv}:x∈Da l m v↔x=⟨m,v⟩∨(x∈l∧x.n≠m):=by
 rw[←TK];unfold Da EK;rw[rd,rd,nX];constructor
 ·rintro(h|h|h)
  ·exact .inr (.inl h)
  ·exact .inl h
  ·exact .inr (.inr h)
 ·rintro(h|h|h)
  ·exact .inr (.inl h)
  ·exact .inl h
  ·exact .inr (.inr h)
theorem YW{l:List Kv}{m v:BA}(h:Gn l m v=0):Hc l∧CW m≠0∧Hc (Da l m v):=by
 unfold Gn at h;split at h
 ·rename_i hf;exact absurd h hf
 ·rename_i hf
  obtain⟨F,H⟩:=Jd.1 (Classical.not_not.1 hf);split at h
  ·cases h
  ·rename_i hv
   split at h
   ·cases h
   ·rename_i hn
    refine⟨F,H,?_,?_,Yz m v F.2.2⟩
    ·have G:=QO m F.2.2
     have I:=F.1;unfold Da;rw[nK,n3];cases hfd:CT l m with
     |none=>
      have:l.length≠4:=fun e=>hn ⟨hfd,e⟩;rw[hfd]at G;simp at G;omega
     |some x=>rw[hfd]at G;simp at G;omega
    ·intro x hx
     rcases ay.1 hx with rfl|⟨hx,_⟩
     ·exact⟨H,by show v.size≤20;omega⟩
     ·exact F.2.1 x hx
theorem ZW{l:List Kv}{m:BA}(h:Hb l m=0):Hc l∧CW m≠0∧Hc (EK l m):=by
 unfold Hb at h;split at h
 ·rename_i hf;exact absurd h hf
 ·rename_i hf
  obtain⟨F,G⟩:=Jd.1 (Classical.not_not.1 hf);refine⟨F,G,?_,fun x hx=>F.2.1 x (TK.1 hx).1,Ze m F.2.2⟩;have H:=QO m F.2.2;have I:=F.1;unfold EK;rw[nK];omega
end Go.Proofs.YtgppjbhaimmlpaaGreatDoor
namespace Go.Proofs.YtgppjbhaimmlpaaGreatDoor
open Go.RowKit Go.Sort Go.Shelf Go.Proofs.Tryz
def Tryz.searchRen:Go.Shelf.Ren:=⟨fun|16=>124|n=>n,fun|35=>134|38=>201|n=>n,fun n=>n⟩
theorem Tryz.searchLaid:SlLaysO.n16 prog Tryz.searchRen:={
 mixed:=by kernel_rfl
 f16:=func124.trans (nV some (by kernel_rfl))
 t3:=underlying3
 a3:=Tryz.isAgg3
 z3:=Tryz.sizeOf3
 v3:=Tryz.zeroValue3
 t4:=underlying4
 a4:=Tryz.isAgg4
 z4:=Tryz.sizeOf4
 v4:=Tryz.zeroValue4
 t35:=underlying134
 a35:=Tryz.isAgg134
 z35:=Tryz.sizeOf134
 v35:=Tryz.zeroValue134
 t38:=underlying201
 a38:=Tryz.isAgg201
 z38:=Tryz.sizeOf201
 v38:=Tryz.zeroValue201}
theorem VH(F G b H n cap k:Nat)(x m:BA)(w:World)(O:k<n)(Q:w.cell? (aD F 0)=some (sL b H n cap))(R:w.cell? (aD G 0)=some (.string m))(T:w.cell? (aD b (H+k*2))=some (.string x)):
 Calls prog 125 (#[iN k]++#[pO F 0,pO G 0]) w fun e w'=>e=.returned (.bool !(AX x m))∧∃q,w'=w.drewN q:=by
 have V:(k:Int)<(n:Int):=by omega
 obtain⟨t,I⟩:∃t,Op.bytesLess x.toList m.toList=t:=⟨_,rfl⟩;have J:Hid (AX x m=t):=I;show cL 125 #[iN k,pO F 0,pO G 0] _ _;go_enter func125,ntmps125;go_wp2;go_quiet (fail)
 go_wp2;go_ret;exact⟨Bf (by rw[J.out]),_,rfl⟩
def Id(l:List Kv)(m:BA)(k:Nat):Bool:=match l[k]? with
 |some x=> !AX x.n m
 |none=>true
theorem X2(l:List Kv)(m:BA):(List.range l.length).countP (fun i=> !Id l m i)=plc l m:=by
 have F:plc l m=(l.map some).countP (fun o:Option Kv=>match o with|some x=>AX x.n m|none=>false):=by rw[List.countP_map];rfl
 have G:l.map some=(List.range l.length).map (fun i=>l[i]?):=by
  apply List.ext_getElem
  ·simp
  ·intro i H I;simp at H I⊢
 rw[F,G,List.countP_map];congr 1;funext i
 simp only[Function.comp,Id];cases l[i]?<;>simp
theorem W8{l:List Kv}(m:BA)(h:Eg l):∀a b,a≤b→b<l.length→Id l m a=true→Id l m b=true:=by
 intro a b H hb F;unfold Id at F⊢;rw[np (by omega)]at F⊢;simp only[Bool.not_eq_true']at F⊢;by_cases e:a=b
 ·subst e;exact F
 ·have G:=rZ.1 h a b (by omega) (by omega) (by omega)
  cases hq:AX (l[b]).n m with
  |false=>rfl
  |true=>rw[F5 G hq]at F;cases F
theorem V9(F G cap:Nat)(a:Option Addr)(l:List Kv)(m:BA)(w:World)(ak:l.length≤1000)(T:Eg l)(h:Bm w.cell? a l)(O:w.cell? (aD F 0)=some (.slice a l.length cap))(Q:w.cell? (aD G 0)=some (.string m)):
 Calls prog 124 #[iN l.length,.func (.func 125) #[] #[pO F 0,pO G 0]] w fun e w'=>e=.returned (iN (plc l m))∧Below w.heap.size w w':=by
 have V:=enters_of func125 (by kernel_rfl) rfl;have Y:F<w.heap.size:=bL O;have Z:G<w.heap.size:=bL Q
 have H:=Any.sort_Search Tryz.searchLaid 125 #[pO F 0,pO G 0] l.length (Id l m) w V (by omega)
  (fun q os i I=>by
   rcases h with rfl|⟨b,aa,rfl,ab⟩
   ·simp at I
   ·obtain⟨x,hx⟩:∃x,l[i]? =some x:=⟨l[i],by simp[I]⟩
    obtain⟨R,_⟩:=ab i x hx;have ad:b<w.heap.size:=bL R;have e:Id l m i= !(AX x.n m):=by unfold Id;rw[hx]
    rw[e];exact(VH F G b aa l.length cap i x.n m _ I (cell_grown Y O q os) (cell_grown Z Q q os) (cell_grown ad R q os)).mono fun _ _ ⟨J,r,hr⟩=>⟨J,r,#[],by rw[hr,grow_empty]⟩)
  (W8 m T)
 rw[X2]at H;change cL 124 _ _ _ at H;refine H.mono fun e w' ⟨J,q,os,hw⟩=>⟨J,?_⟩;rw[hw]
 exact below_grown_sl _ w q os (nl _)
theorem Yp{l:List Kv}{m:BA}(h:Eg l):(plc l m<l.length∧∃x,l[plc l m]? =some x∧((x.n=m∧CT l m=some x)∨(x.n≠m∧CT l m=none)))∨(plc l m=l.length∧CT l m=none):=by
 cases hf:CT l m with
 |some x=>
  obtain⟨F,_⟩:=LL m h hf;exact .inl ⟨(nw.1 F).1,x,F,.inl ⟨(YO hf).2,rfl⟩⟩
 |none=>
  obtain⟨_,G⟩:=Pr m h hf;by_cases H:plc l m<l.length
  ·exact .inl ⟨H,l[plc l m],np _,.inr ⟨G _ (np _),rfl⟩⟩
  ·exact .inr ⟨by have:=UD l m;omega,rfl⟩
def Fj(l:List Kv)(m:BA):Int:=if CS l m=0 then(plc l m:Int)else 0
def Dr(l:List Kv)(m:BA):Bool:=decide (CS l m=0)&&(CT l m).isSome
theorem JI{a F:Int}{b G:Bool}{e H:Value}(I:F=a)(J:G=b)(O:H=e):Ending.returned (.tuple #[.int .i64 a,.bool b,e])=.returned (.tuple #[.int .i64 F,.bool G,H]):=by rw[I,J,O]
theorem Fc(a:Option Addr)(cap:Nat)(l:List Kv)(m:BA)(w:World)(az:l.length≤1000)(ba:EM l)(bi:m.size≤1000)(h:Bm w.cell? a l):
 Calls prog 72 #[.slice a l.length cap,.string m] w fun e w'=>(e=.returned (.tuple #[iN (Fj l m),.bool (Dr l m),Am (CS l m)]))∧Below w.heap.size w w':=by
 have F:Below w.heap.size w ((w.alloc (.cells #[.slice a l.length cap] 47)).alloc (.cells #[.string m] 9)):=bN.alloc (by simp) _;have c1:Ce ((w.alloc (.cells #[.slice a l.length cap] 47)).alloc (.cells #[.string m] 9)) w.heap.size 0 (.slice a l.length cap):=cell_alloc_sl _ (cell_new_sl w _ _);have c2:Ce ((w.alloc (.cells #[.slice a l.length cap] 47)).alloc (.cells #[.string m] 9)) (w.heap.size+1) 0 (.string m):=by
  have:=cell_new_sl (w.alloc (.cells #[.slice a l.length cap] 47)) (.string m) 9;rwa [nv]at this
 by_cases Z:CX l=0;rotate_left
 ·have H:Hid (CS l m=CX l):=by show _=_;unfold CS;rw[nC Z]
  have I:=hid Z;clear c1 c2;go_enter func72,ntmps72;go_wp2_with fail
  refine(KH a cap l _ az ba (h.below F)).mono ?_;rintro e J ⟨rfl,G⟩;rw[AH rfl I.out];clear Z;have R:=F.trans (G.mono F.size);clear F G;go_wp2;go_ret3
  have aa:¬CS l m=0:=by rw[H.out];exact I.out
  exact⟨JI (by unfold Fj;rw[nB aa]) (by unfold Dr;rw[nA aa];rfl) (by rw[H.out,AH rfl I.out];rfl),R⟩
 have I:=hid Z;clear Z;obtain⟨c,bk⟩:∃c,CW m=c:=⟨_,rfl⟩;have a1:=hid bk;clear bk;by_cases a6:c=0
 ·subst a6
  have H:Hid (CS l m=4):=by show _=_;unfold CS;rw[nB (by simpa using I.out),nC a1.out]
  have ab:=h.below F;have O:((w.alloc (.cells #[.slice a l.length cap] 47)).alloc (.cells #[.string m] 9)).heap.size=w.heap.size+2:=by simp
  go_enter func72,ntmps72;go_wp2_with fail
  refine(KH a cap l _ az ba ab).mono ?_;rintro e J ⟨rfl,G⟩;rw[Cr I.out];have bb:Ce J w.heap.size 0 (.slice a l.length cap):=(G.cell (p:=(aD w.heap.size 0)) (by rw[O];simp)).trans c1;have bd:Ce J (w.heap.size+1) 0 (.string m):=(G.cell (p:=(aD (w.heap.size+1) 0)) (by rw[O];simp)).trans c2;have R:=F.trans (G.mono F.size);clear F G c1 c2 ab O;go_wp2_with fail
  refine(KI m _ bi).mono ?_;rintro e w' ⟨rfl,nq,rfl⟩;rw[a1.out];go_wp2;go_ret3
  have aa:¬CS l m=0:=by rw[H.out];decide
  exact⟨JI (by unfold Fj;rw[nB aa]) (by unfold Dr;rw[nA aa];rfl) (by rw[H.out];rfl),rz R _⟩
 have H:Hid (CS l m=0):=by show _=_;unfold CS;rw[nB (by simpa using I.out),nB (by rw[a1.out];exact a6)]
 have bl:Eg l:=((Nb l).1 I.out).2.2;have ab:=h.below F;have O:((w.alloc (.cells #[.slice a l.length cap] 47)).alloc (.cells #[.string m] 9)).heap.size=w.heap.size+2:=by simp
 have bc:(c==0)=false:=by simpa using a6
 clear a6;obtain⟨p,be⟩:∃p,plc l m=p:=⟨_,rfl⟩;have bn:=hid be;have Q:=Yp (m:=m) bl;rw[be]at Q;clear be;go_enter func72,ntmps72;go_wp2_with fail
 refine(KH a cap l _ az ba ab).mono ?_;rintro e J ⟨rfl,G⟩;rw[Cr I.out];have bb:Ce J w.heap.size 0 (.slice a l.length cap):=(G.cell (p:=(aD w.heap.size 0)) (by rw[O];simp)).trans c1;have bd:Ce J (w.heap.size+1) 0 (.string m):=(G.cell (p:=(aD (w.heap.size+1) 0)) (by rw[O];simp)).trans c2;have R:=F.trans (G.mono F.size);clear F G c1 c2 ab O;go_wp2_with fail
 refine(KI m _ bi).mono ?_;rintro e w' ⟨rfl,nq,rfl⟩;rw[a1.out];have ad:=rz R nq;have T:Ce (J.drewN nq) w.heap.size 0 (.slice a l.length cap):=bb;have V:Ce (J.drewN nq) (w.heap.size+1) 0 (.string m):=bd;clear bb bd R;generalize J.drewN nq=bB at ad T V⊢;generalize w.heap.size=Y at T V⊢;go_wp2_with fail
 refine(V9 Y (Y+1) cap a l m _ az bl (h.below ad) T V).mono ?_;rintro e bo ⟨rfl,a7⟩;rw[bn.out];have bC:Ce bo Y 0 (.slice a l.length cap):=(a7.cell (p:=(aD Y 0)) (bL T)).trans T;have bF:Ce bo (Y+1) 0 (.string m):=(a7.cell (p:=(aD (Y+1) 0)) (bL V)).trans V;have a8:=ad.trans (a7.mono ad.size);have bs:=h.below a8;clear T V a7 ad h;have bf:Hid (Fj l m=p):=by show _=_;unfold Fj;rw[nC H.out,bn.out]
 have bg:Hid (Dr l m=(CT l m).isSome):=by show _=_;unfold Dr;rw[nE H.out];rfl
 rcases Q with⟨bu,x,hx,Q⟩|⟨bv,Q⟩
 ·have bx:(p:Int)<(l.length:Int):=by omega
  rcases bs with rfl|⟨b,bG,rfl,bp⟩
  ·simp at bu
  obtain⟨bH,_⟩:=bp p x hx;clear bp hx;rcases Q with⟨ak,ao⟩|⟨ak,ao⟩
  ·have bA:(x.n.toList==m.toList)=true:=by rw[ak];simp
   have ap:Hid (Dr l m=true):=by show _=_;rw[bg.out,ao];rfl
   clear ak ao;go_wp2;go_quiet (fail)
   go_wp2;go_ret3
   exact⟨JI bf.out ap.out (Cr H.out),rz a8 _⟩
  ·have bA:(x.n.toList==m.toList)=false:=by simp;exact fun e=>ak (I9 e)
   have ap:Hid (Dr l m=false):=by show _=_;rw[bg.out,ao];rfl
   clear ak ao;go_wp2;go_quiet (fail)
   go_wp2;go_ret3
   exact⟨JI bf.out ap.out (Cr H.out),rz a8 _⟩
 ·have bx:decide ((p:Int)<(l.length:Int))=false:=nA (by omega)
  have ap:Hid (Dr l m=false):=by show _=_;rw[bg.out,Q];rfl
  have bY:¬p<l.length:=by omega
  clear Q bv;go_wp2;go_quiet (fail)
  go_wp2;go_ret3
  exact⟨JI bf.out ap.out (Cr H.out),rz a8 _⟩
theorem PZ(n:Nat):(Builtin.zeroCells (Value.agg #[.string ⟨#[]⟩,.string ⟨#[]⟩]).cells n).size=n*2:=by rw[size_zeroCells];rfl
theorem Yb(n:Nat)(w:World)(aa:n≤1000):Calls prog 140 #[.slice none 0 0,iN n] w fun e w'=>(∃v,e=.returned v∧w'.ownsRow w.heap.size 122 2 v 0 (CI []))∧Below w.heap.size w w':=by
 by_cases V:n=0
 ·subst V
  go_enter func140,ntmps140;go_wp2;go_ret;exact⟨⟨_,rfl,rB _ _ _ _⟩,nt _ _⟩
 obtain⟨Y,J,O,Q,R⟩:=info_parts Tryz.infoA;have F:∀G,(Builtin.append_ #[47,3] G #[nL,iN n]).run prog w=.ok (sL w.heap.size 0 n (grownCap w n 0 122)) (w.drew.alloc (.cells (Builtin.zeroCells (Value.agg #[.string ⟨#[]⟩,.string ⟨#[]⟩]).cells n++Builtin.zeroCells (Value.agg #[.string ⟨#[]⟩,.string ⟨#[]⟩]).cells (grownCap w n 0 122-n)) 122)):=fun G=>Lib.run_append_nil_zeros w 47 3 G 122 Y _ .i64 .i64 underlying47 underlying3 J O n (by omega) (by rw[Q];decide) (by omega) (by rw[R];omega);have Z:=grownCap_ge w n 0 122
 have H:grownCap w n 0 122≤maxLen:=grownCap_le_maxLen w n 0 122 (by unfold maxLen;omega)
 have I:(w.drew.alloc (.cells (Builtin.zeroCells (Value.agg #[.string ⟨#[]⟩,.string ⟨#[]⟩]).cells n++Builtin.zeroCells (Value.agg #[.string ⟨#[]⟩,.string ⟨#[]⟩]).cells (grownCap w n 0 122-n)) 122)).ownsRow w.heap.size 122 2 (sL w.heap.size 0 0 (grownCap w n 0 122)) 0 []:=
  World.ownsRow_made w.drew _ _ (nl _) H (by rw[Array.size_append,PZ,PZ];omega)
 have T:Below w.heap.size w (w.drew.alloc (.cells (Builtin.zeroCells (Value.agg #[.string ⟨#[]⟩,.string ⟨#[]⟩]).cells n++Builtin.zeroCells (Value.agg #[.string ⟨#[]⟩,.string ⟨#[]⟩]).cells (grownCap w n 0 122-n)) 122)):=(rz (nt _ w) 1).alloc (nl _) _;generalize w.drew.alloc (.cells (Builtin.zeroCells (Value.agg #[.string ⟨#[]⟩,.string ⟨#[]⟩]).cells n++Builtin.zeroCells (Value.agg #[.string ⟨#[]⟩,.string ⟨#[]⟩]).cells (grownCap w n 0 122-n)) 122)=ab at F I T;generalize grownCap w n 0 122=c at F Z H I;have ad:decide (0<n)=true:=nE (by omega);have ak:=nE (by omega);unfold maxLen at H;clear J O Q R;go_enter func140,ntmps140;go_wp2_with (at_builtin;refine Lib.wpList_append_run _ rfl _ _ _ _ rfl _ _ rfl rfl _ _ (F _) ?_)
 go_wp2;go_ret;exact⟨⟨_,rfl,I⟩,T⟩
structure Ii where
 a:Option Addr
 c:Nat
 l:List Kv
def C8:List Ii→List Kv
 |[]=>[]
 |p::ps=>p.l++C8 ps
theorem Mq:∀A B:List Ii,C8 (A++B)=C8 A++C8 B
 |[],_=>rfl
 |p::A,B=>by simp[C8,Mq A B]
theorem PK{F:List Ii}{k:Nat}{p:Ii}(h:F[k]? =some p):C8 (F.take (k+1))=C8 (F.take k)++p.l:=by
 rw[rv,h,Mq];simp[C8]
theorem Xd(F:List Ii)(k:Nat):(C8 (F.take k)).length≤(C8 F).length:=by
 have:=Mq (F.take k) (F.drop k);rw[ry]at this;rw[this,nK];omega
theorem Py(Q ao:Nat)(F:List Ii)(w:World)(bg:F.length≤10)(ap:(C8 F).length≤1000)
 (Y:∀i p,F[i]? =some p→w.cell? (aD Q i)=some (.slice p.a p.l.length p.c)∧Bm w.cell? p.a p.l):
 Calls prog 98 #[sL Q 0 F.length ao] w fun e w'=>(∃v,e=.returned v∧w'.ownsRow w.heap.size 122 2 v (C8 F).length (CI (C8 F)))∧Below w.heap.size w w':=by
 obtain⟨az,a1,a6,a7,a8⟩:=info_parts Tryz.infoA;have Z:=hid Y;have aa:=hid (Xd F);clear Y;go_enter func98,ntmps98;go_wp2;go_loop [11,3] (fun i s=>∃k:Nat,k≤F.length∧i=iN k∧s=iN (C8 (F.take k)).length) (fun i _=>F.length-(intOf i).toNat)
 case atStart=>exact⟨0,nM _,rfl,rfl⟩
 case round=>
  obtain⟨k,ba,rfl,rfl⟩:=hrel;by_cases R:k<F.length
  ·obtain⟨p,I⟩:∃p,F[k]? =some p:=⟨F[k],by simp[R]⟩
   obtain⟨q,_⟩:=Z.out k p I;have bb:(k:Int)<(F.length:Int):=by omega
   have J:=hid (PK I);have T:(C8 (F.take k)).length+p.l.length≤1000:=by
    have:=aa.out (k+1);rw[J.out,nK]at this;omega
   have ab:Hid ((C8 (F.take (k+1))).length=(C8 (F.take k)).length+p.l.length):=by show _=_;rw[J.out,nK]
   clear I J;generalize(C8 (F.take k)).length=s at T ab⊢;go_wp2;go_round
   case rel=>exact⟨k+1,by omega,by go_num,by rw[ab.out];go_num⟩
   case measure=>simp[intOf];omega
  ·have O:F.take k=F:=n1 (by omega)
   rw[O];clear O;go_wp2_with fail
   refine(Yb _ _ ap).mono ?_;rintro e bi ⟨⟨v,rfl,G⟩,H⟩;go_wp2;go_loopw [27,6] (fun i s wr=>∃k:Nat,k≤F.length∧i=iN k∧wr.ownsRow w.heap.size 122 2 s (C8 (F.take k)).length (CI (C8 (F.take k)))∧Below w.heap.size w wr) (fun i _ _=>F.length-(intOf i).toNat)
   case atStart=>exact⟨0,nM _,rfl,G,H⟩
   case round=>
    obtain⟨k,ba,rfl,G,H⟩:=hrel;by_cases R:k<F.length
    ·obtain⟨p,I⟩:∃p,F[k]? =some p:=⟨F[k],by simp[R]⟩
     obtain⟨q,ad⟩:=Z.out k p I;have bb:(k:Int)<(F.length:Int):=by omega
     have J:=hid (PK I);have T:(C8 (F.take k)).length+p.l.length≤1000:=by
      have:=aa.out (k+1);rw[J.out,nK]at this;omega
     have q2:Ce wr Q k (.slice p.a p.l.length p.c):=(H.cell (p:=(aD Q k)) (bL q)).trans q;have V:=H.size;have bd:=ad.below H;clear I q ad;generalize C8 (F.take k)=P at T J G⊢;go_wp2_with (at_builtin;refine Ea _ rfl (.tmp 31) (.tmp 32) 47 rfl w.heap.size 122 az (.agg #[.string ⟨#[]⟩,.string ⟨#[]⟩]) 2 32 underlying47 a1 a6 a7 a8 rfl (by decide) _ P.length (CI P) rfl G p.a p.l.length p.c (CI p.l) rfl (Kx p.l) (P6 bd) (Nq _) (by unfold maxLen;omega) (by omega) V ?_)
     intro bk bl be ak _;have bf:=H.grown ak V (fun q e=>(G.lt q e).1);clear ak G H V;go_wp2;go_roundw
     case rel=>exact⟨k+1,by omega,by go_num,by rw[J.out,nK,PI];exact be,bf⟩
     case measure=>simp[intOf];omega
    ·have O:F.take k=F:=n1 (by omega)
     rw[O]at G;clear O;go_wp2;go_ret;exact⟨⟨_,rfl,G⟩,H⟩
theorem Bm.take{w:World}{a:Option Addr}{l:List Kv}(h:Bm w.cell? a l)(k:Nat):Bm w.cell? a (l.take k):=by
 rcases h with rfl|⟨b,G,H,I⟩
 ·exact .inl (by simp)
 ·refine .inr ⟨b,G,H,fun i x F=>I i x ?_⟩
  rw[rL]at F;split at F
  ·exact F
  ·cases F
theorem Bm.drop{w:World}{a:Option Addr}{l:List Kv}(h:Bm w.cell? a l)(k:Nat):Bm w.cell? (a.map (·.add (k*2))) (l.drop k):=by
 rcases h with rfl|⟨b,F,rfl,J⟩
 ·exact .inl (by simp)
 ·refine .inr ⟨b,F+k*2,?_,fun i x G=>?_⟩
  ·by_cases O:k*2=0<;>simp[Addr.add,O]
  ·rw[rM]at G
   obtain⟨H,I⟩:=J _ x G;have e:F+(k+i)*2=F+k*2+i*2:=by omega
   rw[e]at H I;exact⟨H,I⟩
theorem Bm.none{w:World}{a:Option Addr}{l:List Kv}(h:l.length=0):Bm w.cell? a l:=.inl (nW h)
theorem Nu{s F:BA}{e G:Value}(H:F=s)(I:G=e):Ending.returned (.tuple #[.string s,e])=.returned (.tuple #[.string F,G]):=by rw[H,I]
theorem ZY(a:Option Addr)(cap:Nat)(l:List Kv)(m:BA)(w:World)(O:l.length≤1000)(Q:EM l)(R:m.size≤1000)(h:Bm w.cell? a l):
 Calls prog 37 #[.slice a l.length cap,.string m] w fun e w'=>e=.returned (.tuple #[.string (G9 l m),Am (GK l m)])∧Below w.heap.size w w':=by
 obtain⟨P,T⟩:=A3 (Fj l m);obtain⟨a1,V⟩:=A3 (Dr l m);by_cases I:CS l m=0;rotate_left
 ·have F:Hid (CS l m≠0):=I
  have G:Hid (GK l m=CS l m):=by show _=_;unfold GK;rw[nC F.out]
  have J:Hid (G9 l m=ByteArray.empty):=by show _=_;unfold G9;rw[nC (by rw[G.out];exact F.out)]
  clear I;go_enter func37,ntmps37;go_wp2_with fail
  refine(Fc a cap l m _ O Q R h).mono ?_;rintro e Z ⟨rfl,H⟩;rw[T.out,V.out,AH rfl F.out];go_wp2;go_ret2;exact⟨Nu J.out (by rw[G.out,AH rfl F.out];rfl),H⟩
 have F:=hid I;have ao:Eg l:=(Jd.1 I).1.2.2;clear I;cases hfd:CT l m with
 |none=>
  have G:Hid (GK l m=5):=by show _=_;unfold GK;rw[nB (by simpa using F.out),hfd,nC rfl]
  have J:Hid (G9 l m=ByteArray.empty):=by show _=_;unfold G9;rw[nC (by rw[G.out];decide)]
  have Y:Hid (Dr l m=false):=by show _=_;unfold Dr;rw[hfd];simp
  clear hfd V;go_enter func37,ntmps37;go_wp2_with fail
  refine(Fc a cap l m _ O Q R h).mono ?_;rintro e Z ⟨rfl,H⟩;rw[T.out,Y.out,Cr F.out];go_wp2;go_ret2;exact⟨Nu J.out (by rw[G.out];rfl),H⟩
 |some x=>
  obtain⟨hx,_⟩:=LL m ao hfd;have G:Hid (GK l m=0):=by show _=_;unfold GK;rw[nB (by simpa using F.out),hfd,nB (by simp)]
  have J:Hid (G9 l m=x.v):=by show _=_;unfold G9;rw[nB (by simpa using G.out),hfd]
  have Y:Hid (Dr l m=true):=by show _=_;unfold Dr;rw[hfd,nE F.out];rfl
  have aa:Hid (Fj l m=plc l m):=by show _=_;unfold Fj;rw[nC F.out]
  have ab:=(nw.1 hx).1;clear hfd V T;generalize plc l m=p at aa hx ab;have a6:(p:Int)<(l.length:Int):=by omega
  have h':=h;rcases h' with rfl|⟨b,ap,rfl,ad⟩
  ·simp at ab
  obtain⟨ak,q1⟩:=ad p x hx;have az:b<w.heap.size:=bL ak;clear ad hx;go_enter func37,ntmps37;go_wp2_with fail
  refine(Fc _ cap l m _ O Q R h).mono ?_;rintro e Z ⟨rfl,H⟩;rw[aa.out,Y.out,Cr F.out];have q2:=(H.cell (p:=(aD b (ap+p*2+1))) az).trans q1;clear ak q1 h;go_wp2;go_ret2;exact⟨Nu J.out (Cr G.out),H⟩
theorem Li(G:Nat)(A B C:Ii)(L:List Kv)(w:World)(Q:L=A.l++(B.l++C.l))(R:L.length≤1000)
 (T:w.cell? (aD G 0)=some (.slice A.a A.l.length A.c)) (V:w.cell? (aD G 1)=some (.slice B.a B.l.length B.c)) (Y:w.cell? (aD G 2)=some (.slice C.a C.l.length C.c))
 (Z:Bm w.cell? A.a A.l) (aa:Bm w.cell? B.a B.l) (ab:Bm w.cell? C.a C.l):
 Calls prog 98 #[sL G 0 3 3] w fun e w'=>(∃I H,e=.returned (.slice I L.length H)∧L.length≤H∧H≤9223372036854775807∧Bm w'.cell? I L)∧Below w.heap.size w w':=by
 have J:C8 [A,B,C]=L:=by rw[Q];simp[C8]
 refine(Py G 3 [A,B,C] w (by simp) (by rw[J];exact R) ?_).mono ?_
 ·intro i p F
  match i with
  |0=>simp at F;subst F;exact⟨T,Z⟩
  |1=>simp at F;subst F;exact⟨V,aa⟩
  |2=>simp at F;subst F;exact⟨Y,ab⟩
  |j+3=>simp at F
 ·rintro e w' ⟨⟨v,rfl,O⟩,ad⟩
  rw[J]at O;obtain⟨a,cap,ak,g1,ao,g3⟩:=Mz O;exact⟨⟨a,cap,by rw[ak],g1,by omega,g3⟩,ad⟩
theorem Y1(G:Nat)(A B:Ii)(L:List Kv)(w:World)(Q:L=A.l++B.l)(R:L.length≤1000)
 (T:w.cell? (aD G 0)=some (.slice A.a A.l.length A.c)) (V:w.cell? (aD G 1)=some (.slice B.a B.l.length B.c))
 (Y:Bm w.cell? A.a A.l) (Z:Bm w.cell? B.a B.l):
 Calls prog 98 #[sL G 0 2 2] w fun e w'=>(∃I H,e=.returned (.slice I L.length H)∧L.length≤H∧H≤9223372036854775807∧Bm w'.cell? I L)∧Below w.heap.size w w':=by
 have J:C8 [A,B]=L:=by rw[Q];simp[C8]
 refine(Py G 2 [A,B] w (by simp) (by rw[J];exact R) ?_).mono ?_
 ·intro i p F
  match i with
  |0=>simp at F;subst F;exact⟨T,Y⟩
  |1=>simp at F;subst F;exact⟨V,Z⟩
  |j+2=>simp at F
 ·rintro e w' ⟨⟨v,rfl,O⟩,aa⟩
  rw[J]at O;obtain⟨a,cap,ab,g1,ad,g3⟩:=Mz O;exact⟨⟨a,cap,by rw[ab],g1,by omega,g3⟩,aa⟩
end Go.Proofs.YtgppjbhaimmlpaaGreatDoor
