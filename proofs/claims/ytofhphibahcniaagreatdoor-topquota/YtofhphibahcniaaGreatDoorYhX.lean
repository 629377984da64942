/-
  TopQuota: Yh Yl Ab Ah Ai Aj Ak.
-/
import Derived.Test.YtofhphibahcniaaGreatDoorApX
import Derived.Test.YtofhphibahcniaaGreatDoorXwX
import Derived.Test.YtofhphibahcniaaGreatDoorYbX
import Derived.Test.YtofhphibahcniaaGreatDoorCcX
import Derived.Test.YtofhphibahcniaaGreatDoorYgX
import Derived.Test.YtofhphibahcniaaGreatDoorMaX
import Derived.Shelf.SlSorted.Search
import Derived.Lib.AppendZeros
import Derived.Deep.RegionHeld3
set_option maxRecDepth 100000
set_option maxHeartbeats 16000000
namespace Go.Proofs.YtofhphibahcniaaGreatDoor
open Go.RowKit Go.Proofs.Tryz
theorem GS.below{B:Bx}{w w':World}{nf:List BA}{f:Fd}(h:GS B w nf f)(hb:Bw w w'):GS B w' nf f:=⟨h.t,h.dir,h.nd.on (Aj hb),h.there,h.no⟩
theorem Y7{P:Program}{F:Array Oper}{ni:List Oper}{o:Oper}{a:Act}{w:World}{G:Exit→Act→World→Prop}(I:o.guard=none)(H:TypeId)(x:Operand)(J:o.op=.load H x)(v:Value)(O:(Instr.loadAt H (a.eval x)).run P w=.ok v w)(h:wpList P F G ni (a.put o.dst v) w):wpList P F G (o::ni) a w:=
 wpList_plain I fun _ Q=>by
  unfold Oper.wp execOp;simp only[J,O,Sem.run_bind,Result.andThen_ok,Sem.run_pure];exact Q _ _ h
noncomputable def AO.makS (c:AO) (x0:Nd) (ni:List Nd) (cA:Int) (p:BA):Int×Nd:=if 0≤cA∧cA≤4095 then(match c.atP false p with
 |.error E=>(E,x0)
 |.ok f=>if f.2.2.1=true then(6,x0)else c.crS x0 ni f.2.1 (A4 p.data.toList) 2 cA ⟨#[]⟩)else(1,x0)
theorem WF{w:World}{b:Nat}{B:Bx}{x0:Nd}{ni:List Nd}(h:AX w b B)(Q:Bv B x0 ni){cop cA cB:Int}{cpath coth cname cdata:BA}(a8:Int)(ba:w.cell? ⟨0,0,none⟩=some (.int .i64 a8)):
 Calls prog 50 #[.pointer (some ⟨b,0,none⟩),.agg #[.int .i64 cop,.string cpath,.string coth,.string cname,.string cdata,.int .i64 cA,.int .i64 cB]] w fun e w'=>e=.returned (Am (fin B.q x0 (B.cor.makS x0 ni cA cpath)).1)∧Cw w w' b B ni (fin B.q x0 (B.cor.makS x0 ni cA cpath)).2 B.crd:=by
 obtain⟨S,F⟩:∃S,Hid (B.cor.makS x0 ni cA cpath=S):=⟨_,rfl⟩;rw[F.out];obtain⟨⟨bb,bd⟩,ab⟩:∃bG,Hid (fin B.q x0 S=bG):=⟨_,rfl⟩;rw[ab.out];unfold AO.makS at F;have R:Bw w (w.alloc (Az cop cpath coth cname cdata cA cB)):=(nv _ _).alloc (nn _) _;have bH:Ce (w.alloc (Az cop cpath coth cname cdata cA cB)) w.heap.size 1 (.string cpath):=nl _ _ _ _ rfl;have be:Ce (w.alloc (Az cop cpath coth cname cdata cA cB)) w.heap.size 5 (.int .i64 cA):=nl _ _ _ _ rfl;have T:=hid R;have bf:Hid (Calls prog 73 #[.pointer (some ⟨b,0,none⟩),.string cpath] (w.alloc (Az cop cpath coth cname cdata cA cB)) fun e w'=>CL B w' cpath false (B.cor.atP false cpath) e∧Bw (w.alloc (Az cop cpath coth cname cdata cA cB)) w'):=by
  refine np (Np (h.below R) Q.good cpath (Da _).1 (Da _).2 a8 (Af R ba)) ?_;rintro e w' ⟨bY,b0⟩;exact⟨Mq Q.good bY,b0⟩
 have bg:=hid h;have bi:=hid Q;have ad:=hid (Cw.stay bg.out bi.out);have ak:Hid (∀E,E≠0→S=(E,x0)→bb=E∧bd=x0):=fun E G e=>Hf G (e▸ab.out);have bk:Hid (∀I,Calls prog 80 #[.int .i64 cA] I fun e w'=>e=.returned (.bool (decide (0≤cA∧cA≤4095)))∧I=w'):=fun I=>Na I cA
 clear h Q R ba;go_enter func50,ntmps50;go_wp2_with fail
 refine np (bk.out _) ?_;rintro e cp ⟨rfl,rfl⟩;by_cases H:0≤cA∧cA≤4095
 ·rw[nF H]
  have b1:=hid H;rw[nD H]at F;clear H;go_wp2_with fail
  generalize(w.alloc (Az cop cpath coth cname cdata cA cB))=I at*;refine np bf.out ?_;rintro e ao ⟨b2,q2⟩;clear bf bk;obtain⟨cs,E,rfl,ap,bl,bn,bo⟩:=b2;obtain⟨V,b3,Y,ar,bp⟩:=F5 ao cs ap bl;have bs:=BV cs;unfold Value.cells at bs;have b4:=hid ap;have bu:=hid (q2.trans (ar.out.mono q2.size));have Z:=hid (T.out.trans (bu.out.mono T.out.size));have bv:Hid _:=bn;have bx:Hid _:=bo;have cr:=hid (nP T.out.size q2.size);clear bl bn ap bo;by_cases G:E=0
  ·subst G
   obtain⟨f,J,ay,aa,az,a1,a6,bA,a7⟩:=bv.out rfl;clear bv bx;rw[a7]at F;have O:=Fs ay;rw[←aa]at O;rw[←aa]at F;replace F:Hid ((if f.there=true then(6,x0)else B.cor.crS x0 ni f.dir f.nf 2 cA ⟨#[]⟩)=S):=F.out;have cu:=Af bu.out be;cases hth:f.there with
   |true=>
    replace F:=hid ((nD hth).symm.trans F.out);have b5:Ce V ao.heap.size 11 (.bool true):=Y.out 11 _ (by rw[J];obtain⟨t,dir,na,nc,nf,b6,⟨b7,b9,cb,cd,cf,cg,ch,xs⟩,cl,ly⟩:=f;dsimp only at hth;subst hth;rfl);rw[show Am 0=Value.nilIface from rfl];clear J ay aa az a1 a6 bA a7 O bp;go_wp2;go_ret;obtain⟨rfl,rfl⟩:=ak.out 6 (by decide) (F.out.symm);exact⟨rfl,ad.out _ Z.out⟩
   |false=>
    replace F:=hid ((nC (by simp[hth])).symm.trans F.out);have bB:Hid (Calls prog 81 #[.pointer (some ⟨b,0,none⟩),BT cs,.agg #[.int .i64 2,.int .i64 cA,.int .i64 0,.int .i64 0,.bool false,.slice none 0 0,.string ⟨#[]⟩,.slice none 0 0]] V fun e w'=>e=.returned (Am bb)∧Cw V w' b B ni bd B.crd):=by
     have e:=Qt (bg.out.below Z.out) bi.out (a6.below ar.out) hth (az.on (Aj ar.out)) O.1 (by have:=O.2.1;omega) a1 (kd:=2) (md:=cA) (dat:=⟨#[]⟩) (by first|exact .inl rfl|exact .inr rfl) b1.out (by decide);rw[←J,F.out,ab.out]at e;exact e
    have b5:Ce V ao.heap.size 11 (.bool false):=Y.out 11 _ (by rw[J];obtain⟨t,dir,na,nc,nf,b6,⟨b7,b9,cb,cd,cf,cg,ch,xs⟩,cl,ly⟩:=f;dsimp only at hth;subst hth;rfl);rw[show Am 0=Value.nilIface from rfl];clear J ay aa az a1 a6 bA a7 O bp;go_upto_region 8 with fail
    clear b3 bs;refine rU ?_;refine K0 rfl _ rfl ?_;simp only[tk];refine wpList_load_mid rfl _ _ rfl _ _ rfl cs _ Y.out rfl rfl (by rw[b4.out];rfl) ?_;simp only[tk];go_wp2_with fail
    refine np bB.out ?_;rintro e cx ⟨rfl,bC⟩;have co:=hid (bC.up Z.out);clear bC bB Y;go_wp2;go_ret;exact⟨rfl,co.out⟩
  ·have bF:=AG (n:=E) rfl G
   rw[bF];clear bH be;go_wp2;go_ret;obtain⟨rfl,rfl⟩:=ak.out E G (by rw[←F.out,bx.out G]);exact⟨by rw[bF];rfl,ad.out _ Z.out⟩
 ·rw[nB H]
  go_wp2;go_ret;obtain⟨rfl,rfl⟩:=ak.out 1 (by decide) (by rw[←F.out];exact nC H);exact⟨rfl,ad.out _ T.out⟩
noncomputable def AO.wriS (c:AO) (x0:Nd) (ni:List Nd) (cA:Int) (p dat:BA):Int×Nd:=if 0≤cA∧cA≤4095 then(if 200<dat.size then(1,x0)else match c.atP false p with
 |.error E=>(E,x0)
 |.ok f=>if f.2.2.1=true then(if f.1.d=true then(7,x0)else if c.bx.mayE f.1 2=0 then Fj c.us c.gs x0 ni (A4 p.data.toList) (Nd.otW (FN c.k) dat)else(c.bx.mayE f.1 2,x0))else c.crS x0 ni f.2.1 (A4 p.data.toList) 1 cA dat)else(1,x0)
theorem XY{w:World}{b:Nat}{B:Bx}{x0:Nd}{ni:List Nd}(h:AX w b B)(a1:Bv B x0 ni){cop cA cB:Int}{cpath coth cname cdata:BA}(b1:Int)(b2:w.cell? ⟨0,0,none⟩=some (.int .i64 b1)):
 Calls prog 49 #[.pointer (some ⟨b,0,none⟩),.agg #[.int .i64 cop,.string cpath,.string coth,.string cname,.string cdata,.int .i64 cA,.int .i64 cB]] w fun e w'=>e=.returned (Am (fin B.q x0 (B.cor.wriS x0 ni cA cpath cdata)).1)∧Cw w w' b B ni (fin B.q x0 (B.cor.wriS x0 ni cA cpath cdata)).2 B.crd:=by
 obtain⟨S,F⟩:∃S,Hid (B.cor.wriS x0 ni cA cpath cdata=S):=⟨_,rfl⟩;rw[F.out];obtain⟨⟨b3,b4⟩,a6⟩:∃Y,Hid (fin B.q x0 S=Y):=⟨_,rfl⟩;rw[a6.out];unfold AO.wriS at F;have a7:Bw w ((w.alloc (.cells #[.pointer (some ⟨b,0,none⟩)] 35)).alloc (Az cop cpath coth cname cdata cA cB)):=((nv _ _).alloc (nn _) _).alloc ((nv _ _).alloc (nn _) _:Bw w _).size _;have bk:Ce ((w.alloc (.cells #[.pointer (some ⟨b,0,none⟩)] 35)).alloc (Az cop cpath coth cname cdata cA cB)) w.heap.size 0 (.pointer (some ⟨b,0,none⟩)):=AE (nl _ _ _ _ rfl);have b5:Ce ((w.alloc (.cells #[.pointer (some ⟨b,0,none⟩)] 35)).alloc (Az cop cpath coth cname cdata cA cB)) (w.heap.size+1) 1 (.string cpath):=nl _ _ _ _ (by rw[nw]);have bl:Ce ((w.alloc (.cells #[.pointer (some ⟨b,0,none⟩)] 35)).alloc (Az cop cpath coth cname cdata cA cB)) (w.heap.size+1) 4 (.string cdata):=nl _ _ _ _ (by rw[nw]);have bn:Ce ((w.alloc (.cells #[.pointer (some ⟨b,0,none⟩)] 35)).alloc (Az cop cpath coth cname cdata cA cB)) (w.heap.size+1) 5 (.int .i64 cA):=nl _ _ _ _ (by rw[nw]);have Z:=hid a7;have b6:Hid (Calls prog 73 #[.pointer (some ⟨b,0,none⟩),.string cpath] ((w.alloc (.cells #[.pointer (some ⟨b,0,none⟩)] 35)).alloc (Az cop cpath coth cname cdata cA cB)) fun e w'=>CL B w' cpath false (B.cor.atP false cpath) e∧Bw ((w.alloc (.cells #[.pointer (some ⟨b,0,none⟩)] 35)).alloc (Az cop cpath coth cname cdata cA cB)) w'):=by
  refine np (Np (h.below a7) a1.good cpath (Da _).1 (Da _).2 b1 (Af a7 b2)) ?_;rintro e w' ⟨db,dd⟩;exact⟨Mq a1.good db,dd⟩
 have a8:=hid h;have ba:=hid a1;have aa:=hid (Cw.stay a8.out ba.out);have ab:Hid (∀E,E≠0→S=(E,x0)→b3=E∧b4=x0):=fun E R e=>Hf R (e▸a6.out);have b7:Hid (∀ad,Calls prog 80 #[.int .i64 cA] ad fun e w'=>e=.returned (.bool (decide (0≤cA∧cA≤4095)))∧ad=w'):=fun ad=>Na ad cA
 clear h a1 a7 b2;go_enter func49,ntmps49;go_wp2_with fail
 refine np (b7.out _) ?_;rintro e d6 ⟨rfl,rfl⟩;by_cases T:0≤cA∧cA≤4095
 ·rw[nF T]
  have de:=hid T;rw[nD T]at F;clear T;by_cases bb:200<cdata.size
  ·have dg:decide ((200:Int)<(cdata.size:Int))=true:=nF (by omega)
   have dj:=nF bb;obtain⟨rfl,rfl⟩:=ab.out 1 (by decide) (by rw[←F.out];exact nD bb);go_wp2;go_ret;exact⟨rfl,aa.out _ Z.out⟩
  ·have dg:decide ((200:Int)<(cdata.size:Int))=false:=nB (by omega)
   have dj:=nB bb;rw[nC bb]at F;have b9:Hid (cdata.size≤300):=by show _≤_;omega
   go_wp2_with fail
   generalize((w.alloc (.cells #[.pointer (some ⟨b,0,none⟩)] 35)).alloc (Az cop cpath coth cname cdata cA cB))=ad at*;refine np b6.out ?_;rintro e J ⟨dk,q2⟩;clear b6 b7;obtain⟨cs,E,rfl,bo,cb,cd,cf⟩:=dk;obtain⟨I,dm,G,bd,cg⟩:=F5 J cs bo cb;have ch:=BV cs;unfold Value.cells at ch;have dn:=hid bo;have be:=hid (q2.trans (bd.out.mono q2.size));have Q:=hid (Z.out.trans (be.out.mono Z.out.size));have cl:Hid _:=cd;have co:Hid _:=cf;have d7:=hid (nP Z.out.size q2.size);clear cb cd bo cf;by_cases R:E=0
   ·subst R
    obtain⟨f,H,bp,ak,ao,ap,ar,bs,bu⟩:=cl.out rfl;clear cl co;rw[bu]at F;have O:=Fs bp;rw[←ak]at O;have bf:=Af be.out bk;have cp:=Af be.out bl;have cr:=Af be.out bn;rw[←ak]at F;replace F:Hid ((if f.there=true then(if f.t.d=true then(7,x0)else if B.mayE f.t 2=0 then Fj B.M.us B.M.gs x0 ni f.nf (Nd.otW (FN B.k) cdata)else(B.mayE f.t 2,x0))else B.cor.crS x0 ni f.dir f.nf 1 cA cdata)=S):=F.out;cases hth:f.there with
    |true=>
     replace F:=hid ((nD hth).symm.trans F.out);obtain⟨⟨bg,bv,bx,bA,bB⟩,⟨d8,d9,ea,eb,ec⟩,na,nc,nf,dp,⟨dr,ds,du,dw,dx,dy,dz,xs⟩,d0,ly⟩:=f;dsimp only at ak ao ap ar bs O hth F;subst hth;have bC:=ar.t;dsimp only at bC;have cu:Ce I J.heap.size 0 (.bool bg):=G.out 0 _ (by rw[H];rfl);have cx:Ce I J.heap.size 1 (.int .i64 bv):=G.out 1 _ (by rw[H];rfl);have c3:Ce I J.heap.size 2 (.int .i64 bx):=G.out 2 _ (by rw[H];rfl);have c4:Ce I J.heap.size 3 (.int .i64 bA):=G.out 3 _ (by rw[H];rfl);have c5:Ce I J.heap.size 4 (.bool bB):=G.out 4 _ (by rw[H];rfl);have bF:Ce I J.heap.size 10 (.slice na nf.length nc):=G.out 10 _ (by rw[H];rfl);have c6:Ce I J.heap.size 11 (.bool true):=G.out 11 _ (by rw[H];rfl);have c8:=hid (IU (a8.out.below Q.out) ⟨bg,bv,bx,bA,bB⟩ 2 bC.1);generalize B.mayE ⟨bg,bv,bx,bA,bB⟩ 2=Y at*;have d1:=hid (ao.on (Aj bd.out));have c9:Hid ((∀s∈nf,AY s=true)∧nf.length≤6):=⟨O.1,O.2.1⟩;have d2:=hid ap;rw[show Am 0=Value.nilIface from rfl];clear H bp ak ao ap ar bs bu O G bk b5 bl bn cg bC;cases bg with
     |true=>
      obtain⟨rfl,rfl⟩:=ab.out 7 (by decide) (by rw[←F.out];exact nD rfl);go_wp2;go_ret;exact⟨rfl,aa.out _ Q.out⟩
     |false=>
      replace F:=hid ((nC (by decide)).symm.trans F.out);go_wp2_with fail
      refine np c8.out ?_;rintro e ed ⟨rfl,V⟩;have bG:=hid (Q.out.trans (V.mono Q.out.size));by_cases bi:Y=0
      ·subst bi
       rw[nD rfl]at F;rw[show Am 0=Value.nilIface from rfl];have d3:=Af V bf;have d4:=Af V cp;have ee:=Af V bF;have bH:=a8.out.below bG.out;have bY:=hid (J2 bH ba.out (d1.out.on (Aj V)) c9.out.1 (by have:=c9.out.2;omega) d2.out rfl (X4 bH ba.out b9.out d3 d4));rw[F.out,a6.out]at bY;clear c8 V cu cx c3 c4 c5 bF c6 bf cp cr bH;go_wp2_with fail
       refine np bY.out ?_;rintro e d5 ⟨rfl,ay⟩;have b0:=hid (ay.up bG.out);clear ay bY;go_wp2;go_ret;exact⟨rfl,b0.out⟩
      ·have az:=AG (n:=Y) rfl bi
       rw[az];clear cu cx c3 c4 c5 bF bf cr;go_wp2;go_ret;obtain⟨rfl,rfl⟩:=ab.out Y bi (by rw[←F.out,nC bi]);exact⟨by rw[az];rfl,aa.out _ bG.out⟩
    |false=>
     replace F:=hid ((nC (by simp[hth])).symm.trans F.out);have da:Hid (Calls prog 81 #[.pointer (some ⟨b,0,none⟩),BT cs,.agg #[.int .i64 1,.int .i64 cA,.int .i64 0,.int .i64 0,.bool false,.slice none 0 0,.string cdata,.slice none 0 0]] I fun e w'=>e=.returned (Am b3)∧Cw I w' b B ni b4 B.crd):=by
      have e:=Qt (a8.out.below Q.out) ba.out (ar.below bd.out) hth (ao.on (Aj bd.out)) O.1 (by have:=O.2.1;omega) ap (kd:=1) (md:=cA) (dat:=cdata) (by first|exact .inl rfl|exact .inr rfl) de.out b9.out;rw[←H,F.out,a6.out]at e;exact e
     have c6:Ce I J.heap.size 11 (.bool false):=G.out 11 _ (by rw[H];obtain⟨t,dir,na,nc,nf,dp,⟨dr,ds,du,dw,dx,dy,dz,xs⟩,d0,ly⟩:=f;dsimp only at hth;subst hth;rfl);rw[show Am 0=Value.nilIface from rfl];clear H bp ak ao ap ar bs bu O cg;go_upto_region 7 with fail
     clear dm ch;refine rU ?_;refine Y7 rfl _ _ rfl (.pointer (some ⟨b,0,none⟩)) (by simp[Instr.loadAt,Act.eval,go_sem,bf]) ?_;simp only[tk];refine wpList_load_mid rfl _ _ rfl _ _ rfl cs _ G.out rfl rfl (by rw[dn.out];rfl) ?_;simp only[tk];go_wp2_with fail
     refine np da.out ?_;rintro e d5 ⟨rfl,ay⟩;have b0:=hid (ay.up Q.out);clear ay da G;go_wp2;go_ret;exact⟨rfl,b0.out⟩
   ·have az:=AG (n:=E) rfl R
    rw[az];clear bk b5 bl bn;go_wp2;go_ret;obtain⟨rfl,rfl⟩:=ab.out E R (by rw[←F.out,co.out R]);exact⟨by rw[az];rfl,aa.out _ Q.out⟩
 ·rw[nB T]
  go_wp2;go_ret;obtain⟨rfl,rfl⟩:=ab.out 1 (by decide) (by rw[←F.out];exact nC T);exact⟨rfl,aa.out _ Z.out⟩
noncomputable def AO.deP (c:AO) (cop:Int) (p name dat:BA) (want:Int):Except Int Fy:=if Db name=0 then .error 4 else if cop=10∧20<dat.size then .error 1 else match c.atP true p with
 |.error E=>.error E
 |.ok f=>if Db name=1 then(if c.bx.mayE f.1 want=0 then .ok f else .error (c.bx.mayE f.1 want))else(if c.bx.ownE f.1=0 then .ok f else .error (c.bx.ownE f.1))
theorem PQ{w:World}{b:Nat}{B:Bx}{x0:Nd}{ni:List Nd}(h:AX w b B)(ch:Bv B x0 ni){cop cA cB:Int}{cpath coth cname cdata:BA}(a6:Int)(ds:Int)(du:w.cell? ⟨0,0,none⟩=some (.int .i64 ds))(er:cname.size≤1000):
 Calls prog 47 #[.pointer (some ⟨b,0,none⟩),.agg #[.int .i64 cop,.string cpath,.string coth,.string cname,.string cdata,.int .i64 cA,.int .i64 cB],.int .i64 a6] w fun e w'=>CL B w' cpath true (B.cor.deP cop cpath cname cdata a6) e∧Bw w w':=by
 obtain⟨P,T⟩:∃P,Hid (B.cor.deP cop cpath cname cdata a6=P):=⟨_,rfl⟩;rw[T.out];unfold AO.deP at T;have c5:Bw w (w.alloc (Az cop cpath coth cname cdata cA cB)):=(nv _ _).alloc (nn _) _;have cl:Bw w ((w.alloc (Az cop cpath coth cname cdata cA cB)).alloc AU):=c5.alloc c5.size _;have a7:=hid cl;have bn:Ce ((w.alloc (Az cop cpath coth cname cdata cA cB)).alloc AU) w.heap.size 0 (.int .i64 cop):=AE (nl _ _ _ _ rfl);have bo:Ce ((w.alloc (Az cop cpath coth cname cdata cA cB)).alloc AU) w.heap.size 1 (.string cpath):=AE (nl _ _ _ _ rfl);have es:Ce ((w.alloc (Az cop cpath coth cname cdata cA cB)).alloc AU) w.heap.size 3 (.string cname):=AE (nl _ _ _ _ rfl);have bp:Ce ((w.alloc (Az cop cpath coth cname cdata cA cB)).alloc AU) w.heap.size 4 (.string cdata):=AE (nl _ _ _ _ rfl);have c6:Hid (A7 ((w.alloc (Az cop cpath coth cname cdata cA cB)).alloc AU) (w.heap.size+1) 0 CJ):=A7.new _ _ (by rw[nw]) CJ 101;have dw:Hid (∀q,((w.alloc (Az cop cpath coth cname cdata cA cB)).alloc AU).frozen? ⟨w.heap.size+1,q,none⟩=false):=fun q=>nQ _ _ _ _ (by rw[nw]);have bs:Hid (∀o,((w.alloc (Az cop cpath coth cname cdata cA cB)).alloc AU).cell? ⟨w.heap.size+1,o,none⟩=CJ[o]?):=fun o=>by rw[nl _ _ _ _ (by rw[nw])];simp
 have dx:Hid (∀w',Bw ((w.alloc (Az cop cpath coth cname cdata cA cB)).alloc AU) w'→Calls prog 44 #[.pointer (some ⟨b,0,none⟩),.string cpath] w' fun e dy=>CL B dy cpath true (B.cor.atP true cpath) e∧Bw w' dy):=fun w' hb=>by
  refine np (JH ((h.below cl).below hb) ch.good cpath (Da _).1 (Da _).2 ds (Af hb (Af cl du))) ?_;rintro e w' ⟨c8,eu⟩;exact⟨IW ch.good c8,eu⟩
 have c9:Hid (Calls prog 77 #[.string cname] ((w.alloc (Az cop cpath coth cname cdata cA cB)).alloc AU) fun e w'=>e=.returned (.int .i64 (Db cname))∧Bw ((w.alloc (Az cop cpath coth cname cdata cA cB)).alloc AU) w'):=by
  refine np (K8 cname _ er) ?_;rintro e F ⟨c8,n,rfl⟩;exact⟨c8,rz (nv _ _) n⟩
 have dz:=hid h;have e8:=hid ch;generalize(Db cname)=bu at c9 T;clear h ch cl c5 du;go_enter func47,ntmps47;go_upto_region 1 with fail
 generalize((w.alloc (Az cop cpath coth cname cdata cA cB)).alloc AU)=d0 at*;go_wp2_with fail
 refine np c9.out ?_;rintro e bf ⟨rfl,ap⟩;have da:=a7;clear a7;have a7:=hid (da.out.trans (ap.mono da.out.size));have co:w.heap.size+1<d0.heap.size:=nz d0 ⟨w.heap.size+1,0,none⟩ (c6.out 0 _ rfl);have bk:=hid (c6.out.below ap);have cp:Hid (∀q,bf.frozen? ⟨w.heap.size+1,q,none⟩=false):=fun q=>(ap.frozen (p:=⟨w.heap.size+1,q,none⟩) co).trans (dw.out q);have d1:Hid (∀o,bf.cell? ⟨w.heap.size+1,o,none⟩=CJ[o]?):=fun o=>(ap.cell (p:=⟨w.heap.size+1,o,none⟩) co).trans (bs.out o)
 have cr:=hid (dx.out bf ap);have bn:=Af ap bn;have bo:=Af ap bo;have bp:=Af ap bp;have a8:=nH co ap.size;clear c9 dx c6 dw bs es ap co da;have bs:=hid d1.out;clear d1;by_cases cu:bu=0
 ·subst cu
  rw[nD rfl]at T;clear bn bo bp cr;go_upto_region 3 with fail
  obtain⟨c0,ak,ao,bv⟩:=z21;have ba:=hid ak;have bx:=hid ao;have bA:=Cd (P:=prog) (bk.out) (cp.out) ak.symm ao;have bb:=hid (Dh c0 (bk.out) ak.symm);have bd:Hid (Bw w (bf.setCells (w.heap.size+1) 0 c0)):=CX c0 (by omega) (a7.out);generalize bf.setCells (w.heap.size+1) 0 c0=bB at bA bb bd;have bC:=run_loadVar_mid (P:=prog) bB (w.heap.size+1) 0 101 c0 _ bb.out rfl rfl (by rw[ba.out];rfl);have d2:=bv.out;have bF:=BV c0;unfold Value.cells at bF;clear ao;go_wp2;refine nG (v:=.tuple #[.agg c0.toArray,.iface 78 (.int .i64 4)]) ?_ rfl ⟨⟨c0,4,rfl,ba.out,bx.out,fun e=>absurd e (by decide),fun _=>T.out.symm⟩,bd.out⟩;simp[results,results47,asAddr,bC]
 ·have e9:(bu==0)=false:=by simpa using cu
  rw[nC cu]at T;clear cu;by_cases bG:cop=10∧20<cdata.size
  ·rw[nD bG]at T
   obtain⟨rfl,ev⟩:=bG;have d3:decide ((20:Int)<(cdata.size:Int))=true:=nF (by omega);have eB:=nF ev;clear cr;go_upto_region 5 with fail
   clear bn bo bp;obtain⟨c0,ak,ao,bv⟩:=z21;have ba:=hid ak;have bx:=hid ao;have bA:=Cd (P:=prog) (bk.out) (cp.out) ak.symm ao;have bb:=hid (Dh c0 (bk.out) ak.symm);have bd:Hid (Bw w (bf.setCells (w.heap.size+1) 0 c0)):=CX c0 (by omega) (a7.out);generalize bf.setCells (w.heap.size+1) 0 c0=bB at bA bb bd;have bC:=run_loadVar_mid (P:=prog) bB (w.heap.size+1) 0 101 c0 _ bb.out rfl rfl (by rw[ba.out];rfl);have d2:=bv.out;have bF:=BV c0;unfold Value.cells at bF;clear ao;go_wp2;refine nG (v:=.tuple #[.agg c0.toArray,.iface 78 (.int .i64 1)]) ?_ rfl ⟨⟨c0,1,rfl,ba.out,bx.out,fun e=>absurd e (by decide),fun _=>T.out.symm⟩,bd.out⟩;simp[results,results47,asAddr,bC]
  ·rw[nC bG]at T
   rcases(by
    by_cases bl:cop=10
    ·exact .inr ⟨bl,nB (fun h=>bG ⟨bl,by omega⟩)⟩
    ·exact .inl (by simpa using bl):(cop==10)=false∨cop=10∧decide ((20:Int)<(cdata.size:Int))=false)with bl|⟨bl,d3⟩
   case' inr=>
    subst bl;have eB:decide (20<cdata.size)=false:=by
     have:=of_decide_eq_false d3;exact nB (by omega)
   all_goals
    clear bG;go_wp2_with fail
    refine np cr.out ?_;rintro e F ⟨eE,q2⟩;clear cr bn bo bp;obtain⟨cs,E,rfl,db,d4,d5,d6⟩:=eE;obtain⟨V,dd,be,bH,eL⟩:=F5 F cs db d4;have d7:=BV cs;unfold Value.cells at d7;have ay:=hid db;have az:=hid (q2.trans (bH.out.mono q2.size));have bg:=hid (a7.out.trans (az.out.mono a7.out.size));have d8:Hid _:=d5;have d9:Hid _:=d6;have fa:=hid (nP a7.out.size q2.size);clear d4 d5 db d6;have fb:=nH a8 q2.size;have cx:=hid (bk.out.below az.out);have de:Hid (∀q,V.frozen? ⟨w.heap.size+1,q,none⟩=false):=fun q=>(az.out.frozen (p:=⟨w.heap.size+1,q,none⟩) a8).trans (cp.out q);clear bk cp
    by_cases c3:E=0
    ·subst c3
     obtain⟨f,a1,ea,eb,ec,ed,bi,ee,ef⟩:=d8.out rfl;clear d8 d9;rw[ef]at T;obtain⟨⟨H,I,J,O,Q⟩,bY,na,nc,nf,b0,⟨b1,b2,b3,b4,b5,b6,b7,xs⟩,fc,ly⟩:=f;have eg:=bi.t;dsimp only at eg;replace T:Hid ((if bu=1 then(if B.mayE ⟨H,I,J,O,Q⟩ a6=0 then .ok (⟨H,I,J,O,Q⟩,bY,b0,.mk b1 b2 b3 b4 b5 b6 b7 xs,ly)else .error (B.mayE ⟨H,I,J,O,Q⟩ a6))else(if B.ownE ⟨H,I,J,O,Q⟩=0 then .ok (⟨H,I,J,O,Q⟩,bY,b0,.mk b1 b2 b3 b4 b5 b6 b7 xs,ly)else .error (B.ownE ⟨H,I,J,O,Q⟩)))=P):=T.out;have ej:Ce V F.heap.size 0 (.bool H):=be.out 0 _ (by rw[a1];rfl);have ek:Ce V F.heap.size 1 (.int .i64 I):=be.out 1 _ (by rw[a1];rfl);have el:Ce V F.heap.size 2 (.int .i64 J):=be.out 2 _ (by rw[a1];rfl);have em:Ce V F.heap.size 3 (.int .i64 O):=be.out 3 _ (by rw[a1];rfl);have en:Ce V F.heap.size 4 (.bool Q):=be.out 4 _ (by rw[a1];rfl);rw[show Am 0=Value.nilIface from rfl];have eo:Hid (∀w',Bw F w'→∀Y,(Y=0→P=.ok (⟨H,I,J,O,Q⟩,bY,b0,.mk b1 b2 b3 b4 b5 b6 b7 xs,ly))→(Y≠0→P=.error Y)→CL B w' cpath true P (.returned (.tuple #[BT cs,Am Y]))):=fun w' hb Y e0 e1=>⟨cs,Y,rfl,ay.out,by rw[a1];exact Ej _,fun e=>⟨_,a1,ea,eb,ec.on (Aj hb),ed,⟨bi.t,bi.dir,bi.nd.on (Aj hb),bi.there,bi.no⟩,ee,e0 e⟩,e1⟩;have ep:Hid (∀v∈cs,v.oneCell'=true):=by rw[a1];exact Ej _
     have ab:V.drew.rangeAt F.heap.size 0 cs∧Ce V.drew F.heap.size 0 (.bool H)∧Ce V.drew F.heap.size 1 (.int .i64 I)∧Ce V.drew F.heap.size 2 (.int .i64 J)∧Ce V.drew F.heap.size 3 (.int .i64 O)∧Ce V.drew F.heap.size 4 (.bool Q):=⟨be.out,ej,ek,el,em,en⟩;clear a1 ea eb ec ed bi ee ef eL be ej ek el em en;by_cases dg:bu=1
     ·subst dg
      have e2:=hid (IU ((dz.out.below bg.out).below (nv _ _).drew) ⟨H,I,J,O,Q⟩ a6 eg.1);rw[nD rfl]at T;generalize B.mayE ⟨H,I,J,O,Q⟩ a6=Y at*;have dj:Hid (Y=0→P=.ok (⟨H,I,J,O,Q⟩,bY,b0,.mk b1 b2 b3 b4 b5 b6 b7 xs,ly)):=fun e=>by rw[←T.out,nD e]
      have dk:Hid (Y≠0→P=.error Y):=fun e=>by rw[←T.out,nC e]
      go_upto_region 10 with fail
      clear dd;refine wp_region_held_drew (S:=fun w'=>w'.rangeAt F.heap.size 0 cs∧Ce w' F.heap.size 0 (.bool H)∧Ce w' F.heap.size 1 (.int .i64 I)∧Ce w' F.heap.size 2 (.int .i64 J)∧Ce w' F.heap.size 3 (.int .i64 O)∧Ce w' F.heap.size 4 (.bool Q)) (by kernel_rfl) ab (fun ar=>?_);refine nT (i:=0) (oi:=_) (v:=BT cs) rfl (by kernel_rfl) (by kernel_rfl) (by kernel_rfl) (fun _ _ _ h=>h) (yieldsIf_load_mid (by rfl) _ _ rfl _ _ rfl cs _ (fun w h=>h.1) underlying101 rfl (by rw[ay.out];rfl)) ar ?_;simp only[Act.put,List.setIfInBounds_toArray];refine nT (i:=1) (oi:=_) (v:=.pointer (some ⟨b,0,none⟩)) rfl (by kernel_rfl) (by kernel_rfl) (by kernel_rfl) (fun _ _ _ h=>h) (Or.inl ⟨by rfl,fun w c4=>by go_simp⟩) ar ?_;simp only[Act.put];refine nT (i:=2) (oi:=_) (v:=.pointer (some ⟨F.heap.size,0,none⟩)) rfl (by kernel_rfl) (by kernel_rfl) (by kernel_rfl) (fun _ _ _ h=>h) (Or.inl ⟨by rfl,fun w c4=>by go_simp⟩) ar ?_;simp only[Act.put];refine tI 3 _ (.agg #[.bool H,.int .i64 I,.int .i64 J,.int .i64 O,.bool Q]) ar ?_;simp only[Act.put];refine nT (i:=4) (oi:=_) (v:=.int .i64 a6) rfl (by kernel_rfl) (by kernel_rfl) (by kernel_rfl) (fun _ _ _ h=>h) (Or.inl ⟨by rfl,fun w c4=>by go_simp⟩) ar ?_;simp only[Act.put];refine wpAnyH_ready (rs:=[5]) (by kernel_rfl) (by simp) ?_;refine AllReadyH.cons (o:=_) rfl (fun K Z=>?_) AllReadyH.nil;rw[nD (by rfl)];go_simp;refine np e2.out ?_;rintro e G ⟨rfl,R⟩;have aa:G.rangeAt F.heap.size 0 cs∧Ce G F.heap.size 0 (.bool H)∧Ce G F.heap.size 1 (.int .i64 I)∧Ce G F.heap.size 2 (.int .i64 J)∧Ce G F.heap.size 3 (.int .i64 O)∧Ce G F.heap.size 4 (.bool Q):=⟨A7.below ab.1 R,Af R ab.2.1,Af R ab.2.2.1,Af R ab.2.2.2.1,Af R ab.2.2.2.2.1,Af R ab.2.2.2.2.2⟩;have b9:=hid ((cx.out.below (nv _ _).drew).below R);have dm:Hid (∀q,G.frozen? ⟨w.heap.size+1,q,none⟩=false):=fun q=>(R.frozen (p:=⟨w.heap.size+1,q,none⟩) (nH a8 az.out.size)).trans (de.out q);have e3:=Cd (P:=prog) b9.out dm.out (by rw[ay.out];rfl) ep.out
      have cb:=hid (Dh cs b9.out (by rw[ay.out];rfl));have cd:Hid (Bw w (G.setCells (w.heap.size+1) 0 cs)):=CX cs (by omega) (bg.out.trans (((nv _ V).drew.trans R).mono bg.out.size));have ad:∀o,(G.setCells (w.heap.size+1) 0 cs).cell? ⟨F.heap.size,o,none⟩=G.cell? ⟨F.heap.size,o,none⟩:=fun o=>BP (by show F.heap.size≠w.heap.size+1;omega);have cf:(G.setCells (w.heap.size+1) 0 cs).rangeAt F.heap.size 0 cs∧Ce (G.setCells (w.heap.size+1) 0 cs) F.heap.size 0 (.bool H)∧Ce (G.setCells (w.heap.size+1) 0 cs) F.heap.size 1 (.int .i64 I)∧Ce (G.setCells (w.heap.size+1) 0 cs) F.heap.size 2 (.int .i64 J)∧Ce (G.setCells (w.heap.size+1) 0 cs) F.heap.size 3 (.int .i64 O)∧Ce (G.setCells (w.heap.size+1) 0 cs) F.heap.size 4 (.bool Q):=⟨fun j v dn=>(ad _).trans (aa.1 j v dn),(ad _).trans aa.2.1,(ad _).trans aa.2.2.1,(ad _).trans aa.2.2.2.1,(ad _).trans aa.2.2.2.2.1,(ad _).trans aa.2.2.2.2.2⟩
      have cg:=hid ((eo.out G (bH.out.trans (((nv _ V).drew.trans R).mono bH.out.size)) Y dj.out dk.out).set (Da _).2 (fun o=>(R.cell (p:=⟨w.heap.size+1,o,none⟩) (nH a8 az.out.size)).trans ((az.out.cell (p:=⟨w.heap.size+1,o,none⟩) a8).trans (bs.out o))) cs);go_wp2_with fail
      refine Z.out _ _ aa (fun e4=>?_);clear Z K;refine wpAnyH_ready (rs:=[6]) (by kernel_rfl) (by simp) ?_;refine AllReadyH.cons (o:=_) rfl (fun K Z=>?_) AllReadyH.nil;rw[nD (by rfl)];go_simp;refine Z.out _ _ cf (fun e5=>?_);clear Z K;refine wpAnyH_ready (rs:=[7]) (by kernel_rfl) (by simp) ?_;refine AllReadyH.cons (o:=_) rfl (fun K Z=>?_) AllReadyH.nil;rw[nD (by rfl)];go_simp;refine Z.out _ _ cf (fun e6=>?_);clear Z K;refine rN (by kernel_rfl) ?_ _;generalize G.setCells (w.heap.size+1) 0 cs=dp at cb cd cg⊢;have dr:=run_loadVar_mid (P:=prog) dp (w.heap.size+1) 0 101 cs _ cb.out rfl rfl (by rw[ay.out];rfl);go_wp2;refine nG (v:=.tuple #[.agg cs.toArray,Am Y]) ?_ rfl ⟨cg.out,cd.out⟩;simp[results,results47,asAddr,dr]
     ·have fd:(bu==1)=false:=by simpa using dg
      have e7:=hid (Sm ((dz.out.below bg.out).below (nv _ _).drew) ⟨H,I,J,O,Q⟩);rw[nC dg]at T;generalize B.ownE ⟨H,I,J,O,Q⟩=Y at*;have dj:Hid (Y=0→P=.ok (⟨H,I,J,O,Q⟩,bY,b0,.mk b1 b2 b3 b4 b5 b6 b7 xs,ly)):=fun e=>by rw[←T.out,nD e]
      have dk:Hid (Y≠0→P=.error Y):=fun e=>by rw[←T.out,nC e]
      go_upto_region 11 with fail
      clear dd;refine wp_region_held_drew (S:=fun w'=>w'.rangeAt F.heap.size 0 cs∧Ce w' F.heap.size 0 (.bool H)∧Ce w' F.heap.size 1 (.int .i64 I)∧Ce w' F.heap.size 2 (.int .i64 J)∧Ce w' F.heap.size 3 (.int .i64 O)∧Ce w' F.heap.size 4 (.bool Q)) (by kernel_rfl) ab (fun ar=>?_);refine nT (i:=0) (oi:=_) (v:=BT cs) rfl (by kernel_rfl) (by kernel_rfl) (by kernel_rfl) (fun _ _ _ h=>h) (yieldsIf_load_mid (by rfl) _ _ rfl _ _ rfl cs _ (fun w h=>h.1) underlying101 rfl (by rw[ay.out];rfl)) ar ?_;simp only[Act.put,List.setIfInBounds_toArray];refine nT (i:=1) (oi:=_) (v:=.pointer (some ⟨b,0,none⟩)) rfl (by kernel_rfl) (by kernel_rfl) (by kernel_rfl) (fun _ _ _ h=>h) (Or.inl ⟨by rfl,fun w c4=>by go_simp⟩) ar ?_;simp only[Act.put];refine nT (i:=2) (oi:=_) (v:=.pointer (some ⟨F.heap.size,0,none⟩)) rfl (by kernel_rfl) (by kernel_rfl) (by kernel_rfl) (fun _ _ _ h=>h) (Or.inl ⟨by rfl,fun w c4=>by go_simp⟩) ar ?_;simp only[Act.put];refine tI 3 _ (.agg #[.bool H,.int .i64 I,.int .i64 J,.int .i64 O,.bool Q]) ar ?_;simp only[Act.put];refine wpAnyH_ready (rs:=[4]) (by kernel_rfl) (by simp) ?_;refine AllReadyH.cons (o:=_) rfl (fun K Z=>?_) AllReadyH.nil;rw[nD (by rfl)];go_simp;refine np e7.out ?_;rintro e G ⟨rfl,R⟩;have aa:G.rangeAt F.heap.size 0 cs∧Ce G F.heap.size 0 (.bool H)∧Ce G F.heap.size 1 (.int .i64 I)∧Ce G F.heap.size 2 (.int .i64 J)∧Ce G F.heap.size 3 (.int .i64 O)∧Ce G F.heap.size 4 (.bool Q):=⟨A7.below ab.1 R,Af R ab.2.1,Af R ab.2.2.1,Af R ab.2.2.2.1,Af R ab.2.2.2.2.1,Af R ab.2.2.2.2.2⟩;have b9:=hid ((cx.out.below (nv _ _).drew).below R);have dm:Hid (∀q,G.frozen? ⟨w.heap.size+1,q,none⟩=false):=fun q=>(R.frozen (p:=⟨w.heap.size+1,q,none⟩) (nH a8 az.out.size)).trans (de.out q);have e3:=Cd (P:=prog) b9.out dm.out (by rw[ay.out];rfl) ep.out
      have cb:=hid (Dh cs b9.out (by rw[ay.out];rfl));have cd:Hid (Bw w (G.setCells (w.heap.size+1) 0 cs)):=CX cs (by omega) (bg.out.trans (((nv _ V).drew.trans R).mono bg.out.size));have ad:∀o,(G.setCells (w.heap.size+1) 0 cs).cell? ⟨F.heap.size,o,none⟩=G.cell? ⟨F.heap.size,o,none⟩:=fun o=>BP (by show F.heap.size≠w.heap.size+1;omega);have cf:(G.setCells (w.heap.size+1) 0 cs).rangeAt F.heap.size 0 cs∧Ce (G.setCells (w.heap.size+1) 0 cs) F.heap.size 0 (.bool H)∧Ce (G.setCells (w.heap.size+1) 0 cs) F.heap.size 1 (.int .i64 I)∧Ce (G.setCells (w.heap.size+1) 0 cs) F.heap.size 2 (.int .i64 J)∧Ce (G.setCells (w.heap.size+1) 0 cs) F.heap.size 3 (.int .i64 O)∧Ce (G.setCells (w.heap.size+1) 0 cs) F.heap.size 4 (.bool Q):=⟨fun j v dn=>(ad _).trans (aa.1 j v dn),(ad _).trans aa.2.1,(ad _).trans aa.2.2.1,(ad _).trans aa.2.2.2.1,(ad _).trans aa.2.2.2.2.1,(ad _).trans aa.2.2.2.2.2⟩
      have cg:=hid ((eo.out G (bH.out.trans (((nv _ V).drew.trans R).mono bH.out.size)) Y dj.out dk.out).set (Da _).2 (fun o=>(R.cell (p:=⟨w.heap.size+1,o,none⟩) (nH a8 az.out.size)).trans ((az.out.cell (p:=⟨w.heap.size+1,o,none⟩) a8).trans (bs.out o))) cs);go_wp2_with fail
      refine Z.out _ _ aa (fun e4=>?_);clear Z K;refine wpAnyH_ready (rs:=[5]) (by kernel_rfl) (by simp) ?_;refine AllReadyH.cons (o:=_) rfl (fun K Z=>?_) AllReadyH.nil;rw[nD (by rfl)];go_simp;refine Z.out _ _ cf (fun e5=>?_);clear Z K;refine wpAnyH_ready (rs:=[6]) (by kernel_rfl) (by simp) ?_;refine AllReadyH.cons (o:=_) rfl (fun K Z=>?_) AllReadyH.nil;rw[nD (by rfl)];go_simp;refine Z.out _ _ cf (fun e6=>?_);clear Z K;refine rN (by kernel_rfl) ?_ _;generalize G.setCells (w.heap.size+1) 0 cs=dp at cb cd cg⊢;have dr:=run_loadVar_mid (P:=prog) dp (w.heap.size+1) 0 101 cs _ cb.out rfl rfl (by rw[ay.out];rfl);go_wp2;refine nG (v:=.tuple #[.agg cs.toArray,Am Y]) ?_ rfl ⟨cg.out,cd.out⟩;simp[results,results47,asAddr,dr]
    ·have eq:=AG (n:=E) rfl c3
     rw[d9.out c3]at T;rw[eq];go_upto_region 8 with fail
     clear dd d7 be;obtain⟨c0,ak,ao,bv⟩:=z21;have ba:=hid ak;have bx:=hid ao;have bA:=Cd (P:=prog) (cx.out) (de.out) ak.symm ao;have bb:=hid (Dh c0 (cx.out) ak.symm);have bd:Hid (Bw w (V.setCells (w.heap.size+1) 0 c0)):=CX c0 (by omega) (bg.out);generalize V.setCells (w.heap.size+1) 0 c0=bB at bA bb bd;have bC:=run_loadVar_mid (P:=prog) bB (w.heap.size+1) 0 101 c0 _ bb.out rfl rfl (by rw[ba.out];rfl);have d2:=bv.out;have bF:=BV c0;unfold Value.cells at bF;clear ao;go_wp2;refine nG (v:=.tuple #[.agg c0.toArray,.iface 78 (.int .i64 E)]) ?_ rfl ⟨⟨c0,E,by rw[eq];rfl,ba.out,bx.out,fun e=>absurd e (c3),fun _=>T.out.symm⟩,bd.out⟩;simp[results,results47,asAddr,bC]
abbrev Ef(l:List Kv):Prop:=l.Pairwise (fun p x=>AZ p.n x.n=true)
def plc(l:List Kv)(m:BA):Nat:=l.countP (fun x=>AZ x.n m)
def C7(l:List Kv)(m:BA):Option Kv:=l.find? (fun x=>decide (x.n=m))
def Kx(l:List Kv)(m:BA):List Kv:=l.filter (fun x=>AZ x.n m)
def EI(l:List Kv)(m:BA):List Kv:=l.filter (fun x=>AZ m x.n)
def Dk(l:List Kv)(m v:BA):List Kv:=Kx l m++⟨m,v⟩::EI l m
def EN(l:List Kv)(m:BA):List Kv:=Kx l m++EI l m
theorem Nh{q:Kv→Bool}:∀{l:List Kv},l.Pairwise (fun p x=>q x=true→q p=true)→l.take (l.countP q)=l.filter q∧l.drop (l.countP q)=l.filter (fun x=> !q x)
 |[],_=>by simp
 |a::l,h=>by
  obtain⟨G,H⟩:=rr.1 h;obtain⟨I,J⟩:=Nh H;cases ha:q a with
  |true=>
   rw[List.countP_cons_of_pos ha];simp[ha,I,J]
  |false=>
   have F:∀x∈l,q x=false:=fun x hx=>by
    cases hq:q x with
    |false=>rfl
    |true=>have:=G x hx hq;rw[ha]at this;cases this
   have O:l.countP q=0:=List.countP_eq_zero.2 fun x hx=>by rw[F x hx];decide
   rw[List.countP_cons_of_neg (by rw[ha];decide),O];have Q:l.filter q=[]:=List.filter_eq_nil_iff.2 fun x hx=>by rw[F x hx];decide
   have R:l.filter (fun x=> !q x)=l:=List.filter_eq_self.2 fun x hx=>by rw[F x hx];rfl
   simp[ha,Q,R]
theorem Sf{l:List Kv}(m:BA)(h:Ef l):l.Pairwise (fun p x=>AZ x.n m=true→AZ p.n m=true):=
 h.imp fun F G=>GE F G
theorem NU{l:List Kv}(m:BA)(h:Ef l):l.take (plc l m)=Kx l m:=(Nh (Sf m h)).1
theorem Yh{l:List Kv}(m:BA)(h:Ef l):l.drop (plc l m)=l.filter (fun x=> !AZ x.n m):=(Nh (Sf m h)).2
theorem Qg{a:Kv}{l:List Kv}{m:BA}(h:a.n=m):C7 (a::l) m=some a:=by simp[C7,h]
theorem P3{a:Kv}{l:List Kv}{m:BA}(h:a.n≠m):C7 (a::l) m=C7 l m:=by simp[C7,h]
theorem YR{l:List Kv}{m:BA}(h:∀x∈l,x.n≠m):C7 l m=none:=by
 unfold C7;rw[List.find?_eq_none];intro x hx;simpa using h x hx
theorem ZN{l:List Kv}{m:BA}{x:Kv}(h:C7 l m=some x):x∈l∧x.n=m:=by
 unfold C7 at h;exact⟨List.mem_of_find?_eq_some h,by have:=List.find?_some h;simpa using this⟩
theorem ZF{l:List Kv}{x:Kv}:Ef l→x∈l→C7 l x.n=some x:=by
 induction l with
 |nil=>intro _ h;cases h
 |cons a l F=>
  intro G hx;obtain⟨H,I⟩:=rr.1 G;rcases nY.1 hx with rfl|hx
  ·exact Qg rfl
  ·rw[P3 (Ia (H x hx))];exact F I hx
theorem Rn{l:List Kv}{m:BA}(h:∀x∈l,AZ m x.n=true):EI l m=l:=List.filter_eq_self.2 h
theorem QK{l:List Kv}{m:BA}(h:∀x∈l,AZ m x.n=true):l.filter (fun x=> !AZ x.n m)=l:=
 List.filter_eq_self.2 fun x hx=>by rw[J4 (h x hx)];rfl
theorem NR{l:List Kv}(m:BA)(h:Ef l):l.drop (plc l m)=(C7 l m).toList++EI l m:=by
 rw[Yh m h];induction l with
 |nil=>rfl
 |cons a l J=>
  obtain⟨G,O⟩:=rr.1 h;rcases IE a.n m with F|F|F
  ·rw[P3 (Ia F)]
   have H:EI (a::l) m=EI l m:=by simp[EI,J4 F]
   rw[H,←J O];simp[F]
  ·subst F
   rw[Qg rfl];have H:EI (a::l) a.n=l:=by unfold EI;rw[List.filter_cons_of_neg (by rw[Hv];decide)];exact Rn G
   rw[H,List.filter_cons_of_pos (by rw[Hv];rfl),QK G];rfl
  ·have I:∀x∈a::l,AZ m x.n=true:=fun x hx=>by
    rcases nY.1 hx with rfl|hx
    ·exact F
    ·exact GE F (G x hx)
   rw[QK I,Rn I,YR (fun x hx e=>Ia (I x hx) e.symm)];rfl
theorem Mh{l:List Kv}(m:BA)(h:Ef l){x:Kv}(F:C7 l m=some x):l[plc l m]? =some x∧l.drop (plc l m+1)=EI l m:=by
 have hd:=NR m h;rw[F]at hd;constructor
 ·have:(l.drop (plc l m))[0]? =some x:=by rw[hd];rfl
  simpa using this
 ·have:(l.drop (plc l m)).drop 1=EI l m:=by rw[hd];rfl
  rwa [List.drop_drop]at this
theorem PZ{l:List Kv}(m:BA)(h:Ef l)(F:C7 l m=none):l.drop (plc l m)=EI l m∧∀x,l[plc l m]? =some x→x.n≠m:=by
 have hd:=NR m h;rw[F]at hd;refine⟨hd,fun x hx e=>?_⟩;have G:x∈l:=nE hx;have:=ZF h G;rw[e,F]at this;cases this
theorem Vr(l:List Kv)(m:BA):plc l m≤l.length:=List.countP_le_length
def C5(l:List Kv)(m:BA):Int:=if Dc l≠0 then Dc l else if Db m=0 then 4 else 0
def FU(l:List Kv)(m:BA):Int:=if C5 l m≠0 then C5 l m else if C7 l m=none then 5 else 0
def Gp(l:List Kv)(m:BA):BA:=if FU l m≠0 then ByteArray.empty else match C7 l m with
 |some x=>x.v
 |none=>ByteArray.empty
def FP(l:List Kv)(m v:BA):Int:=if C5 l m≠0 then C5 l m else if 20<v.size then 1 else if C7 l m=none∧l.length=4 then 2 else 0
def Gq(l:List Kv)(m v:BA):List Kv:=if FP l m v≠0 then []else Dk l m v
def GR(l:List Kv)(m:BA):Int:=if C5 l m≠0 then C5 l m else if C7 l m=none then 5 else 0
def Gu(l:List Kv)(m:BA):List Kv:=if GR l m≠0 then []else EN l m
theorem Js{l:List Kv}{m:BA}:C5 l m=0↔Hk l∧Db m≠0:=by
 unfold C5;by_cases h:Dc l=0
 ·rw[nC (by simpa using h)]
  by_cases F:Db m=0
  ·rw[nD F];simp[F]
  ·rw[nC F];simp[F,(NQ l).1 h]
 ·rw[nD h]
  constructor
  ·intro e;exact absurd e h
  ·intro e;exact(NQ l).2 e.1
theorem Ly{l:List Kv}{m:BA}{x:Kv}:x∈Kx l m↔x∈l∧AZ x.n m=true:=List.mem_filter
theorem La{l:List Kv}{m:BA}{x:Kv}:x∈EI l m↔x∈l∧AZ m x.n=true:=List.mem_filter
theorem Zx{l:List Kv}(m v:BA)(h:Ef l):Ef (Dk l m v):=by
 unfold Dk;refine List.pairwise_append.2 ⟨h.filter _,rr.2 ⟨fun x hx=>(La.1 hx).2,h.filter _⟩,?_⟩;intro a F b hb;rcases nY.1 hb with rfl|hb
 ·exact(Ly.1 F).2
 ·exact GE (Ly.1 F).2 (La.1 hb).2
theorem aw{l:List Kv}(m:BA)(h:Ef l):Ef (EN l m):=by
 unfold EN;refine List.pairwise_append.2 ⟨h.filter _,h.filter _,?_⟩;intro a F b hb;exact GE (Ly.1 F).2 (La.1 hb).2
theorem Rv{l:List Kv}(m:BA)(h:Ef l):l.length=(Kx l m).length+((C7 l m).toList.length+(EI l m).length):=by
 have e:l=l.take (plc l m)++l.drop (plc l m):=(ry _ _).symm;conv=>lhs;rw[e]
 rw[NU m h,NR m h,nM,nM]
theorem Uz{l:List Kv}{m:BA}{x:Kv}:x∈EN l m↔x∈l∧x.n≠m:=by
 unfold EN;rw[rd,Ly,La];constructor
 ·rintro(⟨h,F⟩|⟨h,F⟩)
  ·exact⟨h,Ia F⟩
  ·exact⟨h,fun e=>Ia F e.symm⟩
 ·rintro⟨h,F⟩
  rcases IE x.n m with e|e|e
  ·exact .inl ⟨h,e⟩
  ·exact absurd e F
  ·exact .inr ⟨h,e⟩
theorem cS{l:List Kv}{m v:BA}{x:Kv}:x∈Dk l m v↔x=⟨m,v⟩∨(x∈l∧x.n≠m):=by
 rw[←Uz];unfold Dk EN;rw[rd,rd,nY];constructor
 ·rintro(h|h|h)
  ·exact .inr (.inl h)
  ·exact .inl h
  ·exact .inr (.inr h)
 ·rintro(h|h|h)
  ·exact .inr (.inl h)
  ·exact .inl h
  ·exact .inr (.inr h)
theorem Z0{l:List Kv}{m v:BA}(h:FP l m v=0):Hk l∧Db m≠0∧Hk (Dk l m v):=by
 unfold FP at h;split at h
 ·rename_i hf;exact absurd h hf
 ·rename_i hf
  obtain⟨F,H⟩:=Js.1 (Classical.not_not.1 hf);split at h
  ·cases h
  ·rename_i hv
   split at h
   ·cases h
   ·rename_i hn
    refine⟨F,H,?_,?_,Zx m v F.2.2⟩
    ·have G:=Rv m F.2.2
     have I:=F.1;unfold Dk;rw[nM,n3];cases hfd:C7 l m with
     |none=>
      have:l.length≠4:=fun e=>hn ⟨hfd,e⟩;rw[hfd]at G;simp at G;omega
     |some x=>rw[hfd]at G;simp at G;omega
    ·intro x hx
     rcases cS.1 hx with rfl|⟨hx,_⟩
     ·exact⟨H,by show v.size≤20;omega⟩
     ·exact F.2.1 x hx
theorem bU{l:List Kv}{m:BA}(h:GR l m=0):Hk l∧Db m≠0∧Hk (EN l m):=by
 unfold GR at h;split at h
 ·rename_i hf;exact absurd h hf
 ·rename_i hf
  obtain⟨F,G⟩:=Js.1 (Classical.not_not.1 hf);refine⟨F,G,?_,fun x hx=>F.2.1 x (Uz.1 hx).1,aw m F.2.2⟩;have H:=Rv m F.2.2;have I:=F.1;unfold EN;rw[nM];omega
end Go.Proofs.YtofhphibahcniaaGreatDoor
namespace Go.Proofs.YtofhphibahcniaaGreatDoor
open Go.RowKit Go.Sort Go.Shelf Go.Proofs.Tryz
def Tryz.searchRen:Go.Shelf.Ren:=⟨fun|16=>132|n=>n,fun|35=>95|38=>91|n=>n,fun n=>n⟩
theorem Tryz.searchLaid:SlLaysO.n16 prog Tryz.searchRen:={
 mixed:=by kernel_rfl
 f16:=func132.trans (nW some (by kernel_rfl))
 t3:=underlying3
 a3:=Tryz.isAgg3
 z3:=Tryz.sizeOf3
 v3:=Tryz.zeroValue3
 t4:=underlying4
 a4:=Tryz.isAgg4
 z4:=Tryz.sizeOf4
 v4:=Tryz.zeroValue4
 t35:=underlying95
 a35:=Tryz.isAgg95
 z35:=Tryz.sizeOf95
 v35:=Tryz.zeroValue95
 t38:=underlying91
 a38:=Tryz.isAgg91
 z38:=Tryz.sizeOf91
 v38:=Tryz.zeroValue91}
theorem WE(F G b H n cap k:Nat)(x m:BA)(w:World)(O:k<n)(Q:w.cell? (aD F 0)=some (sL b H n cap))(R:w.cell? (aD G 0)=some (.string m))(T:w.cell? (aD b (H+k*2))=some (.string x)):
 Calls prog 133 (#[iN k]++#[pO F 0,pO G 0]) w fun e w'=>e=.returned (.bool !(AZ x m))∧∃q,w'=w.drewN q:=by
 have V:(k:Int)<(n:Int):=by omega
 obtain⟨t,I⟩:∃t,Op.bytesLess x.toList m.toList=t:=⟨_,rfl⟩;have J:Hid (AZ x m=t):=I;show cL 133 #[iN k,pO F 0,pO G 0] _ _;go_enter func133,ntmps133;go_wp2;go_quiet (fail)
 go_wp2;go_ret;exact⟨Bh (by rw[J.out]),_,rfl⟩
def Ik(l:List Kv)(m:BA)(k:Nat):Bool:=match l[k]? with
 |some x=> !AZ x.n m
 |none=>true
theorem Y3(l:List Kv)(m:BA):(List.range l.length).countP (fun i=> !Ik l m i)=plc l m:=by
 have F:plc l m=(l.map some).countP (fun o:Option Kv=>match o with|some x=>AZ x.n m|none=>false):=by rw[List.countP_map];rfl
 have G:l.map some=(List.range l.length).map (fun i=>l[i]?):=by
  apply List.ext_getElem
  ·simp
  ·intro i H I;simp at H I⊢
 rw[F,G,List.countP_map];congr 1;funext i
 simp only[Function.comp,Ik];cases l[i]?<;>simp
theorem X9{l:List Kv}(m:BA)(h:Ef l):∀a b,a≤b→b<l.length→Ik l m a=true→Ik l m b=true:=by
 intro a b H hb F;unfold Ik at F⊢;rw[nt (by omega)]at F⊢;simp only[Bool.not_eq_true']at F⊢;by_cases e:a=b
 ·subst e;exact F
 ·have G:=rZ.1 h a b (by omega) (by omega) (by omega)
  cases hq:AZ (l[b]).n m with
  |false=>rfl
  |true=>rw[GE G hq]at F;cases F
theorem Xb(F G cap:Nat)(a:Option Addr)(l:List Kv)(m:BA)(w:World)(ak:l.length≤1000)(T:Ef l)(h:Bp w.cell? a l)(O:w.cell? (aD F 0)=some (.slice a l.length cap))(Q:w.cell? (aD G 0)=some (.string m)):
 Calls prog 132 #[iN l.length,.func (.func 133) #[] #[pO F 0,pO G 0]] w fun e w'=>e=.returned (iN (plc l m))∧Below w.heap.size w w':=by
 have V:=enters_of func133 (by kernel_rfl) rfl;have Y:F<w.heap.size:=bL O;have Z:G<w.heap.size:=bL Q
 have H:=Any.sort_Search Tryz.searchLaid 133 #[pO F 0,pO G 0] l.length (Ik l m) w V (by omega)
  (fun q os i I=>by
   rcases h with rfl|⟨b,aa,rfl,ab⟩
   ·simp at I
   ·obtain⟨x,hx⟩:∃x,l[i]? =some x:=⟨l[i],by simp[I]⟩
    obtain⟨R,_⟩:=ab i x hx;have ad:b<w.heap.size:=bL R;have e:Ik l m i= !(AZ x.n m):=by unfold Ik;rw[hx]
    rw[e];exact(WE F G b aa l.length cap i x.n m _ I (cell_grown Y O q os) (cell_grown Z Q q os) (cell_grown ad R q os)).mono fun _ _ ⟨J,r,hr⟩=>⟨J,r,#[],by rw[hr,grow_empty]⟩)
  (X9 m T)
 rw[Y3]at H;change cL 132 _ _ _ at H;refine H.mono fun e w' ⟨J,q,os,hw⟩=>⟨J,?_⟩;rw[hw]
 exact below_grown_sl _ w q os (nn _)
theorem Zp{l:List Kv}{m:BA}(h:Ef l):(plc l m<l.length∧∃x,l[plc l m]? =some x∧((x.n=m∧C7 l m=some x)∨(x.n≠m∧C7 l m=none)))∨(plc l m=l.length∧C7 l m=none):=by
 cases hf:C7 l m with
 |some x=>
  obtain⟨F,_⟩:=Mh m h hf;exact .inl ⟨(ny.1 F).1,x,F,.inl ⟨(ZN hf).2,rfl⟩⟩
 |none=>
  obtain⟨_,G⟩:=PZ m h hf;by_cases H:plc l m<l.length
  ·exact .inl ⟨H,l[plc l m],nt _,.inr ⟨G _ (nt _),rfl⟩⟩
  ·exact .inr ⟨by have:=Vr l m;omega,rfl⟩
def Ff(l:List Kv)(m:BA):Int:=if C5 l m=0 then(plc l m:Int)else 0
def DA(l:List Kv)(m:BA):Bool:=decide (C5 l m=0)&&(C7 l m).isSome
theorem JX{a F:Int}{b G:Bool}{e H:Value}(I:F=a)(J:G=b)(O:H=e):Ending.returned (.tuple #[.int .i64 a,.bool b,e])=.returned (.tuple #[.int .i64 F,.bool G,H]):=by rw[I,J,O]
theorem E9(a:Option Addr)(cap:Nat)(l:List Kv)(m:BA)(w:World)(ar:l.length≤1000)(a7:EP l)(bf:m.size≤1000)(h:Bp w.cell? a l):
 Calls prog 79 #[.slice a l.length cap,.string m] w fun e w'=>(e=.returned (.tuple #[iN (Ff l m),.bool (DA l m),Am (C5 l m)]))∧Below w.heap.size w w':=by
 have F:Below w.heap.size w ((w.alloc (.cells #[.slice a l.length cap] 51)).alloc (.cells #[.string m] 9)):=bN.alloc (by simp) _;have c1:Ce ((w.alloc (.cells #[.slice a l.length cap] 51)).alloc (.cells #[.string m] 9)) w.heap.size 0 (.slice a l.length cap):=cell_alloc_sl _ (cell_new_sl w _ _);have c2:Ce ((w.alloc (.cells #[.slice a l.length cap] 51)).alloc (.cells #[.string m] 9)) (w.heap.size+1) 0 (.string m):=by
  have:=cell_new_sl (w.alloc (.cells #[.slice a l.length cap] 51)) (.string m) 9;rwa [nw]at this
 by_cases Z:Dc l=0;rotate_left
 ·have H:Hid (C5 l m=Dc l):=by show _=_;unfold C5;rw[nD Z]
  have I:=hid Z;clear c1 c2;go_enter func79,ntmps79;go_wp2_with fail
  refine(K5 a cap l _ ar a7 (h.below F)).mono ?_;rintro e J ⟨rfl,G⟩;rw[AG rfl I.out];clear Z;have R:=F.trans (G.mono F.size);clear F G;go_wp2;go_ret3
  have aa:¬C5 l m=0:=by rw[H.out];exact I.out
  exact⟨JX (by unfold Ff;rw[nC aa]) (by unfold DA;rw[nB aa];rfl) (by rw[H.out,AG rfl I.out];rfl),R⟩
 have I:=hid Z;clear Z;obtain⟨c,bg⟩:∃c,Db m=c:=⟨_,rfl⟩;have ay:=hid bg;clear bg;by_cases az:c=0
 ·subst az
  have H:Hid (C5 l m=4):=by show _=_;unfold C5;rw[nC (by simpa using I.out),nD ay.out]
  have ab:=h.below F;have O:((w.alloc (.cells #[.slice a l.length cap] 51)).alloc (.cells #[.string m] 9)).heap.size=w.heap.size+2:=by simp
  go_enter func79,ntmps79;go_wp2_with fail
  refine(K5 a cap l _ ar a7 ab).mono ?_;rintro e J ⟨rfl,G⟩;rw[Co I.out];have a8:Ce J w.heap.size 0 (.slice a l.length cap):=(G.cell (p:=(aD w.heap.size 0)) (by rw[O];simp)).trans c1;have ba:Ce J (w.heap.size+1) 0 (.string m):=(G.cell (p:=(aD (w.heap.size+1) 0)) (by rw[O];simp)).trans c2;have R:=F.trans (G.mono F.size);clear F G c1 c2 ab O;go_wp2_with fail
  refine(K8 m _ bf).mono ?_;rintro e w' ⟨rfl,nq,rfl⟩;rw[ay.out];go_wp2;go_ret3
  have aa:¬C5 l m=0:=by rw[H.out];decide
  exact⟨JX (by unfold Ff;rw[nC aa]) (by unfold DA;rw[nB aa];rfl) (by rw[H.out];rfl),rz R _⟩
 have H:Hid (C5 l m=0):=by show _=_;unfold C5;rw[nC (by simpa using I.out),nC (by rw[ay.out];exact az)]
 have bi:Ef l:=((NQ l).1 I.out).2.2;have ab:=h.below F;have O:((w.alloc (.cells #[.slice a l.length cap] 51)).alloc (.cells #[.string m] 9)).heap.size=w.heap.size+2:=by simp
 have bc:(c==0)=false:=by simpa using az
 clear az;obtain⟨p,bb⟩:∃p,plc l m=p:=⟨_,rfl⟩;have bk:=hid bb;have Q:=Zp (m:=m) bi;rw[bb]at Q;clear bb;go_enter func79,ntmps79;go_wp2_with fail
 refine(K5 a cap l _ ar a7 ab).mono ?_;rintro e J ⟨rfl,G⟩;rw[Co I.out];have a8:Ce J w.heap.size 0 (.slice a l.length cap):=(G.cell (p:=(aD w.heap.size 0)) (by rw[O];simp)).trans c1;have ba:Ce J (w.heap.size+1) 0 (.string m):=(G.cell (p:=(aD (w.heap.size+1) 0)) (by rw[O];simp)).trans c2;have R:=F.trans (G.mono F.size);clear F G c1 c2 ab O;go_wp2_with fail
 refine(K8 m _ bf).mono ?_;rintro e w' ⟨rfl,nq,rfl⟩;rw[ay.out];have ad:=rz R nq;have T:Ce (J.drewN nq) w.heap.size 0 (.slice a l.length cap):=a8;have V:Ce (J.drewN nq) (w.heap.size+1) 0 (.string m):=ba;clear a8 ba R;generalize J.drewN nq=bx at ad T V⊢;generalize w.heap.size=Y at T V⊢;go_wp2_with fail
 refine(Xb Y (Y+1) cap a l m _ ar bi (h.below ad) T V).mono ?_;rintro e bl ⟨rfl,a1⟩;rw[bk.out];have bA:Ce bl Y 0 (.slice a l.length cap):=(a1.cell (p:=(aD Y 0)) (bL T)).trans T;have bB:Ce bl (Y+1) 0 (.string m):=(a1.cell (p:=(aD (Y+1) 0)) (bL V)).trans V;have a6:=ad.trans (a1.mono ad.size);have bo:=h.below a6;clear T V a1 ad h;have bd:Hid (Ff l m=p):=by show _=_;unfold Ff;rw[nD H.out,bk.out]
 have be:Hid (DA l m=(C7 l m).isSome):=by show _=_;unfold DA;rw[nF H.out];rfl
 rcases Q with⟨bp,x,hx,Q⟩|⟨bs,Q⟩
 ·have bu:(p:Int)<(l.length:Int):=by omega
  rcases bo with rfl|⟨b,bC,rfl,bn⟩
  ·simp at bp
  obtain⟨bF,_⟩:=bn p x hx;clear bn hx;rcases Q with⟨ak,ao⟩|⟨ak,ao⟩
  ·have bv:(x.n.toList==m.toList)=true:=by rw[ak];simp
   have ap:Hid (DA l m=true):=by show _=_;rw[be.out,ao];rfl
   clear ak ao;go_wp2;go_quiet (fail)
   go_wp2;go_ret3
   exact⟨JX bd.out ap.out (Co H.out),rz a6 _⟩
  ·have bv:(x.n.toList==m.toList)=false:=by simp;exact fun e=>ak (Jo e)
   have ap:Hid (DA l m=false):=by show _=_;rw[be.out,ao];rfl
   clear ak ao;go_wp2;go_quiet (fail)
   go_wp2;go_ret3
   exact⟨JX bd.out ap.out (Co H.out),rz a6 _⟩
 ·have bu:decide ((p:Int)<(l.length:Int))=false:=nB (by omega)
  have ap:Hid (DA l m=false):=by show _=_;rw[be.out,Q];rfl
  have bG:¬p<l.length:=by omega
  clear Q bs;go_wp2;go_quiet (fail)
  go_wp2;go_ret3
  exact⟨JX bd.out ap.out (Co H.out),rz a6 _⟩
theorem Qv(n:Nat):(Builtin.zeroCells (Value.agg #[.string ⟨#[]⟩,.string ⟨#[]⟩]).cells n).size=n*2:=by rw[size_zeroCells];rfl
theorem Zb(n:Nat)(w:World)(aa:n≤1000):Calls prog 149 #[.slice none 0 0,iN n] w fun e w'=>(∃v,e=.returned v∧w'.ownsRow w.heap.size 122 2 v 0 (Cr []))∧Below w.heap.size w w':=by
 by_cases V:n=0
 ·subst V
  go_enter func149,ntmps149;go_wp2;go_ret;exact⟨⟨_,rfl,rB _ _ _ _⟩,nv _ _⟩
 obtain⟨Y,J,O,Q,R⟩:=info_parts Tryz.infoA;have F:∀G,(Builtin.append_ #[51,3] G #[nL,iN n]).run prog w=.ok (sL w.heap.size 0 n (grownCap w n 0 122)) (w.drew.alloc (.cells (Builtin.zeroCells (Value.agg #[.string ⟨#[]⟩,.string ⟨#[]⟩]).cells n++Builtin.zeroCells (Value.agg #[.string ⟨#[]⟩,.string ⟨#[]⟩]).cells (grownCap w n 0 122-n)) 122)):=fun G=>Lib.run_append_nil_zeros w 51 3 G 122 Y _ .i64 .i64 underlying51 underlying3 J O n (by omega) (by rw[Q];decide) (by omega) (by rw[R];omega);have Z:=grownCap_ge w n 0 122
 have H:grownCap w n 0 122≤maxLen:=grownCap_le_maxLen w n 0 122 (by unfold maxLen;omega)
 have I:(w.drew.alloc (.cells (Builtin.zeroCells (Value.agg #[.string ⟨#[]⟩,.string ⟨#[]⟩]).cells n++Builtin.zeroCells (Value.agg #[.string ⟨#[]⟩,.string ⟨#[]⟩]).cells (grownCap w n 0 122-n)) 122)).ownsRow w.heap.size 122 2 (sL w.heap.size 0 0 (grownCap w n 0 122)) 0 []:=
  World.ownsRow_made w.drew _ _ (nn _) H (by rw[Array.size_append,Qv,Qv];omega)
 have T:Below w.heap.size w (w.drew.alloc (.cells (Builtin.zeroCells (Value.agg #[.string ⟨#[]⟩,.string ⟨#[]⟩]).cells n++Builtin.zeroCells (Value.agg #[.string ⟨#[]⟩,.string ⟨#[]⟩]).cells (grownCap w n 0 122-n)) 122)):=(rz (nv _ w) 1).alloc (nn _) _;generalize w.drew.alloc (.cells (Builtin.zeroCells (Value.agg #[.string ⟨#[]⟩,.string ⟨#[]⟩]).cells n++Builtin.zeroCells (Value.agg #[.string ⟨#[]⟩,.string ⟨#[]⟩]).cells (grownCap w n 0 122-n)) 122)=ab at F I T;generalize grownCap w n 0 122=c at F Z H I;have ad:decide (0<n)=true:=nF (by omega);have ak:=nF (by omega);unfold maxLen at H;clear J O Q R;go_enter func149,ntmps149;go_wp2_with (at_builtin;refine Lib.wpList_append_run _ rfl _ _ _ _ rfl _ _ rfl rfl _ _ (F _) ?_)
 go_wp2;go_ret;exact⟨⟨_,rfl,I⟩,T⟩
structure Ir where
 a:Option Addr
 c:Nat
 l:List Kv
def Di:List Ir→List Kv
 |[]=>[]
 |p::ps=>p.l++Di ps
theorem MU:∀A B:List Ir,Di (A++B)=Di A++Di B
 |[],_=>rfl
 |p::A,B=>by simp[Di,MU A B]
theorem Qj{F:List Ir}{k:Nat}{p:Ir}(h:F[k]? =some p):Di (F.take (k+1))=Di (F.take k)++p.l:=by
 rw[rv,h,MU];simp[Di]
theorem Ye(F:List Ir)(k:Nat):(Di (F.take k)).length≤(Di F).length:=by
 have:=MU (F.take k) (F.drop k);rw[ry]at this;rw[this,nM];omega
theorem P7(Q ao:Nat)(F:List Ir)(w:World)(be:F.length≤10)(ap:(Di F).length≤1000)
 (Y:∀i p,F[i]? =some p→w.cell? (aD Q i)=some (.slice p.a p.l.length p.c)∧Bp w.cell? p.a p.l):
 Calls prog 106 #[sL Q 0 F.length ao] w fun e w'=>(∃v,e=.returned v∧w'.ownsRow w.heap.size 122 2 v (Di F).length (Cr (Di F)))∧Below w.heap.size w w':=by
 obtain⟨ar,ay,az,a1,a6⟩:=info_parts Tryz.infoA;have Z:=hid Y;have aa:=hid (Ye F);clear Y;go_enter func106,ntmps106;go_wp2;go_loop [11,3] (fun i s=>∃k:Nat,k≤F.length∧i=iN k∧s=iN (Di (F.take k)).length) (fun i _=>F.length-(intOf i).toNat)
 case atStart=>exact⟨0,nN _,rfl,rfl⟩
 case round=>
  obtain⟨k,a7,rfl,rfl⟩:=hrel;by_cases R:k<F.length
  ·obtain⟨p,I⟩:∃p,F[k]? =some p:=⟨F[k],by simp[R]⟩
   obtain⟨q,_⟩:=Z.out k p I;have a8:(k:Int)<(F.length:Int):=by omega
   have J:=hid (Qj I);have T:(Di (F.take k)).length+p.l.length≤1000:=by
    have:=aa.out (k+1);rw[J.out,nM]at this;omega
   have ab:Hid ((Di (F.take (k+1))).length=(Di (F.take k)).length+p.l.length):=by show _=_;rw[J.out,nM]
   clear I J;generalize(Di (F.take k)).length=s at T ab⊢;go_wp2;go_round
   case rel=>exact⟨k+1,by omega,by go_num,by rw[ab.out];go_num⟩
   case measure=>simp[intOf];omega
  ·have O:F.take k=F:=n1 (by omega)
   rw[O];clear O;go_wp2_with fail
   refine(Zb _ _ ap).mono ?_;rintro e bf ⟨⟨v,rfl,G⟩,H⟩;go_wp2;go_loopw [27,6] (fun i s wr=>∃k:Nat,k≤F.length∧i=iN k∧wr.ownsRow w.heap.size 122 2 s (Di (F.take k)).length (Cr (Di (F.take k)))∧Below w.heap.size w wr) (fun i _ _=>F.length-(intOf i).toNat)
   case atStart=>exact⟨0,nN _,rfl,G,H⟩
   case round=>
    obtain⟨k,a7,rfl,G,H⟩:=hrel;by_cases R:k<F.length
    ·obtain⟨p,I⟩:∃p,F[k]? =some p:=⟨F[k],by simp[R]⟩
     obtain⟨q,ad⟩:=Z.out k p I;have a8:(k:Int)<(F.length:Int):=by omega
     have J:=hid (Qj I);have T:(Di (F.take k)).length+p.l.length≤1000:=by
      have:=aa.out (k+1);rw[J.out,nM]at this;omega
     have q2:Ce wr Q k (.slice p.a p.l.length p.c):=(H.cell (p:=(aD Q k)) (bL q)).trans q;have V:=H.size;have ba:=ad.below H;clear I q ad;generalize Di (F.take k)=P at T J G⊢;go_wp2_with (at_builtin;refine DZ _ rfl (.tmp 31) (.tmp 32) 51 rfl w.heap.size 122 ar (.agg #[.string ⟨#[]⟩,.string ⟨#[]⟩]) 2 32 underlying51 ay az a1 a6 rfl (by decide) _ P.length (Cr P) rfl G p.a p.l.length p.c (Cr p.l) rfl (KT p.l) (QH ba) (Lu _) (by unfold maxLen;omega) (by omega) V ?_)
     intro bg bi bb ak _;have bd:=H.grown ak V (fun q e=>(G.lt q e).1);clear ak G H V;go_wp2;go_roundw
     case rel=>exact⟨k+1,by omega,by go_num,by rw[J.out,nM,M1];exact bb,bd⟩
     case measure=>simp[intOf];omega
    ·have O:F.take k=F:=n1 (by omega)
     rw[O]at G;clear O;go_wp2;go_ret;exact⟨⟨_,rfl,G⟩,H⟩
theorem Bp.take{w:World}{a:Option Addr}{l:List Kv}(h:Bp w.cell? a l)(k:Nat):Bp w.cell? a (l.take k):=by
 rcases h with rfl|⟨b,G,H,I⟩
 ·exact .inl (by simp)
 ·refine .inr ⟨b,G,H,fun i x F=>I i x ?_⟩
  rw[rL]at F;split at F
  ·exact F
  ·cases F
theorem Bp.drop{w:World}{a:Option Addr}{l:List Kv}(h:Bp w.cell? a l)(k:Nat):Bp w.cell? (a.map (·.add (k*2))) (l.drop k):=by
 rcases h with rfl|⟨b,F,rfl,J⟩
 ·exact .inl (by simp)
 ·refine .inr ⟨b,F+k*2,?_,fun i x G=>?_⟩
  ·by_cases O:k*2=0<;>simp[Addr.add,O]
  ·rw[rM]at G
   obtain⟨H,I⟩:=J _ x G;have e:F+(k+i)*2=F+k*2+i*2:=by omega
   rw[e]at H I;exact⟨H,I⟩
theorem Bp.none{w:World}{a:Option Addr}{l:List Kv}(h:l.length=0):Bp w.cell? a l:=.inl (nX h)
theorem Ob{s F:BA}{e G:Value}(H:F=s)(I:G=e):Ending.returned (.tuple #[.string s,e])=.returned (.tuple #[.string F,G]):=by rw[H,I]
theorem bW(a:Option Addr)(cap:Nat)(l:List Kv)(m:BA)(w:World)(O:l.length≤1000)(Q:EP l)(R:m.size≤1000)(h:Bp w.cell? a l):
 Calls prog 48 #[.slice a l.length cap,.string m] w fun e w'=>e=.returned (.tuple #[.string (Gp l m),Am (FU l m)])∧Below w.heap.size w w':=by
 obtain⟨P,T⟩:=AQ (Ff l m);obtain⟨ay,V⟩:=AQ (DA l m);by_cases I:C5 l m=0;rotate_left
 ·have F:Hid (C5 l m≠0):=I
  have G:Hid (FU l m=C5 l m):=by show _=_;unfold FU;rw[nD F.out]
  have J:Hid (Gp l m=ByteArray.empty):=by show _=_;unfold Gp;rw[nD (by rw[G.out];exact F.out)]
  clear I;go_enter func48,ntmps48;go_wp2_with fail
  refine(E9 a cap l m _ O Q R h).mono ?_;rintro e Z ⟨rfl,H⟩;rw[T.out,V.out,AG rfl F.out];go_wp2;go_ret2;exact⟨Ob J.out (by rw[G.out,AG rfl F.out];rfl),H⟩
 have F:=hid I;have ao:Ef l:=(Js.1 I).1.2.2;clear I;cases hfd:C7 l m with
 |none=>
  have G:Hid (FU l m=5):=by show _=_;unfold FU;rw[nC (by simpa using F.out),hfd,nD rfl]
  have J:Hid (Gp l m=ByteArray.empty):=by show _=_;unfold Gp;rw[nD (by rw[G.out];decide)]
  have Y:Hid (DA l m=false):=by show _=_;unfold DA;rw[hfd];simp
  clear hfd V;go_enter func48,ntmps48;go_wp2_with fail
  refine(E9 a cap l m _ O Q R h).mono ?_;rintro e Z ⟨rfl,H⟩;rw[T.out,Y.out,Co F.out];go_wp2;go_ret2;exact⟨Ob J.out (by rw[G.out];rfl),H⟩
 |some x=>
  obtain⟨hx,_⟩:=Mh m ao hfd;have G:Hid (FU l m=0):=by show _=_;unfold FU;rw[nC (by simpa using F.out),hfd,nC (by simp)]
  have J:Hid (Gp l m=x.v):=by show _=_;unfold Gp;rw[nC (by simpa using G.out),hfd]
  have Y:Hid (DA l m=true):=by show _=_;unfold DA;rw[hfd,nF F.out];rfl
  have aa:Hid (Ff l m=plc l m):=by show _=_;unfold Ff;rw[nD F.out]
  have ab:=(ny.1 hx).1;clear hfd V T;generalize plc l m=p at aa hx ab;have az:(p:Int)<(l.length:Int):=by omega
  have h':=h;rcases h' with rfl|⟨b,ap,rfl,ad⟩
  ·simp at ab
  obtain⟨ak,q1⟩:=ad p x hx;have ar:b<w.heap.size:=bL ak;clear ad hx;go_enter func48,ntmps48;go_wp2_with fail
  refine(E9 _ cap l m _ O Q R h).mono ?_;rintro e Z ⟨rfl,H⟩;rw[aa.out,Y.out,Co F.out];have q2:=(H.cell (p:=(aD b (ap+p*2+1))) ar).trans q1;clear ak q1 h;go_wp2;go_ret2;exact⟨Ob J.out (Co G.out),H⟩
theorem LH(G:Nat)(A B C:Ir)(L:List Kv)(w:World)(Q:L=A.l++(B.l++C.l))(R:L.length≤1000)
 (T:w.cell? (aD G 0)=some (.slice A.a A.l.length A.c)) (V:w.cell? (aD G 1)=some (.slice B.a B.l.length B.c)) (Y:w.cell? (aD G 2)=some (.slice C.a C.l.length C.c))
 (Z:Bp w.cell? A.a A.l) (aa:Bp w.cell? B.a B.l) (ab:Bp w.cell? C.a C.l):
 Calls prog 106 #[sL G 0 3 3] w fun e w'=>(∃I H,e=.returned (.slice I L.length H)∧L.length≤H∧H≤9223372036854775807∧Bp w'.cell? I L)∧Below w.heap.size w w':=by
 have J:Di [A,B,C]=L:=by rw[Q];simp[Di]
 refine(P7 G 3 [A,B,C] w (by simp) (by rw[J];exact R) ?_).mono ?_
 ·intro i p F
  match i with
  |0=>simp at F;subst F;exact⟨T,Z⟩
  |1=>simp at F;subst F;exact⟨V,aa⟩
  |2=>simp at F;subst F;exact⟨Y,ab⟩
  |j+3=>simp at F
 ·rintro e w' ⟨⟨v,rfl,O⟩,ad⟩
  rw[J]at O;obtain⟨a,cap,ak,g1,ao,g3⟩:=M3 O;exact⟨⟨a,cap,by rw[ak],g1,by omega,g3⟩,ad⟩
theorem Z8(G:Nat)(A B:Ir)(L:List Kv)(w:World)(Q:L=A.l++B.l)(R:L.length≤1000)
 (T:w.cell? (aD G 0)=some (.slice A.a A.l.length A.c)) (V:w.cell? (aD G 1)=some (.slice B.a B.l.length B.c))
 (Y:Bp w.cell? A.a A.l) (Z:Bp w.cell? B.a B.l):
 Calls prog 106 #[sL G 0 2 2] w fun e w'=>(∃I H,e=.returned (.slice I L.length H)∧L.length≤H∧H≤9223372036854775807∧Bp w'.cell? I L)∧Below w.heap.size w w':=by
 have J:Di [A,B]=L:=by rw[Q];simp[Di]
 refine(P7 G 2 [A,B] w (by simp) (by rw[J];exact R) ?_).mono ?_
 ·intro i p F
  match i with
  |0=>simp at F;subst F;exact⟨T,Y⟩
  |1=>simp at F;subst F;exact⟨V,Z⟩
  |j+2=>simp at F
 ·rintro e w' ⟨⟨v,rfl,O⟩,aa⟩
  rw[J]at O;obtain⟨a,cap,ab,g1,ad,g3⟩:=M3 O;exact⟨⟨a,cap,by rw[ab],g1,by omega,g3⟩,aa⟩
end Go.Proofs.YtofhphibahcniaaGreatDoor
