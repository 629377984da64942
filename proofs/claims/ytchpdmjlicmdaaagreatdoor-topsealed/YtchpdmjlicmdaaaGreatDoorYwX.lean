/- Part: Yw Yh Yl Ab Ah Ai Aj Ak Xzt. -/
import Derived.Test.YtchpdmjlicmdaaaGreatDoorYuX
import Derived.Shelf.SlSorted.Search
set_option maxRecDepth 100000
set_option maxHeartbeats 16000000
namespace Go.Proofs.YtchpdmjlicmdaaaGreatDoor
open Go.RowKit Go.Proofs.Tryz
variable {w:World}{b:Nat}{B:Bx}{x0:Nd}{rM:List Nd}{G cA cB cop:Int}{cdata cname coth cpath m:BA}{l:List Kv}{x:Kv}{a:Option Addr}
theorem EH.new2(w:World):EH w ((w.alloc<|.cells #[.bool false,iN 0,iN 0,iN 0,.bool false,.bool false,iN 0,iN 0,iN 0,.bool false,nL,.bool false,iN 0,iN 0,iN 0,iN 0,.bool false,nL,.string ⟨#[]⟩,nL,iN 0] 216).alloc<|.cells #[.bool false,iN 0,iN 0,iN 0,.bool false,.bool false,iN 0,iN 0,iN 0,.bool false,nL,.bool false,iN 0,iN 0,iN 0,iN 0,.bool false,nL,.string ⟨#[]⟩,nL,iN 0] 216) w.heap.size (w.heap.size+1) [.bool false,iN 0,iN 0,iN 0,.bool false,.bool false,iN 0,iN 0,iN 0,.bool false,nL,.bool false,iN 0,iN 0,iN 0,iN 0,.bool false,nL,.string ⟨#[]⟩,nL,iN 0] [.bool false,iN 0,iN 0,iN 0,.bool false,.bool false,iN 0,iN 0,iN 0,.bool false,nL,.bool false,iN 0,iN 0,iN 0,iN 0,.bool false,nL,.string ⟨#[]⟩,nL,iN 0]:=by
 have G:Bw w<|w.alloc A2:=(NB _ _).alloc (rP _) _;have H:(w.alloc A2).heap.size=w.heap.size+1:=ND _ _;have I:Bw (w.alloc A2)<|(w.alloc A2).alloc A2:=(NB _ _).alloc (rP _) _;refine⟨G.alloc G.size _,by omega,by omega,by omega,λo=>?_,λo=>?_,λq=>?_,λq=>?_,rfl,rfl⟩;all_goals simp_all
noncomputable def Bk.mvS (c:Bk) (x0:Nd) (rM:List Nd) (p o:BA):Int×Nd:=if c.endE p o=0 then(match c.atP true p with
 |.error _=>(0,x0)
 |.ok f=>match c.atP false o with
  |.error _=>(0,x0)
  |.ok t=>if Bo p.data.toList=Bo o.data.toList then(0,x0)else if c.mmE x0 rM f t (Bo p.data.toList) (Bo o.data.toList)=0 then NK c.us c.gs x0 rM (Bo p.data.toList) (Bo o.data.toList) f.1.d else(c.mmE x0 rM f t (Bo p.data.toList)<|Bo o.data.toList,x0))else(c.endE p o,x0)
theorem eS(h:A6 w b B)(b6:BN B x0 rM)(b7:Int)(d5:Ce w (1) 0<|iN b7):
 Calls prog 127 #[pO b 0,Fr cop cpath coth cname cdata cA cB] w λe w'=>e=.returned (Ao (fin B.q x0<|B.cor.mvS x0 rM cpath coth).1)/\De w w' b B rM (fin B.q x0<|B.cor.mvS x0 rM cpath coth).2 B.crd:=by
 obtain⟨S,G⟩:=Aq<|B.cor.mvS x0 rM cpath coth;rw[G.out];obtain⟨⟨d6,d7⟩,a1⟩:∃R,Hid<|fin B.q x0 S=R:=⟨_,rfl⟩;rw[a1.out];unfold Bk.mvS at G;have bf:Bw w<|w.alloc<|AY cop cpath coth cname cdata cA cB:=(NB _ _).alloc (rP _) _;have b9:=hid bf;have d8:Hid (Calls prog 170 #[pO b 0,Fr cop cpath coth cname cdata cA cB] (w.alloc<|AY cop cpath coth cname cdata cA cB) λe w'=>av B w' cpath coth (B.cor.endE cpath coth) e/\Bw (w.alloc<|AY cop cpath coth cname cdata cA cB) w'):=jl (h.below bf) b6 b7<|Aj bf d5;have bg:=hid h;have J:=hid b6;have bi:=hid<|De.stay bg J;have ce:Hid (∀E,E≠0->S=(E,x0)->d6=E/\d7=x0):=λE O e=>Jw O<|e▸a1;go_enter func127,ntmps127
 go_wp2_with fail
 generalize(w.alloc<|AY cop cpath coth cname cdata cA cB)=e1 at*;go_call d8 as e w2 ⟨hA,q2⟩
 obtain⟨cs,I,E,rfl,⟨bk,bl⟩,⟨d9,eb⟩,cf,ed⟩:=hA;rw[<-cf]at G;clear cf;have a6:=EH.new2 w2;have ee:=En (P:=prog) a6.rowA a6.fa (by rw[bk];rfl) d9;have a7:=a6.setA cs bk;have ef:Hid (∀p H P X,Dr B w2 p H P X->Dr B (((w2.alloc A2).alloc A2).setCells w2.heap.size 0 cs) p H P X):=λp H P X hx=>(hx.below ((NB _ _).alloc (rP _) _ |>.alloc (by rw[ND];omega) _)).set (Eg _).2 a6.a cs;have ch:=En (P:=prog) a7.rowB a7.fb (by rw[bl];rfl) eb
 have Z:=hid<|a7.setB I bl;have a8:Hid (∀p H P X,Dr B w2 p H P X->Dr B ((((w2.alloc A2).alloc A2).setCells w2.heap.size 0 cs).setCells (w2.heap.size+1) 0 I) p H P X):=λp H P X hx=>(ef p H P X hx).set (Eg _).2 a7.b I;generalize(((w2.alloc A2).alloc A2).setCells w2.heap.size 0 cs).setCells (w2.heap.size+1) 0 I=ar at ch Z a8
 generalize((w2.alloc A2).alloc A2).setCells w2.heap.size 0 cs=e2 at ee ch;have eg:=Cn cs;unfold Value.cells at eg;have ej:=Cn I;unfold Value.cells at ej;have ek:=hid bk;have em:=hid bl;have cl:=hid<|b9.trans<|q2.mono b9.size;have aw:=hid<|cl.trans<|Z.bel.mono cl.size;have co:Hid _:=ed;by_cases O:E=0
 .subst O
  rw[NS rfl]at G;obtain⟨⟨cr,cx⟩,hF,cD⟩:=co rfl;obtain⟨f,ba,cF,bn,bo,bp,ab,bq,c3⟩:=(a8 _ _ _ _ hF).both.1 rfl;obtain⟨t,bs,c4,bu,bx,c5,ad,en,c6⟩:=(a8 _ _ _ _ cD).both.1 rfl;rw[c3,c6,<-bn,<-bu]at G;replace G:Hid<|(if f.ry=t.ry then(0,x0)else if B.cor.mmE x0 rM f.pur t.pur f.ry t.ry=0 then NK B.M.us B.M.gs x0 rM f.ry t.ry f.t.d else(B.cor.mmE x0 rM f.pur t.pur f.ry t.ry,x0))=S:=G.out;obtain⟨bb,bA⟩:∃m,Hid<|B.cor.mmE x0 rM f.pur t.pur f.ry t.ry=m:=⟨_,rfl⟩;rw[bA.out]at G;have ak:=I1 cF;rw[<-bn]at ak;have al:=I1 c4;rw[<-bu]at al;replace bq:=bq rfl;have c8:Hid (∀w',Bw ar w'->Calls prog 172 #[pO b 0,Cg cs,Cg I] w' λe eo=>e=.returned (Ao bb)/\Bw w' eo):=λw' hb=>by
   rw[ba,bs,<-bA.out];exact bU (bg.below<|aw.trans<|hb.mono aw.size) J f t ⟨ab.t,ab.dir,ab.nd.on<|Ai hb,ab.there,ab.no⟩ ⟨ad.t,ad.dir,ad.nd.on<|Ai hb,ad.there,ad.no⟩ (bo.on<|Ai hb) (bx.on<|Ai hb) ak.2.1 al.2.1 bp
  have c9:Ce ar w2.heap.size 0<|.bool f.t.d:=(Z.a 0).trans (by rw[ba];obtain⟨⟨da,dd,de,dg,dj⟩,dir,na,nc,ry,dk,⟨dm,dn,dp,dr,ds,du,dw,xs⟩,dx,ly⟩:=f;rfl);have dy:Ce ar w2.heap.size 10<|.slice f.na f.ry.length f.nc:=(Z.a 10).trans (by rw[ba];obtain⟨⟨da,dd,de,dg,dj⟩,dir,na,nc,ry,dk,⟨dm,dn,dp,dr,ds,du,dw,xs⟩,dx,ly⟩:=f;rfl);have dz:Ce ar (w2.heap.size+1) 10<|.slice t.na t.ry.length t.nc:=(Z.b 10).trans (by rw[bs];obtain⟨⟨da,dd,de,dg,dj⟩,dir,na,nc,ry,dk,⟨dm,dn,dp,dr,ds,du,dw,xs⟩,dx,ly⟩:=t;rfl);have bB:=hid bo;have bC:=hid bx;have dT:=hid bp;have d0:=hid c5;have az:Hid<|(∀s∈f.ry,Bf s=true)/\f.ry.length<=6/\f.ry≠[]:=⟨ak.1,ak.2.1,ak.2.2 cr⟩;have bd:Hid<|(∀s∈t.ry,Bf s=true)/\t.ry.length<=6/\t.ry≠[]:=⟨al.1,al.2.1,al.2.2 cx⟩;obtain⟨ep,bF⟩:∃a,Hid<|f.na=a:=⟨_,rfl⟩;obtain⟨eq,bG⟩:∃a,Hid<|f.nc=a:=⟨_,rfl⟩;obtain⟨d1,ao⟩:∃a,Hid<|f.ry=a:=⟨_,rfl⟩;obtain⟨er,bH⟩:∃a,Hid<|t.na=a:=⟨_,rfl⟩;obtain⟨es,bY⟩:∃a,Hid<|t.nc=a:=⟨_,rfl⟩;obtain⟨d2,ap⟩:∃a,Hid<|t.ry=a:=⟨_,rfl⟩;obtain⟨e3,b0⟩:∃a,Hid<|f.t.d=a:=⟨_,rfl⟩;rw[bF.out,ao.out]at bB;rw[bH.out,ap.out]at bC;rw[bG.out,ao.out]at dT;rw[bY.out,ap.out]at d0;rw[ao.out]at az;rw[ap.out]at bd;rw[b0.out]at c9;rw[bF.out,bG.out,ao.out]at dy;rw[bH.out,bY.out,ap.out]at dz;rw[ao.out,ap.out,b0.out]at G;have eu:=hid c8.out;have ev:=hid<|lW ep er eq es d1 d2 ar (by have:=az.out.2.1;omega) bB bC;rw[show Ao 0=Value.nilIface from rfl];clear co a8 hF cD ba cF bn bo bp ab bq c3 bs c4 bu bx c5 ad en c6 ak al c8 bA cr cx bF bG ao bH bY ap b0 f t;go_wp2_with fail
  go_call ev as e w9 ⟨rfl,q9⟩
  obtain⟨ew,b1⟩:∃r,Hid<|decide (d1=d2)=r:=⟨_,rfl⟩;rw[b1.out];have b2:=hid<|aw.trans<|q9.mono aw.size;have d3:=hid<|Z.below q9;cases ew with
  |true=>
   rw[NS<|C6 b1.out]at G;obtain rfl:=G.out;obtain⟨rfl,rfl⟩:=Prod.mk.inj<|(ZA J).symm.trans a1;go_wp2;go_ret;exact⟨rfl,bi _ b2⟩
  |false=>
   rw[NO<|of_decide_eq_false b1.out]at G;have ey:=hid<|eu.out w9 q9;have ez:=Aj q9 c9;have eB:=Aj q9 dy;have eD:=Aj q9 dz;have eE:=hid<|bB.on<|Ai q9;have eF:=hid<|bC.on<|Ai q9;go_upto_region 4 with fail
   refine tn ?_;refine OA rfl _ rfl ?_;simp only[tk];refine wpList_load_mid rfl _ _ rfl _ _ rfl cs _ d3.rowA rfl rfl (by rw[ek.out];rfl) ?_;simp only[tk];refine wpList_load_mid rfl _ _ rfl _ _ rfl I _ d3.rowB rfl rfl (by rw[em.out];rfl) ?_;simp only[tk];go_wp2_with fail
   go_call ey.out as e w10 ⟨rfl,q10⟩
   have b4:=hid<|b2.trans<|q10.mono b2.size;have f0:=Aj q10 ez;have f1:=Aj q10 eB;have f2:=Aj q10 eD;have eL:=hid<|eE.on<|Ai q10;have eX:=hid<|eF.on<|Ai q10;by_cases be:bb=0
   .subst be
    rw[NS rfl]at G;have d4:=hid<|Oo (bg.below b4) (NB _ _) J<|ix (NB _ _) J.fine J.sz eL az.1 az.2.2 az.2.1 dT eX bd.1 bd.2.2 bd.2.1 d0 f0 f1 f2;rw[G.out,a1.out]at d4;rw[show Ao 0=Value.nilIface from rfl];go_wp2_with fail
    go_call d4 as e wH ⟨rfl,hT⟩
    have e0:=hid<|hT.up b4;go_wp2;go_ret;exact⟨rfl,e0⟩
   .have aA:=AP (n:=bb) rfl be
    rw[aA];go_wp2;go_ret;obtain⟨rfl,rfl⟩:=ce bb be (by rw[<-G.out,NO be]);exact⟨by rw[aA];rfl,bi _ b4⟩
 .have aA:=AP (n:=E) rfl O
  rw[aA];go_wp2;go_ret;obtain⟨rfl,rfl⟩:=ce E O (by rw[<-G.out,NO O]);exact⟨by rw[aA];rfl,bi _ aw⟩
theorem Jc.below{w':World}{ry:List BA}{f:Fd}(h:Jc B w ry f)(hb:Bw w w'):Jc B w' ry f:=⟨h.t,h.dir,h.nd.on<|Ai hb,h.there,h.no⟩
theorem gY{P:Program}{G:Array Oper}{rM:List Oper}{o:Oper}{a:Act}{Q:Exit->Act->World->Prop}(I:o.guard=none)(H:TypeId)(x:Operand)(J:o.op=.load H x)(v:Value)(O:(Instr.loadAt H<|a.eval x).run P w=.ok v w)(h:wpList P G Q rM (a.put o.dst v) w):wpList P G Q (o::rM) a w:=
 wpList_plain I λ_ Z=>by
  unfold Oper.wp execOp;simp only[J,O,Sem.run_bind,Result.andThen_ok,Sem.run_pure];exact Z _ _ h
noncomputable def Bk.makS (c:Bk) (x0:Nd) (rM:List Nd) (cA:Int) (p:BA):Int×Nd:=if 0<=cA/\cA<=4095 then(match c.atP false p with
 |.error E=>(E,x0)
 |.ok f=>if f.2.2.1=true then(6,x0)else c.crS x0 rM f.2.1 (Bo p.data.toList) 2 cA ⟨#[]⟩)else(1,x0)
theorem aY(h:A6 w b B)(ao:BN B x0 rM)(bd:Int)(bq:Ce w (1) 0<|iN bd):
 Calls prog 125 #[pO b 0,Fr cop cpath coth cname cdata cA cB] w λe w'=>e=.returned (Ao (fin B.q x0<|B.cor.makS x0 rM cA cpath).1)/\De w w' b B rM (fin B.q x0<|B.cor.makS x0 rM cA cpath).2 B.crd:=by
 obtain⟨S,G⟩:=Aq<|B.cor.makS x0 rM cA cpath;rw[G.out];obtain⟨⟨be,bf⟩,ap⟩:∃R,Hid<|fin B.q x0 S=R:=⟨_,rfl⟩;rw[ap.out];unfold Bk.makS at G;have ar:Bw w<|w.alloc<|AY cop cpath coth cname cdata cA cB:=(NB _ _).alloc (rP _) _;have p1:Ce (w.alloc<|AY cop cpath coth cname cdata cA cB) w.heap.size 1<|.string cpath:=rO _ _ _ _ rfl;have bs:Ce (w.alloc<|AY cop cpath coth cname cdata cA cB) w.heap.size 5<|iN cA:=rO _ _ _ _ rfl;have ab:=hid ar;have bu:Hid (Calls prog 155 #[pO b 0,.string cpath] (w.alloc<|AY cop cpath coth cname cdata cA cB) λe w'=>Dr B w' cpath false (B.cor.atP false cpath) e/\Bw (w.alloc<|AY cop cpath coth cname cdata cA cB) w'):=by
  go_call Rk (h.below ar) ao.good cpath (Eg _).1 (Eg _).2 bd (Aj ar bq) as e w' ⟨h1,h2⟩
  exact⟨PP ao.good h1,h2⟩
 have bg:=hid h;have bi:=hid ao;have aw:=hid<|De.stay bg bi;have az:Hid (∀E,E≠0->S=(E,x0)->be=E/\bf=x0):=λE H e=>Jw H<|e▸ap;have bx:Hid (∀I,Calls prog 160 #[iN cA] I λe w'=>e=.returned (.bool<|decide (0<=cA/\cA<=4095))/\I=w'):=λI=>Q0 I cA
 go_enter func125,ntmps125;go_wp2_with fail
 go_call bx _ as e wq ⟨rfl,rfl⟩
 by_cases J:0<=cA/\cA<=4095
 .rw[NY J]
  have bA:=hid J;rw[NS J]at G;go_wp2_with fail
  generalize(w.alloc<|AY cop cpath coth cname cdata cA cB)=I at*;go_call bu as e w2 ⟨hA,q2⟩
  obtain⟨cs,E,rfl,bk,bB,bC,bF⟩:=hA;obtain⟨ad,cx,aA,a1,bl⟩:=JP w2 cs bk bB;have bG:=Cn cs;unfold Value.cells at bG;have bH:=hid bk;have bn:=hid<|q2.trans<|a1.out.mono q2.size;have ak:=hid<|ab.trans<|bn.mono ab.size;have bY:Hid _:=bC;have b0:Hid _:=bF;have cD:=hid<|Rz ab.size q2.size;by_cases H:E=0
  .subst H
   obtain⟨f,O,a6,al,a7,a8,ba,bo,bb⟩:=bY rfl;rw[bb]at G;have Z:=I1 a6;rw[<-al]at Z;rw[<-al]at G;replace G:Hid<|(if f.there=true then(6,x0)else B.cor.crS x0 rM f.dir f.ry 2 cA ⟨#[]⟩)=S:=G.out;have cF:=Aj bn bs;cases hth:f.there with
   |true=>
    replace G:=hid<|(NS hth).symm.trans G;have b1:Ce ad w2.heap.size 11<|.bool true:=aA 11 _ (by rw[O];obtain⟨t,dir,na,nc,ry,b2,⟨b4,b6,b7,b9,ce,cf,ch,xs⟩,cl,ly⟩:=f;dsimp only at hth;subst hth;rfl);rw[show Ao 0=Value.nilIface from rfl];clear O a6 al a7 a8 ba bo bb Z bl;go_wp2;go_ret;obtain⟨rfl,rfl⟩:=az 6 oD<|G.symm;exact⟨rfl,aw _ ak⟩
   |false=>
    replace G:=hid<|(NO (by simp[hth])).symm.trans G;have co:Hid (Calls prog 161 #[pO b 0,Cg cs,.agg #[iN 2,iN cA,iN 0,iN 0,.bool false,nL,.string ⟨#[]⟩,nL]] ad λe w'=>e=.returned (Ao be)/\De ad w' b B rM bf B.crd):=by
     have e:=UY (bg.below ak) bi (ba.below a1.out) hth (a7.on<|Ai a1.out) Z.1 (by have:=Z.2.1;omega) a8 (kd:=2) (md:=cA) (dat:=⟨#[]⟩) (by exact .inr rfl) bA.out oD;rw[<-O,G.out,ap.out]at e;exact e
    have b1:Ce ad w2.heap.size 11<|.bool false:=aA 11 _ (by rw[O];obtain⟨t,dir,na,nc,ry,b2,⟨b4,b6,b7,b9,ce,cf,ch,xs⟩,cl,ly⟩:=f;dsimp only at hth;subst hth;rfl);rw[show Ao 0=Value.nilIface from rfl];clear O a6 al a7 a8 ba bo bb Z bl;go_upto_region 8 with fail
    refine tn ?_;refine OA rfl _ rfl ?_;simp only[tk];refine wpList_load_mid rfl _ _ rfl _ _ rfl cs _ aA rfl rfl (by rw[bH.out];rfl) ?_;simp only[tk];go_wp2_with fail
    go_call co as e wH ⟨rfl,hT⟩
    have cr:=hid<|hT.up ak;go_wp2;go_ret;exact⟨rfl,cr⟩
  .have bp:=AP (n:=E) rfl H
   rw[bp];go_wp2;go_ret;obtain⟨rfl,rfl⟩:=az E H (by rw[<-G.out,b0.out H]);exact⟨by rw[bp];rfl,aw _ ak⟩
 .rw[NM J]
  go_wp2;go_ret;obtain⟨rfl,rfl⟩:=az 1 oD (by rw[<-G.out];exact NO J);exact⟨rfl,aw _ ab⟩
noncomputable def Bk.wriS (c:Bk) (x0:Nd) (rM:List Nd) (cA:Int) (p dat:BA):Int×Nd:=if 0<=cA/\cA<=4095 then(if 200<dat.size then(1,x0)else match c.atP false p with
 |.error E=>(E,x0)
 |.ok f=>if f.2.2.1=true then(if f.1.d=true then(7,x0)else if c.bx.mayE f.1 2=0 then Hm c.us c.gs x0 rM (Bo p.data.toList) (Nd.otW (IA c.k) dat)else(c.bx.mayE f.1 2,x0))else c.crS x0 rM f.2.1 (Bo p.data.toList) 1 cA dat)else(1,x0)
theorem dY(h:A6 w b B)(bi:BN B x0 rM)(bF:Int)(cf:Ce w (1) 0<|iN bF):
 Calls prog 124 #[pO b 0,Fr cop cpath coth cname cdata cA cB] w λe w'=>e=.returned (Ao (fin B.q x0<|B.cor.wriS x0 rM cA cpath cdata).1)/\De w w' b B rM (fin B.q x0<|B.cor.wriS x0 rM cA cpath cdata).2 B.crd:=by
 obtain⟨S,G⟩:=Aq<|B.cor.wriS x0 rM cA cpath cdata;rw[G.out];obtain⟨⟨bG,bH⟩,a7⟩:∃R,Hid<|fin B.q x0 S=R:=⟨_,rfl⟩;rw[a7.out];unfold Bk.wriS at G;have bk:Bw w<|(w.alloc<|EE b).alloc<|AY cop cpath coth cname cdata cA cB:=((NB _ _).alloc (rP _) _).alloc ((NB _ _).alloc (rP _) _:Bw w _).size _;have p0:Ce ((w.alloc<|EE b).alloc<|AY cop cpath coth cname cdata cA cB) w.heap.size 0<|pO b 0:=Bz<|rO _ _ _ _ rfl;have p1:Ce ((w.alloc<|EE b).alloc<|AY cop cpath coth cname cdata cA cB) (w.heap.size+1) 1<|.string cpath:=rO _ _ _ _ (by rw[ND]);have bY:Ce ((w.alloc<|EE b).alloc<|AY cop cpath coth cname cdata cA cB) (w.heap.size+1) 4<|.string cdata:=rO _ _ _ _ (by rw[ND]);have b0:Ce ((w.alloc<|EE b).alloc<|AY cop cpath coth cname cdata cA cB) (w.heap.size+1) 5<|iN cA:=rO _ _ _ _ (by rw[ND]);have ak:=hid bk;have ch:Hid (Calls prog 155 #[pO b 0,.string cpath] ((w.alloc<|EE b).alloc<|AY cop cpath coth cname cdata cA cB) λe w'=>Dr B w' cpath false (B.cor.atP false cpath) e/\Bw ((w.alloc<|EE b).alloc<|AY cop cpath coth cname cdata cA cB) w'):=by
  refine rQ (Rk (h.below bk) bi.good cpath (Eg _).1 (Eg _).2 bF<|Aj bk cf) ?_;rintro e w' ⟨cl,co⟩;exact⟨PP bi.good cl,co⟩
 have a8:=hid h;have ba:=hid bi;have al:=hid<|De.stay a8 ba;have ao:Hid (∀E,E≠0->S=(E,x0)->bG=E/\bH=x0):=λE ad e=>Jw ad<|e▸a7;have cr:Hid (∀ap,Calls prog 160 #[iN cA] ap λe w'=>e=.returned (.bool<|decide (0<=cA/\cA<=4095))/\ap=w'):=λap=>Q0 ap cA
 go_enter func124,ntmps124;go_wp2_with fail
 refine rQ (cr _) ?_;rintro e d4 ⟨rfl,rfl⟩;by_cases ar:0<=cA/\cA<=4095
 .rw[NY ar]
  have cx:=hid ar;rw[NS ar]at G;by_cases bb:200<cdata.size
  .have cD:decide ((200:Int)<(cdata.size:Int))=true:=NY oM
   have cF:=NY bb;obtain⟨rfl,rfl⟩:=ao 1 oD (by rw[<-G.out];exact NS bb);go_wp2;go_ret;exact⟨rfl,al _ ak⟩
  .have cD:decide ((200:Int)<(cdata.size:Int))=false:=NM oM
   have cF:=NM bb;rw[NO bb]at G;have b1:Hid<|cdata.size<=300:=by show _<=_;omega
   go_wp2_with fail
   generalize((w.alloc<|EE b).alloc<|AY cop cpath coth cname cdata cA cB)=ap at*;refine rQ ch ?_;rintro e O ⟨c3,q2⟩;obtain⟨cs,E,rfl,b2,c4,c5,c6⟩:=c3;obtain⟨I,d5,J,bd,b4⟩:=JP O cs b2 c4;have c8:=Cn cs;unfold Value.cells at c8;have c9:=hid b2;have be:=hid<|q2.trans<|bd.out.mono q2.size;have ab:=hid<|ak.trans<|be.mono ak.size;have da:Hid _:=c5;have dd:Hid _:=c6;have d6:=hid<|Rz ak.size q2.size;by_cases ad:E=0
   .subst ad
    obtain⟨f,H,bl,aw,az,aA,a1,bn,bo⟩:=da rfl;rw[bo]at G;have Z:=I1 bl;rw[<-aw]at Z;have b6:=Aj be p0;have de:=Aj be bY;have d7:=Aj be b0;rw[<-aw]at G;replace G:Hid<|(if f.there=true then(if f.t.d=true then(7,x0)else if B.mayE f.t 2=0 then Hm B.M.us B.M.gs x0 rM f.ry (Nd.otW (IA B.k) cdata)else(B.mayE f.t 2,x0))else B.cor.crS x0 rM f.dir f.ry 1 cA cdata)=S:=G.out;cases hth:f.there with
    |true=>
     replace G:=hid<|(NS hth).symm.trans G;obtain⟨⟨bf,bp,bq,bs,bu⟩,⟨d8,d9,eb,ed,ee⟩,na,nc,ry,dg,⟨dj,dk,dm,dn,dp,dr,ds,xs⟩,du,ly⟩:=f;dsimp only at aw az aA a1 bn Z hth G;subst hth;have bx:=a1.t;dsimp only at bx;have ef:Ce I O.heap.size 0<|.bool bf:=J 0 _ (by rw[H];rfl);have eg:Ce I O.heap.size 1<|iN bp:=J 1 _ (by rw[H];rfl);have ej:Ce I O.heap.size 2<|iN bq:=J 2 _ (by rw[H];rfl);have ek:Ce I O.heap.size 3<|iN bs:=J 3 _ (by rw[H];rfl);have em:Ce I O.heap.size 4<|.bool bu:=J 4 _ (by rw[H];rfl);have dw:Ce I O.heap.size 10<|.slice na ry.length nc:=J 10 _ (by rw[H];rfl);have dx:Ce I O.heap.size 11<|.bool true:=J 11 _ (by rw[H];rfl);have dy:=hid<|KF (a8.below ab) ⟨bf,bp,bq,bs,bu⟩ 2 bx.1;generalize B.mayE ⟨bf,bp,bq,bs,bu⟩ 2=R at*;have dz:=hid<|az.on<|Ai bd.out;have b7:Hid<|(∀s∈ry,Bf s=true)/\ry.length<=6:=⟨Z.1,Z.2.1⟩;have dT:=hid aA;rw[show Ao 0=Value.nilIface from rfl];clear H bl aw az aA a1 bn bo Z J p0 p1 bY b0 b4 bx;cases bf with
     |true=>
      obtain⟨rfl,rfl⟩:=ao 7 oD (by rw[<-G.out];exact NS rfl);go_wp2;go_ret;exact⟨rfl,al _ ab⟩
     |false=>
      replace G:=hid<|(NO oD).symm.trans G;go_wp2_with fail
      refine rQ dy.out ?_;rintro e en ⟨rfl,q9⟩;have bA:=hid<|ab.trans<|q9.mono ab.size;by_cases bg:R=0
      .subst bg
       rw[NS rfl]at G;rw[show Ao 0=Value.nilIface from rfl];have d0:=Aj q9 b6;have d1:=Aj q9 de;have eo:=Aj q9 dw;have b9:=a8.out.below bA;have ce:=hid<|OE b9 ba (dz.on<|Ai q9) b7.1 (by have:=b7.out.2;omega) dT rfl (ei b9 ba b1 d0 d1);rw[G.out,a7.out]at ce;go_wp2_with fail
       refine rQ ce ?_;rintro e d2 ⟨rfl,bB⟩;have bC:=hid<|bB.up bA;go_wp2;go_ret;exact⟨rfl,bC⟩
      .have a6:=AP (n:=R) rfl bg
       rw[a6];go_wp2;go_ret;obtain⟨rfl,rfl⟩:=ao R bg (by rw[<-G.out,NO bg]);exact⟨by rw[a6];rfl,al _ bA⟩
    |false=>
     replace G:=hid<|(NO (by simp[hth])).symm.trans G;have d3:Hid (Calls prog 161 #[pO b 0,Cg cs,.agg #[iN 1,iN cA,iN 0,iN 0,.bool false,nL,.string cdata,nL]] I λe w'=>e=.returned (Ao bG)/\De I w' b B rM bH B.crd):=by
      have e:=UY (a8.below ab) ba (a1.below bd.out) hth (az.on<|Ai bd.out) Z.1 (by have:=Z.2.1;omega) aA (kd:=1) (md:=cA) (dat:=cdata) (by first|exact .inl rfl|exact .inr rfl) cx.out b1;rw[<-H,G.out,a7.out]at e;exact e
     have dx:Ce I O.heap.size 11<|.bool false:=J 11 _ (by rw[H];obtain⟨t,dir,na,nc,ry,dg,⟨dj,dk,dm,dn,dp,dr,ds,xs⟩,du,ly⟩:=f;dsimp only at hth;subst hth;rfl);rw[show Ao 0=Value.nilIface from rfl];clear H bl aw az aA a1 bn bo Z b4;go_upto_region 7 with fail
     refine tn ?_;refine gY rfl _ _ rfl (pO b 0) (by simp[Instr.loadAt,Act.eval,go_sem,b6]) ?_;simp only[tk];refine wpList_load_mid rfl _ _ rfl _ _ rfl cs _ J rfl rfl (by rw[c9.out];rfl) ?_;simp only[tk];go_wp2_with fail
     refine rQ d3 ?_;rintro e d2 ⟨rfl,bB⟩;have bC:=hid<|bB.up ab;go_wp2;go_ret;exact⟨rfl,bC⟩
   .have a6:=AP (n:=E) rfl ad
    rw[a6];go_wp2;go_ret;obtain⟨rfl,rfl⟩:=ao E ad (by rw[<-G.out,dd.out ad]);exact⟨by rw[a6];rfl,al _ ab⟩
 .rw[NM ar]
  go_wp2;go_ret;obtain⟨rfl,rfl⟩:=ao 1 oD (by rw[<-G.out];exact NO ar);exact⟨rfl,al _ ak⟩
noncomputable def Bk.deP (c:Bk) (cop:Int) (p G dat:BA) (H:Int):Except Int Gv:=if DX G=0 then .error 4 else if cop=10/\20<dat.size then .error 1 else match c.atP true p with
 |.error E=>.error E
 |.ok f=>if DX G=1 then(if c.bx.mayE f.1 H=0 then .ok f else .error (c.bx.mayE f.1 H))else(if c.bx.ownE f.1=0 then .ok f else .error (c.bx.ownE f.1))
abbrev NL:=λG H I J O Z (X:World)=>(Ce X G 0 (.bool H)/\Ce X G 1 (iN I)/\Ce X G 2 (iN J)/\Ce X G 3 (iN O)/\Ce X G 4 (.bool Z):Prop)
theorem Ud(h:A6 w b B)(b2:BN B x0 rM)(ar:Int)(cx:Int)(eb:Ce w (1) 0<|iN cx)(ed:cname.size<=1000):
 Calls prog 122 #[pO b 0,Fr cop cpath coth cname cdata cA cB,iN ar] w λe w'=>Dr B w' cpath true (B.cor.deP cop cpath cname cdata ar) e/\Bw w w':=by
 obtain⟨P,ab⟩:=Aq<|B.cor.deP cop cpath cname cdata ar;rw[ab.out];unfold Bk.deP at ab;have cD:Bw w<|w.alloc<|AY cop cpath coth cname cdata cA cB:=(NB _ _).alloc (rP _) _;have b4:Bw w<|(w.alloc<|AY cop cpath coth cname cdata cA cB).alloc A2:=cD.alloc cD.size _;have aA:=hid b4;have p0:Ce ((w.alloc<|AY cop cpath coth cname cdata cA cB).alloc A2) w.heap.size 0<|iN cop:=Bz<|rO _ _ _ _ rfl;have p1:Ce ((w.alloc<|AY cop cpath coth cname cdata cA cB).alloc A2) w.heap.size 1<|.string cpath:=Bz<|rO _ _ _ _ rfl;have p3:Ce ((w.alloc<|AY cop cpath coth cname cdata cA cB).alloc A2) w.heap.size 3<|.string cname:=Bz<|rO _ _ _ _ rfl;have cF:Ce ((w.alloc<|AY cop cpath coth cname cdata cA cB).alloc A2) w.heap.size 4<|.string cdata:=Bz<|rO _ _ _ _ rfl;have c3:Hid<|Bj ((w.alloc<|AY cop cpath coth cname cdata cA cB).alloc A2) (w.heap.size+1) 0 DB:=Bj.new _ _ (by rw[ND]) DB 216;have ee:Hid (∀q,((w.alloc<|AY cop cpath coth cname cdata cA cB).alloc A2).frozen? ⟨w.heap.size+1,q,none⟩=false):=λq=>RB _ _ _ _ (by rw[ND]);have b6:Hid (∀o,((w.alloc<|AY cop cpath coth cname cdata cA cB).alloc A2).cell? ⟨w.heap.size+1,o,none⟩=DB[o]?):=λo=>by rw[rO _ _ _ _ (by rw[ND])];simp
 have ef:Hid (∀w',Bw ((w.alloc<|AY cop cpath coth cname cdata cA cB).alloc A2) w'->Calls prog 119 #[pO b 0,.string cpath] w' λe c4=>Dr B c4 cpath true (B.cor.atP true cpath) e/\Bw w' c4):=λw' hb=>by
  refine rQ (LX ((h.below b4).below hb) b2.good cpath (Eg _).1 (Eg _).2 cx<|Aj hb<|Aj b4 eb) ?_;rintro e w' ⟨b7,eg⟩;exact⟨KH b2.good b7,eg⟩
 have c5:Hid (Calls prog 157 #[.string cname] ((w.alloc<|AY cop cpath coth cname cdata cA cB).alloc A2) λe w'=>e=.returned (iN<|DX cname)/\Bw ((w.alloc<|AY cop cpath coth cname cdata cA cB).alloc A2) w'):=by
  refine rQ (OH cname _ ed) ?_;rintro e G ⟨b7,n,rfl⟩;exact⟨b7,CS (NB _ _) n⟩
 have c6:=hid h;have e2:=hid b2;generalize(DX cname)=bf at c5 ab;go_enter func122,ntmps122;go_upto_region 1 with fail
 generalize((w.alloc<|AY cop cpath coth cname cdata cA cB).alloc A2)=c8 at*;go_wp2_with fail
 refine rQ c5 ?_;rintro e b9 ⟨rfl,ao⟩;have c9:=aA;have aA:=hid<|c9.trans<|ao.mono c9.size;have ce:w.heap.size+1<c8.heap.size:=NF c8 ⟨w.heap.size+1,0,none⟩<|c3 0 _ rfl;have cf:=hid<|c3.below ao;have ch:Hid (∀q,b9.frozen? ⟨w.heap.size+1,q,none⟩=false):=λq=>(ao.frozen (p:=⟨w.heap.size+1,q,none⟩) ce).trans<|ee q;have ej:Hid (∀o,b9.cell? ⟨w.heap.size+1,o,none⟩=DB[o]?):=λo=>(ao.cell (p:=⟨w.heap.size+1,o,none⟩) ce).trans<|b6 o
 have ek:=hid<|ef b9 ao;have p0:=Aj ao p0;have p1:=Aj ao p1;have cF:=Aj ao cF;have bg:=N1 ce ao.size;have b6:=hid ej;by_cases cl:bf=0
 .subst cl
  rw[NS rfl]at ab;go_upto_region 3 with fail
  obtain⟨c0,bi,aw,bk,da,dd,bl,bn,_⟩:=Le cf ch oM aA;have bo:=run_loadVar_mid (P:=prog) bi (w.heap.size+1) 0 216 c0 _ bl rfl rfl (by rw[aw.out];rfl);have bp:=Cn c0;unfold Value.cells at bp;go_wp2;refine NZ (v:=.tuple #[.agg c0.toArray,.iface 101<|iN 4]) ?_ rfl ⟨⟨c0,4,rfl,aw,bk,λe=>absurd e oD,λ_=>ab.symm⟩,bn⟩;simp[results,results122,asAddr,bo]
 .have e3:(bf==0)=false:=by simpa using cl
  rw[NO cl]at ab;by_cases bY:cop=10/\20<cdata.size
  .rw[NS bY]at ab
   obtain⟨rfl,em⟩:=bY;have de:decide ((20:Int)<(cdata.size:Int))=true:=NY oM;have en:=NY em;go_upto_region 5 with fail
   obtain⟨c0,bi,aw,bk,da,dd,bl,bn,_⟩:=Le cf ch oM aA;have bo:=run_loadVar_mid (P:=prog) bi (w.heap.size+1) 0 216 c0 _ bl rfl rfl (by rw[aw.out];rfl);have bp:=Cn c0;unfold Value.cells at bp;go_wp2;refine NZ (v:=.tuple #[.agg c0.toArray,.iface 101<|iN 1]) ?_ rfl ⟨⟨c0,1,rfl,aw,bk,λe=>absurd e oD,λ_=>ab.symm⟩,bn⟩;simp[results,results122,asAddr,bo]
  .rw[NO bY]at ab
   rcases(by
    by_cases a8:cop=10
    .exact .inr ⟨a8,NM (λh=>bY ⟨a8,by omega⟩)⟩
    .exact .inl (by simpa using a8):(cop==10)=false\/cop=10/\decide ((20:Int)<(cdata.size:Int))=false)with a8|⟨a8,de⟩
   case' inr=>
    subst a8;have en:decide (20<cdata.size)=false:=by
     have:=of_decide_eq_false de;exact NM oM
   all_goals
    go_wp2_with fail
    refine rQ ek ?_;rintro e G ⟨eo,q2⟩;obtain⟨cs,E,rfl,dg,ep,eq,er⟩:=eo;obtain⟨ad,e4,a1,co,es⟩:=JP G cs dg ep;have eu:=Cn cs;unfold Value.cells at eu;have ba:=hid dg;have bb:=hid<|q2.trans<|co.out.mono q2.size;have bq:=hid<|aA.trans<|bb.mono aA.size;have ev:Hid _:=eq;have ew:Hid _:=er;have e5:=hid<|Rz aA.size q2.size;have e6:=N1 bg q2.size;have dj:=hid<|cf.below bb;have dk:Hid (∀q,ad.frozen? ⟨w.heap.size+1,q,none⟩=false):=λq=>(bb.frozen (p:=⟨w.heap.size+1,q,none⟩) bg).trans<|ch q;by_cases b0:E=0
    .subst b0
     obtain⟨f,ap,dm,dn,dp,dr,a6,ds,du⟩:=ev rfl;rw[du]at ab;obtain⟨⟨H,I,J,O,Z⟩,bs,na,nc,ry,bu,⟨bx,bA,bB,bC,bF,bG,bH,xs⟩,e7,ly⟩:=f;have dw:=a6.t;dsimp only at dw;replace ab:Hid<|(if bf=1 then(if B.mayE ⟨H,I,J,O,Z⟩ ar=0 then .ok (⟨H,I,J,O,Z⟩,bs,bu,.mk bx bA bB bC bF bG bH xs,ly)else .error (B.mayE ⟨H,I,J,O,Z⟩ ar))else(if B.ownE ⟨H,I,J,O,Z⟩=0 then .ok (⟨H,I,J,O,Z⟩,bs,bu,.mk bx bA bB bC bF bG bH xs,ly)else .error (B.ownE ⟨H,I,J,O,Z⟩)))=P:=ab.out;have dx:Ce ad G.heap.size 0<|.bool H:=a1 0 _ (by rw[ap];rfl);have dy:Ce ad G.heap.size 1<|iN I:=a1 1 _ (by rw[ap];rfl);have dz:Ce ad G.heap.size 2<|iN J:=a1 2 _ (by rw[ap];rfl);have dT:Ce ad G.heap.size 3<|iN O:=a1 3 _ (by rw[ap];rfl);have d0:Ce ad G.heap.size 4<|.bool Z:=a1 4 _ (by rw[ap];rfl);rw[show Ao 0=Value.nilIface from rfl];have ey:Hid (∀w',Bw G w'->∀R,(R=0->P=.ok (⟨H,I,J,O,Z⟩,bs,bu,.mk bx bA bB bC bF bG bH xs,ly))->(R≠0->P=.error R)->Dr B w' cpath true P (.returned<|.tuple #[Cg cs,Ao R])):=λw' hb R ez eB=>⟨cs,R,rfl,ba,by rw[ap];exact FT _,λe=>⟨_,ap,dm,dn,dp.on<|Ai hb,dr,⟨a6.t,a6.dir,a6.nd.on<|Ai hb,a6.there,a6.no⟩,ds,ez e⟩,eB⟩;have eD:Hid (∀v∈cs,v.oneCell'=true):=by rw[ap];exact FT _
     have az:ad.drew.rangeAt G.heap.size 0 cs/\(NL G.heap.size H I J O Z ad.drew):=⟨a1,dx,dy,dz,dT,d0⟩;clear ap dm dn dp dr a6 ds du es a1 dx dy dz dT d0;by_cases cr:bf=1
     case' pos=>
      subst cr;have eE:=hid<|KF ((c6.below bq).below (NB _ _).drew) ⟨H,I,J,O,Z⟩ ar dw.1;rw[NS rfl]at ab;generalize B.mayE ⟨H,I,J,O,Z⟩ ar=R at*;have d1:Hid<|R=0->P=.ok (⟨H,I,J,O,Z⟩,bs,bu,.mk bx bA bB bC bF bG bH xs,ly):=λe=>by rw[<-ab.out,NS e]
      have d2:Hid<|R≠0->P=.error R:=λe=>by rw[<-ab.out,NO e]
      go_upto_region 10 with fail
      refine wp_region_held_drew (S:=λw'=>w'.rangeAt G.heap.size 0 cs/\(NL G.heap.size H I J O Z w')) oK az λak=>?_;refine RF (i:=0) (oi:=_) (v:=Cg cs) rfl oK oK oK (λ_ _ _ h=>h) (yieldsIf_load_mid (by rfl) _ _ rfl _ _ rfl cs _ (λw h=>h.1) underlying216 rfl (by rw[ba.out];rfl)) ak ?_;simp only[Act.put,List.setIfInBounds_toArray];refine RF (i:=1) (oi:=_) (v:=pO b 0) rfl oK oK oK (λ_ _ _ h=>h) (Or.inl ⟨by rfl,λw b1=>by go_simp⟩) ak ?_;simp only[Act.put];refine RF (i:=2) (oi:=_) (v:=pO G.heap.size 0) rfl oK oK oK (λ_ _ _ h=>h) (Or.inl ⟨by rfl,λw b1=>by go_simp⟩) ak ?_;simp only[Act.put];refine tI 3 _ (Gc H I J O Z) ak ?_;simp only[Act.put];refine RF (i:=4) (oi:=_) (v:=iN ar) rfl oK oK oK (λ_ _ _ h=>h) (Or.inl ⟨by rfl,λw b1=>by go_simp⟩) ak ?_;simp only[Act.put];refine wpAnyH_ready (rs:=[5]) oK oS ?_;refine AllReadyH.cons (o:=_) rfl (λK bd=>?_) AllReadyH.nil;rw[NS (by rfl)];go_simp;refine rQ eE.out ?_
     case' neg=>
      have d3:(bf==1)=false:=by simpa using cr
      have eF:=hid<|Wv ((c6.below bq).below (NB _ _).drew) ⟨H,I,J,O,Z⟩;rw[NO cr]at ab;generalize B.ownE ⟨H,I,J,O,Z⟩=R at*;have d1:Hid<|R=0->P=.ok (⟨H,I,J,O,Z⟩,bs,bu,.mk bx bA bB bC bF bG bH xs,ly):=λe=>by rw[<-ab.out,NS e]
      have d2:Hid<|R≠0->P=.error R:=λe=>by rw[<-ab.out,NO e]
      go_upto_region 11 with fail
      refine wp_region_held_drew (S:=λw'=>w'.rangeAt G.heap.size 0 cs/\(NL G.heap.size H I J O Z w')) oK az λak=>?_;refine RF (i:=0) (oi:=_) (v:=Cg cs) rfl oK oK oK (λ_ _ _ h=>h) (yieldsIf_load_mid (by rfl) _ _ rfl _ _ rfl cs _ (λw h=>h.1) underlying216 rfl (by rw[ba.out];rfl)) ak ?_;simp only[Act.put,List.setIfInBounds_toArray];refine RF (i:=1) (oi:=_) (v:=pO b 0) rfl oK oK oK (λ_ _ _ h=>h) (Or.inl ⟨by rfl,λw b1=>by go_simp⟩) ak ?_;simp only[Act.put];refine RF (i:=2) (oi:=_) (v:=pO G.heap.size 0) rfl oK oK oK (λ_ _ _ h=>h) (Or.inl ⟨by rfl,λw b1=>by go_simp⟩) ak ?_;simp only[Act.put];refine tI 3 _ (Gc H I J O Z) ak ?_;simp only[Act.put];refine wpAnyH_ready (rs:=[4]) oK oS ?_;refine AllReadyH.cons (o:=_) rfl (λK bd=>?_) AllReadyH.nil;rw[NS (by rfl)];go_simp;refine rQ eF ?_
     all_goals
      rintro e al ⟨rfl,q9⟩;have a7:al.rangeAt G.heap.size 0 cs/\(NL G.heap.size H I J O Z al):=⟨Bj.below az.1 q9,Aj q9 az.2.1,Aj q9 az.2.2.1,Aj q9 az.2.2.2.1,Aj q9 az.2.2.2.2.1,Aj q9 az.2.2.2.2.2⟩;have d4:=hid<|(dj.below (NB _ _).drew).below q9;have eL:Hid (∀q,al.frozen? ⟨w.heap.size+1,q,none⟩=false):=λq=>(q9.frozen (p:=⟨w.heap.size+1,q,none⟩)<|N1 bg bb.size).trans<|dk q;have e8:=En (P:=prog) d4 eL (by rw[ba.out];rfl) eD
      have d5:=hid<|FC cs d4 (by rw[ba.out];rfl);have d6:Hid<|Bw w<|al.setCells (w.heap.size+1) 0 cs:=Fc cs oM<|bq.trans<|((NB _ ad).drew.trans q9).mono bq.size;have be:∀o,(al.setCells (w.heap.size+1) 0 cs).cell? ⟨G.heap.size,o,none⟩=al.cell? ⟨G.heap.size,o,none⟩:=λo=>Ck (by show G.heap.size≠w.heap.size+1;omega);have d7:(al.setCells (w.heap.size+1) 0 cs).rangeAt G.heap.size 0 cs/\(NL G.heap.size H I J O Z<|al.setCells (w.heap.size+1) 0 cs):=⟨λj v eX=>(be _).trans<|a7.1 j v eX,(be _).trans a7.2.1,(be _).trans a7.2.2.1,(be _).trans a7.2.2.2.1,(be _).trans a7.2.2.2.2.1,(be _).trans a7.2.2.2.2.2⟩
      have d8:=hid ((ey al (co.out.trans<|((NB _ ad).drew.trans q9).mono co.out.size) R d1 d2).set (Eg _).2 (λo=>(q9.cell (p:=⟨w.heap.size+1,o,none⟩)<|N1 bg bb.size).trans<|(bb.cell (p:=⟨w.heap.size+1,o,none⟩) bg).trans<|b6 o) cs);go_wp2_with fail
      refine bd _ _ a7 λe9=>?_;first|(have:(bf==1)=false:=d3;refine wpAnyH_ready (rs:=[5]) oK oS ?_)|refine wpAnyH_ready (rs:=[6]) oK oS ?_
      refine AllReadyH.cons (o:=_) rfl (λK bd=>?_) AllReadyH.nil;rw[NS (by rfl)];go_simp;refine bd _ _ d7 λfa=>?_;first|(have:(bf==1)=false:=d3;refine wpAnyH_ready (rs:=[6]) oK oS ?_)|refine wpAnyH_ready (rs:=[7]) oK oS ?_
      refine AllReadyH.cons (o:=_) rfl (λK bd=>?_) AllReadyH.nil;rw[NS (by rfl)];go_simp;refine bd _ _ d7 λfb=>?_;refine KL oK ?_ _;generalize al.setCells (w.heap.size+1) 0 cs=e0 at d5 d6 d8⊢;have e1:=run_loadVar_mid (P:=prog) e0 (w.heap.size+1) 0 216 cs _ d5 rfl rfl (by rw[ba.out];rfl);go_wp2;refine NZ (v:=.tuple #[.agg cs.toArray,Ao R]) ?_ rfl ⟨d8,d6⟩;simp[results,results122,asAddr,e1]
    .have d9:=AP (n:=E) rfl b0
     rw[ew.out b0]at ab;rw[d9];go_upto_region 8 with fail
     obtain⟨c0,bi,aw,bk,da,dd,bl,bn,_⟩:=Le dj dk oM bq;have bo:=run_loadVar_mid (P:=prog) bi (w.heap.size+1) 0 216 c0 _ bl rfl rfl (by rw[aw.out];rfl);have bp:=Cn c0;unfold Value.cells at bp;go_wp2;refine NZ (v:=.tuple #[.agg c0.toArray,.iface 101<|iN E]) ?_ rfl ⟨⟨c0,E,by rw[d9];rfl,aw,bk,λe=>absurd e (b0),λ_=>ab.symm⟩,bn⟩;simp[results,results122,asAddr,bo]
abbrev Fw(l:List Kv):Prop:=l.Pairwise λp x=>Br p.n x.n=true
def plc(l:List Kv)(m:BA):Nat:=l.countP λx=>Br x.n m
def DG(l:List Kv)(m:BA):Option Kv:=l.find? λx=>decide (x.n=m)
def NH(l:List Kv)(m:BA):List Kv:=l.filter λx=>Br x.n m
def Ju(l:List Kv)(m:BA):List Kv:=l.filter λx=>Br m x.n
def I8(l:List Kv)(m v:BA):List Kv:=NH l m++⟨m,v⟩::Ju l m
def Gq(l:List Kv)(m:BA):List Kv:=NH l m++Ju l m
theorem Vf{q:Kv->Bool}:∀{l:List Kv},l.Pairwise (λp x=>q x=true->q p=true)->l.take (l.countP q)=l.filter q/\l.drop (l.countP q)=l.filter (λx=> !q x):=by intro l;induction l<;>grind [CK.1,List.filter_eq_nil_iff.2]
theorem Wn(m:BA)(h:Fw l):l.Pairwise λp x=>Br x.n m=true->Br p.n m=true:=
 h.imp λG H=>IV G H
theorem OZ(m:BA)(h:Fw l):l.take (plc l m)=NH l m:=(Vf<|Wn m h).1
theorem eT(m:BA)(h:Fw l):l.drop (plc l m)=l.filter (λx=> !Br x.n m):=(Vf<|Wn m h).2
theorem UE{a:Kv}(h:a.n=m):DG (a::l) m=some a:=by simp[DG,h]
theorem Us{a:Kv}(h:a.n≠m):DG (a::l) m=DG l m:=by simp[DG,h]
theorem gC(h:∀x∈l,x.n≠m):DG l m=none:=by grind [DG]
theorem jr(h:DG l m=some x):x∈l/\x.n=m:=by grind [DG]
theorem jf:Fw l->x∈l->DG l x.n=some x:=by induction l<;>grind [CK.1,UE,Us,Np]
theorem RG(m:BA)(h:Fw l):l.drop (plc l m)=(DG l m).toList++Ju l m:=by induction l<;>grind [eT,CK.1,Kt,Us,Np,Ju,Rr,UE,List.filter_cons_of_neg,Lw,List.filter_cons_of_pos,Br,R1.1,IV,gC]
theorem PG(m:BA)(h:Fw l)(G:DG l m=some x):l[plc l m]? =some x/\l.drop (plc l m+1)=Ju l m:=by
 have hd:=RG m h;rw[G]at hd;constructor
 .have:(l.drop<|plc l m)[0]? =some x:=by rw[hd];rfl
  grind
 .have:(l.drop<|plc l m).drop 1=Ju l m:=by rw[hd];rfl
  rwa [List.drop_drop]at this
theorem Un(m:BA)(h:Fw l)(G:DG l m=none):l.drop (plc l m)=Ju l m/\∀x,l[plc l m]? =some x->x.n≠m:=by grind [RG,jf]
theorem Y9(l:List Kv)(m:BA):plc l m<=l.length:=List.countP_le_length
def DR(l:List Kv)(m:BA):Int:=if Ea l≠0 then Ea l else if DX m=0 then 4 else 0
def IE(l:List Kv)(m:BA):Int:=if DR l m≠0 then DR l m else if DG l m=none then 5 else 0
def Jy(l:List Kv)(m:BA):BA:=if IE l m≠0 then ByteArray.empty else match DG l m with
 |some x=>x.v
 |none=>ByteArray.empty
def JA(l:List Kv)(m v:BA):Int:=if DR l m≠0 then DR l m else if 20<v.size then 1 else if DG l m=none/\l.length=4 then 2 else 0
def Ij(l:List Kv)(m v:BA):List Kv:=if JA l m v≠0 then []else I8 l m v
def IF(l:List Kv)(m:BA):Int:=if DR l m≠0 then DR l m else if DG l m=none then 5 else 0
def Io(l:List Kv)(m:BA):List Kv:=if IF l m≠0 then []else Gq l m
theorem LB:DR l m=0↔JC l/\DX m≠0:=by grind [DR,Wo]
theorem RQ:x∈NH l m↔x∈l/\Br x.n m=true:=List.mem_filter
theorem OI:x∈Ju l m↔x∈l/\Br m x.n=true:=List.mem_filter
theorem iZ(m v:BA)(h:Fw l):Fw<|I8 l m v:=by
 unfold I8;refine List.pairwise_append.2 ⟨h.filter _,CK.2 ⟨λx hx=>(OI.1 hx).2,h.filter _⟩,?_⟩;grind [RQ,IV,OI]
theorem kj(m:BA)(h:Fw l):Fw<|Gq l m:=by
 unfold Gq;refine List.pairwise_append.2 ⟨h.filter _,h.filter _,?_⟩;grind [IV,RQ,OI]
theorem VT(m:BA)(h:Fw l):l.length=(NH l m).length+((DG l m).toList.length+(Ju l m).length):=by
 have e:l=l.take (plc l m)++l.drop (plc l m):=(CR _ _).symm;grind [OZ,RG]
theorem Yk:x∈Gq l m↔x∈l/\x.n≠m:=by grind [Gq,RQ,OI,Np,Kt]
theorem mQ{v:BA}:x∈I8 l m v↔x=⟨m,v⟩\/(x∈l/\x.n≠m):=by
 rw[<-Yk];unfold I8 Gq;rw[Cq,Cq,R1];constructor
 .rintro(h|h|h)
  .exact .inr<|.inl h
  .exact .inl h
  .exact .inr<|.inr h
 .rintro(h|h|h)
  .exact .inr<|.inl h
  .exact .inl h
  .exact .inr<|.inr h
theorem jI{v:BA}(h:JA l m v=0):JC l/\DX m≠0/\JC (I8 l m v):=by
 unfold JA at h;split at h
 .grind
 .rename_i hf
  obtain⟨G,H⟩:=LB.1<|Classical.not_not.1 hf;split at h
  .cases h
  .rename_i hv
   split at h
   .cases h
   .rename_i hn
    refine⟨G,H,?_,?_,iZ m v G.2.2⟩
    .have I:=VT m G.2.2
     have J:=G.1;grind [I8,DG]
    .intro x hx
     rcases mQ.1 hx with rfl|⟨hx,_⟩
     .grind
     .exact G.2.1 x hx
theorem lL(h:IF l m=0):JC l/\DX m≠0/\JC (Gq l m):=by
 unfold IF at h;split at h
 .grind
 .rename_i hf
  obtain⟨G,H⟩:=LB.1<|Classical.not_not.1 hf;refine⟨G,H,?_,λx hx=>G.2.1 x (Yk.1 hx).1,kj m G.2.2⟩;have I:=VT m G.2.2;have J:=G.1;grind [Gq]
open Go.Sort Go.Shelf
def Tryz.searchRen:Go.Shelf.Ren:=⟨λ|16=>215|n=>n,λ|35=>254|38=>231|n=>n,λn=>n⟩
theorem Tryz.searchLaid:SlLaysO.n16 prog Tryz.searchRen:={
 mixed:=by kernel_rfl
 f16:=func215.trans<|RX some oK
 t3:=underlying3
 a3:=Tryz.isAgg3
 z3:=Tryz.sizeOf3
 v3:=Tryz.zeroValue3
 t4:=underlying4
 a4:=Tryz.isAgg4
 z4:=Tryz.sizeOf4
 v4:=Tryz.zeroValue4
 t35:=underlying254
 a35:=Tryz.isAgg254
 z35:=Tryz.sizeOf254
 v35:=Tryz.zeroValue254
 t38:=underlying231
 a38:=Tryz.isAgg231
 z38:=Tryz.sizeOf231
 v38:=Tryz.zeroValue231}
theorem aW(G H b I n cap k:Nat)(x m:BA)(w:World)(Z:k<n)(ab:w.cell? (aD G 0)=some (sL b I n cap))(ad:w.cell? (aD H 0)=some (.string m))(ak:w.cell? (aD b<|I+k*2)=some (.string x)):
 Calls prog 216 (#[iN k]++#[pO G 0,pO H 0]) w λe w'=>e=.returned (.bool !(Br x m))/\∃q,w'=w.drewN q:=by
 have al:(k:Int)<(n:Int):=by omega
 obtain⟨t,J⟩:∃t,Op.bytesLess x.toList m.toList=t:=⟨_,rfl⟩;have O:Hid<|Br x m=t:=J;show cL 216 #[iN k,pO G 0,pO H 0] _ _;go_enter func216,ntmps216;go_wp2;go_quiet (fail)
 go_wp2;go_ret;exact⟨BI (by rw[O.out]),_,rfl⟩
def J8(l:List Kv)(m:BA)(k:Nat):Bool:=match l[k]? with
 |some x=> !Br x.n m
 |none=>true
theorem gS(l:List Kv)(m:BA):(List.range l.length).countP (λi=> !J8 l m i)=plc l m:=by
 have G:plc l m=(l.map some).countP (λo:Option Kv=>match o with|some x=>Br x.n m|none=>false):=by rw[List.countP_map];rfl
 have H:l.map some=(List.range l.length).map (λi=>l[i]?):=by
  apply List.ext_getElem;all_goals grind
 rw[G,H,List.countP_map];congr 1;grind [J8]
theorem eG(m:BA)(h:Fw l):∀a b,a<=b->b<l.length->J8 l m a=true->J8 l m b=true:=by grind [J8,tw.1,IV]
theorem ct(G H cap:Nat)(a:Option Addr)(l:List Kv)(m:BA)(w:World)(aA:l.length<=1000)(ak:Fw l)(h:Bg w.cell? a l)(Z:w.cell? (aD G 0)=some (.slice a l.length cap))(ab:w.cell? (aD H 0)=some (.string m)):
 Calls prog 215 #[iN l.length,.func (.func 216) #[] #[pO G 0,pO H 0]] w λe w'=>e=.returned (iN<|plc l m)/\Below w.heap.size w w':=by
 have al:=enters_of func216 oK rfl;have ao:G<w.heap.size:=bL Z;have ap:H<w.heap.size:=bL ab
 have I:=Any.sort_Search Tryz.searchLaid 216 #[pO G 0,pO H 0] l.length (J8 l m) w al oM
  (λq os i J=>by
   rcases h with rfl|⟨b,ar,rfl,aw⟩
   .simp at J
   .obtain⟨x,hx⟩:∃x,l[i]? =some x:=⟨l[i],by simp[J]⟩
    obtain⟨ad,_⟩:=aw i x hx;have az:b<w.heap.size:=bL ad;have e:J8 l m i= !(Br x.n m):=by unfold J8;rw[hx]
    rw[e];exact(aW G H b ar l.length cap i x.n m _ J (cell_grown ao Z q os) (cell_grown ap ab q os)<|cell_grown az ad q os).mono λ_ _ ⟨O,r,hr⟩=>⟨O,r,#[],by rw[hr,grow_empty]⟩)
  (eG m ak)
 rw[gS]at I;change cL 215 _ _ _ at I;refine I.mono λe w' ⟨O,q,os,hw⟩=>⟨O,?_⟩;rw[hw]
 exact below_grown_sl _ w q os<|rP _
theorem iG(h:Fw l):(plc l m<l.length/\∃x,l[plc l m]? =some x/\((x.n=m/\DG l m=some x)\/(x.n≠m/\DG l m=none)))\/(plc l m=l.length/\DG l m=none):=by
 cases hf:DG l m with
 |some x=>
  obtain⟨G,_⟩:=PG m h hf;exact .inl ⟨(NE.1 G).1,x,G,.inl ⟨(jr hf).2,rfl⟩⟩
 |none=>
  obtain⟨_,H⟩:=Un m h hf;by_cases I:plc l m<l.length
  .exact .inl ⟨I,l[plc l m],NA _,.inr ⟨H _<|NA _,rfl⟩⟩
  .exact .inr ⟨by have:=Y9 l m;omega,rfl⟩
def GX(l:List Kv)(m:BA):Int:=if DR l m=0 then(plc l m:Int)else 0
def Ej(l:List Kv)(m:BA):Bool:=decide (DR l m=0)&&(DG l m).isSome
theorem My{a:Int}{b H:Bool}{e I:Value}(J:G=a)(O:H=b)(Z:I=e):Ending.returned (.tuple #[iN a,.bool b,e])=.returned (.tuple #[iN G,.bool H,I]):=by rw[J,O,Z]
theorem IW(a:Option Addr)(cap:Nat)(l:List Kv)(m:BA)(w:World)(ap:l.length<=1000)(aA:F8 l)(be:m.size<=1000)(h:Bg w.cell? a l):
 Calls prog 159 #[.slice a l.length cap,.string m] w λe w'=>(e=.returned (.tuple #[iN<|GX l m,.bool<|Ej l m,Ao<|DR l m]))/\Below w.heap.size w w':=by
 have H:Below w.heap.size w<|(w.alloc<|.cells #[.slice a l.length cap] 28).alloc<|.cells #[.string m] 9:=bN.alloc oS _;have c1:Ce ((w.alloc<|.cells #[.slice a l.length cap] 28).alloc<|.cells #[.string m] 9) w.heap.size 0<|.slice a l.length cap:=cell_alloc_sl _<|cell_new_sl w _ _;have c2:Ce ((w.alloc<|.cells #[.slice a l.length cap] 28).alloc<|.cells #[.string m] 9) (w.heap.size+1) 0<|.string m:=by
  have:=cell_new_sl (w.alloc<|.cells #[.slice a l.length cap] 28) (.string m) 9;rwa [ND]at this
 by_cases a1:Ea l=0;rotate_left
 .have G:Hid<|DR l m=Ea l:=by show _=_;unfold DR;rw[NS a1]
  have I:=hid a1;go_enter func159,ntmps159;go_wp2_with fail
  go_call OD a cap l _ ap aA (h.below H) as e w1 ⟨rfl,hB1⟩
  rw[AP rfl I.out];have Z:=H.trans<|hB1.mono H.size;go_wp2;go_ret3
  have ab:¬DR l m=0:=by rw[G.out];exact I
  exact⟨My (by unfold GX;rw[NO ab]) (by unfold Ej;rw[NM ab];rfl) (by rw[G.out,AP rfl I.out];rfl),Z⟩
 have I:=hid a1;obtain⟨c,bo⟩:∃c,DX m=c:=⟨_,rfl⟩;have ar:=hid bo;by_cases a6:c=0
 .subst a6
  have G:Hid<|DR l m=4:=by show _=_;unfold DR;rw[NO (by simpa using I.out),NS ar.out]
  have a7:=h.below H;have ad:((w.alloc<|.cells #[.slice a l.length cap] 28).alloc<|.cells #[.string m] 9).heap.size=w.heap.size+2:=by simp
  go_enter func159,ntmps159;go_wp2_with fail
  go_call OD a cap l _ ap aA a7 as e w1 ⟨rfl,hB1⟩
  rw[DE I.out];have bf:Ce w1 w.heap.size 0<|.slice a l.length cap:=(hB1.cell (p:=(aD w.heap.size 0)) (by rw[ad];simp)).trans c1;have bg:Ce w1 (w.heap.size+1) 0<|.string m:=(hB1.cell (p:=(aD (w.heap.size+1) 0)) (by rw[ad];simp)).trans c2;have Z:=H.trans<|hB1.mono H.size;go_wp2_with fail
  go_call OH m _ be as e w' ⟨rfl,nq,rfl⟩
  rw[ar.out];go_wp2;go_ret3
  have ab:¬DR l m=0:=by rw[G.out];decide
  exact⟨My (by unfold GX;rw[NO ab]) (by unfold Ej;rw[NM ab];rfl) (by rw[G.out];rfl),CS Z _⟩
 have G:Hid<|DR l m=0:=by show _=_;unfold DR;rw[NO (by simpa using I.out),NO (by rw[ar.out];exact a6)]
 have bi:Fw l:=((Wo l).1 I).2.2;have a7:=h.below H;have ad:((w.alloc<|.cells #[.slice a l.length cap] 28).alloc<|.cells #[.string m] 9).heap.size=w.heap.size+2:=by simp
 have bc:(c==0)=false:=by simpa using a6
 obtain⟨p,bk⟩:∃p,plc l m=p:=⟨_,rfl⟩;have bl:=hid bk;have J:=iG (m:=m) bi;rw[bk]at J;go_enter func159,ntmps159;go_wp2_with fail
 go_call OD a cap l _ ap aA a7 as e w1 ⟨rfl,hB1⟩
 rw[DE I.out];have bf:Ce w1 w.heap.size 0<|.slice a l.length cap:=(hB1.cell (p:=(aD w.heap.size 0)) (by rw[ad];simp)).trans c1;have bg:Ce w1 (w.heap.size+1) 0<|.string m:=(hB1.cell (p:=(aD (w.heap.size+1) 0)) (by rw[ad];simp)).trans c2;have Z:=H.trans<|hB1.mono H.size;go_wp2_with fail
 go_call OH m _ be as e w' ⟨rfl,nq,rfl⟩
 rw[ar.out];have aw:=CS Z nq;have ak:Ce (w1.drewN nq) w.heap.size 0<|.slice a l.length cap:=bf;have al:Ce (w1.drewN nq) (w.heap.size+1) 0<|.string m:=bg;generalize w1.drewN nq=bA at aw ak al⊢;generalize w.heap.size=O at ak al⊢;go_wp2_with fail
 go_call ct O (O+1) cap a l m _ ap bi (h.below aw) ak al as e w3 ⟨rfl,hB4⟩
 rw[bl.out];have bB:Ce w3 O 0<|.slice a l.length cap:=(hB4.cell (p:=(aD O 0))<|bL ak).trans ak;have bC:Ce w3 (O+1) 0<|.string m:=(hB4.cell (p:=(aD (O+1) 0))<|bL al).trans al;have az:=aw.trans<|hB4.mono aw.size;have bp:=h.below az;have a8:Hid<|GX l m=p:=by show _=_;unfold GX;rw[NS G.out,bl.out]
 have ba:Hid<|Ej l m=(DG l m).isSome:=by show _=_;unfold Ej;rw[NY G.out];rfl
 rcases J with⟨bq,x,hx,J⟩|⟨bs,J⟩
 .have bu:(p:Int)<(l.length:Int):=by omega
  rcases bp with rfl|⟨b,bF,rfl,bn⟩
  .simp at bq
  obtain⟨bG,_⟩:=bn p x hx;clear bn hx;rcases J with⟨bb,bd⟩|⟨bb,bd⟩
  .have bx:(x.n.toList==m.toList)=true:=by rw[bb];simp
   have ao:Hid<|Ej l m=true:=by show _=_;rw[ba.out,bd];rfl
   go_wp2;go_quiet (fail)
   go_wp2;go_ret3
   exact⟨My a8 ao<|DE G,CS az _⟩
  .have bx:(x.n.toList==m.toList)=false:=by simp;exact λe=>bb (ME e)
   have ao:Hid<|Ej l m=false:=by show _=_;rw[ba.out,bd];rfl
   go_wp2;go_quiet (fail)
   go_wp2;go_ret3
   exact⟨My a8 ao<|DE G,CS az _⟩
 .have bu:decide ((p:Int)<(l.length:Int))=false:=NM oM
  have ao:Hid<|Ej l m=false:=by show _=_;rw[ba.out,J];rfl
  have bH:¬p<l.length:=by omega
  clear J bs;go_wp2;go_quiet (fail)
  go_wp2;go_ret3
  exact⟨My a8 ao<|DE G,CS az _⟩
theorem U2(n:Nat):(Builtin.zeroCells (Value.agg #[.string ⟨#[]⟩,.string ⟨#[]⟩]).cells n).size=n*2:=by rw[size_zeroCells];rfl
theorem ik(n:Nat)(w:World)(ar:n<=1000):Calls prog 231 #[nL,iN n] w λe w'=>(∃v,e=.returned v/\w'.ownsRow w.heap.size 148 2 v 0 (Dz []))/\Below w.heap.size w w':=by
 by_cases Z:n=0
 .subst Z
  go_enter func231,ntmps231;go_wp2;go_ret;exact⟨⟨_,rfl,CZ _ _ _ _⟩,NB _ _⟩
 obtain⟨ab,ad,ak,al,ao⟩:=info_parts Tryz.infoA;have G:∀H,(Builtin.append_ #[28,3] H #[nL,iN n]).run prog w=.ok (sL w.heap.size 0 n<|grownCap w n 0 148) (w.drew.alloc<|.cells (Builtin.zeroCells (Value.agg #[.string ⟨#[]⟩,.string ⟨#[]⟩]).cells n++Builtin.zeroCells (Value.agg #[.string ⟨#[]⟩,.string ⟨#[]⟩]).cells (grownCap w n 0 148-n)) 148):=λH=>Lib.run_append_nil_zeros w 28 3 H 148 ab _ .i64 .i64 underlying28 underlying3 ad ak n oM (by rw[al];decide) oM (by rw[ao];omega);have ap:=grownCap_ge w n 0 148
 have I:grownCap w n 0 148<=maxLen:=grownCap_le_maxLen w n 0 148 (by unfold maxLen;omega)
 have J:(w.drew.alloc<|.cells (Builtin.zeroCells (Value.agg #[.string ⟨#[]⟩,.string ⟨#[]⟩]).cells n++Builtin.zeroCells (Value.agg #[.string ⟨#[]⟩,.string ⟨#[]⟩]).cells (grownCap w n 0 148-n)) 148).ownsRow w.heap.size 148 2 (sL w.heap.size 0 0<|grownCap w n 0 148) 0 []:=
  World.ownsRow_made w.drew _ _ (rP _) I (by rw[Array.size_append,U2,U2];omega)
 have O:Below w.heap.size w<|w.drew.alloc<|.cells (Builtin.zeroCells (Value.agg #[.string ⟨#[]⟩,.string ⟨#[]⟩]).cells n++Builtin.zeroCells (Value.agg #[.string ⟨#[]⟩,.string ⟨#[]⟩]).cells (grownCap w n 0 148-n)) 148:=(CS (NB _ w) 1).alloc (rP _) _;generalize w.drew.alloc (.cells (Builtin.zeroCells (Value.agg #[.string ⟨#[]⟩,.string ⟨#[]⟩]).cells n++Builtin.zeroCells (Value.agg #[.string ⟨#[]⟩,.string ⟨#[]⟩]).cells (grownCap w n 0 148-n)) 148)=aw at G J O;generalize grownCap w n 0 148=c at G ap I J;have az:decide (0<n)=true:=NY oM;have aA:=NY oM;unfold maxLen at I;go_enter func231,ntmps231;go_wp2_with (at_builtin;refine Lib.wpList_append_run _ rfl _ _ _ _ rfl _ _ rfl rfl _ _ (G _) ?_)
 go_wp2;go_ret;exact⟨⟨_,rfl,J⟩,O⟩
structure Kf where
 a:Option Addr
 c:Nat
 l:List Kv
def DW:List Kf->List Kv
 |[]=>[]
 |p::ps=>p.l++DW ps
theorem QM:∀A B:List Kf,DW (A++B)=DW A++DW B
 |[],_=>rfl
 |p::A,B=>by simp[DW,QM A B]
theorem UJ{G:List Kf}{k:Nat}{p:Kf}(h:G[k]? =some p):DW (G.take<|k+1)=DW (G.take k)++p.l:=by grind [CO,QM,DW]
theorem eP(G:List Kf)(k:Nat):(DW<|G.take k).length<=(DW G).length:=by grind [QM,CR]
theorem Uv(Z cp:Nat)(G:List Kf)(w:World)(bk:G.length<=10)(az:(DW G).length<=1000)
 (al:∀i p,G[i]? =some p->w.cell? (aD Z i)=some (.slice p.a p.l.length p.c)/\Bg w.cell? p.a p.l):
 Calls prog 186 #[sL Z 0 G.length cp] w λe w'=>(∃v,e=.returned v/\w'.ownsRow w.heap.size 148 2 v (DW G).length (Dz<|DW G))/\Below w.heap.size w w':=by
 obtain⟨aA,a1,a6,a7,a8⟩:=info_parts Tryz.infoA;have ao:=hid al;have ap:=hid<|eP G;clear al;go_enter func186,ntmps186;go_wp2;go_loop [11,3] (λi s=>∃k:Nat,k<=G.length/\i=iN k/\s=iN (DW<|G.take k).length) (λi _=>G.length-(intOf i).toNat)
 case atStart=>exact⟨0,N7 _,rfl,rfl⟩
 case round=>
  obtain⟨k,ba,rfl,rfl⟩:=hrel;by_cases ab:k<G.length
  .obtain⟨p,O⟩:∃p,G[k]? =some p:=⟨G[k],by simp[ab]⟩
   obtain⟨q,_⟩:=ao k p O;have bb:(k:Int)<(G.length:Int):=by omega
   have J:=hid<|UJ O;have ad:(DW<|G.take k).length+p.l.length<=1000:=by
    have:=ap.out<|k+1;rw[J.out,N6]at this;omega
   have ar:Hid<|(DW<|G.take<|k+1).length=(DW<|G.take k).length+p.l.length:=by show _=_;rw[J.out,N6]
   generalize(DW<|G.take k).length=s at ad ar⊢;go_wp2;go_round
   case rel=>exact⟨k+1,by omega,by go_num,by rw[ar.out];go_num⟩
   case measure=>simp[intOf];omega
  .have ak:G.take k=G:=R3 oM
   rw[ak];go_wp2_with fail
   go_call ik _ _ az as e w1 ⟨⟨v,rfl,H⟩,I⟩
   go_wp2;go_loopw [27,6] (λi s wr=>∃k:Nat,k<=G.length/\i=iN k/\wr.ownsRow w.heap.size 148 2 s (DW<|G.take k).length (Dz<|DW<|G.take k)/\Below w.heap.size w wr) (λi _ _=>G.length-(intOf i).toNat)
   case atStart=>exact⟨0,N7 _,rfl,H,I⟩
   case round=>
    obtain⟨k,ba,rfl,H,I⟩:=hrel;by_cases ab:k<G.length
    .obtain⟨p,O⟩:∃p,G[k]? =some p:=⟨G[k],by simp[ab]⟩
     obtain⟨q,bd⟩:=ao k p O;have bb:(k:Int)<(G.length:Int):=by omega
     have J:=hid<|UJ O;have ad:(DW<|G.take k).length+p.l.length<=1000:=by
      have:=ap.out<|k+1;rw[J.out,N6]at this;omega
     have q2:Ce wr Z k<|.slice p.a p.l.length p.c:=(I.cell (p:=(aD Z k))<|bL q).trans q;have aw:=I.size;have be:=bd.below I;generalize DW (G.take k)=P at ad J H⊢;go_wp2_with (at_builtin;refine DP _ rfl (.tmp 31) (.tmp 32) 28 rfl w.heap.size 148 aA (.agg #[.string ⟨#[]⟩,.string ⟨#[]⟩]) 2 32 underlying28 a1 a6 a7 a8 rfl oD _ P.length (Dz P) rfl H p.a p.l.length p.c (Dz p.l) rfl (Oi p.l) (Vd be) (RP _) (by unfold maxLen;omega) oM aw ?_)
     intro bl bn bf bg _;have bi:=I.grown bg aw λq e=>(H.lt q e).1;go_wp2;go_roundw
     case rel=>exact⟨k+1,by omega,by go_num,by rw[J.out,N6,UF];exact bf,bi⟩
     case measure=>simp[intOf];omega
    .have ak:G.take k=G:=R3 oM
     rw[ak]at H;go_wp2;go_ret;exact⟨⟨_,rfl,H⟩,I⟩
theorem Bg.take(h:Bg w.cell? a l)(k:Nat):Bg w.cell? a<|l.take k:=by
 rcases h with rfl|⟨b,H,I,J⟩
 .exact .inl oS
 .refine .inr ⟨b,H,I,λi x G=>J i x ?_⟩
  rw[Kp]at G;split at G
  .exact G
  .cases G
theorem Bg.drop(h:Bg w.cell? a l)(k:Nat):Bg w.cell? (a.map (·.add (k*2)))<|l.drop k:=by
 rcases h with rfl|⟨b,G,rfl,O⟩
 .exact .inl oS
 .refine .inr ⟨b,G+k*2,?_,λi x H=>?_⟩
  .by_cases Z:k*2=0<;>simp[Addr.add,Z]
  .rw[Kq]at H
   obtain⟨I,J⟩:=O _ x H;have e:G+(k+i)*2=G+k*2+i*2:=by omega
   rw[e]at I J;exact⟨I,J⟩
theorem Bg.none(h:l.length=0):Bg w.cell? a l:=.inl<|R0 h
theorem Sa{s G:BA}{e H:Value}(I:G=s)(J:H=e):Ending.returned (.tuple #[.string s,e])=.returned (.tuple #[.string G,H]):=by rw[I,J]
theorem lO(a:Option Addr)(cap:Nat)(l:List Kv)(m:BA)(w:World)(J:l.length<=1000)(O:F8 l)(Z:m.size<=1000)(h:Bg w.cell? a l):
 Calls prog 123 #[.slice a l.length cap,.string m] w λe w'=>e=.returned (.tuple #[.string<|Jy l m,Ao<|IE l m])/\Below w.heap.size w w':=by
 obtain⟨P,ak⟩:=Aq<|GX l m;obtain⟨T,ap⟩:=Aq<|Ej l m;by_cases ab:DR l m=0;rotate_left
 .have G:Hid<|DR l m≠0:=ab
  have H:Hid<|IE l m=DR l m:=by show _=_;unfold IE;rw[NS G.out]
  have I:Hid<|Jy l m=ByteArray.empty:=by show _=_;unfold Jy;rw[NS (by rw[H.out];exact G)]
  go_enter func123,ntmps123;go_wp2_with fail
  go_call IW a cap l m _ J O Z h as e w1 ⟨rfl,hB⟩
  rw[ak.out,ap.out,AP rfl G.out];go_wp2;go_ret2;exact⟨Sa I (by rw[H.out,AP rfl G.out];rfl),hB⟩
 have G:=hid ab;have ar:Fw l:=(LB.1 ab).1.2.2;cases hfd:DG l m with
 |none=>
  have H:Hid<|IE l m=5:=by show _=_;unfold IE;rw[NO (by simpa using G.out),hfd,NS rfl]
  have I:Hid<|Jy l m=ByteArray.empty:=by show _=_;unfold Jy;rw[NS (by rw[H.out];decide)]
  have ad:Hid<|Ej l m=false:=by show _=_;unfold Ej;rw[hfd];simp
  go_enter func123,ntmps123;go_wp2_with fail
  go_call IW a cap l m _ J O Z h as e w1 ⟨rfl,hB⟩
  rw[ak.out,ad.out,DE G.out];go_wp2;go_ret2;exact⟨Sa I (by rw[H.out];rfl),hB⟩
 |some x=>
  obtain⟨hx,_⟩:=PG m ar hfd;have H:Hid<|IE l m=0:=by show _=_;unfold IE;rw[NO (by simpa using G.out),hfd,NO oS]
  have I:Hid<|Jy l m=x.v:=by show _=_;unfold Jy;rw[NO (by simpa using H.out),hfd]
  have ad:Hid<|Ej l m=true:=by show _=_;unfold Ej;rw[hfd,NY G.out];rfl
  have al:Hid<|GX l m=plc l m:=by show _=_;unfold GX;rw[NS G.out]
  have ao:=(NE.1 hx).1;generalize plc l m=p at al hx ao;have a6:(p:Int)<(l.length:Int):=by omega
  have h':=h;rcases h' with rfl|⟨b,aw,rfl,az⟩
  .simp at ao
  obtain⟨aA,q1⟩:=az p x hx;have a1:b<w.heap.size:=bL aA;go_enter func123,ntmps123;go_wp2_with fail
  go_call IW _ cap l m _ J O Z h as e w1 ⟨rfl,hB⟩
  rw[al.out,ad.out,DE G.out];have q2:=(hB.cell (p:=(aD b<|aw+p*2+1)) a1).trans q1;go_wp2;go_ret2;exact⟨Sa I<|DE H,hB⟩
theorem kX(H:Nat)(A B C:Kf)(L:List Kv)(w:World)(Z:L=A.l++(B.l++C.l))(ab:L.length<=1000)
 (ad:w.cell? (aD H 0)=some (.slice A.a A.l.length A.c)) (ak:w.cell? (aD H 1)=some (.slice B.a B.l.length B.c)) (al:w.cell? (aD H 2)=some (.slice C.a C.l.length C.c))
 (ao:Bg w.cell? A.a A.l) (ap:Bg w.cell? B.a B.l) (ar:Bg w.cell? C.a C.l):
 Calls prog 186 #[sL H 0 3 3] w λe w'=>(∃I cp,e=.returned (.slice I L.length cp)/\L.length<=cp/\cp<=9223372036854775807/\Bg w'.cell? I L)/\Below w.heap.size w w':=by
 have J:DW [A,B,C]=L:=by rw[Z];simp[DW]
 refine(Uv H 3 [A,B,C] w oS (by rw[J];exact ab) ?_).mono ?_
 .intro i p G
  match i with
  |0=>simp at G;subst G;exact⟨ad,ao⟩
  |1=>simp at G;subst G;exact⟨ak,ap⟩
  |2=>simp at G;subst G;exact⟨al,ar⟩
  |j+3=>simp at G
 .rintro e w' ⟨⟨v,rfl,O⟩,aw⟩
  rw[J]at O;obtain⟨a,cap,az,g1,aA,g3⟩:=Oj O;exact⟨⟨a,cap,by rw[az],g1,by omega,g3⟩,aw⟩
theorem jR(H:Nat)(A B:Kf)(L:List Kv)(w:World)(Z:L=A.l++B.l)(ab:L.length<=1000)
 (ad:w.cell? (aD H 0)=some (.slice A.a A.l.length A.c)) (ak:w.cell? (aD H 1)=some (.slice B.a B.l.length B.c))
 (al:Bg w.cell? A.a A.l) (ao:Bg w.cell? B.a B.l):
 Calls prog 186 #[sL H 0 2 2] w λe w'=>(∃I cp,e=.returned (.slice I L.length cp)/\L.length<=cp/\cp<=9223372036854775807/\Bg w'.cell? I L)/\Below w.heap.size w w':=by
 have J:DW [A,B]=L:=by rw[Z];simp[DW]
 refine(Uv H 2 [A,B] w oS (by rw[J];exact ab) ?_).mono ?_
 .intro i p G
  match i with
  |0=>simp at G;subst G;exact⟨ad,al⟩
  |1=>simp at G;subst G;exact⟨ak,ao⟩
  |j+2=>simp at G
 .rintro e w' ⟨⟨v,rfl,O⟩,ap⟩
  rw[J]at O;obtain⟨a,cap,ar,g1,aw,g3⟩:=Oj O;exact⟨⟨a,cap,by rw[ar],g1,by omega,g3⟩,ap⟩
def F6(w:World)(b:Nat):Prop:=(Ce w b 0 (iN 0)/\Ce w b 1 (iN 0)/\Ce w b 2 (iN 0)/\Ce w b 3 (iN 0)/\Ce w b 4 (iN 0)/\Ce w b 5 (nL)/\Ce w b 6 (.string ⟨#[]⟩))/\∀j,w.frozen? (aD b j)=false
theorem F6.new(w:World)(b:Nat)(hb:b=w.heap.size):F6 (w.alloc Qz) b:=⟨⟨rO _ _ _ _ hb,rO _ _ _ _ hb,rO _ _ _ _ hb,rO _ _ _ _ hb,rO _ _ _ _ hb,rO _ _ _ _ hb,rO _ _ _ _ hb⟩,λ_=>RB _ _ _ _ hb⟩
theorem F6.lt(h:F6 w b):b<w.heap.size:=NF w (aD b 0) h.1.1
theorem F6.below{w':World}(h:F6 w b)(hb:Bw w w'):F6 w' b:=by
 obtain⟨⟨G,H,I,J,O,Z,ab⟩,ad⟩:=id h;exact⟨⟨Aj hb G,Aj hb H,Aj hb I,Aj hb J,Aj hb O,Aj hb Z,Aj hb ab⟩,λj=>(hb.frozen (p:=(aD b j)) h.lt).trans<|ad j⟩
theorem K0{i:Nat}{v x:Value}(h:Ce w b i x)(j:Nat):Ce (w.setCell (aD b j) v) b i (if i=j then v else x):=by grind [N2,Bt]
theorem GV{w0 G:World}{r:Nat}(T:F6 G r)(ab:Bw w0 G)(I:w0.heap.size<=r)(v0 J O v3 v4 v5 Z:Value):∃H,Hid (((((((G.setCell (aD r 0) v0).setCell (aD r 1) J).setCell (aD r 2) O).setCell (aD r 3) v3).setCell (aD r 4) v4).setCell (aD r 5) v5).setCell (aD r 6) Z=H)/\Hid (Bw w0 H)/\(Ce G r 0 (iN 0)/\Ce G r 1 (iN 0)/\Ce G r 2 (iN 0)/\Ce G r 3 (iN 0)/\Ce G r 4 (iN 0)/\Ce G r 5 (nL)/\Ce G r 6 (.string ⟨#[]⟩))/\(G.frozen? (aD r 0)=false/\G.frozen? (aD r 1)=false/\G.frozen? (aD r 2)=false/\G.frozen? (aD r 3)=false/\G.frozen? (aD r 4)=false/\G.frozen? (aD r 5)=false/\G.frozen? (aD r 6)=false)/\Ce H r 0 v0/\Ce H r 1 J/\Ce H r 2 O/\Ce H r 3 v3/\Ce H r 4 v4/\Ce H r 5 v5/\Ce H r 6 Z:=by
 obtain⟨ad,ak,al,ao,ap,ar,aw⟩:=T.1;have k {i:Nat} {x:Value} (h:Ce G r i x):=K0 (K0 (K0 (K0 (K0 (K0 (K0 h 0 (v:=v0)) 1 (v:=J)) 2 (v:=O)) 3 (v:=v3)) 4 (v:=v4)) 5 (v:=v5)) 6 (v:=Z);exact⟨_,rfl,((((((ab.setCell (p:=(aD r 0)) I _).setCell (p:=(aD r 1)) I _).setCell (p:=(aD r 2)) I _).setCell (p:=(aD r 3)) I _).setCell (p:=(aD r 4)) I _).setCell (p:=(aD r 5)) I _).setCell (p:=(aD r 6)) I _,T.1,⟨T.2 0,T.2 1,T.2 2,T.2 3,T.2 4,T.2 5,T.2 6⟩,k ad,k ak,k al,k ao,k ap,k ar,k aw⟩
theorem Mh(w:World)(cop:Int)(cpath coth cname cdata:BA)(cA cB:Int):∃G,Hid ((w.alloc<|AY cop cpath coth cname cdata cA cB).alloc Qz=G)/\Hid (Bw w G)/\Hid (F6 G<|w.heap.size+1)/\Ce G w.heap.size 0 (iN cop)/\Ce G w.heap.size 1 (.string cpath)/\Ce G w.heap.size 2 (.string coth)/\Ce G w.heap.size 3 (.string cname)/\Ce G w.heap.size 4 (.string cdata)/\Ce G w.heap.size 5 (iN cA)/\Ce G w.heap.size 6 (iN cB):=
 have hb:Bw w<|w.alloc<|AY cop cpath coth cname cdata cA cB:=(NB _ _).alloc (rP _) _
 ⟨_,rfl,hb.alloc hb.size _,F6.new _ _ (by rw[ND]),c7 w cop cpath coth cname cdata cA cB Qz⟩
theorem Y1{ry:List BA}{t dir:Th}{na:Option Addr}{nc:Nat}{nm:List BA}{J:Bool}{O Z ab ad:Int}{ak:Bool}{G:List Kv}{al:BA}{xs:Ay}{ao:Hd}{ly:Int}(H:BN B x0 rM)(h:Jc B w ry ⟨t,dir,na,nc,nm,J,.mk O Z ab ad ak G al xs,ao,ly⟩)(ap:J=true):G.length<=255/\F8 G:=by
 obtain⟨q,r,ar,I,_⟩:=h.there ap;dsimp only at I
 have e:=VN (xs:=B.xs) (λx hx=>by
  rw[H.xs]at hx;rcases R1.1 hx with rfl|hx
  .exact H.fine.lil
  .exact H.lils x hx) ry q (by rw[ar];exact N4 ..)
 obtain⟨⟨k,m,u,g,o,rL,d,ks⟩,l⟩:=q;rw[AI]at e;simp only[Nd.with,Nd.mk.injEq]at I;obtain⟨_,_,_,_,_,rfl,_⟩:=I;exact⟨e.1.1,e.1.2⟩
theorem Dr.ope{Z H:World}{r:Nat}{p:BA}{P:Except Int Gv}{e:Ending}(h:Dr B H p true P e)(bi:BN B x0 rM)(aw:Bw w Z)(ab:Bw Z H)(bd:F6 Z r):∃cs E G,e=.returned (.tuple #[Cg cs,Ao E])/\(storeCells (aD H.heap.size 0) cs 0).run prog (H.alloc A2)=.ok () G/\Hid (cs.length=21)/\Hid (Bw w G)/\Hid (Bw Z G)/\Hid (F6 G r)/\Hid (w.heap.size<=H.heap.size)/\Hid (r<H.heap.size)/\Hid (E≠0->P=.error E)/\Hid (E=0->∃(ad:Bool) (ak al ao:Int) (az:Bool) (aA:Th) (na:Option Addr) (nc:Nat) (ry:List BA) (a1:Bool) (ap a6 a7 a8:Int) (ba:Bool) (J:List Kv) (ar:BA) (xs:Ay) (O:Hd) (ly:Int),Hid (P=.ok (⟨ad,ak,al,ao,az⟩,aA,a1,.mk ap a6 a7 a8 ba J ar xs,ly))/\(Ce G H.heap.size 0 (.bool ad)/\Ce G H.heap.size 1 (iN ak)/\Ce G H.heap.size 2 (iN al)/\Ce G H.heap.size 3 (iN ao)/\Ce G H.heap.size 10 (.slice na ry.length nc)/\Ce G H.heap.size 12 (iN ap)/\Ce G H.heap.size 17 (.slice O.aa J.length O.ca)/\Ce G H.heap.size 18 (.string ar))/\Hid (Bi G.cell? na ry/\ry.length<=6)/\Hid (J.length<=255/\F8 J/\Bg G.cell? O.aa J)):=by
 obtain⟨cs,E,rfl,be,bk,bl,bn⟩:=h;obtain⟨G,bo,I,bb,_⟩:=JP H cs be bk;have q8:=ab.trans<|bb.out.mono ab.size;refine⟨cs,E,G,rfl,bo,be,aw.trans<|q8.mono aw.size,q8,bd.below q8,Rz aw.size ab.size,N1 bd.lt ab.size,bn,λbp=>?_⟩;obtain⟨⟨⟨ad,ak,al,ao,az⟩,aA,na,nc,ry,a1,⟨ap,a6,a7,a8,ba,J,ar,xs⟩,O,ly⟩,bq,bs,bu,bx,bC,bf,bA,bB⟩:=bl bp;subst bq;have bg:=Y1 bi bf<|bA rfl;exact⟨ad,ak,al,ao,az,aA,na,nc,ry,a1,ap,a6,a7,a8,ba,J,ar,xs,O,ly,bB,⟨I 0 _ rfl,I 1 _ rfl,I 2 _ rfl,I 3 _ rfl,I 10 _ rfl,I 12 _ rfl,I 17 _ rfl,I 18 _ rfl⟩,⟨bx.on<|Ai bb.out,by have e:ry=_:=bu;rw[e];exact(I1 bs).2.1⟩,bg.1,bg.2,(Cs.1<|bf.nd.on<|Ai bb.out).1⟩
def Ja(E:Int)(e:Ending):Prop:=∃(k m u g n:Int) (a:Option Addr) (l c:Nat) (d:BA),e=.returned (.tuple #[.agg #[iN k,iN m,iN u,iN g,iN n,.slice a l c,.string d],Ao E])
theorem Gs{E:Int}{v:Value}(k m u g n:Int)(a:Option Addr)(l c:Nat)(d:BA)(h:G=E)(H:Ao E=v):Ja G<|.returned<|.tuple #[.agg #[iN k,iN m,iN u,iN g,iN n,.slice a l c,.string d],v]:=⟨k,m,u,g,n,a,l,c,d,by rw[h,H]⟩
def Nd.atl:Nd->List Kv
 |.mk _ _ _ _ _ a _ _=>a
theorem Ja.cast{E:Int}{e:Ending}(h:Ja E e)(H:E=G):Ja G e:=H▸h
def Hr{α:Type}:Except Int α->Int
 |.error E=>E
 |.ok _=>0
end Go.Proofs.YtchpdmjlicmdaaaGreatDoor
