/-
  TopQuota: Yv Ys Yw.
-/
import Derived.Test.YtofhphibahcniaaGreatDoorApX
import Derived.Test.YtofhphibahcniaaGreatDoorXwX
import Derived.Test.YtofhphibahcniaaGreatDoorYgX
import Derived.Test.YtofhphibahcniaaGreatDoorYbX
set_option maxRecDepth 100000
set_option maxHeartbeats 16000000
namespace Go.Proofs.YtofhphibahcniaaGreatDoor
open Go.RowKit Go.Proofs.Tryz
structure DS (w W:World) (ra rb:Nat) (vs us:List Value):Prop where
 bel:Bw w W
 ga:w.heap.size≤ra
 gb:w.heap.size≤rb
 ne:ra≠rb
 a:∀o,W.cell? ⟨ra,o,none⟩=vs[o]?
 b:∀o,W.cell? ⟨rb,o,none⟩=us[o]?
 fa:∀q,W.frozen? ⟨ra,q,none⟩=false
 fb:∀q,W.frozen? ⟨rb,q,none⟩=false
 la:vs.length=21
 lb:us.length=21
theorem DS.rowA{w W:World}{F H:Nat}{G us:List Value}(h:DS w W F H G us):A7 W F 0 G:=fun i v I=>by rw[nU,h.a,I]
theorem DS.rowB{w W:World}{G F:Nat}{H us:List Value}(h:DS w W G F H us):A7 W F 0 us:=fun i v I=>by rw[nU,h.b,I]
theorem DS.lta{w W:World}{F H:Nat}{G us:List Value}(h:DS w W F H G us):F<W.heap.size:=nz W ⟨F,0,none⟩ (h.rowA 0 (G[0]'(by rw[h.la];omega)) (nt (by rw[h.la];omega)))
theorem DS.ltb{w W:World}{G F:Nat}{H us:List Value}(h:DS w W G F H us):F<W.heap.size:=nz W ⟨F,0,none⟩ (h.rowB 0 (us[0]'(by rw[h.lb];omega)) (nt (by rw[h.lb];omega)))
theorem DS.below{w W H:World}{F G:Nat}{I us:List Value}(h:DS w W F G I us)(hb:Bw W H):DS w H F G I us:=
 ⟨h.bel.trans (hb.mono h.bel.size),h.ga,h.gb,h.ne,fun o=>(hb.cell (p:=⟨F,o,none⟩) h.lta).trans (h.a o),fun o=>(hb.cell (p:=⟨G,o,none⟩) h.ltb).trans (h.b o),fun o=>(hb.frozen (p:=⟨F,o,none⟩) h.lta).trans (h.fa o),fun o=>(hb.frozen (p:=⟨G,o,none⟩) h.ltb).trans (h.fb o),h.la,h.lb⟩
theorem Ou{W:World}{r:Nat}{F cs:List Value}(H:∀o,W.cell? ⟨r,o,none⟩=F[o]?)(h:F.length=cs.length)(o:Nat):(W.setCells r 0 cs).cell? ⟨r,o,none⟩=cs[o]?:=by
 have I:A7 W r 0 F:=fun i v J=>by rw[nU,H,J]
 rcases Nat.lt_or_ge o cs.length with G|G
 ·have e:=Dh cs I h o cs[o] (nt G)
  rw[nU]at e;rw[e,nt G]
 ·rw[←Id,IM _ _ _ (fun j O e=>by injection e with _ e2;omega),H,List.getElem?_eq_none (by omega),List.getElem?_eq_none (by omega)]
theorem DS.setA{w W:World}{F G:Nat}{I us:List Value}(h:DS w W F G I us)(cs:List Value)(H:cs.length=21):DS w (W.setCells F 0 cs) F G cs us:=
 ⟨CX cs h.ga h.bel,h.ga,h.gb,h.ne,Ou h.a (by rw[H,h.la]),fun o=>(BP (fun e=>h.ne e.symm)).trans (h.b o),fun q=>by rw[rm];exact h.fa q,fun q=>by rw[rm];exact h.fb q,H,h.lb⟩
theorem DS.setB{w W:World}{G F:Nat}{H us:List Value}(h:DS w W G F H us)(cs:List Value)(I:cs.length=21):DS w (W.setCells F 0 cs) G F H cs:=
 ⟨CX cs h.gb h.bel,h.ga,h.gb,h.ne,fun o=>(BP (fun e=>h.ne e)).trans (h.a o),Ou h.b (by rw[I,h.lb]),fun q=>by rw[rm];exact h.fa q,fun q=>by rw[rm];exact h.fb q,h.la,I⟩
theorem LC{W:World}{r:Nat}{cs:List Value}(G:∀o,W.cell? ⟨r,o,none⟩=cs[o]?):AR W.cell? (W.setCells r 0 cs).cell?:=fun q v F=>by
 obtain⟨H,J,I⟩:=q;by_cases hb:H=r
 ·subst hb
  cases I with
  |none=>rw[Ou G rfl,←G];exact F
  |some s=>rw[←Id,IM _ _ _ (fun j _ e=>by injection e with _ _ e3;cases e3)];exact F
 ·exact(BP hb).trans F
theorem CL.mle{B:Bx}{w w':World}{p:BA}{F:Bool}{P:Except Int Fy}{e:Ending}(h:CL B w p F P e)(hb:AR w.cell? w'.cell?):CL B w' p F P e:=by
 obtain⟨cs,E,G,H,I,J,O⟩:=h;refine⟨cs,E,G,H,I,fun e=>?_,O⟩;obtain⟨f,Q,R,T,V,Y,f6,Z⟩:=J e;exact⟨f,Q,R,T,V.on hb,Y,⟨f6.t,f6.dir,f6.nd.on hb,f6.there,f6.no⟩,Z⟩
theorem CL.both{B:Bx}{w:World}{p:BA}{H:Bool}{P:Except Int Fy}{cs:List Value}{E:Int}(h:CL B w p H P (.returned (.tuple #[BT cs,Am E]))):(E=0→∃f:Fd,cs=f.l∧CA p.data.toList=0∧f.nf=A4 p.data.toList∧AW w.cell? f.na f.nf∧(f.nf.length≤f.nc∧f.nc≤9223372036854775807)∧GS B w f.nf f∧(H=true→f.there=true)∧P=.ok f.pur)∧(E≠0→P=.error E):=by
 obtain⟨I,J,F,_,_,O,Q⟩:=h;injection F with F
 injection F with F
 have G:=nW Array.toList F;injection G with he2 G
 injection G with he3 _
 have R:cs=I:=by
  unfold BT at he2;injection he2 with he2
  exact List.toArray_inj he2
 have T:E=J:=Sr he3;subst R T;exact⟨O,Q⟩
noncomputable def AO.endE (c:AO) (p o:BA):Int:=if p.data.toList=[47]then 15 else if o.data.toList=[47]then 15 else if CA p.data.toList≠0 then CA p.data.toList else if CA o.data.toList≠0 then CA o.data.toList else match c.atP true p with
 |.error E=>E
 |.ok f=>if c.bx.takE f.1 f.2.1=0 then(match c.atP false o with
  |.error E=>E
  |.ok _=>0)else c.bx.takE f.1 f.2.1
def Wj(B:Bx)(w:World)(p o:BA)(S:Int)(e:Ending):Prop:=∃cs F E,e=.returned (.tuple #[BT cs,BT F,Am E])∧(cs.length=21∧F.length=21)∧((∀v∈cs,v.oneCell'=true)∧∀v∈F,v.oneCell'=true)∧E=S∧(E=0→(p.data.toList≠[47]∧o.data.toList≠[47])∧CL B w p true (B.cor.atP true p) (.returned (.tuple #[BT cs,Am 0]))∧CL B w o false (B.cor.atP false o) (.returned (.tuple #[BT F,Am 0])))
theorem RO{w:World}{b:Nat}{B:Bx}(h:AX w b B)(J:It B){p:BA}(O:CA p.data.toList=0){an:Option Addr}{nj:Nat}{N:List BA}(Q:A4 p.data.toList=N)(G:AW w.cell? an N)(H:N.length≤nj∧nj≤9223372036854775807):
 Calls prog 117 #[.pointer (some ⟨b,0,none⟩),.slice an N.length nj] w fun e w'=>(∃cs E F,e=.returned (.tuple #[BT cs,Am E])∧FG B w' p (.returned (.tuple #[BT cs,Am E]))∧cs.length=21∧(∀v∈cs,v.oneCell'=true)∧cs[11]? =some (.bool F))∧Bw w w':=by
 subst Q;refine np (Tk h J (an:=an) (nj:=nj) (nf:=A4 p.data.toList) G (Da _).1) ?_;rintro e w' ⟨R,c⟩;have I:FG B w' p e:=.inr ⟨O,an,nj,G.on (Aj c),H.1,H.2,R⟩;obtain⟨cs,E,F,rfl,T,V,Y⟩:=I.form;exact⟨⟨cs,E,F,rfl,I,T,V,Y⟩,c⟩
theorem ZI{w:World}{b:Nat}{B:Bx}{x0:Nd}{ni:List Nd}(h:AX w b B)(d3:Bv B x0 ni){cop cA cB:Int}{cpath coth cname cdata:BA}(cx:Int)(c3:w.cell? ⟨0,0,none⟩=some (.int .i64 cx)):
 Calls prog 90 #[.pointer (some ⟨b,0,none⟩),.agg #[.int .i64 cop,.string cpath,.string coth,.string cname,.string cdata,.int .i64 cA,.int .i64 cB]] w fun e w'=>Wj B w' cpath coth (B.cor.endE cpath coth) e∧Bw w w':=by
 obtain⟨a1,J⟩:∃S,Hid (B.cor.endE cpath coth=S):=⟨_,rfl⟩;rw[J.out];unfold AO.endE at J;have bx:Bw w (w.alloc (Az cop cpath coth cname cdata cA cB)):=(nv _ _).alloc (nn _) _;have b7:Bw w (((w.alloc (Az cop cpath coth cname cdata cA cB)).alloc AU).alloc AU):=(bx.alloc bx.size _).alloc (bx.alloc bx.size _).size _;have c4:Ce (((w.alloc (Az cop cpath coth cname cdata cA cB)).alloc AU).alloc AU) w.heap.size 1 (.string cpath):=AE (AE (nl _ _ _ _ rfl));have b9:Ce (((w.alloc (Az cop cpath coth cname cdata cA cB)).alloc AU).alloc AU) w.heap.size 2 (.string coth):=AE (AE (nl _ _ _ _ rfl));have az:Hid (DS w (((w.alloc (Az cop cpath coth cname cdata cA cB)).alloc AU).alloc AU) (w.heap.size+1) (w.heap.size+1+1) CJ CJ):=by
  have c5:(w.alloc (Az cop cpath coth cname cdata cA cB)).heap.size=w.heap.size+1:=nw _ _;have d4:((w.alloc (Az cop cpath coth cname cdata cA cB)).alloc AU).heap.size=w.heap.size+1+1:=by rw[nw,c5]
  have d5:Bw ((w.alloc (Az cop cpath coth cname cdata cA cB)).alloc AU) (((w.alloc (Az cop cpath coth cname cdata cA cB)).alloc AU).alloc AU):=(nv _ _).alloc (nn _) _;refine⟨b7,by omega,by omega,by omega,fun o=>?_,fun o=>?_,fun q=>?_,fun q=>?_,rfl,rfl⟩
  ·rw[d5.cell (p:=⟨w.heap.size+1,o,none⟩) (by show w.heap.size+1<_;omega),nl _ _ _ _ c5.symm];simp
  ·rw[nl _ _ _ _ d4.symm];simp
  ·rw[d5.frozen (p:=⟨w.heap.size+1,q,none⟩) (by show w.heap.size+1<_;omega)];exact nQ _ _ _ _ c5.symm
  ·exact nQ _ _ _ _ d4.symm
 have c6:=hid h;have cb:=hid d3;have c8:Hid (∀bf s,Calls prog 85 #[.string s] bf fun e w'=>(∃r,e=.returned (.bool r)∧(r=false→s.data.toList≠[47])∧(r=true→s.data.toList=[47]))∧bf=w'):=fun bf s=>QC bf s;have c9:Hid _:=MY cpath (((w.alloc (Az cop cpath coth cname cdata cA cB)).alloc AU).alloc AU) cx (Af b7 c3)
 obtain⟨a6,da⟩:∃a6,Hid (CA cpath.data.toList=a6):=⟨_,rfl⟩;obtain⟨N,d6⟩:∃N,Hid (A4 cpath.data.toList=N):=⟨_,rfl⟩;rw[da.out,d6.out]at c9;have d7:=hid (Af b7 c3);clear h d3 b7 bx c3;go_enter func90,ntmps90;go_upto_region 1 with fail
 generalize(((w.alloc (Az cop cpath coth cname cdata cA cB)).alloc AU).alloc AU)=bf at*;generalize w.heap.size+1+1=R at*;generalize w.heap.size+1=O at*;go_wp2_with fail
 refine np (c8.out _ _) ?_;rintro e eB ⟨⟨r,rfl,a7,bg⟩,rfl⟩;cases r with
 |true=>
  have Z:Hid (15=a1):=(nD (bg rfl)).symm.trans J.out;clear bg;clear a7 c4 b9;go_upto_region 2 with fail
  obtain⟨c0,G,H,ad⟩:=z21;have I:=hid G;have T:=hid H;have ak:=Cd (P:=prog) az.out.rowA az.out.fa (az.out.la.trans G.symm) H;have F:=hid (az.out.setA c0 G);generalize bf.setCells O 0 c0=ao at ak F;have ap:=Cd (P:=prog) F.out.rowB F.out.fb (F.out.lb.trans G.symm) H;have RB:=hid (F.out.setB c0 G);generalize ao.setCells R 0 c0=Q at ap RB;have aa:=run_loadVar_mid (P:=prog) Q O 0 101 c0 _ RB.out.rowA rfl rfl (by rw[I.out];rfl);have ab:=run_loadVar_mid (P:=prog) Q R 0 101 c0 _ RB.out.rowB rfl rfl (by rw[I.out];rfl);have bA:=ad.out;have ar:=BV c0;unfold Value.cells at ar;clear H F;go_wp2;refine nG (v:=.tuple #[.agg c0.toArray,.agg c0.toArray,.iface 78 (.int .i64 15)]) ?_ rfl ⟨⟨c0,c0,15,rfl,⟨I.out,I.out⟩,⟨T.out,T.out⟩,Z.out,fun e=>absurd e (by decide)⟩,RB.out.bel⟩;simp[results,results90,asAddr,aa,ab]
 |false=>
  have eE:=hid (a7 rfl);rw[nC (a7 rfl)]at J;clear a7 bg;go_wp2_with fail
  refine np (c8.out _ _) ?_;rintro e eB ⟨⟨r,rfl,a7,bg⟩,rfl⟩;cases r with
  |true=>
   have Z:Hid (15=a1):=(nD (bg rfl)).symm.trans J.out;clear bg;clear a7 c4 b9;go_upto_region 2 with fail
   obtain⟨c0,G,H,ad⟩:=z21;have I:=hid G;have T:=hid H;have ak:=Cd (P:=prog) az.out.rowA az.out.fa (az.out.la.trans G.symm) H;have F:=hid (az.out.setA c0 G);generalize bf.setCells O 0 c0=ao at ak F;have ap:=Cd (P:=prog) F.out.rowB F.out.fb (F.out.lb.trans G.symm) H;have RB:=hid (F.out.setB c0 G);generalize ao.setCells R 0 c0=Q at ap RB;have aa:=run_loadVar_mid (P:=prog) Q O 0 101 c0 _ RB.out.rowA rfl rfl (by rw[I.out];rfl);have ab:=run_loadVar_mid (P:=prog) Q R 0 101 c0 _ RB.out.rowB rfl rfl (by rw[I.out];rfl);have bA:=ad.out;have ar:=BV c0;unfold Value.cells at ar;clear H F;go_wp2;refine nG (v:=.tuple #[.agg c0.toArray,.agg c0.toArray,.iface 78 (.int .i64 15)]) ?_ rfl ⟨⟨c0,c0,15,rfl,⟨I.out,I.out⟩,⟨T.out,T.out⟩,Z.out,fun e=>absurd e (by decide)⟩,RB.out.bel⟩;simp[results,results90,asAddr,aa,ab]
  |false=>
   have eL:=hid (a7 rfl);rw[nC (a7 rfl)]at J;clear a7 bg c8;go_wp2_with fail
   refine np c9.out ?_;rintro e db ⟨⟨d8,d9,rfl,bB,bC,bF⟩,c2⟩;have bo:=hid (az.out.below c2);have ea:=Af c2 b9;have dd:Hid _:=MY coth db cx (Af c2 d7.out);obtain⟨F2,de⟩:∃a6,Hid (CA coth.data.toList=a6):=⟨_,rfl⟩;obtain⟨cd,dg⟩:∃N,Hid (A4 coth.data.toList=N):=⟨_,rfl⟩;rw[de.out,dg.out]at dd;rw[da.out,de.out]at J;have e0:Hid (N.length≤d9∧d9≤9223372036854775807):=⟨bB,bC⟩;have bG:Hid (AW db.cell? d8 N):=bF;clear c9 c2 c4 b9 bB bC bF d7 az;by_cases hF:a6=0
   case neg=>
    have ay:=AG (n:=a6) rfl hF;have Z:Hid (a6=a1):=(nD hF).symm.trans J.out;rw[ay];clear ea;go_upto_region 5 with fail
    obtain⟨c0,G,H,ad⟩:=z21;have I:=hid G;have T:=hid H;have ak:=Cd (P:=prog) bo.out.rowA bo.out.fa (bo.out.la.trans G.symm) H;have F:=hid (bo.out.setA c0 G);generalize db.setCells O 0 c0=ao at ak F;have ap:=Cd (P:=prog) F.out.rowB F.out.fb (F.out.lb.trans G.symm) H;have RB:=hid (F.out.setB c0 G);generalize ao.setCells R 0 c0=Q at ap RB;have aa:=run_loadVar_mid (P:=prog) Q O 0 101 c0 _ RB.out.rowA rfl rfl (by rw[I.out];rfl);have ab:=run_loadVar_mid (P:=prog) Q R 0 101 c0 _ RB.out.rowB rfl rfl (by rw[I.out];rfl);have bA:=ad.out;have ar:=BV c0;unfold Value.cells at ar;clear H F;go_wp2;refine nG (v:=.tuple #[.agg c0.toArray,.agg c0.toArray,.iface 78 (.int .i64 a6)]) ?_ rfl ⟨⟨c0,c0,a6,by rw[ay];rfl,⟨I.out,I.out⟩,⟨T.out,T.out⟩,Z.out,fun e=>absurd e (hF)⟩,RB.out.bel⟩;simp[results,results90,asAddr,aa,ab]
   case pos=>
    subst hF;rw[nC (by decide)]at J;rw[show Am 0=Value.nilIface from rfl];go_wp2_with fail
    refine np dd.out ?_;rintro e dj ⟨⟨dk,eb,rfl,bB,bC,bF⟩,dm⟩;have bi:=hid (bo.out.below dm);have e1:Hid (cd.length≤eb∧eb≤9223372036854775807):=⟨bB,bC⟩;have bH:Hid (AW dj.cell? dk cd):=bF;have ec:Hid (AW dj.cell? d8 N):=bG.out.on (Aj dm);clear dd dm ea bB bC bF bo bG;by_cases cf:F2=0
    case neg=>
     have ay:=AG (n:=F2) rfl cf;have Z:Hid (F2=a1):=(nD cf).symm.trans J.out;rw[ay];go_upto_region 8 with fail
     obtain⟨c0,G,H,ad⟩:=z21;have I:=hid G;have T:=hid H;have ak:=Cd (P:=prog) bi.out.rowA bi.out.fa (bi.out.la.trans G.symm) H;have F:=hid (bi.out.setA c0 G);generalize dj.setCells O 0 c0=ao at ak F;have ap:=Cd (P:=prog) F.out.rowB F.out.fb (F.out.lb.trans G.symm) H;have RB:=hid (F.out.setB c0 G);generalize ao.setCells R 0 c0=Q at ap RB;have aa:=run_loadVar_mid (P:=prog) Q O 0 101 c0 _ RB.out.rowA rfl rfl (by rw[I.out];rfl);have ab:=run_loadVar_mid (P:=prog) Q R 0 101 c0 _ RB.out.rowB rfl rfl (by rw[I.out];rfl);have bA:=ad.out;have ar:=BV c0;unfold Value.cells at ar;clear H F;go_wp2;refine nG (v:=.tuple #[.agg c0.toArray,.agg c0.toArray,.iface 78 (.int .i64 F2)]) ?_ rfl ⟨⟨c0,c0,F2,by rw[ay];rfl,⟨I.out,I.out⟩,⟨T.out,T.out⟩,Z.out,fun e=>absurd e (cf)⟩,RB.out.bel⟩;simp[results,results90,asAddr,aa,ab]
    case pos=>
     subst cf;rw[nC (by decide)]at J;rw[show Am 0=Value.nilIface from rfl];have bY:=hid (RO (c6.out.below bi.out.bel) cb.out.good da.out d6.out ec.out e0.out);go_wp2_with fail
     refine np bY.out ?_;rintro e e2 ⟨⟨cs,E,b0,rfl,b1,a8,bk,b2⟩,dn⟩;have ed:Hid _:=PU e2 cs a8 bk b0 b2 E;clear bY;go_wp2_with fail
     refine np ed.out ?_;rintro e dp ⟨rfl,cg⟩;obtain⟨V,D,dr,ch,ds⟩:=Sj cs a8 bk E b0;have bp:=hid ((bi.out.below dn).below cg);have ee:Hid (AW dp.cell? dk cd):=(bH.out.on (Aj dn)).on (Aj cg);have ef:=IW cb.out.good ⟨cs,E,b0,b1.below cg,a8,b2,by rw[dr]⟩;have b3:=hid (ef.set (Da _).2 bp.out.a V);have du:Hid (AW (dp.setCells O 0 V).cell? dk cd):=by
      rcases ee.out with e|⟨eg,e3,e4,ej⟩
      ·exact .inl e
      ·refine .inr ⟨eg,e3,e4,fun i s dw=>(BP ?_).trans (ej i s dw)⟩
       intro e;have e:eg=O:=e;subst e;exact(Da coth.data.toList).2 s (by rw[dg.out];exact nE dw) (Me ((bp.out.a _).symm.trans (ej i s dw)))
     have bs:=Cd (P:=prog) bp.out.rowA bp.out.fa (by rw[ch];rfl) ds;have ba:=hid (bp.out.setA V ch);generalize dp.setCells O 0 V=e5 at bs ba b3 du;have bu:=BV V;unfold Value.cells at bu;have b4:=hid ch;have ek:=hid ds;rw[dr];clear dr b1 bk a8 b2 dn cg ef ds ch ed bi bH ec bp ee;by_cases cl:D=0
     case neg=>
      have ay:=AG (n:=D) rfl cl;rw[b3.out.both.2 cl]at J;have Z:Hid (D=a1):=J.out;rw[ay];go_upto_region 11 with fail
      clear bs bu;obtain⟨c0,G,H,ad⟩:=z21;have I:=hid G;have T:=hid H;have ak:=Cd (P:=prog) ba.out.rowA ba.out.fa (ba.out.la.trans G.symm) H;have F:=hid (ba.out.setA c0 G);generalize e5.setCells O 0 c0=ao at ak F;have ap:=Cd (P:=prog) F.out.rowB F.out.fb (F.out.lb.trans G.symm) H;have RB:=hid (F.out.setB c0 G);generalize ao.setCells R 0 c0=Q at ap RB;have aa:=run_loadVar_mid (P:=prog) Q O 0 101 c0 _ RB.out.rowA rfl rfl (by rw[I.out];rfl);have ab:=run_loadVar_mid (P:=prog) Q R 0 101 c0 _ RB.out.rowB rfl rfl (by rw[I.out];rfl);have bA:=ad.out;have ar:=BV c0;unfold Value.cells at ar;clear H F;go_wp2;refine nG (v:=.tuple #[.agg c0.toArray,.agg c0.toArray,.iface 78 (.int .i64 D)]) ?_ rfl ⟨⟨c0,c0,D,by rw[ay];rfl,⟨I.out,I.out⟩,⟨T.out,T.out⟩,Z.out,fun e=>absurd e (cl)⟩,RB.out.bel⟩;simp[results,results90,asAddr,aa,ab,Am]
     case pos=>
      subst cl;obtain⟨f,el,e6,e7,e8,e9,em,fa,en⟩:=b3.out.both.1 rfl;rw[en]at J;replace J:Hid ((if B.takE f.t f.dir=0 then(match B.cor.atP false coth with|.error E=>E|.ok _=>0)else B.takE f.t f.dir)=a1):=J.out;have dx:=hid (Od (c6.out.below ba.out.bel) V f.t f.dir (by rw[el];obtain⟨t,dir,na,nc,nf,b0,⟨fr,fs,fv,fx,fY,f0,f1,xs⟩,f2,ly⟩:=f;rfl) em.dir.1);generalize B.takE f.t f.dir=b5 at dx J;clear el e6 e7 e8 e9 em fa en f;rw[show Am 0=Value.nilIface from rfl];go_upto_region 12 with fail
      clear bs;refine rU ?_;refine K0 rfl _ rfl ?_;simp only[tk];refine wpList_load_mid rfl _ _ rfl _ _ rfl V _ ba.out.rowA rfl rfl (by rw[b4.out];rfl) ?_;simp only[tk];go_wp2_with fail
      refine np dx.out ?_;rintro e fb ⟨rfl,q7⟩;have bl:=hid (ba.out.below q7);have eo:=hid (b3.out.below q7);have ep:=hid (du.out.on (Aj q7));clear dx q7 ba b3 du bu;by_cases co:b5=0
      case neg=>
       have ay:=AG (n:=b5) rfl co;have Z:Hid (b5=a1):=(nC co).symm.trans J.out;rw[ay];go_upto_region 14 with fail
       obtain⟨c0,G,H,ad⟩:=z21;have I:=hid G;have T:=hid H;have ak:=Cd (P:=prog) bl.out.rowA bl.out.fa (bl.out.la.trans G.symm) H;have F:=hid (bl.out.setA c0 G);generalize fb.setCells O 0 c0=ao at ak F;have ap:=Cd (P:=prog) F.out.rowB F.out.fb (F.out.lb.trans G.symm) H;have RB:=hid (F.out.setB c0 G);generalize ao.setCells R 0 c0=Q at ap RB;have aa:=run_loadVar_mid (P:=prog) Q O 0 101 c0 _ RB.out.rowA rfl rfl (by rw[I.out];rfl);have ab:=run_loadVar_mid (P:=prog) Q R 0 101 c0 _ RB.out.rowB rfl rfl (by rw[I.out];rfl);have bA:=ad.out;have ar:=BV c0;unfold Value.cells at ar;clear H F;go_wp2;refine nG (v:=.tuple #[.agg c0.toArray,.agg c0.toArray,.iface 78 (.int .i64 b5)]) ?_ rfl ⟨⟨c0,c0,b5,by rw[ay];rfl,⟨I.out,I.out⟩,⟨T.out,T.out⟩,Z.out,fun e=>absurd e (co)⟩,RB.out.bel⟩;simp[results,results90,asAddr,aa,ab,Am]
      case pos=>
       subst co;rw[nD rfl]at J;rw[show Am 0=Value.nilIface from rfl];have bY:=hid (RO (c6.out.below bl.out.bel) cb.out.good de.out dg.out ep.out e1.out);go_wp2_with fail
       refine np bY.out ?_;rintro e fc ⟨⟨Y,E,b0,rfl,b1,a8,bk,b2⟩,dy⟩;have bv:=hid (bl.out.below dy);have dz:=hid ((Mq cb.out.good b1).set (Da _).2 bv.out.b Y);have d0:=hid ((eo.out.below dy).set (Da _).2 bv.out.b Y);have bs:=Cd (P:=prog) bv.out.rowB bv.out.fb (by rw[a8];rfl) bk;have d1:=hid (bv.out.setB Y a8);generalize fc.setCells R 0 Y=b6 at bs d1 d0 dz;have cp:=hid a8;have eq:=hid bk;have bu:=BV Y;unfold Value.cells at bu;clear b1 a8 bk b2 dy bY bl bv eo ep;go_upto_region 16 with fail
       clear bs bu;have cr:Bw b6 b6.drew:=(nv _ _).drew;have bn:=hid (d1.out.below cr);have fd:=hid (d0.out.below cr);have fe:=hid (dz.out.below cr);have ff:b6.drew.rangeAt O 0 V∧b6.drew.rangeAt R 0 Y:=⟨bn.out.rowA,bn.out.rowB⟩;clear cr d1 d0 dz;refine wp_region_held_drew (S:=fun w'=>w'.rangeAt O 0 V∧w'.rangeAt R 0 Y) (by kernel_rfl) ff (fun d2=>?_);refine nT (i:=0) (oi:=_) (v:=BT V) rfl (by kernel_rfl) (by kernel_rfl) (by kernel_rfl) (fun _ _ _ h=>h) (yieldsIf_load_mid (by rfl) _ _ rfl _ _ rfl V _ (fun w h=>h.1) underlying101 rfl (by rw[b4.out];rfl)) d2 ?_;simp only[Act.put,List.setIfInBounds_toArray];refine nT (i:=1) (oi:=_) (v:=BT Y) rfl (by kernel_rfl) (by kernel_rfl) (by kernel_rfl) (fun _ _ _ h=>h) (yieldsIf_load_mid (by rfl) _ _ rfl _ _ rfl Y _ (fun w h=>h.2) underlying101 rfl (by rw[cp.out];rfl)) d2 ?_;simp only[Act.put];refine nT (i:=2) (oi:=_) (v:=Am E) rfl (by kernel_rfl) (by kernel_rfl) (by kernel_rfl) (fun _ _ _ h=>h) (Or.inl ⟨by rfl,fun w f3=>by go_simp⟩) d2 ?_;simp only[Act.put];have bG:=Cd (P:=prog) bn.out.rowA bn.out.fa rfl ek.out;have bb:=hid (bn.out.setA V b4.out);have er:=hid (fd.out.mle (LC bn.out.a));have es:=hid (fe.out.mle (LC bn.out.a));generalize b6.drew.setCells O 0 V=Q at bG bb er es;have bH:=Cd (P:=prog) bb.out.rowB bb.out.fb rfl eq.out;have bd:=hid (bb.out.setB Y cp.out);have eu:=hid (er.out.mle (LC bb.out.b));have cu:=hid (es.out.mle (LC bb.out.b));generalize Q.setCells R 0 Y=ev at bH bd eu cu;have Z:Hid (E=a1):=by
        show E=a1;rw[←J.out];by_cases e:E=0
        ·obtain⟨_,_,_,_,_,_,_,_,fg⟩:=cu.out.both.1 e
         rw[fg,e]
        ·rw[cu.out.both.2 e]
       have fh:=BV V;unfold Value.cells at fh;have fl:=BV Y;unfold Value.cells at fl;refine wpAnyH_ready (rs:=[3]) (by kernel_rfl) (by simp) ?_;refine AllReadyH.cons (o:=_) rfl (fun K be=>?_) AllReadyH.nil;rw[nD (by rfl)];go_simp;refine be.out _ _ ⟨bb.out.rowA,bb.out.rowB⟩ (fun f4=>?_);clear be K;refine wpAnyH_ready (rs:=[4]) (by kernel_rfl) (by simp) ?_;refine AllReadyH.cons (o:=_) rfl (fun K be=>?_) AllReadyH.nil;rw[nD (by rfl)];go_simp;refine be.out _ _ ⟨bd.out.rowA,bd.out.rowB⟩ (fun f5=>?_);clear be K;refine wpAnyH_ready (rs:=[5]) (by kernel_rfl) (by simp) ?_;refine AllReadyH.cons (o:=_) rfl (fun K be=>?_) AllReadyH.nil;rw[nD (by rfl)];go_simp;refine be.out _ _ ⟨bd.out.rowA,bd.out.rowB⟩ (fun f7=>?_);clear be K;refine rN (by kernel_rfl) ?_ _;clear bG bH;have aa:=run_loadVar_mid (P:=prog) ev O 0 101 V _ bd.out.rowA rfl rfl (by rw[b4.out];rfl);have ab:=run_loadVar_mid (P:=prog) ev R 0 101 Y _ bd.out.rowB rfl rfl (by rw[cp.out];rfl);go_wp2;refine nG (v:=.tuple #[.agg V.toArray,.agg Y.toArray,Am E]) ?_ rfl ⟨⟨V,Y,E,rfl,⟨b4.out,cp.out⟩,⟨ek.out,eq.out⟩,Z.out,fun e=>⟨⟨eE.out,eL.out⟩,eu.out,by have q:=cu.out;rw[e]at q;exact q⟩⟩,bd.out.bel⟩;simp[results,results90,asAddr,aa,ab]
def KG(x0:Nd)(ni:List Nd)(F G:Bool)(ly:Int)(fn H:List BA):Int:=if F=true∧(decide (ly=0)&&(G|| !Fi (x0::ni) fn))=false then 14 else if 6<IntKind.i64.wrap ((H.length:Int)+JU ((BU fn x0).getD zN))then 2 else 0
def AO.mmE(c:AO)(x0:Nd)(ni:List Nd)(f t:Fy)(fn F:List BA):Int:=if Em fn F=true then 3 else if c.bx.mayE t.2.1 2=0 then(if t.2.2.1=true then(if f.1.d=true then 6 else if t.1.d=true then 6 else if c.bx.takE t.1 t.2.1=0 then KG x0 ni f.1.d f.2.2.2.1.opq f.2.2.2.2 fn F else c.bx.takE t.1 t.2.1)else KG x0 ni f.1.d f.2.2.2.1.opq f.2.2.2.2 fn F)else c.bx.mayE t.2.1 2
def Wg(B:Bx)(x0:Nd)(ni:List Nd)(f t:Fd)(e:Ending):Prop:=e=.returned (Am (B.cor.mmE x0 ni f.pur t.pur f.nf t.nf))
theorem WU{w:World}{b:Nat}{B:Bx}{x0:Nd}{ni:List Nd}(h:AX w b B)(bH:Bv B x0 ni)(f t:Fd)(dx:GS B w f.nf f)(b7:GS B w t.nf t)(b9:AW w.cell? f.na f.nf)(c6:AW w.cell? t.na t.nf)(dy:f.nf.length≤6)(dz:t.nf.length≤6)(c8:f.nf.length≤f.nc∧f.nc≤9223372036854775807):
 Calls prog 92 #[.pointer (some ⟨b,0,none⟩),BT f.l,BT t.l] w fun e w'=>Wg B x0 ni f t e∧Bw w w':=by
 unfold Wg;obtain⟨S,F⟩:∃S,Hid (B.cor.mmE x0 ni f.pur t.pur f.nf t.nf=S):=⟨_,rfl⟩;rw[F.out];unfold AO.mmE at F;obtain⟨G,d0⟩:∃G,FX f.l G:=⟨_,rfl⟩;obtain⟨I,d1⟩:∃I,FX t.l I:=⟨_,rfl⟩;have bi:f.l=G:=d0;have aa:t.l=I:=d1;have d2:G.length=21:=by rw[←bi];exact D4 _
 have d3:I.length=21:=by rw[←aa];exact D4 _
 rw[bi,aa];have c9:Bw w (w.alloc (.cells G.toArray 101)):=(nv _ _).alloc (nn _) _;have da:Bw (w.alloc (.cells G.toArray 101)) ((w.alloc (.cells G.toArray 101)).alloc (.cells I.toArray 101)):=(nv _ _).alloc (nn _) _;have bY:=c9.trans (da.mono c9.size);have cb:A7 ((w.alloc (.cells G.toArray 101)).alloc (.cells I.toArray 101)) w.heap.size 0 G:=A7.below (A7.new2 w _ rfl G 101) da;have ay:A7 ((w.alloc (.cells G.toArray 101)).alloc (.cells I.toArray 101)) (w.heap.size+1) 0 I:=A7.new2 (w.alloc (.cells G.toArray 101)) _ (by rw[nw]) I 101;obtain⟨⟨bB,gr,gu,gv,gw⟩,gx,an,nj,nf,gy,⟨gz,gC,gD,gE,cd,gG,gH,xs⟩,gI,ly⟩:=f;obtain⟨⟨bp,cf,cg,ch,cl⟩,⟨az,a1,a6,a7,a8⟩,bC,bF,ba,db,⟨gJ,gK,gL,gM,gN,gO,gP,gQ⟩,gR,gS⟩:=t;dsimp only at dx b7 b9 c6 dy dz c8;replace F:Hid ((if Em nf ba=true then 3 else if B.mayE ⟨az,a1,a6,a7,a8⟩ 2=0 then(if db=true then(if bB=true then 6 else if bp=true then 6 else if B.takE ⟨bp,cf,cg,ch,cl⟩ ⟨az,a1,a6,a7,a8⟩=0 then KG x0 ni bB cd ly nf ba else B.takE ⟨bp,cf,cg,ch,cl⟩ ⟨az,a1,a6,a7,a8⟩)else KG x0 ni bB cd ly nf ba)else B.mayE ⟨az,a1,a6,a7,a8⟩ 2)=S):=F.out;have e2:Ce ((w.alloc (.cells G.toArray 101)).alloc (.cells I.toArray 101)) w.heap.size 0 (.bool bB):=cb 0 _ (by rw[←bi];rfl);have e3:Ce ((w.alloc (.cells G.toArray 101)).alloc (.cells I.toArray 101)) w.heap.size 10 (.slice an nf.length nj):=cb 10 _ (by rw[←bi];rfl);have t0:Ce ((w.alloc (.cells G.toArray 101)).alloc (.cells I.toArray 101)) (w.heap.size+1) 0 (.bool bp):=ay 0 _ (by rw[←aa];rfl);have t5:Ce ((w.alloc (.cells G.toArray 101)).alloc (.cells I.toArray 101)) (w.heap.size+1) 5 (.bool az):=ay 5 _ (by rw[←aa];rfl);have gT:Ce ((w.alloc (.cells G.toArray 101)).alloc (.cells I.toArray 101)) (w.heap.size+1) 6 (.int .i64 a1):=ay 6 _ (by rw[←aa];rfl);have gU:Ce ((w.alloc (.cells G.toArray 101)).alloc (.cells I.toArray 101)) (w.heap.size+1) 7 (.int .i64 a6):=ay 7 _ (by rw[←aa];rfl);have gV:Ce ((w.alloc (.cells G.toArray 101)).alloc (.cells I.toArray 101)) (w.heap.size+1) 8 (.int .i64 a7):=ay 8 _ (by rw[←aa];rfl);have t9:Ce ((w.alloc (.cells G.toArray 101)).alloc (.cells I.toArray 101)) (w.heap.size+1) 9 (.bool a8):=ay 9 _ (by rw[←aa];rfl);have e4:Ce ((w.alloc (.cells G.toArray 101)).alloc (.cells I.toArray 101)) (w.heap.size+1) 10 (.slice bC ba.length bF):=ay 10 _ (by rw[←aa];rfl);have e5:Ce ((w.alloc (.cells G.toArray 101)).alloc (.cells I.toArray 101)) (w.heap.size+1) 11 (.bool db):=ay 11 _ (by rw[←aa];rfl);have e6:=hid cb;have e7:=hid ay;have e8:=hid d2;have e9:=hid d3;have d4:=hid (b9.on (Aj bY));have fa:=hid (c6.on (Aj bY));have dd:=hid bY;have fb:Hid (nf.length≤1000):=by show nf.length≤1000;omega
 obtain⟨co,d5⟩:∃co,Hid (Em nf ba=co):=⟨_,rfl⟩;have d6:Hid (Calls prog 141 #[.slice an nf.length nj,.slice bC ba.length bF] ((w.alloc (.cells G.toArray 101)).alloc (.cells I.toArray 101)) fun e w'=>e=.returned (.bool co)∧((w.alloc (.cells G.toArray 101)).alloc (.cells I.toArray 101))=w'):=by
  have e:=Ys an bC nj bF nf ba ((w.alloc (.cells G.toArray 101)).alloc (.cells I.toArray 101)) (by omega) (by omega) d4.out fa.out;rw[d5.out]at e;exact e
 obtain⟨bk,d7⟩:∃bk,Hid (B.mayE ⟨az,a1,a6,a7,a8⟩ 2=bk):=⟨_,rfl⟩;have d8:Hid (Calls prog 76 #[.pointer (some ⟨b,0,none⟩),.agg #[.bool az,.int .i64 a1,.int .i64 a6,.int .i64 a7,.bool a8],.int .i64 2] ((w.alloc (.cells G.toArray 101)).alloc (.cells I.toArray 101)) fun e w'=>e=.returned (Am bk)∧Bw ((w.alloc (.cells G.toArray 101)).alloc (.cells I.toArray 101)) w'):=by
  have e:=IU (h.below bY) ⟨az,a1,a6,a7,a8⟩ 2 b7.dir.1;rw[d7.out]at e;exact e
 obtain⟨cp,d9⟩:∃bk,Hid (B.takE ⟨bp,cf,cg,ch,cl⟩ ⟨az,a1,a6,a7,a8⟩=bk):=⟨_,rfl⟩;have fc:Hid (∀w',Bw w w'→Calls prog 86 #[.pointer (some ⟨b,0,none⟩),BT I] w' fun e bs=>e=.returned (Am cp)∧Bw w' bs):=fun w' hb=>by
  have e:=Od (h.below hb) I ⟨bp,cf,cg,ch,cl⟩ ⟨az,a1,a6,a7,a8⟩ (by rw[←aa];rfl) b7.dir.1;rw[d9.out]at e;exact e
 have fd:Hid (∀w',Bw w w'→Calls prog 142 #[.pointer (some ⟨b,0,none⟩),BT G] w' fun e bs=>We x0 ni nf cd ly e∧Bw w' bs):=fun w' hb=>Zl (h.below hb) bH G (by rw[←bi];rfl) (by rw[←bi];rfl) (by rw[←bi];rfl) (b9.on (Aj hb)) (by omega) c8;have fe:=h
 have ea:Hid (∀de,Bw w de→∀w',Bw de w'→Calls prog 23 #[.pointer (some ⟨b,0,none⟩)] w' fun e bs=>(∃h',e=.returned (Al x0 h')∧Ah bs.cell? x0 h')∧Bw w' bs):=fun de ff w' hb=>by
  have eb:=(h.below ff).below hb;have ec:=eb.lay;have ed:=eb.cells.2.2.1;rw[bH.xs]at ec ed;refine np (Ga ed ec) ?_;rintro e bs ⟨⟨h',fg,_,fh⟩,fl⟩;exact⟨⟨h',fg,fh⟩,fl⟩
 have dg:Hid (cnt x0≤800∧Be x0):=by
  have:=bH.fine.cnt;exact⟨by omega,GI x0 (by omega) bH.fine.lil⟩
 obtain⟨V,dj⟩:∃V,Hid (x0=V):=⟨_,rfl⟩;rw[dj.out]at ea dg;obtain⟨dk,ee⟩:∃dk,Hid ((BU nf V).getD zN=dk):=⟨_,rfl⟩;obtain⟨cr,fr⟩:∃b,Hid ((BU nf V).isSome=b):=⟨_,rfl⟩;obtain⟨k,m,u,g,o,nh,d,ks⟩:=dk;have ef:=BV G;unfold Value.cells at ef;have eg:=BV I;unfold Value.cells at eg;rw[d5.out,d7.out,d9.out]at F;unfold KG at F;rw[show x0=V from dj.out,ee.out]at F;obtain⟨fs,ej⟩:∃D,Hid (JU (.mk k m u g o nh d ks)=D):=⟨_,rfl⟩;rw[ej.out]at F;obtain⟨fv,ek⟩:∃r,Hid ((decide (ly=0)&&(cd|| !Fi (V::ni) nf))=r):=⟨_,rfl⟩;rw[ek.out]at F;clear dx b7 b9 c6 dy dz c8 h bH fe cb ay c9 bY da d2 d3 d0 d1 bi aa;go_enter func92,ntmps92;go_wp2_with fail
 clear ef eg;generalize((w.alloc (.cells G.toArray 101)).alloc (.cells I.toArray 101))=gW at*;refine np d6.out ?_;rintro e gX ⟨rfl,rfl⟩;clear d6;cases co with
 |true=>
  obtain rfl:3=S:=(nD rfl).symm.trans F.out;go_wp2;go_ret;exact⟨rfl,dd.out⟩
 |false=>
  replace F:=hid ((nC (by decide)).symm.trans F.out);go_wp2_with fail
  refine np d8.out ?_;rintro e el ⟨rfl,dm⟩;have bb:=hid dm;have bd:=hid (dd.out.trans (dm.mono dd.out.size));clear d8 dm;by_cases dn:bk=0;rotate_left
  ·have b0:=AG (n:=bk) rfl dn
   rw[b0];go_wp2;go_ret;obtain rfl:bk=S:=(nC dn).symm.trans F.out;exact⟨by rw[b0];rfl,bd.out⟩
  subst dn;replace F:=hid ((nD rfl).symm.trans F.out);rw[show Am 0=Value.nilIface from rfl];have cu:=Af bb.out e2;have gY:=Af bb.out e5;have gZ:=Af bb.out t0;cases db;rotate_left
  focus
   replace F:=hid ((nD rfl).symm.trans F.out);cases bB;rotate_left
   ·obtain rfl:6=S:=(nD rfl).symm.trans F.out
    go_wp2;go_ret;exact⟨rfl,bd.out⟩
   replace F:=hid ((nC (by decide)).symm.trans F.out);cases bp;rotate_left
   ·obtain rfl:6=S:=(nD rfl).symm.trans F.out
    go_wp2;go_ret;exact⟨rfl,bd.out⟩
   replace F:=hid ((nC (by decide)).symm.trans F.out);go_upto_region 9 with fail
   refine rU ?_;refine rV (by rfl) (fun K R=>?_);go_simp;refine R _ _ ?_;clear R K;refine rV (by rfl) (fun K R=>?_);refine wp_load_mid _ _ rfl _ _ rfl I _ (A7.below e7.out bb.out) rfl rfl (by rw[e9.out];rfl) (R _ _ ?_);clear R K;simp only[tk];go_wp2_with fail
   refine np (fc.out el bd.out) ?_;rintro e H ⟨rfl,q4⟩;have b1:=hid (bb.out.trans (q4.mono bb.out.size));have bu:=hid (bd.out.trans (q4.mono bd.out.size));have g0:=Af q4 cu;clear q4;by_cases dp:cp=0;rotate_left
   ·have b0:=AG (n:=cp) rfl dp
    rw[b0];go_wp2;go_ret;obtain rfl:cp=S:=(nC dp).symm.trans F.out;exact⟨by rw[b0];rfl,bu.out⟩
   subst dp;replace F:=hid ((nD rfl).symm.trans F.out);replace F:=hid ((nC (fun e=>by cases e.1)).symm.trans F.out);rw[show Am 0=Value.nilIface from rfl]
  rotate_left
  focus
   replace F:=hid ((nC (by decide)).symm.trans F.out);cases bB
   focus
    replace F:=hid ((nC (fun e=>by cases e.1)).symm.trans F.out);rename World=>H
    have b1:=bb;have bu:=bd
   rotate_left
   focus
    go_upto_region 12 with fail
    refine rU ?_;refine rV (by rfl) (fun K R=>?_);go_simp;refine R _ _ ?_;clear R K;refine rV (by rfl) (fun K R=>?_);go_simp;refine R _ _ ?_;clear R K;refine rV (by rfl) (fun K R=>?_);go_simp;refine R _ _ ?_;clear R K;refine rV (by rfl) (fun K R=>?_);go_simp;refine R _ _ ?_;clear R K;refine rV (by rfl) (fun K R=>?_);go_simp;refine R _ _ ?_;clear R K;refine rV (by rfl) (fun K R=>?_);refine wp_load_mid _ _ rfl _ _ rfl G _ (A7.below e6.out bb.out) rfl rfl (by rw[e8.out];rfl) (R _ _ ?_);clear R K;simp only[tk];go_wp2_with fail
    refine np (fd.out el bd.out) ?_;rintro e H ⟨rfl,q4⟩;rw[show x0=V from dj.out,ek.out];have b1:=hid (bb.out.trans (q4.mono bb.out.size));have bu:=hid (bd.out.trans (q4.mono bd.out.size));clear q4;cases fv
    ·obtain rfl:14=S:=(nD (by simp)).symm.trans F.out
     go_wp2;go_ret;exact⟨rfl,bu.out⟩
    replace F:=hid ((nC (fun e=>by cases e.2)).symm.trans F.out)
  all_goals
   have bl:=Af b1.out e3;have em:=Af b1.out e4;have fx:=hid (d4.out.on (Aj b1.out));have en:=hid (ea.out H bu.out);have dr:Ce H.drew w.heap.size 10 (.slice an nf.length nj):=bl;have cx:Hid (Bw H H.drew):=(nv _ _).drew;have b2:Hid (Bw H (H.alloc AJ).drew):=((nv _ _).alloc (nn _) _).drew;have eo:Ce (H.alloc AJ).drew w.heap.size 10 (.slice an nf.length nj):=Af b2.out bl;have ds:Hid (Calls prog 23 #[.pointer (some ⟨b,0,none⟩)] H.drew fun e w'=>(∃h',e=.returned (Al V h')∧Ah w'.cell? V h')∧Bw H.drew w'):=en.out _ cx.out;have du:Hid (Calls prog 23 #[.pointer (some ⟨b,0,none⟩)] (H.alloc AJ).drew fun e w'=>(∃h',e=.returned (Al V h')∧Ah w'.cell? V h')∧Bw (H.alloc AJ).drew w'):=en.out _ b2.out;have c3:Hid (∀(J:World) (ak:Hd),Bw H J→Ah J.cell? V ak→Calls prog 96 #[Al V ak,.slice an nf.length nj] J fun e ao=>(∃h',e=.returned (.tuple #[(A5 k m u g o nh d ks h'),.bool cr])∧Ah ao.cell? (.mk k m u g o nh d ks) h')∧Bw J ao):=fun J ak fY bn=>by
    have e:=Lb bn an nj nf (fx.out.on (Aj fY)) fb.out dg.out.1 dg.out.2;rw[ee.out,fr.out]at e;exact e
   have b3:w.heap.size<H.heap.size:=nz H ⟨w.heap.size,10,none⟩ bl;go_upto_region 14 with fail
   go_region_held3 (fun w'=>w'.cell? ⟨w.heap.size,10,none⟩=some (.slice an nf.length nj)) (first|with_reducible exact dr|with_reducible exact eo|with_reducible exact c4|with_reducible exact bv|(with_reducible refine AE ?_;with_reducible exact dr)|(with_reducible refine AE ?_;with_reducible exact c4)|(with_reducible refine AE ?_;with_reducible exact bv)|(with_reducible refine EH ?_ bv;show w.heap.size≠_;have g4:=dw.out;omega)|(with_reducible refine EH ?_ bv;show w.heap.size≠_;skip;omega)) (first|(go_at_call 23;(with_reducible refine np ds.out ?_);rintro e J ⟨⟨ak,rfl,bn⟩,q6⟩;have Y:Hid (Bw H J):=cx.out.trans (q6.mono cx.out.size);have c4:J.cell? ⟨w.heap.size,10,none⟩=some (.slice an nf.length nj):=(Y.out.cell (p:=⟨w.heap.size,10,none⟩) b3).trans bl;have b4:Hid (Calls prog 96 #[Al V ak,.slice an nf.length nj] J fun e ao=>(∃h',e=.returned (.tuple #[(A5 k m u g o nh d ks h'),.bool cr])∧Ah ao.cell? (.mk k m u g o nh d ks) h')∧Bw J ao):=c3.out J ak Y.out bn;have ep:Hid (Calls prog 96 #[Al V ak,.slice an nf.length nj] (J.alloc AJ) fun e ao=>(∃h',e=.returned (.tuple #[(A5 k m u g o nh d ks h'),.bool cr])∧Ah ao.cell? (.mk k m u g o nh d ks) h')∧Bw (J.alloc AJ) ao):=c3.out _ ak (Y.out.alloc Y.out.size _) (bn.on (Aj ((nv _ _).alloc (nn _) _)));clear ds du bn q6)|(go_at_call 23;(with_reducible refine np du.out ?_);rintro e J ⟨⟨ak,rfl,bn⟩,q6⟩;have Y:Hid (Bw H J):=b2.out.trans (q6.mono b2.out.size);have c4:J.cell? ⟨w.heap.size,10,none⟩=some (.slice an nf.length nj):=(Y.out.cell (p:=⟨w.heap.size,10,none⟩) b3).trans bl;have b4:Hid (Calls prog 96 #[Al V ak,.slice an nf.length nj] J fun e ao=>(∃h',e=.returned (.tuple #[(A5 k m u g o nh d ks h'),.bool cr])∧Ah ao.cell? (.mk k m u g o nh d ks) h')∧Bw J ao):=c3.out J ak Y.out bn;have f0:Hid (Ca J H.heap.size):=((Ca.new H).below ((nv _ _).drew)).below q6;clear ds du bn q6)|(go_at_call 96;(with_reducible refine np b4.out ?_);rintro e Q ⟨⟨O,rfl,bo⟩,q7⟩;have ab:Hid (Bw H Q):=Y.out.trans (q7.mono Y.out.size);have bv:Q.cell? ⟨w.heap.size,10,none⟩=some (.slice an nf.length nj):=(ab.out.cell (p:=⟨w.heap.size,10,none⟩) b3).trans bl;have f1:Hid (Bw J Q):=q7;have bG:Hid (Ah Q.cell? (.mk k m u g o nh d ks) O):=bo;have b5:Hid (Ca Q H.heap.size):=f0.out.below q7;obtain⟨⟨⟨z0,f2,f3,z3,z4,z5,f4,f5⟩,T⟩,_⟩:=id b5.out;have f7:=T 0;have f8:=T 1;have f9:=T 2;have ga:=T 3;have gb:=T 4;have gg:=T 5;have gl:=T 6;have go:=T 7;clear T;clear b4 bo q7)|(go_at_call 96;(with_reducible refine np b4.out ?_);rintro e Q ⟨⟨O,rfl,bo⟩,q7⟩;have ab:Hid (Bw H Q):=Y.out.trans (q7.mono Y.out.size);have bv:Q.cell? ⟨w.heap.size,10,none⟩=some (.slice an nf.length nj):=(ab.out.cell (p:=⟨w.heap.size,10,none⟩) b3).trans bl;have f1:Hid (Bw J Q):=q7;have bG:Hid (Ah Q.cell? (.mk k m u g o nh d ks) O):=bo;clear b4 bo q7)|(go_at_call 96;(with_reducible refine np ep.out ?_);rintro e Q ⟨⟨O,rfl,bo⟩,q7⟩;have ab:Hid (Bw H Q):=(Y.out.alloc Y.out.size _).trans (q7.mono (nP Y.out.size ((nv _ _).alloc (nn _) _:Bw J _).size));have bv:Q.cell? ⟨w.heap.size,10,none⟩=some (.slice an nf.length nj):=(ab.out.cell (p:=⟨w.heap.size,10,none⟩) b3).trans bl;have bG:Hid (Ah Q.cell? (.mk k m u g o nh d ks) O):=bo;have b5:Hid (Ca Q J.heap.size):=(Ca.new J).below q7;have dw:Hid (H.heap.size≤J.heap.size):=Y.out.size;obtain⟨⟨⟨z0,f2,f3,z3,z4,z5,f4,f5⟩,T⟩,_⟩:=id b5.out;have f7:=T 0;have f8:=T 1;have f9:=T 2;have ga:=T 3;have gb:=T 4;have gg:=T 5;have gl:=T 6;have go:=T 7;clear T;clear ep bo q7))
   all_goals
    first|(obtain⟨be,bx,ad,bg⟩:=Ca.store b5.out bG.out;have ad:=ab.out.trans (ad.below (B:=H.heap.size) dw.out ab.out.size);generalize bA:Au Q J.heap.size (.mk k m u g o nh d ks) O=Z at be bx ad bg;simp only[Au]at bA;rw[bA];clear bA;generalize b6:J.heap.size=nx at be bg⊢;have c5:H.heap.size≤nx:=(by rw[←b6];exact dw.out);clear b6)|(obtain⟨be,bx,ad,bg⟩:=Ca.store b5.out bG.out;have ad:=ab.out.trans (ad.below (B:=H.heap.size) (nn _) ab.out.size);generalize bA:Au Q H.heap.size (.mk k m u g o nh d ks) O=Z at be bx ad bg;simp only[Au]at bA;rw[bA];clear bA;generalize b6:H.heap.size=nx at be bg⊢;have c5:H.heap.size≤nx:=(by rw[←b6];exact(nn _));clear b6)|(obtain⟨be,bx,ad,bg⟩:Av (Q.alloc (As k m u g o nh d ks O)) Q.heap.size (.mk k m u g o nh d ks) O∧Ah (Q.alloc (As k m u g o nh d ks O)).cell? (.mk k m u g o nh d ks) O∧Bw H (Q.alloc (As k m u g o nh d ks O))∧(∀eq,8≤eq→(Q.alloc (As k m u g o nh d ks O)).cell? ⟨Q.heap.size,eq,none⟩=none):=⟨Av.new Q k m u g o nh d ks O,bG.out.on (Aj ((nv _ _).alloc (nn _) _)),ab.out.alloc ab.out.size _,fun o gq=>(by rw[nl _ _ _ _ rfl];exact rG (by simpa using gq))⟩;have c5:=ab.out.size;generalize Q.alloc (As k m u g o nh d ks O)=Z at be bx ad bg⊢;generalize Q.heap.size=nx at be bg c5⊢)
    clear dr eo c4 bv cx b2 c3;have er:=(ad.cell (p:=⟨w.heap.size+1,10,none⟩) (nz _ _ em)).trans em;have es:Hid (Bw w Z):=bu.out.trans (ad.mono bu.out.size);obtain⟨cu,g1,eu,g3,g4,ev,eB,eE⟩:=id be.1;have ap:Z.drew.cell? ⟨w.heap.size+1,10,none⟩=some (.slice bC ba.length bF)∧Z.drew.cell? ⟨nx,0,none⟩=some (.int .i64 k)∧Z.drew.cell? ⟨nx,1,none⟩=some (.int .i64 m)∧Z.drew.cell? ⟨nx,2,none⟩=some (.int .i64 u)∧Z.drew.cell? ⟨nx,3,none⟩=some (.int .i64 g)∧Z.drew.cell? ⟨nx,4,none⟩=some (.bool o)∧Z.drew.cell? ⟨nx,5,none⟩=some (.slice O.aa nh.length O.ca)∧Z.drew.cell? ⟨nx,6,none⟩=some (.string d)∧Z.drew.cell? ⟨nx,7,none⟩=some (.slice O.ak ks.length O.ck):=⟨er,cu,g1,eu,g3,g4,ev,eB,eE⟩;have eL:Hid (Calls prog 143 #[(A5 k m u g o nh d ks O)] Z.drew fun e w'=>e=.returned (.int .i64 fs)∧Bw Z.drew w'):=by have e:=YP (w:=Z.drew) bx _ (nv _ _);rw[ej.out]at e;exact e
    clear be bx ad bg bG c5 er cu g1 eu g3 g4 ev eB eE;go_upto_region 15 with fail
    go_region_held3 (fun w'=>w'.cell? ⟨w.heap.size+1,10,none⟩=some (.slice bC ba.length bF)∧w'.cell? ⟨nx,0,none⟩=some (.int .i64 k)∧w'.cell? ⟨nx,1,none⟩=some (.int .i64 m)∧w'.cell? ⟨nx,2,none⟩=some (.int .i64 u)∧w'.cell? ⟨nx,3,none⟩=some (.int .i64 g)∧w'.cell? ⟨nx,4,none⟩=some (.bool o)∧w'.cell? ⟨nx,5,none⟩=some (.slice O.aa nh.length O.ca)∧w'.cell? ⟨nx,6,none⟩=some (.string d)∧w'.cell? ⟨nx,7,none⟩=some (.slice O.ak ks.length O.ck)) (first|with_reducible exact ap|with_reducible exact e0) (first|(go_at_call 143;(with_reducible refine np eL.out ?_);rintro e bf ⟨rfl,ar⟩;have e0:bf.cell? ⟨w.heap.size+1,10,none⟩=some (.slice bC ba.length bF)∧bf.cell? ⟨nx,0,none⟩=some (.int .i64 k)∧bf.cell? ⟨nx,1,none⟩=some (.int .i64 m)∧bf.cell? ⟨nx,2,none⟩=some (.int .i64 u)∧bf.cell? ⟨nx,3,none⟩=some (.int .i64 g)∧bf.cell? ⟨nx,4,none⟩=some (.bool o)∧bf.cell? ⟨nx,5,none⟩=some (.slice O.aa nh.length O.ca)∧bf.cell? ⟨nx,6,none⟩=some (.string d)∧bf.cell? ⟨nx,7,none⟩=some (.slice O.ak ks.length O.ck):=⟨Af ar ap.1,Af ar ap.2.1,Af ar ap.2.2.1,Af ar ap.2.2.2.1,Af ar ap.2.2.2.2.1,Af ar ap.2.2.2.2.2.1,Af ar ap.2.2.2.2.2.2.1,Af ar ap.2.2.2.2.2.2.2.1,Af ar ap.2.2.2.2.2.2.2.2⟩;have e1:Hid (Bw w bf):=es.out.drew.trans (ar.mono es.out.drew.size);clear eL ar))
    all_goals
     clear ap e0;go_wp2
     all_goals
      go_ret;rename_i hq;first
      |(obtain rfl:2=S:=(nD hq).symm.trans F.out
        exact⟨rfl,e1.out⟩)
      |(obtain rfl:0=S:=(nC (by omega)).symm.trans F.out
        exact⟨rfl,e1.out⟩)
theorem DS.new2(w:World):DS w ((w.alloc (.cells #[.bool false,.int .i64 0,.int .i64 0,.int .i64 0,.bool false,.bool false,.int .i64 0,.int .i64 0,.int .i64 0,.bool false,.slice none 0 0,.bool false,.int .i64 0,.int .i64 0,.int .i64 0,.int .i64 0,.bool false,.slice none 0 0,.string ⟨#[]⟩,.slice none 0 0,.int .i64 0] 101)).alloc (.cells #[.bool false,.int .i64 0,.int .i64 0,.int .i64 0,.bool false,.bool false,.int .i64 0,.int .i64 0,.int .i64 0,.bool false,.slice none 0 0,.bool false,.int .i64 0,.int .i64 0,.int .i64 0,.int .i64 0,.bool false,.slice none 0 0,.string ⟨#[]⟩,.slice none 0 0,.int .i64 0] 101)) w.heap.size (w.heap.size+1) [.bool false,.int .i64 0,.int .i64 0,.int .i64 0,.bool false,.bool false,.int .i64 0,.int .i64 0,.int .i64 0,.bool false,.slice none 0 0,.bool false,.int .i64 0,.int .i64 0,.int .i64 0,.int .i64 0,.bool false,.slice none 0 0,.string ⟨#[]⟩,.slice none 0 0,.int .i64 0] [.bool false,.int .i64 0,.int .i64 0,.int .i64 0,.bool false,.bool false,.int .i64 0,.int .i64 0,.int .i64 0,.bool false,.slice none 0 0,.bool false,.int .i64 0,.int .i64 0,.int .i64 0,.int .i64 0,.bool false,.slice none 0 0,.string ⟨#[]⟩,.slice none 0 0,.int .i64 0]:=by
 have F:Bw w (w.alloc AU):=(nv _ _).alloc (nn _) _;have G:(w.alloc AU).heap.size=w.heap.size+1:=nw _ _;have H:Bw (w.alloc AU) ((w.alloc AU).alloc AU):=(nv _ _).alloc (nn _) _;refine⟨F.alloc F.size _,by omega,by omega,by omega,fun o=>?_,fun o=>?_,fun q=>?_,fun q=>?_,rfl,rfl⟩
 ·rw[H.cell (p:=⟨w.heap.size,o,none⟩) (by show w.heap.size<_;omega),nl _ _ _ _ rfl];simp
 ·rw[nl _ _ _ _ G.symm];simp
 ·rw[H.frozen (p:=⟨w.heap.size,q,none⟩) (by show w.heap.size<_;omega)];exact nQ _ _ _ _ rfl
 ·exact nQ _ _ _ _ G.symm
noncomputable def AO.mvS (c:AO) (x0:Nd) (ni:List Nd) (p o:BA):Int×Nd:=if c.endE p o=0 then(match c.atP true p with
 |.error _=>(0,x0)
 |.ok f=>match c.atP false o with
  |.error _=>(0,x0)
  |.ok t=>if A4 p.data.toList=A4 o.data.toList then(0,x0)else if c.mmE x0 ni f t (A4 p.data.toList) (A4 o.data.toList)=0 then Kz c.us c.gs x0 ni (A4 p.data.toList) (A4 o.data.toList) f.1.d else(c.mmE x0 ni f t (A4 p.data.toList) (A4 o.data.toList),x0))else(c.endE p o,x0)
theorem Yg{w:World}{b:Nat}{B:Bx}{x0:Nd}{ni:List Nd}(h:AX w b B)(bo:Bv B x0 ni){cop cA cB:Int}{cpath coth cname cdata:BA}(ch:Int)(cl:w.cell? ⟨0,0,none⟩=some (.int .i64 ch)):
 Calls prog 52 #[.pointer (some ⟨b,0,none⟩),.agg #[.int .i64 cop,.string cpath,.string coth,.string cname,.string cdata,.int .i64 cA,.int .i64 cB]] w fun e w'=>e=.returned (Am (fin B.q x0 (B.cor.mvS x0 ni cpath coth)).1)∧Cw w w' b B ni (fin B.q x0 (B.cor.mvS x0 ni cpath coth)).2 B.crd:=by
 obtain⟨S,F⟩:∃S,Hid (B.cor.mvS x0 ni cpath coth=S):=⟨_,rfl⟩;rw[F.out];obtain⟨⟨em,en⟩,a6⟩:∃eo,Hid (fin B.q x0 S=eo):=⟨_,rfl⟩;rw[a6.out];unfold AO.mvS at F;have a7:Bw w (w.alloc (Az cop cpath coth cname cdata cA cB)):=(nv _ _).alloc (nn _) _;have co:=hid a7;have cp:Hid (Calls prog 90 #[.pointer (some ⟨b,0,none⟩),PB cop cpath coth cname cdata cA cB] (w.alloc (Az cop cpath coth cname cdata cA cB)) fun e w'=>Wj B w' cpath coth (B.cor.endE cpath coth) e∧Bw (w.alloc (Az cop cpath coth cname cdata cA cB)) w'):=ZI (h.below a7) bo ch (Af a7 cl);have bp:=hid h;have Q:=hid bo;have bs:=hid (Cw.stay bp.out Q.out);have cr:Hid (∀E,E≠0→S=(E,x0)→em=E∧en=x0):=fun E R e=>Hf R (e▸a6.out);clear h bo a7 cl
 go_enter func52,ntmps52;go_wp2_with fail
 generalize(w.alloc (Az cop cpath coth cname cdata cA cB))=e5 at*;refine np cp.out ?_;rintro e G ⟨ep,q2⟩;obtain⟨cs,J,E,rfl,⟨a8,ba⟩,⟨cu,cx⟩,c3,c4⟩:=ep;rw[←c3]at F;clear c3;have ak:=DS.new2 G;have c5:=Cd (P:=prog) ak.rowA ak.fa (by rw[a8];rfl) cu;have ao:=ak.setA cs a8;have c6:Hid (∀p I P X,CL B G p I P X→CL B (((G.alloc AU).alloc AU).setCells G.heap.size 0 cs) p I P X):=fun p I P X hx=>(hx.below ((nv _ _).alloc (nn _) _ |>.alloc (by rw[nw];omega) _)).set (Da _).2 ak.a cs;have bu:=Cd (P:=prog) ao.rowB ao.fb (by rw[ba];rfl) cx
 have T:=hid (ao.setB J ba);have ap:Hid (∀p I P X,CL B G p I P X→CL B ((((G.alloc AU).alloc AU).setCells G.heap.size 0 cs).setCells (G.heap.size+1) 0 J) p I P X):=fun p I P X hx=>(c6.out p I P X hx).set (Da _).2 ao.b J;generalize(((G.alloc AU).alloc AU).setCells G.heap.size 0 cs).setCells (G.heap.size+1) 0 J=ar at bu T ap
 generalize((G.alloc AU).alloc AU).setCells G.heap.size 0 cs=e6 at c5 bu;have c8:=BV cs;unfold Value.cells at c8;have c9:=BV J;unfold Value.cells at c9;have eq:=hid a8;have er:=hid ba;have da:=hid (co.out.trans (q2.mono co.out.size));have ay:=hid (da.out.trans (T.out.bel.mono da.out.size));have bv:Hid _:=c4;clear ak ao c6 a8 ba cu cx c4 q2 cp;by_cases R:E=0
 ·subst R
  rw[nD rfl]at F;obtain⟨⟨db,dd⟩,hF,de⟩:=bv.out rfl;obtain⟨f,bb,dg,bx,bA,bB,V,bC,dj⟩:=(ap.out _ _ _ _ hF).both.1 rfl;obtain⟨t,bF,dk,bG,bH,dm,Y,es,dn⟩:=(ap.out _ _ _ _ de).both.1 rfl;rw[dj,dn,←bx,←bG]at F;replace F:Hid ((if f.nf=t.nf then(0,x0)else if B.cor.mmE x0 ni f.pur t.pur f.nf t.nf=0 then Kz B.M.us B.M.gs x0 ni f.nf t.nf f.t.d else(B.cor.mmE x0 ni f.pur t.pur f.nf t.nf,x0))=S):=F.out;obtain⟨bd,bY⟩:∃m,Hid (B.cor.mmE x0 ni f.pur t.pur f.nf t.nf=m):=⟨_,rfl⟩;rw[bY.out]at F;have Z:=Fs dg;rw[←bx]at Z;have aa:=Fs dk;rw[←bG]at aa;replace bC:=bC rfl;have dp:Hid (∀w',Bw ar w'→Calls prog 92 #[.pointer (some ⟨b,0,none⟩),BT cs,BT J] w' fun e eu=>e=.returned (Am bd)∧Bw w' eu):=fun w' hb=>by
   rw[bb,bF,←bY.out];exact WU (bp.out.below (ay.out.trans (hb.mono ay.out.size))) Q.out f t ⟨V.t,V.dir,V.nd.on (Aj hb),V.there,V.no⟩ ⟨Y.t,Y.dir,Y.nd.on (Aj hb),Y.there,Y.no⟩ (bA.on (Aj hb)) (bH.on (Aj hb)) Z.2.1 aa.2.1 bB
  have be:Ce ar G.heap.size 0 (.bool f.t.d):=(T.out.a 0).trans (by rw[bb];obtain⟨⟨dr,ds,du,dw,dx⟩,dir,na,nc,nf,dy,⟨dz,d0,d1,d2,d3,d4,d5,xs⟩,d6,ly⟩:=f;rfl);have bf:Ce ar G.heap.size 10 (.slice f.na f.nf.length f.nc):=(T.out.a 10).trans (by rw[bb];obtain⟨⟨dr,ds,du,dw,dx⟩,dir,na,nc,nf,dy,⟨dz,d0,d1,d2,d3,d4,d5,xs⟩,d6,ly⟩:=f;rfl);have bg:Ce ar (G.heap.size+1) 10 (.slice t.na t.nf.length t.nc):=(T.out.b 10).trans (by rw[bF];obtain⟨⟨dr,ds,du,dw,dx⟩,dir,na,nc,nf,dy,⟨dz,d0,d1,d2,d3,d4,d5,xs⟩,d6,ly⟩:=t;rfl);have bi:=hid bA;have bk:=hid bH;have d7:=hid bB;have d8:=hid dm;have az:Hid ((∀s∈f.nf,AY s=true)∧f.nf.length≤6∧f.nf≠[]):=⟨Z.1,Z.2.1,Z.2.2 db⟩;have bl:Hid ((∀s∈t.nf,AY s=true)∧t.nf.length≤6∧t.nf≠[]):=⟨aa.1,aa.2.1,aa.2.2 dd⟩;obtain⟨ev,b0⟩:∃a,Hid (f.na=a):=⟨_,rfl⟩;obtain⟨eB,b1⟩:∃a,Hid (f.nc=a):=⟨_,rfl⟩;obtain⟨d9,ab⟩:∃a,Hid (f.nf=a):=⟨_,rfl⟩;obtain⟨eE,b2⟩:∃a,Hid (t.na=a):=⟨_,rfl⟩;obtain⟨eL,b3⟩:∃a,Hid (t.nc=a):=⟨_,rfl⟩;obtain⟨ea,ad⟩:∃a,Hid (t.nf=a):=⟨_,rfl⟩;obtain⟨e7,b4⟩:∃a,Hid (f.t.d=a):=⟨_,rfl⟩;rw[b0.out,ab.out]at bi;rw[b2.out,ad.out]at bk;rw[b1.out,ab.out]at d7;rw[b3.out,ad.out]at d8;rw[ab.out]at az;rw[ad.out]at bl;rw[b4.out]at be;rw[b0.out,b1.out,ab.out]at bf;rw[b2.out,b3.out,ad.out]at bg;rw[ab.out,ad.out,b4.out]at F;have eb:=hid dp.out;have ec:=hid (cj ev eE eB eL d9 ea ar (by have:=az.out.2.1;omega) bi.out bk.out);rw[show Am 0=Value.nilIface from rfl];clear bv ap hF de bb dg bx bA bB V bC dj bF dk bG bH dm Y es dn Z aa dp bY db dd b0 b1 ab b2 b3 ad b4 f t;go_wp2_with fail
  refine np ec.out ?_;rintro e e0 ⟨rfl,H⟩;obtain⟨e1,b5⟩:∃r,Hid (decide (d9=ea)=r):=⟨_,rfl⟩;rw[b5.out];have b6:=hid (ay.out.trans (H.mono ay.out.size));have b7:=hid (T.out.below H);cases e1 with
  |true=>
   rw[nD (rI b5.out)]at F;obtain rfl:=F.out;obtain⟨rfl,rfl⟩:=Prod.mk.inj ((VK Q.out).symm.trans a6.out);clear be bf bg H;go_wp2;go_ret;exact⟨rfl,bs.out _ b6.out⟩
  |false=>
   rw[nC (of_decide_eq_false b5.out)]at F;have ed:=hid (eb.out e0 H);have ee:=Af H be;have ef:=Af H bf;have eg:=Af H bg;have ej:=hid (bi.out.on (Aj H));have ek:=hid (bk.out.on (Aj H));clear be bf bg H eb ec c5 bu c8 c9 bi bk;go_upto_region 4 with fail
   refine rU ?_;refine K0 rfl _ rfl ?_;simp only[tk];refine wpList_load_mid rfl _ _ rfl _ _ rfl cs _ b7.out.rowA rfl rfl (by rw[eq.out];rfl) ?_;simp only[tk];refine wpList_load_mid rfl _ _ rfl _ _ rfl J _ b7.out.rowB rfl rfl (by rw[er.out];rfl) ?_;simp only[tk];go_wp2_with fail
   refine np ed.out ?_;rintro e e8 ⟨rfl,O⟩;have b9:=hid (b6.out.trans (O.mono b6.out.size));have cb:=Af O ee;have cd:=Af O ef;have cf:=Af O eg;have e2:=hid (ej.out.on (Aj O));have e3:=hid (ek.out.on (Aj O));clear ed O ee ef eg ej ek b7;by_cases bn:bd=0
   ·subst bn
    rw[nD rfl]at F;have cg:=hid (KX (bp.out.below b9.out) (nv _ _) Q.out (Zj (nv _ _) Q.out.fine Q.out.sz e2.out az.out.1 az.out.2.2 az.out.2.1 d7.out e3.out bl.out.1 bl.out.2.2 bl.out.2.1 d8.out cb cd cf));rw[F.out,a6.out]at cg;rw[show Am 0=Value.nilIface from rfl];clear cb cd cf;go_wp2_with fail
    refine np cg.out ?_;rintro e e9 ⟨rfl,el⟩;have e4:=hid (el.up b9.out);clear el cg;go_wp2;go_ret;exact⟨rfl,e4.out⟩
   ·have a1:=AG (n:=bd) rfl bn
    rw[a1];clear cb cd cf;go_wp2;go_ret;obtain⟨rfl,rfl⟩:=cr.out bd bn (by rw[←F.out,nC bn]);exact⟨by rw[a1];rfl,bs.out _ b9.out⟩
 ·have a1:=AG (n:=E) rfl R
  rw[a1];clear bv ap;go_wp2;go_ret;obtain⟨rfl,rfl⟩:=cr.out E R (by rw[←F.out,nC R]);exact⟨by rw[a1];rfl,bs.out _ ay.out⟩
end Go.Proofs.YtofhphibahcniaaGreatDoor
