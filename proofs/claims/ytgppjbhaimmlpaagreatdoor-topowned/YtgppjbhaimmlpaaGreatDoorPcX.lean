/-
  TopOwned: Pc Oc Od Oe.
-/
import Derived.Test.YtgppjbhaimmlpaaGreatDoorApX
import Derived.Test.YtgppjbhaimmlpaaGreatDoorOaX
import Derived.Test.YtgppjbhaimmlpaaGreatDoorUcX
import Derived.Test.YtgppjbhaimmlpaaGreatDoorMcX
import Derived.Test.YtgppjbhaimmlpaaGreatDoorWoX
import Derived.Test.YtgppjbhaimmlpaaGreatDoorXoX
import Derived.SizedLaws
import Derived.Shelf.Vars
import Derived.LaidMore
import Derived.Lay
import Derived.Stop.Joined
import Derived.ChangeMaps5
set_option maxRecDepth 100000
set_option maxHeartbeats 16000000
namespace Go.Proofs.YtgppjbhaimmlpaaGreatDoor
open Go.ChangeShapes Go.WideShapes Go.ChangeAt Go.RowKit Go.Deep Go.Proofs.Tryz
theorem UF:∀{ks:At},(∀(i:Nat) (n:BA) (x:Nd),ks[i]? =some (n,x)→AM x)→Bu ks
 |[],_=>by rw[Bu];trivial
 |(n,x)::l,h=>by
  rw[Bu];exact⟨h 0 n x rfl,UF fun i F G H=>h (i+1) F G (by simpa using H)⟩
namespace RowsIn
theorem Lz:prog.cellsOf 24=2:=by kernel_rfl
theorem Tm:prog.cellsOf 22=1:=by kernel_rfl
theorem cj(x:Nd)(h:Hd):(Bi x h)[0]? =some (.int .i64 x.kind):=by obtain⟨k,m,u,g,o,nh,d,ks⟩:=x;rfl
theorem V7{a8:Type}{enc:TypeId×Value→a8}{W:World}:∀(m:Nat) (cs:List Value) (y:DataW a8×List MemPlace),DataW.trod enc prog W 0 (fun _=>true) true m 50 cs=some y→
 ∃x h,cs=Bi x h∧Ah W.cell? x h∧AM x:=by
 intro m;induction m using Nat.strongRecOn with
 |ind m bp=>
  intro cs y bs;obtain⟨xs,n,c9,_,bu,bv,hx⟩:=DataW.trod_struct underlying50 bs;obtain⟨c0,c1,c2,bx,bA,bB,bC,c7,rfl⟩:=Np (bu.trans Ob);obtain⟨bF,bG,bH,bY,b0,b1,b2,b3,rfl⟩:=Np (show xs.length=8 from bv);have t0:DataW.trod enc prog W 0 (fun _=>true) true n 3 [c0]=some bF:=by simpa [LK]using hx 0 _ rfl
  have b4:DataW.trod enc prog W 0 (fun _=>true) true n 3 [c1]=some bG:=by simpa [LK]using hx 1 _ rfl
  have b5:DataW.trod enc prog W 0 (fun _=>true) true n 3 [c2]=some bH:=by simpa [LK]using hx 2 _ rfl
  have t3:DataW.trod enc prog W 0 (fun _=>true) true n 3 [bx]=some bY:=by simpa [LK]using hx 3 _ rfl
  have t4:DataW.trod enc prog W 0 (fun _=>true) true n 4 [bA]=some b0:=by simpa [bP]using hx 4 _ rfl
  have t5:DataW.trod enc prog W 0 (fun _=>true) true n 47 [bB]=some b1:=by simpa [ZJ]using hx 5 _ rfl
  have b6:DataW.trod enc prog W 0 (fun _=>true) true n 9 [bC]=some b2:=by simpa [IL]using hx 6 _ rfl
  have b7:DataW.trod enc prog W 0 (fun _=>true) true n 48 [c7]=some b3:=by simpa [Zc]using hx 7 _ rfl
  obtain⟨x0,ba,_⟩:=rD underlying3 t0;obtain⟨R,bb,_⟩:=rD underlying3 b4;obtain⟨T,bd,_,V⟩:=rD underlying3 b5;obtain⟨Y,be,_,Z⟩:=rD underlying3 t3;obtain⟨aa,bf,_⟩:=DataW.trod_bool underlying4 t4;obtain⟨ab,bg,_,_⟩:=r6 underlying9 b6;simp at ba bb bd be bf bg;subst ba bb bd be bf bg;obtain⟨ad,na,ca,l,rfl,rfl,ak,ao,ap⟩:=VU t5;rcases DataW.trod_slice underlying48 b7 with⟨az,_⟩|⟨a,H,cap,da,ni,db,dd,az,_,_,b9,bi,de,cb,_,_⟩
  ·obtain rfl:c7=.slice none 0 0:=by simpa using az
   exact⟨.mk x0 R T Y aa l ab [],⟨ad,ca,none,0⟩,rfl,.mk 0 0 (fun _=>⟨none,0,none,0⟩) ap ⟨ak,ao⟩ ⟨by simp,by simp⟩ (.inl rfl) (fun i n x F=>by simp at F) (fun i n x F=>by simp at F),by rw[AM];exact⟨Ga V,Ga Z,by rw[Bu];trivial⟩⟩
  ·obtain rfl:c7=.slice (some a) H cap:=by simpa using az
   have Q:∀i,i<H→∃(nm:BA) (x:Nd) (h:Hd),(∃z,W.cells? 0 (a.add (i*9)) 9=some z∧z=.string nm::Bi x h)∧Ah W.cell? x h∧AM x:=by
    intro i F;have bk:=cb i F;rw[Ti,np (by omega)]at bk;obtain⟨dg,a1,cf⟩:=Option.bind_eq_some_iff.1 bk;obtain⟨cg,a6,dj,_,ch,cl,bl⟩:=DataW.trod_struct underlying73 cf;obtain⟨z,a7,rfl,dk⟩:=aq (ch.trans Ti);obtain⟨co,cp,rfl⟩:=Oq (show cg.length=2 from cl);have cq:DataW.trod enc prog W 0 (fun _=>true) true a6 9 [z]=some co:=by simpa [IL]using bl 0 _ rfl
    obtain⟨nm,cr,_,_⟩:=r6 underlying9 cq;have cu:z=.string nm:=by simpa using cr
    have cx:DataW.trod enc prog W 0 (fun _=>true) true a6 50 a7=some cp:=by
     have e:List.take 8 a7=a7:=n1 (by omega);have:=bl 1 _ rfl;simpa [Ob,e]using this
    obtain⟨x,h,e,cA,cB⟩:=bp a6 (by omega) _ _ cx;exact⟨nm,x,h,⟨_,a1,by rw[cu,e]⟩,cA,cB⟩
   obtain⟨G,hF⟩:∃G:Nat→BA×Nd×Hd,∀i,i<H→(∃z,W.cells? 0 (a.add (i*9)) 9=some z∧z=.string (G i).1::Bi (G i).2.1 (G i).2.2)∧Ah W.cell? (G i).2.1 (G i).2.2∧AM (G i).2.1:=by
    refine⟨fun i=>if h:i<H then⟨Classical.choose (Q i h),Classical.choose (rg (Q i h)),Classical.choose (rg (rg (Q i h)))⟩else⟨ByteArray.empty,.mk 0 0 0 0 false [] ByteArray.empty [],⟨none,0,none,0⟩⟩,fun i F=>?_⟩;simp only[F,dite_true];exact rg (rg (rg (Q i F)))
   by_cases c3:H=0
   ·subst c3
    exact⟨.mk x0 R T Y aa l ab [],⟨ad,ca,some a,cap⟩,rfl,.mk 0 0 (fun _=>⟨none,0,none,0⟩) ap ⟨ak,ao⟩ ⟨by simp,by unfold maxLen at bi;show cap≤_;omega⟩ (.inl rfl) (fun i n x F=>by simp at F) (fun i n x F=>by simp at F),by rw[AM];exact⟨Ga V,Ga Z,by rw[Bu];trivial⟩⟩
   ·obtain⟨b,O,bn⟩:=a
    have bo:∀i,i<H→∀q v,(Value.string (G i).1::Bi (G i).2.1 (G i).2.2)[q]? =some v→W.cell? (((⟨b,O,bn⟩:Addr).add (i*9)).add q)=some v:=by
     intro i F q v J;obtain⟨⟨z,a1,rfl⟩,_⟩:=hF i F;obtain⟨_,dm,c4⟩:=World.cells?_some a1;have c5:q<9:=by have:=(nw.1 J).1;omega
     rw[c4 q c5];exact J
    have c6:bn=none:=by
     have:=World.cell?_spot (bo 0 (by omega) 0 _ rfl);simpa [Addr.add]using this
    subst c6;have c8:∀i q,((((aD b O):Addr).add (i*9)).add q)=(aD b (O+i*9+q)):=by
     intro i q;by_cases F:i*9=0<;>by_cases J:q=0<;>simp[Addr.add,F,J]
    have get:∀i n x,((List.range H).map (fun i=>((G i).1,(G i).2.1)))[i]? =some (n,x)→i<H∧n=(G i).1∧x=(G i).2.1:=by
     intro i n x F;have I:i<H:=by have:=(nw.1 F).1;simpa using this
     simp[I]at F;exact⟨I,F.1.symm,F.2.symm⟩
    refine⟨.mk x0 R T Y aa l ab ((List.range H).map (fun i=>((G i).1,(G i).2.1))),⟨ad,ca,some (aD b O),cap⟩,by simp[Bi],.mk b O (fun i=>(G i).2.2) ap ⟨ak,ao⟩ ⟨by simp;exact b9,by unfold maxLen at bi;show cap≤_;omega⟩ (.inr rfl) ?_ ?_,?_⟩
    ·intro i n x F
     obtain⟨I,rfl,rfl⟩:=get i n x F;refine Ji.2 fun q v J=>?_;have:=bo i I q v J
     rwa [c8]at this
    ·intro i n x F
     obtain⟨I,rfl,rfl⟩:=get i n x F;exact(hF i I).2.1
    ·rw[AM]
     refine⟨Ga V,Ga Z,UF fun i n x F=>?_⟩;obtain⟨I,rfl,rfl⟩:=get i n x F;exact(hF i I).2.2
theorem ns_of_trod{V:Type}{enc:TypeId×Value→V}{W:World}{m:Nat}{v:Value}{y:DataW V×List MemPlace}(h:DataW.trod enc prog W 0 (fun _=>true) true m 30 [v]=some y):
 ∃a n cap xs,v=.slice a n cap∧xs.length=n∧n≤cap∧cap≤9223372036854775807∧Ch W.cell? a xs∧∀x∈xs,AM x:=by
 rcases DataW.trod_slice underlying30 h with⟨Q,_⟩|⟨a,H,cap,bd,ni,be,bf,Q,_,_,ab,ad,bg,ak,_,_⟩
 ·obtain rfl:v=.slice none 0 0:=by simpa using Q
  exact⟨none,0,0,[],rfl,rfl,by omega,by omega,.inl rfl,fun x hx=>by cases hx⟩
 ·obtain rfl:v=.slice (some a) H cap:=by simpa using Q
  have ao:cap≤9223372036854775807:=by unfold maxLen at ad;omega
  have R:∀i,i<H→∃(x:Nd) (h:Hd),W.cells? 0 (a.add (i*8)) 8=some (Bi x h)∧Ah W.cell? x h∧AM x:=by
   intro i F;have Y:=ak i F;rw[Ob,np (by omega)]at Y;obtain⟨bi,T,ap⟩:=Option.bind_eq_some_iff.1 Y;obtain⟨x,hd,e,az,a1⟩:=V7 _ _ _ ap;exact⟨x,hd,by rw[T,e],az,a1⟩
  obtain⟨G,hF⟩:∃G:Nat→Nd×Hd,∀i,i<H→W.cells? 0 (a.add (i*8)) 8=some (Bi (G i).1 (G i).2)∧Ah W.cell? (G i).1 (G i).2∧AM (G i).1:=by
   refine⟨fun i=>if h:i<H then⟨Classical.choose (R i h),Classical.choose (rg (R i h))⟩else⟨zN,zH⟩,fun i F=>?_⟩;simp only[F,dite_true];exact rg (rg (R i F))
  have get:∀i x,((List.range H).map (fun i=>(G i).1))[i]? =some x→i<H∧x=(G i).1:=by
   intro i x F;have J:i<H:=by have:=(nw.1 F).1;simpa using this
   simp[J]at F;exact⟨J,F.symm⟩
  refine⟨some a,H,cap,(List.range H).map (fun i=>(G i).1),rfl,by simp,ab,ao,?_,fun x hx=>?_⟩
  ·by_cases a6:H=0
   ·subst a6;exact .inl rfl
   ·obtain⟨b,O,Z⟩:=a
    have aa:∀i,i<H→∀q v,(Bi (G i).1 (G i).2)[q]? =some v→W.cell? (((⟨b,O,Z⟩:Addr).add (i*8)).add q)=some v:=by
     intro i F q v I;obtain⟨T,_⟩:=hF i F;obtain⟨_,bk,a7⟩:=World.cells?_some T;have a8:q<8:=by have:=(nw.1 I).1;rw[DT]at this;exact this
     rw[a7 q a8];exact I
    have ba:Z=none:=by
     have:=World.cell?_spot (aa 0 (by omega) 0 _ (cj (G 0).1 (G 0).2));simpa [Addr.add]using this
    subst ba;have bb:∀i q,((((aD b O):Addr).add (i*8)).add q)=(aD b (O+i*8+q)):=by
     intro i q;by_cases F:i*8=0<;>by_cases I:q=0<;>simp[Addr.add,F,I]
    refine .inr ⟨b,O,rfl,fun i=>(G i).2,fun i x F=>?_⟩;obtain⟨J,rfl⟩:=get i x F;refine⟨Fe.2 fun q v I=>?_,(hF i J).2.1⟩;have:=aa i J q v I;rwa [bb]at this
  ·obtain⟨i,F,rfl⟩:=rx.1 hx
   exact(hF i (by simpa using F)).2.2
end RowsIn
structure Cl where
 op:Int
 pa:BA
 ot:BA
 nm:BA
 da:BA
 a:Int
 b:Int
def Cl.l(c:Cl):List Value:=[.int .i64 c.op,.string c.pa,.string c.ot,.string c.nm,.string c.da,.int .i64 c.a,.int .i64 c.b]
def If(m:AJ)(a:Option Addr)(l:List Cl):Prop:=l=[]∨∃b F,a=some ⟨b,F,none⟩∧∀i c,l[i]? =some c→∀q v,c.l[q]? =some v→m ⟨b,F+i*7+q,none⟩=some v
theorem If.on{m F:AJ}{a:Option Addr}{l:List Cl}(h:If m a l)(hb:AR m F):If F a l:=by
 rcases h with e|⟨b,G,H,I⟩
 ·exact .inl e
 ·exact .inr ⟨b,G,H,fun i c J q v O=>hb _ _ (I i c J q v O)⟩
namespace RowsIn
theorem TW:prog.cellsOf 46=7:=by kernel_rfl
theorem Z9:prog.cellsOf 29=8:=by kernel_rfl
theorem N5:prog.cellsOf 27=4:=by kernel_rfl
theorem Kb:prog.cellsOf 25=1:=by kernel_rfl
theorem Rk{F:Type}{l:List F}(h:l.length=7):∃a b c d e f g,l=[a,b,c,d,e,f,g]:=by
 match l,h with
 |[a,b,c,d,e,f,g],_=>exact⟨a,b,c,d,e,f,g,rfl⟩
theorem Sl{F:Type}{l:List F}(h:l.length=4):∃a b c d,l=[a,b,c,d]:=by
 match l,h with
 |[a,b,c,d],_=>exact⟨a,b,c,d,rfl⟩
theorem Pj{I:Type}{enc:TypeId×Value→I}{W:World}{m:Nat}{v:Value}{y:DataW I×List MemPlace}(h:DataW.trod enc prog W 0 (fun _=>true) true m 25 [v]=some y):
 ∃a n cap J,v=.slice a n cap∧n≤cap∧J.length=n∧Bg W a J:=by
 rcases open_slice underlying25 h with⟨H,_⟩|⟨x,F,cap,Z,n,D,a8,H,_,O,_,aa,_,hx⟩
 ·obtain rfl:v=.slice none 0 0:=by simpa using H
  exact⟨none,0,0,[],rfl,nl _,rfl,.inl rfl⟩
 ·obtain rfl:v=.slice (some x) F cap:=by simpa using H
  have ba:F≤Z:=by rw[aa];simp;exact O
  have Q:∀i,i<F→∃z:Int,W.cell? (x.add (i*1))=some (.int .i64 z):=by
   intro i G;obtain⟨ab,R,ad⟩:=hx i (by omega);rw[Gd]at R;obtain⟨_,ak,ao⟩:=World.cells?_some R;obtain⟨c0,rfl⟩:∃c,ab=[c]:=List.length_eq_one_iff.1 ak;obtain⟨u0,T,_,_⟩:=rD underlying3 ad;simp at T;subst T;have ap:=ao 0 (by omega);exact⟨u0,by simpa [Addr.add]using ap⟩
  obtain⟨f,V⟩:∃f:Nat→Int,∀i,i<F→W.cell? (x.add (i*1))=some (.int .i64 (f i)):=by
   refine⟨fun i=>if h:i<F then Classical.choose (Q i h)else 0,fun i G=>?_⟩;simp only[G,dite_true];exact rg (Q i G)
  refine⟨some x,F,cap,(List.range F).map f,rfl,O,by simp,?_⟩;by_cases az:F=0
  ·subst az;exact .inl rfl
  ·obtain⟨b,a1,a6⟩:=x
   have a7:a6=none:=by
    have:=World.cell?_spot (V 0 (by omega));simpa [Addr.add]using this
   subst a7;refine .inr ⟨b,a1,rfl,fun i G=>?_⟩;have Y:i<F:=by simpa using G
   have g:=V i Y;rw[DV,Nat.mul_one]at g;rw[g];simp[List.getD,Y]
theorem cls_of_trod{O:Type}{enc:TypeId×Value→O}{W:World}{m:Nat}{v:Value}{y:DataW O×List MemPlace}(h:DataW.trod enc prog W 0 (fun _=>true) true m 31 [v]=some y):
 ∃a n cap l,v=.slice a n cap∧l.length=n∧n≤cap∧cap≤9223372036854775807∧If W.cell? a l:=by
 rcases DataW.trod_slice underlying31 h with⟨J,_⟩|⟨a,G,cap,b6,ni,b7,b9,J,_,_,a1,a6,cb,a7,_,_⟩
 ·obtain rfl:v=.slice none 0 0:=by simpa using J
  exact⟨none,0,0,[],rfl,rfl,by omega,by omega,.inl rfl⟩
 ·obtain rfl:v=.slice (some a) G cap:=by simpa using J
  have a8:cap≤9223372036854775807:=by unfold maxLen at a6;omega
  have Q:∀i,i<G→∃c:Cl,W.cells? 0 (a.add (i*7)) 7=some c.l:=by
   intro i F;have R:=a7 i F;rw[TW,np (by omega)]at R;obtain⟨cf,ba,bb⟩:=Option.bind_eq_some_iff.1 R;obtain⟨xs,n,cg,_,bd,be,hx⟩:=DataW.trod_struct underlying46 bb;obtain⟨c0,c1,c2,bf,bg,bi,bk,rfl⟩:=Rk (bd.trans TW);obtain⟨bl,bn,bo,bp,bs,bu,bv,rfl⟩:=Rk (show xs.length=7 from be);have t0:DataW.trod enc prog W 0 (fun _=>true) true n 3 [c0]=some bl:=by simpa [Gd]using hx 0 _ rfl
   have bx:DataW.trod enc prog W 0 (fun _=>true) true n 9 [c1]=some bn:=by simpa [IL]using hx 1 _ rfl
   have bA:DataW.trod enc prog W 0 (fun _=>true) true n 9 [c2]=some bo:=by simpa [IL]using hx 2 _ rfl
   have t3:DataW.trod enc prog W 0 (fun _=>true) true n 9 [bf]=some bp:=by simpa [IL]using hx 3 _ rfl
   have t4:DataW.trod enc prog W 0 (fun _=>true) true n 9 [bg]=some bs:=by simpa [IL]using hx 4 _ rfl
   have t5:DataW.trod enc prog W 0 (fun _=>true) true n 3 [bi]=some bu:=by simpa [Gd]using hx 5 _ rfl
   have bB:DataW.trod enc prog W 0 (fun _=>true) true n 3 [bk]=some bv:=by simpa [Gd]using hx 6 _ rfl
   obtain⟨x0,T,_⟩:=rD underlying3 t0;obtain⟨bC,V,_,_⟩:=r6 underlying9 bx;obtain⟨bF,Y,_,_⟩:=r6 underlying9 bA;obtain⟨bG,Z,_,_⟩:=r6 underlying9 t3;obtain⟨bH,aa,_,_⟩:=r6 underlying9 t4;obtain⟨bY,ab,_⟩:=rD underlying3 t5;obtain⟨b0,ad,_⟩:=rD underlying3 bB;simp at T V Y Z aa ab ad;subst T V Y Z aa ab ad;exact⟨⟨x0,bC,bF,bG,bH,bY,b0⟩,ba⟩
  obtain⟨H,hF⟩:∃H:Nat→Cl,∀i,i<G→W.cells? 0 (a.add (i*7)) 7=some (H i).l:=by
   refine⟨fun i=>if h:i<G then Classical.choose (Q i h)else⟨0,⟨#[]⟩,⟨#[]⟩,⟨#[]⟩,⟨#[]⟩,0,0⟩,fun i F=>?_⟩;simp only[F,dite_true];exact rg (Q i F)
  refine⟨some a,G,cap,(List.range G).map H,rfl,by simp,a1,a8,?_⟩;by_cases b1:G=0
  ·subst b1;exact .inl rfl
  ·obtain⟨b,ak,ao⟩:=a
   have ap:∀i,i<G→∀q v,(H i).l[q]? =some v→W.cell? (((⟨b,ak,ao⟩:Addr).add (i*7)).add q)=some v:=by
    intro i F q v I;obtain⟨_,ch,b2⟩:=World.cells?_some (hF i F);have b3:q<7:=(nw.1 I).1;rw[b2 q b3];exact I
   have b4:ao=none:=by
    have:=World.cell?_spot (ap 0 (by omega) 0 _ rfl);simpa [Addr.add]using this
   subst b4;refine .inr ⟨b,ak,rfl,fun i c F q v I=>?_⟩;have az:i<G:=by have:=(nw.1 F).1;simpa using this
   have b5:c=H i:=by simp[az]at F;exact F.symm
   subst b5;have g:=ap i az q v I;rw[DV,DV]at g;exact g
theorem cfg_of_arg{O:Type}{enc:TypeId×Value→O}{W:World}{r:Reach}{ad:Nat}{v:Value}{y:DataW O×List MemPlace}{m:Nat}(ak:Value.okWide prog W r ad 29 v)(h:DataW.trod enc prog W 0 (fun _=>true) true m 29 v.cells.toList=some y):
 ∃(F G ca lwa:Option Addr) (uc gc cc lwn lwc:Nat) (us gs:List Rg) (cs:List Int) (H I ck q:Int),v=.agg #[.slice F us.length uc,.slice G gs.length gc,.int .i64 H,.int .i64 I,.slice ca cs.length cc,.int .i64 ck,.int .i64 q,.slice lwa lwn lwc]∧(Rgs W F us∧Rgs W G gs)∧(us.length≤uc∧gs.length≤gc)∧((∀r∈us,r.ok)∧∀r∈gs,r.ok)∧Bg W ca cs∧AZ H∧AZ I:=by
 obtain⟨cs,rfl,_⟩:=okWide_struct underlying29 ak;obtain⟨xs,n,b4,_,ao,ap,hx⟩:=DataW.trod_struct underlying29 h;obtain⟨c0,c1,c2,Q,R,T,az,c7,e⟩:=Np (ao.trans Z9);obtain⟨a1,a6,a7,a8,rfl⟩:=Sl (show xs.length=4 from ap);rw[e]at hx;have t0:DataW.trod enc prog W 0 (fun _=>true) true n 24 [c0,c1]=some a1:=by simpa [Lz]using hx 0 _ rfl
 have ba:DataW.trod enc prog W 0 (fun _=>true) true n 27 [c2,Q,R,T]=some a6:=by simpa [Lz,N5]using hx 1 _ rfl
 have bb:DataW.trod enc prog W 0 (fun _=>true) true n 3 [az]=some a7:=by simpa [Lz,N5,Gd]using hx 2 _ rfl
 have t3:DataW.trod enc prog W 0 (fun _=>true) true n 25 [c7]=some a8:=by simpa [Lz,N5,Gd,Kb]using hx 3 _ rfl
 obtain⟨bd,nm,_,_,_,be,V⟩:=DataW.trod_struct underlying24 t0;obtain⟨z0,bf,rfl⟩:=Oq (show bd.length=2 from be);have bg:DataW.trod enc prog W 0 (fun _=>true) true nm 22 [c0]=some z0:=by simpa [Tm]using V 0 _ rfl
 have bi:DataW.trod enc prog W 0 (fun _=>true) true nm 22 [c1]=some bf:=by simpa [Tm]using V 1 _ rfl
 obtain⟨bk,nc,_,_,_,bl,J⟩:=DataW.trod_struct underlying27 ba;obtain⟨bn,bo,bp,bs,rfl⟩:=Sl (show bk.length=4 from bl);have bu:DataW.trod enc prog W 0 (fun _=>true) true nc 3 [c2]=some bn:=by simpa [Gd,Kb]using J 0 _ rfl
 have bv:DataW.trod enc prog W 0 (fun _=>true) true nc 3 [Q]=some bo:=by simpa [Gd,Kb]using J 1 _ rfl
 have bx:DataW.trod enc prog W 0 (fun _=>true) true nc 25 [R]=some bp:=by simpa [Gd,Kb]using J 2 _ rfl
 have bA:DataW.trod enc prog W 0 (fun _=>true) true nc 3 [T]=some bs:=by simpa [Gd,Kb]using J 3 _ rfl
 obtain⟨F,b5,uc,us,rfl,bB,rfl,bC,bF⟩:=PE bg;obtain⟨G,b6,gc,gs,rfl,bG,rfl,bH,bY⟩:=PE bi;obtain⟨H,Y,_,b0⟩:=rD underlying3 bu;obtain⟨I,Z,_,b1⟩:=rD underlying3 bv;obtain⟨ca,b7,cc,b2,rfl,b9,rfl,b3⟩:=Pj bx;obtain⟨ck,aa,_,_⟩:=rD underlying3 bA;obtain⟨q,ab,_,_⟩:=rD underlying3 bb;obtain⟨lwa,lwn,lwc,_,rfl,_,_,_⟩:=Pj t3;simp at Y Z aa ab;subst Y Z aa ab;refine⟨F,G,ca,lwa,uc,gc,cc,lwn,lwc,us,gs,b2,H,I,ck,q,?_,⟨bC,bH⟩,⟨bB,bG⟩,⟨bF,bY⟩,b3,Ga b0,Ga b1⟩;show Value.agg cs=.agg _;congr 1;apply Array.ext';exact e
end RowsIn
theorem Vv{w:World}{G H ca lwa:Option Addr}{uc gc cc lwn lwc:Nat}{us gs:List Rg}{cs:List Int}{I J ck q:Int}:
 Calls prog 4 #[.agg #[.slice G us.length uc,.slice H gs.length gc,.int .i64 I,.int .i64 J,.slice ca cs.length cc,.int .i64 ck,.int .i64 q,.slice lwa lwn lwc]] w fun e w'=>(∃r,e=.returned (.bool r)∧(r=true→us.length≤6∧gs.length≤6∧cs.length≤8))∧Bw w w':=by
 have O:Bw w (w.alloc (A4 G H ca lwa uc gc cc lwn lwc us gs cs I J ck q)):=(nt _ _).alloc (nl _) _;have F:Hid (Bw w (w.alloc (A4 G H ca lwa uc gc cc lwn lwc us gs cs I J ck q))):=O;clear O;by_cases Q:us.length≤6
 case neg=>
  have V:decide ((us.length:Int)≤6)=false:=nA (by omega);go_enter func4,ntmps4;go_wp2;go_ret;exact⟨⟨false,rfl,fun e=>by cases e⟩,F.out⟩
 case pos=>
  have V:decide ((us.length:Int)≤6)=true:=nE (by omega);by_cases R:gs.length≤6
  case neg=>
   have Y:decide ((gs.length:Int)≤6)=false:=nA (by omega);go_enter func4,ntmps4;go_wp2;go_ret;exact⟨⟨false,rfl,fun e=>by cases e⟩,F.out⟩
  case pos=>
   have Y:decide ((gs.length:Int)≤6)=true:=nE (by omega);by_cases T:cs.length≤8
   case neg=>
    have Z:decide ((cs.length:Int)≤8)=false:=nA (by omega);go_enter func4,ntmps4;go_wp2;go_ret;exact⟨⟨false,rfl,fun e=>by cases e⟩,F.out⟩
   case pos=>
    have Z:decide ((cs.length:Int)≤8)=true:=nE (by omega);have aa:Hid (us.length≤6∧gs.length≤6∧cs.length≤8):=⟨Q,R,T⟩;clear Q R T;obtain⟨ab,ad⟩:∃r,decide ((lwn:Int)≤6)=r:=⟨_,rfl⟩;go_enter func4,ntmps4;go_wp2;go_ret;exact⟨⟨_,rfl,fun _=>aa.out⟩,F.out⟩
theorem Vx{w:World}{a:Option Addr}{cap:Nat}{l:List Cl}(hx:If w.cell? a l):
 Calls prog 6 #[.slice a l.length cap] w fun e w'=>(∃r,e=.returned (.bool r)∧(r=true→l.length≤40∧∀c∈l,c.nm.size≤60))∧Bw w w':=by
 have Z:Hid (If w.cell? a l):=hx;obtain⟨N,I⟩:∃N,Hid (l.length=N):=⟨_,rfl⟩;rw[I.out];clear hx;by_cases aa:40<N
 case pos=>
  have R:decide ((40:Int)<(N:Int))=true:=nE (by omega);go_enter func6,ntmps6;go_wp2;go_ret;exact⟨⟨false,rfl,fun e=>by cases e⟩,nt _ _⟩
 case neg=>
  have R:decide ((40:Int)<(N:Int))=false:=nA (by omega);have T:Hid (N≤40):=by show _≤_;omega
  go_enter func6,ntmps6;go_upto_region 3 with fail
  clear R aa;go_wp2;go_loopw [3] (fun i wr=>∃j:Nat,j≤N∧i=.int .i64 j∧Hid (Bw w wr)∧Hid (∀t c,t<j→l[t]? =some c→c.nm.size≤60)) (fun i _=>N-(intOf i).toNat)
  case atStart=>exact⟨0,nM _,rfl,nt _ _,fun t c H=>absurd H (Nat.not_lt_zero _)⟩
  case round=>
   obtain⟨j,bg,rfl,G,V⟩:=hrel;by_cases ab:j<N
   ·have bi:(j:Int)<(N:Int):=by omega
    have bk:N≤40:=T.out;obtain⟨c,F⟩:∃c,l[j]? =some c:=⟨_,np (by rw[I.out];exact ab)⟩;rcases Z.out with e|⟨b,bl,rfl,Y⟩
    ·rw[e]at F;simp at F
    have hb:=Y j c F;have ad:=Ad G.out (hb 1 _ rfl);have ak:=Ad G.out (hb 2 _ rfl);have ao:=Ad G.out (hb 3 _ rfl);have ap:=Ad G.out (hb 4 _ rfl);have az:Hid (l[j]? =some c):=F;obtain⟨op,J,O,nm,Q,ca,bn⟩:=c;dsimp only at ad ak ao ap;clear hb Y F;by_cases a1:200<J.size
    ·have a6:decide ((200:Int)<(J.size:Int))=true:=nE (by omega)
     go_wp2;go_ret;exact⟨⟨false,rfl,fun e=>by cases e⟩,G.out⟩
    have a6:decide ((200:Int)<(J.size:Int))=false:=nA (by omega);by_cases a7:200<O.size
    ·have a8:decide ((200:Int)<(O.size:Int))=true:=nE (by omega)
     go_wp2;go_ret;exact⟨⟨false,rfl,fun e=>by cases e⟩,G.out⟩
    have a8:decide ((200:Int)<(O.size:Int))=false:=nA (by omega);by_cases ba:60<nm.size
    ·have bb:decide ((60:Int)<(nm.size:Int))=true:=nE (by omega)
     go_wp2;go_ret;exact⟨⟨false,rfl,fun e=>by cases e⟩,G.out⟩
    have bb:decide ((60:Int)<(nm.size:Int))=false:=nA (by omega);have bd:Hid (nm.size≤60):=by show _≤_;omega
    by_cases be:300<Q.size
    ·have bf:decide ((300:Int)<(Q.size:Int))=true:=nE (by omega)
     go_wp2;go_ret;exact⟨⟨false,rfl,fun e=>by cases e⟩,G.out⟩
    have bf:decide ((300:Int)<(Q.size:Int))=false:=nA (by omega);clear a1 a7 ba be;go_wp2;go_roundw
    case rel=>
     refine⟨j+1,by omega,by go_num,G,fun t c H F=>?_⟩;by_cases e:t=j
     ·subst e
      rw[az.out]at F;cases F;exact bd.out
     ·exact V.out t c (by omega) F
    case measure=>(simp[intOf];try omega)
   ·obtain rfl:j=N:=by omega
    have bo:decide ((j:Int)<(j:Int))=false:=nA (by omega);go_wp2;go_ret;refine⟨⟨true,rfl,fun _=>⟨T.out,fun c F=>?_⟩⟩,G.out⟩;obtain⟨t,H⟩:=n5 F;exact V.out t c (by have:=(nw.1 H).1;rw[I.out]at this;exact this) H
end Go.Proofs.YtgppjbhaimmlpaaGreatDoor
namespace Go.Proofs.YtgppjbhaimmlpaaGreatDoor
open Go.RowKit Go.Proofs.Tryz
abbrev dN:Oper:={dst:=some 54,op:=Op.load 50 (Operand.tmp 10),type:=50,pos:= "top.go:333",after:=#[],guard:=none}
abbrev dC:Oper:={dst:=some 55,op:=Op.load 50 (Operand.tmp 10),type:=50,pos:= "top.go:333",after:=#[],guard:=none}
abbrev dq:Oper:={dst:=some 57,op:=Op.move (Operand.tmp 1),type:=30,pos:= "top.go:333",after:=#[],guard:=none}
abbrev dv:Oper:={dst:=some 59,op:=Op.fieldAddr 29 (Operand.tmp 3) 0,type:=0,pos:= "top.go:333",after:=#[],guard:=none}
abbrev dV:Oper:={dst:=some 60,op:=Op.load 24 (Operand.tmp 59),type:=24,pos:= "top.go:333",after:=#[{on:=5,ground:=Ground.data}],guard:=none}
abbrev dX:Oper:={dst:=some 62,op:=Op.move (Operand.tmp 11),type:=4,pos:= "top.go:334",after:=#[],guard:=none}
abbrev dh:Oper:={dst:=some 63,op:=Op.unOp UnOp.not 4 (Operand.tmp 62),type:=4,pos:= "top.go:334",after:=#[{on:=0,ground:=Ground.data}],guard:=none}
abbrev dI:Oper:={dst:=some 64,op:=Op.move (Operand.tmp 63),type:=4,pos:= "top.go:334",after:=#[{on:=1,ground:=Ground.data}],guard:=none}
abbrev dF:Oper:={dst:=some 65,op:=Op.load 50 (Operand.tmp 10),type:=50,pos:= "top.go:334",after:=#[{on:=2,ground:=Ground.guard}],guard:=some (2,false)}
abbrev dW:Oper:={dst:=some 66,op:=Op.call {callee:=Callee.value (Operand.func 11),args:=#[Operand.tmp 65,Operand.const (Value.bool true)],argTypes:=#[50,4]},type:=37,pos:= "top.go:334",after:=#[{on:=3,ground:=Ground.data},{on:=2,ground:=Ground.chain},{on:=2,ground:=Ground.guard}],guard:=some (2,false)}
abbrev cZ:Oper:={dst:=some 67,op:=Op.binOp BinOp.neq 37 (Operand.tmp 66) (Operand.const Value.nilIface) 37,type:=4,pos:= "top.go:334",after:=#[{on:=4,ground:=Ground.data},{on:=2,ground:=Ground.guard}],guard:=some (2,false)}
abbrev df:Oper:={dst:=some 68,op:=Op.pick (Operand.tmp 64) (Operand.const (Value.bool true)) (Operand.tmp 67),type:=4,pos:= "top.go:334",after:=#[{on:=2,ground:=Ground.data},{on:=5,ground:=Ground.data}],guard:=none}
abbrev cJ:Oper:={dst:=some 69,op:=Op.move (Operand.tmp 68),type:=4,pos:= "top.go:334",after:=#[{on:=6,ground:=Ground.data},{on:=4,ground:=Ground.chain}],guard:=none}
abbrev cS:Oper:={dst:=some 70,op:=Op.load 50 (Operand.tmp 10),type:=50,pos:= "top.go:334",after:=#[{on:=7,ground:=Ground.guard}],guard:=some (7,false)}
abbrev cU:Oper:={dst:=some 72,op:=Op.fieldAddr 29 (Operand.tmp 3) 2,type:=0,pos:= "top.go:334",after:=#[{on:=7,ground:=Ground.guard}],guard:=some (7,false)}
abbrev cN:Oper:={dst:=some 73,op:=Op.load 3 (Operand.tmp 72),type:=3,pos:= "top.go:334",after:=#[{on:=10,ground:=Ground.data},{on:=7,ground:=Ground.guard}],guard:=some (7,false)}
abbrev cR:Oper:={dst:=some 71,op:=Op.call {callee:=Callee.value (Operand.func 12),args:=#[Operand.tmp 70],argTypes:=#[50]},type:=3,pos:= "top.go:334",after:=#[{on:=8,ground:=Ground.data},{on:=7,ground:=Ground.chain},{on:=7,ground:=Ground.guard}],guard:=some (7,false)}
abbrev cK:Oper:={dst:=some 74,op:=Op.binOp BinOp.gtr 3 (Operand.tmp 71) (Operand.tmp 73) 3,type:=4,pos:= "top.go:334",after:=#[{on:=9,ground:=Ground.data},{on:=11,ground:=Ground.data},{on:=7,ground:=Ground.guard}],guard:=some (7,false)}
abbrev dc:Oper:={dst:=some 75,op:=Op.pick (Operand.tmp 69) (Operand.const (Value.bool true)) (Operand.tmp 74),type:=4,pos:= "top.go:334",after:=#[{on:=7,ground:=Ground.data},{on:=12,ground:=Ground.data}],guard:=none}
theorem VF{W:World}{O Q ca lwa:Option Addr}{uc gc cc lwn lwc:Nat}{us gs:List Rg}{cs:List Int}{R T ck q:Int}(ed:Rgs W O us)(ee:Rgs W Q gs)(ef:us.length≤uc)(eg:gs.length≤gc)(ej:∀r∈us,r.ok)(ek:∀r∈gs,r.ok)(el:Bg W ca cs)(hid:AZ R∧AZ T)
 {a:Option Addr} {cap:Nat} {xs:List Nd} (hx:Ch W.cell? a xs) (em:xs.length≤cap∧cap≤9223372036854775807) (en:∀x∈xs,AM x) {la:Option Addr} {lcap:Nat} {l:List Cl} (eo:If W.cell? la l) (dk:Int) (ep:W.cell? ⟨0,0,none⟩=some (.int .i64 dk)):
 Calls prog 3 #[.agg #[.slice O us.length uc,.slice Q gs.length gc,.int .i64 R,.int .i64 T,.slice ca cs.length cc,.int .i64 ck,.int .i64 q,.slice lwa lwn lwc],.slice a xs.length cap,.slice la l.length lcap] W fun e bn=>e=.returned (.bool true)∧Bw W bn:=by
 have eq:Bw W (W.alloc (A4 O Q ca lwa uc gc cc lwn lwc us gs cs R T ck q)):=(nt _ _).alloc (nl _) _;have er:Hid ((W.alloc (A4 O Q ca lwa uc gc cc lwn lwc us gs cs R T ck q)).cell? ⟨W.heap.size,0,none⟩=some (.slice O us.length uc)∧(W.alloc (A4 O Q ca lwa uc gc cc lwn lwc us gs cs R T ck q)).cell? ⟨W.heap.size,1,none⟩=some (.slice Q gs.length gc)∧(W.alloc (A4 O Q ca lwa uc gc cc lwn lwc us gs cs R T ck q)).cell? ⟨W.heap.size,2,none⟩=some (.int .i64 R)∧(W.alloc (A4 O Q ca lwa uc gc cc lwn lwc us gs cs R T ck q)).cell? ⟨W.heap.size,3,none⟩=some (.int .i64 T)∧(W.alloc (A4 O Q ca lwa uc gc cc lwn lwc us gs cs R T ck q)).cell? ⟨W.heap.size,4,none⟩=some (.slice ca cs.length cc)∧(W.alloc (A4 O Q ca lwa uc gc cc lwn lwc us gs cs R T ck q)).cell? ⟨W.heap.size,5,none⟩=some (.int .i64 ck)∧(W.alloc (A4 O Q ca lwa uc gc cc lwn lwc us gs cs R T ck q)).cell? ⟨W.heap.size,6,none⟩=some (.int .i64 q)∧(W.alloc (A4 O Q ca lwa uc gc cc lwn lwc us gs cs R T ck q)).cell? ⟨W.heap.size,7,none⟩=some (.slice lwa lwn lwc)):=⟨nk _ _ _ _ rfl,nk _ _ _ _ rfl,nk _ _ _ _ rfl,nk _ _ _ _ rfl,nk _ _ _ _ rfl,nk _ _ _ _ rfl,nk _ _ _ _ rfl,nk _ _ _ _ rfl⟩;obtain⟨c0,c1,c2,b2,b3,b4,b5,c7⟩:=er.out;have es:Hid (Calls prog 4 #[Mk O Q ca lwa uc gc cc lwn lwc us gs cs R T ck q] (W.alloc (A4 O Q ca lwa uc gc cc lwn lwc us gs cs R T ck q)) fun e w'=>(∃r,e=.returned (.bool r)∧(r=true→us.length≤6∧gs.length≤6∧cs.length≤8))∧Bw (W.alloc (A4 O Q ca lwa uc gc cc lwn lwc us gs cs R T ck q)) w'):=Vv;have cA:Hid (Bw W (W.alloc (A4 O Q ca lwa uc gc cc lwn lwc us gs cs R T ck q))):=eq;have eu:Hid (W.heap.size<(W.alloc (A4 O Q ca lwa uc gc cc lwn lwc us gs cs R T ck q)).heap.size):=by show _<_;rw[nv];omega
 have dm:Hid (Ch W.cell? a xs):=hx;have ev:Hid (xs.length≤cap∧cap≤9223372036854775807):=em;have fD:Hid (∀x∈xs,AM x):=en;have eB:Hid (If W.cell? la l):=eo;have a7:Hid ((Rgs W O us∧Rgs W Q gs)∧(us.length≤uc∧gs.length≤gc)∧((∀r∈us,r.ok)∧∀r∈gs,r.ok)∧Bg W ca cs∧AZ R∧AZ T):=⟨⟨ed,ee⟩,⟨ef,eg⟩,⟨ej,ek⟩,el,hid⟩;have fE:Hid (W.cell? ⟨0,0,none⟩=some (.int .i64 dk)):=ep;obtain⟨N,bF⟩:∃N,Hid (xs.length=N):=⟨_,rfl⟩;obtain⟨bG,cB⟩:∃N,Hid (l.length=N):=⟨_,rfl⟩;rw[bF.out,cB.out];clear ed ee ef eg ej ek el hid hx em en eo ep eq;go_enter func3,ntmps3;go_upto_region 1 with fail
 generalize(W.alloc (A4 O Q ca lwa uc gc cc lwn lwc us gs cs R T ck q))=b6 at*;go_wp2_with fail
 refine nn es.out ?_;rintro e c3 ⟨⟨r,rfl,bH⟩,q2⟩;have cf:Hid (Bw W c3):=cA.out.trans (q2.mono cA.out.size);have dn:Hid (Bw b6 c3):=q2;clear es q2;cases r with
 |false=>
  clear bH c0 c1 c2 b2 b3 b4 b5 c7;go_wp2;go_ret;exact⟨rfl,cf.out⟩
 |true=>
  have cg:Hid (us.length≤6∧gs.length≤6∧cs.length≤8):=bH rfl;clear bH;have dp:Hid (Calls prog 5 #[.slice a N cap] c3 fun e w'=>e=.returned (.bool (Hu xs))∧Bw c3 w'):=by
   have e:=WS (cap:=cap) (dm.out.on (Aj cf.out)) (nO ev.out.1 ev.out.2);rw[bF.out]at e;exact e
  obtain⟨fF,eE⟩:∃B,Hid (Hu xs=B):=⟨_,rfl⟩;rw[eE.out]at dp;go_wp2_with fail
  refine nn dp.out ?_;rintro e c4 ⟨rfl,dr⟩;have ch:Hid (Bw W c4):=cf.out.trans (dr.mono cf.out.size);have ds:Hid (Bw b6 c4):=dn.out.trans (dr.mono dn.out.size);clear dp dr cf dn;cases fF with
  |false=>
   clear c0 c1 c2 b2 b3 b4 b5 c7;go_wp2;go_ret;exact⟨rfl,ch.out⟩
  |true=>
   have c5:=aR eE.out;have du:Hid (xs.length≤5∧∀x∈xs,AB x∧cnt x≤1000):=⟨c5.1,fun x hx=>⟨(c5.2 x hx).1,by have:=(c5.2 x hx).2;omega⟩⟩;have eF:Hid (Calls prog 6 #[.slice la bG lcap] c4 fun e w'=>(∃r,e=.returned (.bool r)∧(r=true→l.length≤40∧∀c∈l,c.nm.size≤60))∧Bw c4 w'):=by
    have e:=Vx (cap:=lcap) (eB.out.on (Aj ch.out));rw[cB.out]at e⊢;exact e
   clear c5;go_wp2_with fail
   refine nn eF.out ?_;rintro e bY ⟨⟨r,rfl,bH⟩,q4⟩;have bA:Hid (Bw W bY):=ch.out.trans (q4.mono ch.out.size);have bb:Hid (Bw b6 bY):=ds.out.trans (q4.mono ds.out.size);clear eF q4 ch ds;cases r with
   |false=>
    clear bH c0 c1 c2 b2 b3 b4 b5 c7;go_wp2;go_ret;exact⟨rfl,bA.out⟩
   |true=>
    have eG:Hid (l.length≤40∧∀c∈l,c.nm.size≤60):=bH rfl;have go:bG≤40:=by rw[←cB.out];exact eG.out.1
    have gp:N≤5:=by rw[←bF.out];exact du.out.1
    have eH:Hid (Calls prog 7 #[Mk O Q ca lwa uc gc cc lwn lwc us gs cs R T ck q,.slice a N cap] bY fun e w'=>O6 bY w' us gs q xs e∧Bw bY w'):=by
     have e:=Y5 (w:=bY) (uc:=uc) (gc:=gc) (cc:=cc) (lwa:=lwa) (lwn:=lwn) (lwc:=lwc) (ck:=ck) (q:=q) (cap:=cap) (a7.out.1.1.below bA.out) (a7.out.1.2.below bA.out) (by have:=cg.out.1;omega) (by have:=cg.out.2.1;omega) a7.out.2.1.1 a7.out.2.1.2 a7.out.2.2.1.1 a7.out.2.2.1.2 (a7.out.2.2.2.1.below bA.out) cg.out.2.2 a7.out.2.2.2.2 (dm.out.on (Aj bA.out)) du.out.1 du.out.2 fD.out;rw[bF.out]at e;exact e
    replace c0:=Ad bb.out c0;replace c1:=Ad bb.out c1;replace c2:=Ad bb.out c2;replace b2:=Ad bb.out b2;replace b3:=Ad bb.out b3;replace b4:=Ad bb.out b4;replace b5:=Ad bb.out b5;replace c7:=Ad bb.out c7;clear bH;go_wp2_with fail
    refine nn eH.out ?_;rintro e bo ⟨fG,q5⟩;have dw:Hid (Bw W bo):=bA.out.trans (q5.mono bA.out.size);have c6:Hid (Bw b6 bo):=bb.out.trans (q5.mono bb.out.size);have fH:Hid (b6.heap.size≤bY.heap.size):=bb.out.size;clear eH q5 c0 c1 c2 b2 b3 b4 b5 c7 bA bb;rcases fG with⟨E,rfl,fI⟩|⟨b,B,y,rfl,eI,bp,bs,cl,co,cp⟩
    ·have fJ:=AH (n:=E) rfl fI
     rw[fJ];go_wp2;go_ret;exact⟨rfl,dw.out⟩
    ·have dx:Hid (b6.heap.size≤b):=nO fH.out eI
     have eJ:Hid (A5 bo b B∧BS B y xs∧B.M.us=us∧B.M.gs=gs∧B.q=q):=⟨bp,bs,cl,co,cp⟩;clear bp bs cl co cp eI;go_upto_region 8 with fail
     go_wp2;go_loopw [9] (fun i wr=>∃j:Nat,j≤bG∧i=.int .i64 j∧Hid (Au b bo wr∧∃B bu,A5 wr b B∧BS B bu xs∧B.M.us=us∧B.M.gs=gs∧B.q=q)) (fun i _=>bG-(intOf i).toNat)
     case atStart=>exact⟨0,nM _,rfl,Au.refl _ _,B,y,eJ.out⟩
     case round=>
      clear eJ;obtain⟨j,b7,rfl,c8⟩:=hrel;have bd:Hid (Bw W wr):=dw.out.trans (c8.out.1.below (nO cA.out.size dx.out) dw.out.size);by_cases fK:j<bG
      ·have fL:(j:Int)<(bG:Int):=by omega
       obtain⟨c,cq⟩:∃c,l[j]? =some c:=⟨_,np (by rw[cB.out];exact fK)⟩;rcases eB.out with e|⟨lb,fM,rfl,eK⟩
       ·rw[e]at cq;simp at cq
       obtain⟨B,bu,bp,bs,cl,co,cp⟩:=c8.out.2;have dy:c.nm.size≤1000:=by have:=eG.out.2 c (nD cq);omega
       have bB:=eK j c cq;have eL:wr.cell? ⟨lb,fM+j*7,none⟩=some (.int .i64 c.op):=Ad bd.out (bB 0 _ rfl);have eM:=Ad bd.out (bB 1 _ rfl);have eN:=Ad bd.out (bB 2 _ rfl);have eO:=Ad bd.out (bB 3 _ rfl);have eP:=Ad bd.out (bB 4 _ rfl);have eQ:=Ad bd.out (bB 5 _ rfl);have f6:=Ad bd.out (bB 6 _ rfl);obtain⟨fN,fO,fP,fQ,fR,fS,fT⟩:=c;dsimp only at eL eM eN eO eP eQ f6 dy;have eR:Hid (Calls prog 8 #[.pointer (some ⟨b,0,none⟩),El fN fO fP fQ fR fS fT] wr fun e w'=>(∃v E,e=.returned (.tuple #[v,Am E])∧GE v)∧BI wr w' b B xs):=aP bp bs dk (Ad bd.out fE.out) dy;have cr:Hid (B.M.us=us∧B.M.gs=gs∧B.q=q∧Au b bo wr):=⟨cl,co,cp,c8.out.1⟩;clear cq eK bB dy bp bs cl co cp c8;go_wp2_with fail
       refine nn eR.out ?_;rintro e b9 ⟨⟨gq,E,rfl,_⟩,dz,b0,bu,bp,bs,d0,cu⟩;have eS:Hid (Au b bo b9):=cr.out.2.2.2.trans dz;have eT:Hid (Bw W b9):=bd.out.trans (dz.below (nO cA.out.size dx.out) bd.out.size);have eU:Hid (A5 b9 b b0):=bp;have cx:Hid (BS b0 bu xs):=bs;have c9:Hid (b0.M.us=us∧b0.M.gs=gs∧b0.q=q):=⟨by rw[d0];exact cr.out.1,by rw[d0];exact cr.out.2.1,by rw[cu];exact cr.out.2.2.1⟩;have eV:Hid (Calls prog 9 #[.pointer (some ⟨b,0,none⟩)] b9 fun e w'=>(∃h',e=.returned (Ao bu h')∧Ah w'.cell? bu h')∧Bw b9 w'):=Wu bp bs;clear eL eM eN eO eP eQ f6 eR dz bp bs d0 cu cr bd;go_wp2_with fail
       refine nn eV.out ?_;rintro e bv ⟨⟨F,rfl,eW⟩,d1⟩;obtain⟨k,m,u,g,o,nh,d,ks⟩:=bu;rw[show Ao (.mk k m u g o nh d ks) F=(AY k m u g o nh d ks F)from rfl];have d2:=Du bv (Ap k m u g o nh d ks F);have fU:=As.new bv k m u g o nh d ks F;have d3:Hid (Bw b9 (bv.alloc (Ap k m u g o nh d ks F))):=d1.trans (d2.mono d1.size);have da:Hid (Ah (bv.alloc (Ap k m u g o nh d ks F)).cell? (.mk k m u g o nh d ks) F):=eW.on (Aj d2);have d4:Hid (Bw W (bv.alloc (Ap k m u g o nh d ks F))):=eT.out.trans (d3.out.mono eT.out.size);have db:Hid (Au b bo (bv.alloc (Ap k m u g o nh d ks F))):=eS.out.then d3.out;have fV:Hid (A5 (bv.alloc (Ap k m u g o nh d ks F)) b b0):=eU.out.below d3.out;clear eV d1 eW d2 eU eS;go_upto_region 13 with fail
       obtain⟨⟨eX,eY,eZ,e0,e1,e2,e3,e4⟩,_⟩:=fU;generalize bv.alloc (Ap k m u g o nh d ks F)=H at*;generalize bv.heap.size=nx at*;have dd:b≠W.heap.size:=by have:=dx.out;have:=eu.out;omega
       have de:W.heap.size<bo.heap.size:=nG eu.out c6.out.size;obtain⟨e5,e6,_,_,_,_,e7,_⟩:=er.out;have e8:=(db.out.cell (p:=⟨W.heap.size,0,none⟩) de (fun e=>dd e.symm)).trans (Ad c6.out e5);have e9:=(db.out.cell (p:=⟨W.heap.size,1,none⟩) de (fun e=>dd e.symm)).trans (Ad c6.out e6);have fa:=(db.out.cell (p:=⟨W.heap.size,6,none⟩) de (fun e=>dd e.symm)).trans (Ad c6.out e7);have fW:Hid (H.cell? ⟨W.heap.size,6,none⟩=some (.int .i64 q)):=fa;have G:H.drew.cell? ⟨nx,0,none⟩=some (.int .i64 k)∧H.drew.cell? ⟨nx,1,none⟩=some (.int .i64 m)∧H.drew.cell? ⟨nx,2,none⟩=some (.int .i64 u)∧H.drew.cell? ⟨nx,3,none⟩=some (.int .i64 g)∧H.drew.cell? ⟨nx,4,none⟩=some (.bool o)∧H.drew.cell? ⟨nx,5,none⟩=some (.slice F.aa nh.length F.ca)∧H.drew.cell? ⟨nx,6,none⟩=some (.string d)∧H.drew.cell? ⟨nx,7,none⟩=some (.slice F.ak ks.length F.ck)∧H.drew.cell? ⟨W.heap.size,0,none⟩=some (.slice O us.length uc)∧H.drew.cell? ⟨W.heap.size,1,none⟩=some (.slice Q gs.length gc):=⟨eX,eY,eZ,e0,e1,e2,e3,e4,e8,e9⟩;have fX:Hid (DD W ⟨O,Q,uc,gc,us,gs⟩):=⟨a7.out.1.1,a7.out.1.2,by have:=cg.out.1;show us.length≤100;omega,by have:=cg.out.2.1;show gs.length≤100;omega,a7.out.2.1.1,a7.out.2.1.2,a7.out.2.2.1.1,a7.out.2.2.1.2⟩;obtain⟨fY,fb,fc,fd,fe⟩:=Eb Tryz.infoNd;have fZ:Hid _:=fb;have f0:Hid _:=fc;have f1:Hid _:=fd;have f2:Hid _:=fe;have ff:Hid (D7 H.drew (.slice (some ⟨H.drew.heap.size,0,none⟩) 1 1) [(⟨(.mk k m u g o nh d ks),F,0⟩:Fl)] (H.drew.alloc (Ap k m u g o nh d ks F))):=bK H.drew k m u g o nh d ks F da.out;have fg:Ch H.cell? a xs:=dm.out.on (Aj d4.out);obtain⟨L,d5,fh,fi⟩:∃L:List Fl,L.map Fl.x=xs∧((a=none∧N=0)∨∃bx,a=some bx∧∀j u,(Be L)[j]? =some u→H.cell? (bx.add j)=some u)∧∀z∈L,Ah H.cell? z.x z.h:=by
        rcases fg with e|⟨gr,f3,e,f,f4⟩
        ·refine⟨[],by rw[e];rfl,?_,fun z d6=>by cases d6⟩
         have f5:N=0:=by rw[←bF.out,e];rfl
         cases a with
         |none=>exact .inl ⟨rfl,f5⟩
         |some bx=>exact .inr ⟨bx,rfl,fun j u b7=>by simp[Be]at b7⟩
        ·obtain⟨L,f7,a2,a3⟩:=Ot xs f3 f f4
         exact⟨L,f7,.inr ⟨_,e,fun j u b7=>by rw[DV];exact a2 j u b7⟩,a3⟩
       have f8:Hid (L.map Fl.x=xs):=d5;have d7:Hid (L.length=N):=by show _=_;rw[←bF.out,←d5,rk]
       have f9:Hid (∀z∈L,Ah (Ag (H.drew.alloc (Ap k m u g o nh d ks F)).cell? (fun k=>(Value.slice (some ⟨H.drew.heap.size,0,none⟩) 1 1).ownBlock==some k)) z.x z.h):=fun z d6=>(fi z d6).on (Lj (w:=H) ((nt H.heap.size H).drew.alloc (nt H.heap.size H).drew.size _) (fun q cu=>by have cu:q<H.heap.size:=cu;simp[Value.ownBlock];omega));have ga:Hid ((a=none∧N=0)∨∃bx,a=some bx∧∀fj fl,(Be L)[fj]? =some fl→(H.drew.alloc (Ap k m u g o nh d ks F)).cell? (bx.add fj)=some fl):=by
        rcases fh with e|⟨bx,gb,gd⟩
        ·exact .inl e
        ·exact .inr ⟨bx,gb,fun j u b7=>Ay (gd j u b7)⟩
       obtain⟨cb,fm⟩:∃cb,Hid (FR (.mk k m u g o nh d ks)=cb):=⟨_,rfl⟩;have gg:¬q<cb:=by
        have:=cx.out.quo;rw[c9.out.2.2,fm.out]at this;omega
       have gu:decide (q<cb)=false:=nA gg;clear eX eY eZ e0 e1 e2 e3 e4 e8 e9 fa e5 e6 e7 fb fc fd fe d5 fh fi fg de dd;refine wp_region_held_drew (S:=fun w'=>w'.cell? ⟨nx,0,none⟩=some (.int .i64 k)∧w'.cell? ⟨nx,1,none⟩=some (.int .i64 m)∧w'.cell? ⟨nx,2,none⟩=some (.int .i64 u)∧w'.cell? ⟨nx,3,none⟩=some (.int .i64 g)∧w'.cell? ⟨nx,4,none⟩=some (.bool o)∧w'.cell? ⟨nx,5,none⟩=some (.slice F.aa nh.length F.ca)∧w'.cell? ⟨nx,6,none⟩=some (.string d)∧w'.cell? ⟨nx,7,none⟩=some (.slice F.ak ks.length F.ck)∧w'.cell? ⟨W.heap.size,0,none⟩=some (.slice O us.length uc)∧w'.cell? ⟨W.heap.size,1,none⟩=some (.slice Q gs.length gc)) (by kernel_rfl) G (fun bl=>?_);refine nS (i:=0) (oi:=dN) (v:=(AY k m u g o nh d ks F)) rfl (by kernel_rfl) (by kernel_rfl) (by kernel_rfl) (fun _ _ _ h=>h) (Or.inl ⟨by rfl,fun w J=>by obtain⟨Z,aa,ab,ad,ak,ao,ap,az,a1,dg⟩:=J;go_simp⟩) bl ?_;simp only[tk];refine nS (i:=1) (oi:=dC) (v:=(AY k m u g o nh d ks F)) rfl (by kernel_rfl) (by kernel_rfl) (by kernel_rfl) (fun _ _ _ h=>h) (Or.inl ⟨by rfl,fun w J=>by obtain⟨Z,aa,ab,ad,ak,ao,ap,az,a1,dg⟩:=J;go_simp⟩) bl ?_;simp only[tk];refine nS (i:=3) (oi:=dq) (v:=.slice a N cap) rfl (by kernel_rfl) (by kernel_rfl) (by kernel_rfl) (fun _ _ _ h=>h) (Or.inl ⟨by rfl,fun w J=>by obtain⟨Z,aa,ab,ad,ak,ao,ap,az,a1,dg⟩:=J;go_simp⟩) bl ?_;simp only[tk];refine nS (i:=5) (oi:=dv) (v:=.pointer (some ⟨W.heap.size,0,none⟩)) rfl (by kernel_rfl) (by kernel_rfl) (by kernel_rfl) (fun _ _ _ h=>h) (Or.inl ⟨by rfl,fun w J=>by obtain⟨Z,aa,ab,ad,ak,ao,ap,az,a1,dg⟩:=J;go_simp⟩) bl ?_;simp only[tk];refine nS (i:=6) (oi:=dV) (v:=.agg #[.slice O us.length uc,.slice Q gs.length gc]) rfl (by kernel_rfl) (by kernel_rfl) (by kernel_rfl) (fun _ _ _ h=>h) (Or.inl ⟨by rfl,fun w J=>by obtain⟨Z,aa,ab,ad,ak,ao,ap,az,a1,dg⟩:=J;go_simp⟩) bl ?_;simp only[tk];refine wpAnyH_ready (rs:=[2]) (by kernel_rfl) (by simp) ?_;refine AllReadyH.cons (o:=_) rfl (fun K Y=>?_) AllReadyH.nil;rw[nC (by rfl)];go_simp;refine Y.out _ _ ⟨Ay G.1,Ay G.2.1,Ay G.2.2.1,Ay G.2.2.2.1,Ay G.2.2.2.2.1,Ay G.2.2.2.2.2.1,Ay G.2.2.2.2.2.2.1,Ay G.2.2.2.2.2.2.2.1,Ay G.2.2.2.2.2.2.2.2.1,Ay G.2.2.2.2.2.2.2.2.2⟩ (fun gh=>?_);clear Y K;refine wpAnyH_ready (rs:=[4]) (by kernel_rfl) (by simp) ?_;refine AllReadyH.cons (o:=_) rfl (fun K Y=>?_) AllReadyH.nil;rw[nC (by rfl)];refine Iq (H.drew.alloc (Ap k m u g o nh d ks F)) _ _ 30 rfl H.drew.heap.size 50 fY (.agg #[.int .i64 0,.int .i64 0,.int .i64 0,.int .i64 0,.bool false,.slice none 0 0,.string ⟨#[]⟩,.slice none 0 0]) 8 104 underlying30 fZ.out f0.out f1.out f2.out rfl (by decide) (.slice (some ⟨H.drew.heap.size,0,none⟩) 1 1) 1 (Be [(⟨(.mk k m u g o nh d ks),F,0⟩:Fl)]) rfl ff.out.row a N cap (Be L) rfl (by rw[Ka,d7.out]) ga.out (NP L) (by unfold maxLen;omega) (by omega) (by rw[nv];omega) ?_;intro fo b1 fp d8 d9;have fq:Hid (D7 H.drew fo ([(⟨(.mk k m u g o nh d ks),F,0⟩:Fl)]++L) b1):=D7.apps ff.out f9.out (by rw[J9,nK,d7.out];exact fp) d8 (by rw[nv]at d9⊢;exact d9);have a6:Hid (Bw H b1):=((nt H.heap.size H).drew.alloc (nt H.heap.size H).drew.size _).grown d8 (by rw[nv];exact Nat.le_succ _) (fun k e=>by cases e;exact nl _);obtain⟨ea,eb,fs,ec⟩:=bZ fq.out;have gi:fo=.slice ea (xs.length+1) eb:=by rw[fs,nK,d7.out,List.length_singleton,Nat.add_comm,bF.out]
       have ft:Hid (Ch b1.cell? ea ((.mk k m u g o nh d ks)::xs)):=by
        rw[rA,f8.out]at ec;exact ec
       subst gi;clear fs ec fp d8 d9;refine Y.out _ _ ⟨Ad a6.out G.1,Ad a6.out G.2.1,Ad a6.out G.2.2.1,Ad a6.out G.2.2.2.1,Ad a6.out G.2.2.2.2.1,Ad a6.out G.2.2.2.2.2.1,Ad a6.out G.2.2.2.2.2.2.1,Ad a6.out G.2.2.2.2.2.2.2.1,Ad a6.out G.2.2.2.2.2.2.2.2.1,Ad a6.out G.2.2.2.2.2.2.2.2.2⟩ (fun bC=>?_);clear Y K gh;have fu:Hid (Calls prog 10 #[(AY k m u g o nh d ks F),.slice none 0 0,.slice ea (xs.length+1) eb,.agg #[.slice O us.length uc,.slice Q gs.length gc]] b1 fun e bn=>e=.returned (.bool true)∧Bw b1 bn):=by
        have a8:=cx.out;have e:=Y2 (w:=b1) (lc:=eb) ft.out (a8.sz.ok (by omega)) (fX.out.below (d4.out.trans (a6.out.mono d4.out.size))) (da.out.on (Aj a6.out)) b1 none 0 [] (nt _ _) (.inl rfl) ⟨nl _,by omega⟩ ⟨by rw[AV],fun _=>by rw[a8.kind];decide,by rw[Ef];have:=a8.fine.own;rw[c9.out.1,c9.out.2.1]at this;exact this,((Jw _ _).1 a8.ok).2.1,a8.fine.ids⟩;exact e
       refine wpAnyH_ready (rs:=[7]) (by kernel_rfl) (by simp) ?_;refine AllReadyH.cons (o:=_) rfl (fun K Y=>?_) AllReadyH.nil;rw[nC (by rfl)];go_simp;refine nn fu.out ?_;rintro e V ⟨rfl,fv⟩;have I:Hid (Bw H V):=a6.out.trans (fv.mono a6.out.size);clear fv fu fq ft a6;go_wp2_with fail
       refine Y.out _ _ ⟨Ad I.out G.1,Ad I.out G.2.1,Ad I.out G.2.2.1,Ad I.out G.2.2.2.1,Ad I.out G.2.2.2.2.1,Ad I.out G.2.2.2.2.2.1,Ad I.out G.2.2.2.2.2.2.1,Ad I.out G.2.2.2.2.2.2.2.1,Ad I.out G.2.2.2.2.2.2.2.2.1,Ad I.out G.2.2.2.2.2.2.2.2.2⟩ (fun gj=>?_);clear Y K bC;refine wpAnyH_ready (rs:=[8]) (by kernel_rfl) (by simp) ?_;refine AllReadyH.cons (o:=_) rfl (fun K Y=>?_) AllReadyH.nil;rw[nC (by rfl)];go_simp;refine Y.out _ _ ⟨Ad I.out G.1,Ad I.out G.2.1,Ad I.out G.2.2.1,Ad I.out G.2.2.2.1,Ad I.out G.2.2.2.2.1,Ad I.out G.2.2.2.2.2.1,Ad I.out G.2.2.2.2.2.2.1,Ad I.out G.2.2.2.2.2.2.2.1,Ad I.out G.2.2.2.2.2.2.2.2.1,Ad I.out G.2.2.2.2.2.2.2.2.2⟩ (fun gl=>?_);clear Y K gj gl;refine rN (by kernel_rfl) ?_ _;have bf:V.drew.cell? ⟨nx,0,none⟩=some (.int .i64 k)∧V.drew.cell? ⟨nx,1,none⟩=some (.int .i64 m)∧V.drew.cell? ⟨nx,2,none⟩=some (.int .i64 u)∧V.drew.cell? ⟨nx,3,none⟩=some (.int .i64 g)∧V.drew.cell? ⟨nx,4,none⟩=some (.bool o)∧V.drew.cell? ⟨nx,5,none⟩=some (.slice F.aa nh.length F.ca)∧V.drew.cell? ⟨nx,6,none⟩=some (.string d)∧V.drew.cell? ⟨nx,7,none⟩=some (.slice F.ak ks.length F.ck)∧V.drew.cell? ⟨W.heap.size,6,none⟩=some (.int .i64 q):=⟨Ad I.out.drew G.1,Ad I.out.drew G.2.1,Ad I.out.drew G.2.2.1,Ad I.out.drew G.2.2.2.1,Ad I.out.drew G.2.2.2.2.1,Ad I.out.drew G.2.2.2.2.2.1,Ad I.out.drew G.2.2.2.2.2.2.1,Ad I.out.drew G.2.2.2.2.2.2.2.1,Ad I.out.drew fW.out⟩;have fw:Hid (Calls prog 11 #[(AY k m u g o nh d ks F),.bool true] V.drew fun e bn=>e=.returned .nilIface∧Bw V.drew bn):=by
        have a8:=cx.out;have e:=KC (w:=V.drew) true (da.out.on (Aj I.out.drew)) a8.fine.lil (by have:=a8.fine.cnt;omega);rw[a8.ok]at e;exact e
       have fx:Hid (∀w',Bw V w'→Calls prog 12 #[(AY k m u g o nh d ks F)] w' fun e bn=>e=.returned (.int .i64 cb)∧Bw w' bn):=fun w' hb=>by
        have a8:=cx.out;have e:=Kw (w:=w') (da.out.on (Aj (I.out.trans (hb.mono I.out.size)))) a8.fine.lil (by have:=a8.fine.cnt;omega) (by have:=J3 _ a8.fine.lil;have:=a8.fine.cnt;omega);rw[fm.out]at e;exact e
       clear G;go_upto_region 14 with fail
       refine wp_region_held_drew (S:=fun w'=>w'.cell? ⟨nx,0,none⟩=some (.int .i64 k)∧w'.cell? ⟨nx,1,none⟩=some (.int .i64 m)∧w'.cell? ⟨nx,2,none⟩=some (.int .i64 u)∧w'.cell? ⟨nx,3,none⟩=some (.int .i64 g)∧w'.cell? ⟨nx,4,none⟩=some (.bool o)∧w'.cell? ⟨nx,5,none⟩=some (.slice F.aa nh.length F.ca)∧w'.cell? ⟨nx,6,none⟩=some (.string d)∧w'.cell? ⟨nx,7,none⟩=some (.slice F.ak ks.length F.ck)∧w'.cell? ⟨W.heap.size,6,none⟩=some (.int .i64 q)) (by kernel_rfl) bf (fun bl=>?_);refine nS (i:=0) (oi:=dX) (v:=.bool true) rfl (by kernel_rfl) (by kernel_rfl) (by kernel_rfl) (fun _ _ _ h=>h) (Or.inl ⟨by rfl,fun w J=>by obtain⟨Z,aa,ab,ad,ak,ao,ap,az,a1⟩:=J;go_simp⟩) bl ?_;simp only[tk];refine nS (i:=1) (oi:=dh) (v:=.bool false) rfl (by kernel_rfl) (by kernel_rfl) (by kernel_rfl) (fun _ _ _ h=>h) (Or.inl ⟨by rfl,fun w J=>by obtain⟨Z,aa,ab,ad,ak,ao,ap,az,a1⟩:=J;go_simp⟩) bl ?_;simp only[tk];refine nS (i:=2) (oi:=dI) (v:=.bool false) rfl (by kernel_rfl) (by kernel_rfl) (by kernel_rfl) (fun _ _ _ h=>h) (Or.inl ⟨by rfl,fun w J=>by obtain⟨Z,aa,ab,ad,ak,ao,ap,az,a1⟩:=J;go_simp⟩) bl ?_;simp only[tk];refine nS (i:=3) (oi:=dF) (v:=(AY k m u g o nh d ks F)) rfl (by kernel_rfl) (by kernel_rfl) (by kernel_rfl) (fun _ _ _ h=>h) (Or.inl ⟨by rfl,fun w J=>by obtain⟨Z,aa,ab,ad,ak,ao,ap,az,a1⟩:=J;go_simp⟩) bl ?_;simp only[tk];refine wpAnyH_ready (rs:=[4]) (by kernel_rfl) (by simp) ?_;refine AllReadyH.cons (o:=dW) rfl (fun K Y=>?_) AllReadyH.nil;rw[nC (by rfl)];go_simp;refine nn fw.out ?_;rintro e ba ⟨rfl,bg⟩;have bi:ba.cell? ⟨nx,0,none⟩=some (.int .i64 k)∧ba.cell? ⟨nx,1,none⟩=some (.int .i64 m)∧ba.cell? ⟨nx,2,none⟩=some (.int .i64 u)∧ba.cell? ⟨nx,3,none⟩=some (.int .i64 g)∧ba.cell? ⟨nx,4,none⟩=some (.bool o)∧ba.cell? ⟨nx,5,none⟩=some (.slice F.aa nh.length F.ca)∧ba.cell? ⟨nx,6,none⟩=some (.string d)∧ba.cell? ⟨nx,7,none⟩=some (.slice F.ak ks.length F.ck)∧ba.cell? ⟨W.heap.size,6,none⟩=some (.int .i64 q):=⟨Ad bg bf.1,Ad bg bf.2.1,Ad bg bf.2.2.1,Ad bg bf.2.2.2.1,Ad bg bf.2.2.2.2.1,Ad bg bf.2.2.2.2.2.1,Ad bg bf.2.2.2.2.2.2.1,Ad bg bf.2.2.2.2.2.2.2.1,Ad bg bf.2.2.2.2.2.2.2.2⟩;have dj:Hid (Bw V ba):=(nt V.heap.size V).drew.trans bg;have fy:Hid (Calls prog 12 #[(AY k m u g o nh d ks F)] ba fun e bn=>e=.returned (.int .i64 cb)∧Bw ba bn):=fx.out ba dj.out;clear bg fw fx;go_wp2_with fail
       refine Y.out _ _ bi (fun bC=>?_);clear Y K;refine nS (i:=5) (oi:=cZ) (v:=.bool false) rfl (by kernel_rfl) (by kernel_rfl) (by kernel_rfl) (fun _ _ _ h=>h) (Or.inl ⟨by rfl,fun w J=>by obtain⟨Z,aa,ab,ad,ak,ao,ap,az,a1⟩:=J;go_simp⟩) bC ?_;simp only[tk];refine nS (i:=6) (oi:=df) (v:=.bool false) rfl (by kernel_rfl) (by kernel_rfl) (by kernel_rfl) (fun _ _ _ h=>h) (Or.inl ⟨by rfl,fun w J=>by obtain⟨Z,aa,ab,ad,ak,ao,ap,az,a1⟩:=J;go_simp⟩) bC ?_;simp only[tk];refine nS (i:=7) (oi:=cJ) (v:=.bool false) rfl (by kernel_rfl) (by kernel_rfl) (by kernel_rfl) (fun _ _ _ h=>h) (Or.inl ⟨by rfl,fun w J=>by obtain⟨Z,aa,ab,ad,ak,ao,ap,az,a1⟩:=J;go_simp⟩) bC ?_;simp only[tk];refine nS (i:=8) (oi:=cS) (v:=(AY k m u g o nh d ks F)) rfl (by kernel_rfl) (by kernel_rfl) (by kernel_rfl) (fun _ _ _ h=>h) (Or.inl ⟨by rfl,fun w J=>by obtain⟨Z,aa,ab,ad,ak,ao,ap,az,a1⟩:=J;go_simp⟩) bC ?_;simp only[tk];refine nS (i:=10) (oi:=cU) (v:=.pointer (some ⟨W.heap.size,6,none⟩)) rfl (by kernel_rfl) (by kernel_rfl) (by kernel_rfl) (fun _ _ _ h=>h) (Or.inl ⟨by rfl,fun w J=>by obtain⟨Z,aa,ab,ad,ak,ao,ap,az,a1⟩:=J;go_simp⟩) bC ?_;simp only[tk];refine nS (i:=11) (oi:=cN) (v:=.int .i64 q) rfl (by kernel_rfl) (by kernel_rfl) (by kernel_rfl) (fun _ _ _ h=>h) (Or.inl ⟨by rfl,fun w J=>by obtain⟨Z,aa,ab,ad,ak,ao,ap,az,a1⟩:=J;go_simp⟩) bC ?_;simp only[tk];refine wpAnyH_ready (rs:=[9]) (by kernel_rfl) (by simp) ?_;refine AllReadyH.cons (o:=cR) rfl (fun K Y=>?_) AllReadyH.nil;rw[nC (by rfl)];go_simp;refine nn fy.out ?_;rintro e be ⟨rfl,bk⟩;have fA:be.cell? ⟨nx,0,none⟩=some (.int .i64 k)∧be.cell? ⟨nx,1,none⟩=some (.int .i64 m)∧be.cell? ⟨nx,2,none⟩=some (.int .i64 u)∧be.cell? ⟨nx,3,none⟩=some (.int .i64 g)∧be.cell? ⟨nx,4,none⟩=some (.bool o)∧be.cell? ⟨nx,5,none⟩=some (.slice F.aa nh.length F.ca)∧be.cell? ⟨nx,6,none⟩=some (.string d)∧be.cell? ⟨nx,7,none⟩=some (.slice F.ak ks.length F.ck)∧be.cell? ⟨W.heap.size,6,none⟩=some (.int .i64 q):=⟨Ad bk bi.1,Ad bk bi.2.1,Ad bk bi.2.2.1,Ad bk bi.2.2.2.1,Ad bk bi.2.2.2.2.1,Ad bk bi.2.2.2.2.2.1,Ad bk bi.2.2.2.2.2.2.1,Ad bk bi.2.2.2.2.2.2.2.1,Ad bk bi.2.2.2.2.2.2.2.2⟩;have fB:Hid (Bw V be):=dj.out.trans (bk.mono dj.out.size);clear bk fy bi dj;go_wp2_with fail
       refine Y.out _ _ fA (fun fC=>?_);clear Y K;refine nS (i:=12) (oi:=cK) (v:=.bool false) rfl (by kernel_rfl) (by kernel_rfl) (by kernel_rfl) (fun _ _ _ h=>h) (Or.inl ⟨by rfl,fun w J=>by obtain⟨Z,aa,ab,ad,ak,ao,ap,az,a1⟩:=J;go_simp⟩) fC ?_;simp only[tk];refine nS (i:=13) (oi:=dc) (v:=.bool false) rfl (by kernel_rfl) (by kernel_rfl) (by kernel_rfl) (fun _ _ _ h=>h) (Or.inl ⟨by rfl,fun w J=>by obtain⟨Z,aa,ab,ad,ak,ao,ap,az,a1⟩:=J;go_simp⟩) fC ?_;simp only[tk];refine rN (by kernel_rfl) ?_ _;clear fA bf;have gm:Hid (Au b bo be∧∃B bu,A5 be b B∧BS B bu xs∧B.M.us=us∧B.M.gs=gs∧B.q=q):=⟨db.out.then (I.out.trans (fB.out.mono I.out.size)),b0,(.mk k m u g o nh d ks),fV.out.below (I.out.trans (fB.out.mono I.out.size)),cx.out,c9.out⟩;go_wp2;go_roundw
       case rel=>exact⟨j+1,by omega,by go_num,gm.out⟩
       case measure=>(simp[intOf];try omega)
      ·have fL:decide ((j:Int)<(bG:Int))=false:=nA (by omega)
       go_wp2;go_ret;exact⟨rfl,bd.out⟩
end Go.Proofs.YtgppjbhaimmlpaaGreatDoor
namespace Go.Proofs.YtgppjbhaimmlpaaGreatDoor
open Go.ChangeShapes Go.WideShapes Go.ChangeAt Go.RowKit Go.ChangeMaps Go.Proofs.Tryz
namespace RowsIn
theorem maxLen_cell{W:World}(h:W.ShapedOpen prog):∃m,W.cell? ⟨0,0,none⟩=some (.int .i64 m):=
 Go.Proofs.cell_of_shapedOpen_int (t:=3) (zero:=#[.int .i64 0]) h (rI (by kernel_rfl)) (by kernel_rfl) rfl (by kernel_rfl) (by kernel_rfl) underlying3
theorem handed{H:Type}{enc:TypeId×Value→H}{os:Os}{f:FuncId}{fn:Func}{s:ChangeSpec}{I J O:Bool}{X:World→Array Value→Prop}
 (_hX:∀(w w':World) (args:Array Value),w.heap=w'.heap→X w args→X w' args) (R:os.Started) (T:Tryz.checked.prog.inits.idxOf? f=none) (V:Tryz.checked.prog.funcs[f]? =some fn)
 (Y:∃(w:World) (tape:Tape) (i:Input),w.os=os∧(w.forCall tape i).Shaped Tryz.checked.prog∧i.vars=[]∧Input.okWide Tryz.checked.prog (w.forCall tape i) .any w.heap.size f i∧
  ((s.pre enc Tryz.checked.prog fn [] false (w.forCall tape i).memory i.args∧X (w.forCall tape i).memory i.args)∧sizedMet enc Tryz.checked.prog fn (OpenSpec.ofChange s) false (w.forCall tape i).memory i.args)∧({}:Assume).holds Tryz.checked.prog (lone (Frame.enter Tryz.checked.prog f i.args .normal) [] (w.forCall tape i)))
 (Z:∀(W:World) (base:Nat) (args:Array Value) (F gs:List (DataW H)) (G:List MemPlace),
  (∀(j:Nat) t v,fn.params[j]? =some t→args[j]? =some v→Value.okWide Tryz.checked.prog W .any base t v)→
  DataW.Whole enc Tryz.checked.prog fn.params.toList s.vars false W args.toList F gs G→W.ShapedOpen Tryz.checked.prog→
  Calls Tryz.checked.prog f args W fun e Q=>∃v,e=.returned v∧s.post enc Tryz.checked.prog fn false I J O W args v Q):
 ReturnsInHanded {} Tryz.checked os f .any (fun w args=>(s.pre enc Tryz.checked.prog fn [] false w args∧X w args)∧sizedMet enc Tryz.checked.prog fn (OpenSpec.ofChange s) false w args) (s.post enc Tryz.checked.prog fn false I J O):=by
 refine returnsInHanded_of_calls RowsIn.own R T Y ?_;intro w tape i _ aa _ ab ad _;obtain⟨_,_,_,ak,ao,_,_,_,_,ap⟩:=ab;obtain rfl:ak=fn:=Option.some.inj (ao.symm.trans V);obtain⟨⟨⟨F,gs,G,az,_⟩,_⟩,_⟩:=ad;refine(Z (w.forCall tape i) w.heap.size i.args F gs G ap (DataW.Whole.of_heap (w':=w.forCall tape i) (by rfl) az) aa).mono fun e Q ⟨v,he,hp⟩=>?_;subst he
 exact ChangeSpec.post_blind hp
end RowsIn
end Go.Proofs.YtgppjbhaimmlpaaGreatDoor
