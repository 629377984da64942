/- Part: Ul Umb Un Ui. -/
import Derived.Test.YtchpdmjlicmdaaaGreatDoorUeX
set_option maxRecDepth 100000
set_option maxHeartbeats 16000000
namespace Go.Proofs.YtchpdmjlicmdaaaGreatDoor
open Go.RowKit Go.Shelf Go.Proofs.Tryz
variable {G:Array Oper}{o:Oper}{g i l ly nbx t vb vo:Nat}{A W w:World}{S Sx:Nat->Bool}{st:Loop}{I a7 t25 t31 t35 vf vn:Value}{L:List Fl}{N:Nd}{hb:Hd}{P:List (Nd×BA)}{xs:List Nd}{ry:List BA}
theorem iy{md:Region.Mode}{H:Array Oper}{G:Array Bool}(I:Region.ready md H G=[])(j:Nat)(J:G.getD j true=false)(o:Oper)(O:H[j]? =some o)(Z:∀e∈o.after,Region.binds md e=true->G.getD e.on false=true):False:=by
 have:=mem_ready.2 ⟨J,o,O,Z⟩;rw[I]at this;cases this
def Zs(G:Array Oper):Bool:=(List.range G.size).all λj=>(G[j]?).all λo=>o.after.toList.all λe=> !Region.binds .any e||Nat.blt e.on j
theorem i9{j:Nat}(h:Zs G=true)(H:G[j]? =some o){e}(I:e∈o.after)(hb:Region.binds .any e=true):e.on<j:=by
 have:=List.all_eq_true.1 h j<|List.mem_range.2 (N3.1 H).1;rw[H]at this;have:=List.all_eq_true.1 this e (by simpa using I);rw[hb]at this;simpa [Nat.blt_eq]using this
theorem RS{L:Array Bool}(J:Region.ready .any G L=[])(O:Zs G=true)(H:L.size=G.size)(j:Nat):L.getD j true=true:=by
 induction j using Nat.strongRecOn with
 |ind j Z=>
  cases h:L.getD j true with
  |true=>rfl
  |false=>
   have I:j<L.size:=by
    refine Decidable.byContradiction λab=>?_;simp[Array.getD,ab]at h
   refine(iy J j h (G[j]'(H▸I)) (Array.getElem?_eq_getElem<|H▸I) λe ad hb=>?_).elim;have ak:=i9 O (Array.getElem?_eq_getElem<|H▸I) ad hb;have:=Z e.on (by omega);simpa [Array.getD,show e.on<L.size by omega]using this
theorem Dt{n:Nat}{P:Program}{Q:Exit->Act->World->Prop}{K:Act->World->Prop}{a:Act}(H:G[i]? =some o)(I:o.guard=none)(J:∀c,o.op≠.defer c)(O:∀r args w',(execOp a.eval o).run P w≠.ok (.row r args) w')
 (h:o.wp P a w K Q):wpOpIn (Fence.wide.inRound l) n P G Q i K a w:=by
 unfold wpOpIn;rw[H];have Z:Region.wanted o (yielded G a.tmps)=true:=by simp[Region.wanted,I]
 simp only[Z,if_true];refine⟨λf _=>trivial,?_⟩;unfold Oper.wp at h;rw[Fence.inRound_round,Oper.semAt_some _ _ _ J];generalize(execOp a.eval o).run P w=r at*;cases r with
 |ok x w'=>
  cases x<;>simp only[Oper.upon,Oper.uponIn]at h⊢
  case value=>exact h
  case skip=>exact h
  case defer=>exact h
  case enter f args=>exact⟨λe=>by simp[Fence.inRound,Fence.wide]at e,CallsIn.inRound l<|ts.2 h⟩
  case row=>exact absurd rfl (O _ _ _)
 |halt x w'=>cases x<;>simp only[Oper.upon,Oper.uponIn]at h⊢<;>exact h
theorem QI{bd:Nat}{P:Program}(w:World){Z:Array Oper}{Q:Exit->Act->World->Prop}{j:Nat}{K:Act->World->Prop}{a:Act}(be:Z[j]? =some o)(bf:o.guard=none)(s x:Operand)(t:TypeId)
 (O:o.op=.call {callee:=.builtin .append,args:=#[s,x],argTypes:=#[t,t]})
 (base:Nat) (e:TypeId) (i:TypeInfo) (z:Value) (size J:Nat) (ab:P.underlying t=some (.slice e)) (ad:P.info? e=some i) (ak:i.zero=some z)
 (al:i.size=size) (ao:i.bytes=J) (ap:z.cells.size=size) (ar:0<size)
 (v:Value) (n:Nat) (xs:List Value) (aw:a.eval s=v) (az:w.ownsRow base e size v n xs)
 (H:Option Addr) (m c:Nat) (G:List Value) (hx:a.eval x=.slice H m c) (aA:G.length=m*size) (a1:(H=none/\m=0)\/∃a6,H=some a6/\∀j u,G[j]? =some u->w.cell? (a6.add j)=some u) (a7:∀u∈G,u.oneCell'=true)
 (a8:n+m<=maxLen) (ba:(n+m)*J<=140737488355328) (bb:base<=w.heap.size)
 (h:∀I w',w'.ownsRow base e size I (n+m) (xs++G)->w.grownBy w' v.ownBlock->(I.ownBlock=v.ownBlock\/I.ownBlock=some w.heap.size)->K (a.put o.dst I) w'):wpOpIn (Fence.wide.inRound l) bd P Z Q j K a w:=by
 obtain⟨I,w',bg,bi,bk,bl⟩:=QJ (P:=P) w base t o.type e i z size J ab ad ak al ao ap ar v n xs az H m c G aA a1 a7 a8 ba bb;refine Dt be bf (λc=>by rw[O];simp) ?_<|QK w s x t O base e i z size J ab ad ak al ao ap ar v n xs aw az H m c G hx aA a1 a7 a8 ba bb h;intro r args w';unfold execOp;simp only[O,resolve,invoke,builtin,Sem.run_bind,Sem.run_pure,Result.andThen_ok,List.map_toArray,CB,List.map_nil,aw,hx,bg];simp
theorem Ph(w:World)(x:Nd)(h:Hd)(t:TypeId):∀j u,(Bq x h)[j]? =some u->(w.alloc<|.cells (Bq x h).toArray t).cell? (aD w.heap.size j)=some u:=by simp_all
theorem Yf(k m u g:Int)(o:Bool)(rL:List Kv)(d:BA)(ks:Ay)(h:Hd):At (.mk k m u g o rL d ks) h=Ba k m u g o rL d ks h:=rfl
theorem BP.early{c0 c1 c2 G H J O c7 Z ab ad ak al ao:Bool}{ap ar aw az aA a1 a6 a8:Value}(h:BP S w A Sx st vn vf L N hb ly nbx vb vo I c0 c1 c2 G H J O c7 Z ab ad ak al ao ap t25 ar aw az aA a1 t31 a6 a7 a8 t35 W)(e:H=false):XA S w A Sx st vn vf L L vn vf W:=by
 cases h2:c2 with
 |false=>exact(h.p0 h2).1
 |true=>
  cases h3:G with
  |false=>obtain⟨_,_,b,_⟩:=h.p1 h2 h3;exact b
  |true=>obtain⟨_,_,_,b,_⟩:=h.p2 h3 e;exact b
theorem BP.mid{c0 c1 c2 J G O Z c7 ab ad ak H al ao:Bool}{ap ar aw az aA a1 a6 a8:Value}(h:BP S w A Sx st vn vf L N hb ly nbx vb vo I c0 c1 c2 J G O Z c7 ab ad ak H al ao ap t25 ar aw az aA a1 t31 a6 a7 a8 t35 W)(e:H=false):∃cn ba,XA S w A Sx st cn vf ba L vn vf W:=by
 cases h4:G with
 |false=>exact⟨_,_,h.early h4⟩
 |true=>obtain⟨_,b⟩:=h.p3 h4 e;exact⟨_,_,b⟩
theorem XA.hid{cn G:Value}{I J:List Fl}{O Z:Value}(ab:∀k,S k=true->k<w.heap.size)(h:XA S w A Sx st cn G I J O Z W):∀k,Cu w.heap.size cn G S k=true->k<W.heap.size:=λk H=>by
 simp[Cu]at H;have ad:=(N3.1 h.lk).1;rcases H with(((e|e)|e)|e|e)|e
 .rw[e];exact h.bn.lt
 .rw[e];exact h.bf.lt
 .omega
 .exact(h.r.rn.lt k e).2
 .exact(h.r.rf.lt k e).2
 .exact N1 (ab k e) h.low.size
theorem Tryz.infoNd:(prog.info? 31).map (λi=>(i.zero,i.size,i.bytes))=some (some<|GK,8,104):=by kernel_rfl
theorem Tryz.infoInt:(prog.info? 3).map (λi=>(i.zero,i.size,i.bytes))=some (some<|iN 0,1,8):=by kernel_rfl
def rm(S:Nat->Bool)(w A:World)(Sx:Nat->Bool)(st:Loop)(vn vf:Value)(L:List Fl)(N:Nd)(hb:Hd)(ly nbx vb vo:Nat)(G:Value)(ba bb bd be bf bg bi bk bl bn bo bp bq bs bu bx bA bB bC bF bG bH:Value)(bY:Array Bool)(a:Act)(W:World):Prop:=∃(c0 c1 c2 H I J O c7 Z ab ad ak al ao:Bool) (ap t25 ar aw az aA a1 t31 a6 a7 a8 t35:Value),bY=#[c0,c1,c2,H,I,J,O,c7,Z,ab,ad,ak,al,ao]/\a=(⟨(ba::bb::bd::be::bf::bg::pO w.heap.size 0::pO (w.heap.size+1) 0::G::pO nbx 0::bi::bk::bl::bn::bo::bp::bq::bs::bu::bx::bA::bB::bC::bF::ap::t25::ar::aw::az::aA::a1::t31::a6::a7::a8::t35::bG::bH::[]).toArray,[]⟩:Act)/\BP S w A Sx st vn vf L N hb ly nbx vb vo G c0 c1 c2 H I J O c7 Z ab ad ak al ao ap t25 ar aw az aA a1 t31 a6 a7 a8 t35 W
theorem rF{dl vc:Nat}(cl:∀k,S k=true->k<w.heap.size)(co:A7 N)(cr:cnt N<=1000)(cx:∀g,vn.ownBlock=some g->g<A.heap.size)(du:L.length<=1000)(cD:Ag A.cell? Sx (aD vb<|vo+1)=some (iN ly))(cF:a7=sL vb vo (dl+1) vc)
 {Q:Exit->Act->World->Prop} {l:Nat} {bg bi bk bl bn bo bp bq bs bu bx bA bB bC bF bG bH bY b0 b1 b2 b4:Value} {ab t25 ap ar J ad aw t31 az aA a1 t35:Value} {W0:World} (c3:BP S w A Sx st vn vf L N hb ly nbx vb vo a7 false false false false false false false false false false false false false false ab t25 ap ar J ad aw t31 az aA a1 t35 W0.drew)
 (c4:∀a ak J t35 h',XA S w A Sx st J t35 (L++[(⟨N,h',ly⟩:Fl)]) (L++[(⟨N,h',ly⟩:Fl)]) J t35 ak->Q .normal a ak):
 (Code.region 8 #[{dst:=some 24,op:=Op.load 115<|Operand.tmp 6,type:=115,pos:= "merge.go:30",after:=#[],guard:=none},{dst:=some 25,op:=Op.load 31<|Operand.tmp 9,type:=31,pos:= "merge.go:30",after:=#[],guard:=none},{dst:=some 26,op:=Op.call {callee:=Callee.value<|Operand.func 28,args:=#[Operand.tmp 25],argTypes:=#[31]},type:=31,pos:= "merge.go:30",after:=#[{on:=1,ground:=Ground.data}],guard:=none},{dst:=some 27,op:=Op.buildSlice 115 1 #[(0,Operand.tmp 26)],type:=115,pos:= "merge.go:30",after:=#[{on:=2,ground:=Ground.data}],guard:=none},{dst:=some 28,op:=Op.call {callee:=Callee.builtin Builtin.append,args:=#[Operand.tmp 24,Operand.tmp 27],argTypes:=#[115,115]},type:=115,pos:= "merge.go:30",after:=#[{on:=0,ground:=Ground.data},{on:=3,ground:=Ground.data},{on:=2,ground:=Ground.chain}],guard:=none},{dst:=some 29,op:=Op.load 39<|Operand.tmp 7,type:=39,pos:= "merge.go:30",after:=#[],guard:=none},{dst:=some 30,op:=Op.move<|Operand.tmp 8,type:=155,pos:= "merge.go:30",after:=#[],guard:=none},{dst:=some 31,op:=Op.indexAddr 155 (Operand.tmp 30)<|Operand.const<|Value.int IntKind.i64 0,type:=0,pos:= "merge.go:30",after:=#[{on:=6,ground:=Ground.data}],guard:=none},{dst:=some 32,op:=Op.fieldAddr 164 (Operand.tmp 31) 1,type:=0,pos:= "merge.go:30",after:=#[{on:=7,ground:=Ground.data}],guard:=none},{dst:=some 33,op:=Op.load 3<|Operand.tmp 32,type:=3,pos:= "merge.go:30",after:=#[{on:=8,ground:=Ground.data}],guard:=none},{dst:=some 34,op:=Op.buildSlice 39 1 #[(0,Operand.tmp 33)],type:=39,pos:= "merge.go:30",after:=#[{on:=9,ground:=Ground.data}],guard:=none},{dst:=some 35,op:=Op.call {callee:=Callee.builtin Builtin.append,args:=#[Operand.tmp 29,Operand.tmp 34],argTypes:=#[39,39]},type:=39,pos:= "merge.go:30",after:=#[{on:=5,ground:=Ground.data},{on:=10,ground:=Ground.data},{on:=4,ground:=Ground.chain}],guard:=none},{dst:=none,op:=Op.store 115 (Operand.tmp 6)<|Operand.tmp 28,type:=0,pos:= "merge.go:30",after:=#[{on:=4,ground:=Ground.data},{on:=11,ground:=Ground.chain},{on:=0,ground:=Ground.phase},{on:=1,ground:=Ground.phase},{on:=2,ground:=Ground.phase},{on:=3,ground:=Ground.phase},{on:=4,ground:=Ground.phase},{on:=5,ground:=Ground.textOnly Departure.inlinedCapture},{on:=6,ground:=Ground.textOnly Departure.lateStores},{on:=7,ground:=Ground.textOnly Departure.inlinedCapture},{on:=8,ground:=Ground.textOnly Departure.inlinedCapture},{on:=9,ground:=Ground.textOnly Departure.inlinedCapture},{on:=10,ground:=Ground.textOnly Departure.inlinedCapture},{on:=11,ground:=Ground.textOnly Departure.lateStoresUnsure}],guard:=none},{dst:=none,op:=Op.store 39 (Operand.tmp 7)<|Operand.tmp 35,type:=0,pos:= "merge.go:30",after:=#[{on:=11,ground:=Ground.data},{on:=12,ground:=Ground.chain},{on:=0,ground:=Ground.phase},{on:=1,ground:=Ground.phase},{on:=2,ground:=Ground.phase},{on:=3,ground:=Ground.phase},{on:=4,ground:=Ground.phase},{on:=5,ground:=Ground.phase},{on:=6,ground:=Ground.phase},{on:=7,ground:=Ground.phase},{on:=8,ground:=Ground.phase},{on:=9,ground:=Ground.phase},{on:=10,ground:=Ground.phase},{on:=11,ground:=Ground.phase},{on:=12,ground:=Ground.phase}],guard:=none}] true).wpIn (Fence.wide.inRound l) 0 prog Q ⟨(bg::bi::bk::bl::bn::bo::pO w.heap.size 0::pO (w.heap.size+1) 0::a7::pO nbx 0::bp::bq::bs::bu::bx::bA::bB::bC::bF::bG::bH::bY::b0::b1::ab::t25::ap::ar::J::ad::aw::t31::az::aA::a1::t35::b2::b4::[]).toArray,[]⟩ W0:=by
 subst cF;have⟨k,m,u,g,o,rL,d,ks⟩:=N;have⟨i0,hi0,hi1,hi2,hi3⟩:=EL Tryz.infoNd;have c5:Hid _:=hi0;have c6:Hid _:=hi1;have c8:Hid _:=hi2;have c9:Hid _:=hi3;have⟨j0,hj0,hj1,hj2,hj3⟩:=EL Tryz.infoInt;have da:Hid _:=hj0;have dd:Hid _:=hj1;have de:Hid _:=hj2;have dg:Hid _:=hj3;refine wpIn_region_any (by rfl) ?_;refine Ox (rm S w A Sx st vn vf L (.mk k m u g o rL d ks) hb ly nbx vb vo (sL vb vo (dl+1) vc) bg bi bk bl bn bo bp bq bs bu bx bA bB bC bF bG bH bY b0 b1 b2 b4) ?step ?fin _ _ _ _ ?le ?init
 case le=>decide
 case init=>exact⟨_,_,_,_,_,_,_,_,_,_,_,_,_,_,_,_,_,_,_,_,_,_,_,_,_,_,rfl,rfl,c3⟩
 case fin=>
  rintro dj a W ⟨c0,c1,c2,a8,a6,b6,b7,c7,b9,ce,cf,O,ch,dk,ab,t25,ap,ar,J,ad,aw,t31,az,aA,a1,t35,rfl,rfl,h⟩ dm;have⟨h',G⟩:=h.p6<|RS dm oK rfl 13;exact c4 _ _ _ _ _ G
 case step=>
  rintro dj a W i ⟨c0,c1,c2,a8,a6,b6,b7,c7,b9,ce,cf,O,ch,dk,ab,t25,ap,ar,J,ad,aw,t31,az,aA,a1,t35,rfl,rfl,h⟩ dn;have⟨hu,o,ho,hd⟩:=mem_ready.1 dn;have dw:i<14:=(N3.1 ho).1;obtain rfl|rfl|rfl|rfl|rfl|rfl|rfl|rfl|rfl|rfl|rfl|rfl|rfl|rfl:i=0\/i=1\/i=2\/i=3\/i=4\/i=5\/i=6\/i=7\/i=8\/i=9\/i=10\/i=11\/i=12\/i=13:=by omega
  all_goals
   have H:=ho;simp at ho;subst ho
   simp[Region.binds]at hd hu;subst hu
  .have I:=(h.early (by cases e:a6 with|false=>rfl|true=>cases (h.q4 e).1)).bn.cell
   refine Dt H rfl (by intro c;simp) (λr args w'=>?_) ?_<;>go_simp
   exact⟨_,_,_,_,_,_,_,_,_,_,_,_,_,_,_,_,_,_,_,_,_,_,_,_,_,_,rfl,rfl,h.o0⟩
  .have I:=(h.p0 (by cases e:c2 with|false=>rfl|true=>cases h.q2 e)).2.1.1
   have⟨f0,f1,f2,f3,f4,f5,f6,f7⟩:=I;refine Dt H rfl (by intro c;simp) (λr args w'=>?_) ?_<;>go_simp
   exact⟨_,_,_,_,_,_,_,_,_,_,_,_,_,_,_,_,_,_,_,_,_,_,_,_,_,_,rfl,rfl,h.o1⟩
  .subst hd
   obtain rfl:=h.f1 rfl;have G:=h.p0 rfl;have dp:Hid (cL 28 #[(Ba k m u g o rL d ks hb)] W λe ak=>(∃h',e=.returned ((Ba k m u g o rL d ks h'))/\Am (Ag ak.cell?<|Cu w.heap.size vn vf S) (.mk k m u g o rL d ks) h')/\Below W.heap.size W ak):=J0 (x:=(.mk k m u g o rL d ks)) (h:=hb) (G.1.hid cl) G.2.2 co cr;refine Dt H rfl (by intro c;simp) (λr args w'=>?_) ?_<;>(rw[Yf];go_simp)
   go_call dp.out as e w' ⟨⟨h',rfl,al⟩,hB⟩
   exact⟨_,_,_,_,_,_,_,_,_,_,_,_,_,_,_,_,_,_,_,_,_,_,_,_,_,_,rfl,rfl,h.o2 hB al⟩
  .subst hd
   obtain⟨h',rfl,G,al⟩:=h.p1 rfl rfl;refine Dt H rfl (by intro c;simp) (λr args w'=>?_) ?_<;>(rw[Yf];go_simp)
   exact⟨_,_,_,_,_,_,_,_,_,_,_,_,_,_,_,_,_,_,_,_,_,_,_,_,_,_,rfl,rfl,h.o3 rfl al bN (Ph W _ h' _)⟩
  .obtain⟨rfl,rfl,rfl⟩:=hd
   obtain rfl:=h.f0 rfl;obtain⟨h',ao,rfl,G,al,I⟩:=h.p2 rfl rfl;refine QI W H rfl (.tmp 24) (.tmp 27) 115 rfl (w.heap.size+1+1) 31 i0 _ 8 104 underlying115 c5 c6 c8 c9 rfl oD ab L.length (BK L) rfl G.r.rn (some<|aD ao 0) 1 1 (Bq (.mk k m u g o rL d ks) h') rfl (by rw[Fb]) (.inr ⟨_,rfl,λj u Z=>by rw[Ef,RT];exact I j u Z⟩) (LL _ _) (by unfold maxLen;omega) oM (by have:=G.low.size;have:=G.az;have:=G.bf.lt;omega) ?_;intro ba w' bb bd be;have bf:w'.ownsRow (w.heap.size+1+1) 31 8 ba (L++[(⟨(.mk k m u g o rL d ks),h',ly⟩:Fl)]).length<|BK<|L++[(⟨(.mk k m u g o rL d ks),h',ly⟩:Fl)]:=by rw[Nh,N6];simpa [BK]using bb
   exact⟨_,_,_,_,_,_,_,_,_,_,_,_,_,_,_,_,_,_,_,_,_,_,_,_,_,_,rfl,rfl,h.o4 cx G al bf bd be⟩
  .have⟨_,_,G⟩:=h.mid (by cases e:O with|false=>rfl|true=>cases (h.q11 e).2.1)
   have I:=G.bf.cell;refine Dt H rfl (by intro c;simp) (λr args w'=>?_) ?_<;>go_simp
   exact⟨_,_,_,_,_,_,_,_,_,_,_,_,_,_,_,_,_,_,_,_,_,_,_,_,_,_,rfl,rfl,h.o5⟩
  .refine Dt H rfl (by intro c;simp) (λr args w'=>?_) ?_<;>go_simp
   exact⟨_,_,_,_,_,_,_,_,_,_,_,_,_,_,_,_,_,_,_,_,_,_,_,_,_,_,rfl,rfl,h.o6⟩
  .subst hd
   obtain rfl:=h.f6 rfl;refine Dt H rfl (by intro c;simp) (λr args w'=>?_) ?_<;>go_simp
   exact⟨_,_,_,_,_,_,_,_,_,_,_,_,_,_,_,_,_,_,_,_,_,_,_,_,_,_,rfl,rfl,h.o7⟩
  .subst hd
   obtain rfl:=h.f7 rfl;refine Dt H rfl (by intro c;simp) (λr args w'=>?_) ?_<;>go_simp
   exact⟨_,_,_,_,_,_,_,_,_,_,_,_,_,_,_,_,_,_,_,_,_,_,_,_,_,_,rfl,rfl,h.o8⟩
  .subst hd
   obtain rfl:=h.f8 rfl;have⟨_,_,G⟩:=h.mid (by cases e:O with|false=>rfl|true=>cases h.q10 (h.q11 e).2.2);have I:=BW _ _ _ _<|G.ml _ _ cD;refine Dt H rfl (by intro c;simp) (λr args w'=>?_) ?_<;>go_simp
   exact⟨_,_,_,_,_,_,_,_,_,_,_,_,_,_,_,_,_,_,_,_,_,_,_,_,_,_,rfl,rfl,h.o9⟩
  .subst hd
   obtain rfl:=h.f9 rfl;have⟨_,_,G⟩:=h.mid (by cases e:O with|false=>rfl|true=>cases (h.q11 e).2.2);have dr:=hid G.az;refine Dt H rfl (by intro c;simp) (λr args w'=>?_) ?_<;>go_simp
   exact⟨_,_,_,_,_,_,_,_,_,_,_,_,_,_,_,_,_,_,_,_,_,_,_,_,_,_,rfl,rfl,h.o10 bN aC dr⟩
  .obtain⟨rfl,rfl,rfl⟩:=hd
   obtain rfl:=h.f5 rfl;have⟨h',G⟩:=h.p3 rfl rfl;obtain⟨ao,rfl,I,_⟩:=h.p10 rfl rfl;refine QI W H rfl (.tmp 29) (.tmp 34) 39 rfl (w.heap.size+1+1) 3 j0 _ 1 8 underlying39 da dd de dg rfl oD ad L.length (G8 L) rfl G.r.rf (some<|aD ao 0) 1 1 [iN ly] rfl rfl (.inr ⟨_,rfl,λj u Z=>by rw[Ef,RT];match j,Z with|0,Z=>simp at Z;subst Z;exact I⟩) (by simp[Value.oneCell']) (by unfold maxLen;omega) oM (by have:=G.low.size;have:=G.az;have:=G.bf.lt;omega) ?_;intro ba w' bb bd be;have bf:w'.ownsRow (w.heap.size+1+1) 3 1 ba (L++[(⟨(.mk k m u g o rL d ks),h',ly⟩:Fl)]).length<|G8<|L++[(⟨(.mk k m u g o rL d ks),h',ly⟩:Fl)]:=by rw[XU,N6];simpa [G8]using bb
   exact⟨_,_,_,_,_,_,_,_,_,_,_,_,_,_,_,_,_,_,_,_,_,_,_,_,_,_,rfl,rfl,h.o11 G bf bd be⟩
  .obtain⟨rfl,rfl,rfl,rfl,rfl,rfl⟩:a6=true/\O=true/\c0=true/\c1=true/\c2=true/\a8=true:=by simp[hd]
   have⟨h',G⟩:=h.p4 rfl rfl;obtain⟨ao,cc,rfl⟩:=ownsRow_succ (show W.ownsRow _ _ _ J (L.length+1) _ from by have:=G.r.rn;rw[N6]at this;exact this);have I:=G.bn.cell;have ds:=G.bn.frozen;refine Dt H rfl (by intro c;simp) (λr args w'=>?_) ?_<;>go_simp
   exact⟨_,_,_,_,_,_,_,_,_,_,_,_,_,_,_,_,_,_,_,_,_,_,_,_,_,_,rfl,rfl,h.o12⟩
  .obtain⟨rfl,rfl,rfl,rfl,rfl,rfl,rfl,rfl,rfl,rfl,rfl,rfl,rfl⟩:c0=true/\c1=true/\c2=true/\a8=true/\a6=true/\b6=true/\b7=true/\c7=true/\b9=true/\ce=true/\cf=true/\O=true/\ch=true:=by simp[hd]
   have⟨h',G⟩:=h.p5 rfl rfl;obtain⟨ao,cc,rfl⟩:=ownsRow_succ (show W.ownsRow _ _ _ t35 (L.length+1) _ from by have:=G.r.rf;rw[N6]at this;exact this);have I:=G.bf.cell;have ds:=G.bf.frozen;refine Dt H rfl (by intro c;simp) (λr args w'=>?_) ?_<;>go_simp
   exact⟨_,_,_,_,_,_,_,_,_,_,_,_,_,_,_,_,_,_,_,_,_,_,_,_,_,_,rfl,rfl,h.o13⟩
structure Km (S:Nat->Bool) (W:World) (v:Value) (g:Nat) (L:List Fl) (P:List<|Nd×BA) (t:Nat) (w2:World):Prop where
 low:Below W.heap.size W w2
 gl:W.heap.size+1<g
 gz:g<w2.heap.size
 rb:AC w2 (W.heap.size+1) zN zH
 fz:∀j,w2.frozen? (aD g j)=false
 ab:∀(s:Nat) f,s<t->L[s]? =some f->A9 w2.cell? g (s*8) f.x f.h/\Am (Ag w2.cell?<|EZ W.heap.size v S) f.x f.h
 ch:∃hc,A9 w2.cell? g (t*8) (CW<|P.drop t) hc/\Am (Ag w2.cell?<|EZ W.heap.size v S) (CW<|P.drop t) hc
theorem Km.below{v:Value}{G H:World}(h:Km S W v g L P t G)(hb:Below G.heap.size G H):Km S W v g L P t H:=by
 obtain⟨O,Z,ab⟩:=h.ch;exact⟨h.low.trans<|hb.mono h.low.size,h.gl,N1 h.gz hb.size,h.rb.below hb,λj=>(hb.frozen (p:=(aD g j)) h.gz).trans<|h.fz j,λs f I J=>⟨(h.ab s f I J).1.below hb,(h.ab s f I J).2.on<|Du hb⟩,O,Z.below hb,ab.on<|Du hb⟩
theorem dH{p q:Nd×BA}(G:P[t]? =some p)(H:P[t+1]? =some q):CW (P.drop t)=p.1.with [(q.2,CW<|P.drop<|t+1)]:=by grind [N9,CW]
theorem Km.step{v:Value}{G:World}(h:Km S W v g L P (t+1) G)(aw:v.ownBlock=some g){f:Fl}{p q:Nd×BA}(az:L[t]? =some f)(aA:P[t]? =some p)(a1:P[t+1]? =some q)(a6:f.x=p.1){I:Hd}(_hC1:A9 G.cell? g ((t+1)*8) (CW<|P.drop<|t+1) I)(a7:Am (Ag G.cell?<|EZ W.heap.size v S) (CW<|P.drop<|t+1) I)
 (a8:EZ W.heap.size v S G.heap.size=false):Km S W v g L P t<|(G.alloc<|.cells (.string q.2::Bq (CW<|P.drop<|t+1) I).toArray 92).setCell (aD g<|t*8+7)<|sL G.heap.size 0 1 1:=by
 have hb:=(NB _ G).alloc (rP _)<|.cells (.string q.2::Bq (CW<|P.drop<|t+1) I).toArray 92;have H:=h.below hb;obtain⟨ak,fn⟩:=H.ab t f oM az;have al:∀j u,(Value.string q.2::Bq (CW<|P.drop<|t+1) I)[j]? =some u->Ce (G.alloc<|.cells (.string q.2::Bq (CW<|P.drop<|t+1) I).toArray 92) G.heap.size j u:=λj u ao=>by
  grind [aC]
 have ba:=h.gz;have ap:=a7.on<|Du hb;have bb:=dH aA a1;generalize G.alloc (.cells (.string q.2::Bq (CW<|P.drop<|t+1) I).toArray 92)=O at H al ak fn ap;generalize G.heap.size=b at al ba a8;have J:∀(k j:Nat),k≠g\/j≠t*8+7->(O.setCell (aD g<|t*8+7)<|sL b 0 1 1).cell? (aD k j)=O.cell? (aD k j):=λk j bd=>NG _ _ _ _ (λe=>by cases e;rcases bd with e|e<;>exact e rfl)
 have Z:AW (Ag O.cell?<|EZ W.heap.size v S)<|Ag (O.setCell (aD g<|t*8+7)<|sL b 0 1 1).cell?<|EZ W.heap.size v S:=Bv λk _ ab=>⟨ab,Cv _ _ _ _ (by
  show k≠g;intro e;subst e;simp[EZ,aw]at ab)⟩
 refine⟨H.low.setCell (p:=(aD g<|t*8+7)) (by show W.heap.size<=g;have:=H.gl;omega) _,H.gl,?_,H.rb.other (by show g≠_;have:=H.gl;omega) _,?_,?_,?_⟩
 .have:=H.gz;simpa using this
 .intro j
  have e:=H.fz j;simpa using e
 .intro s be ab bf
  obtain⟨bq,a2⟩:=H.ab s be oM bf;refine⟨GR.2 λj u ao=>?_,a2.on Z⟩;grind [Fb,GR]
 .rw[bb,<-a6]
  obtain⟨⟨k,m,u,bs,o,rL,d,ks⟩,ar,fl⟩:=f;refine⟨⟨ar.aa,ar.ca,some<|aD b 0,1⟩,?_,?_⟩
  .obtain⟨bg,bi,bk,bl,bn,bo,bp,bu⟩:=ak
   refine⟨(J g _<|.inr oM).trans bg,(J g _<|.inr oM).trans bi,(J g _<|.inr oM).trans bk,(J g _<|.inr oM).trans bl,(J g _<|.inr oM).trans bn,(J g _<|.inr oM).trans bo,(J g _<|.inr oM).trans bp,?_⟩;grind [N2]
  .obtain⟨q1,q2,_⟩:=Cs.1<|fn.on Z
   refine Cs.2 ⟨q1,q2,⟨rP _,by show(1:Nat)<=_;omega⟩,.inr ⟨b,0,rfl,λ_=>I,λi n x ad=>?_⟩⟩;cases i with
   |succ i=>simp at ad
   |zero=>
    simp at ad;obtain⟨rfl,rfl⟩:=ad;refine⟨JY.2 λj bx ao=>?_,ap.on Z⟩;grind [CV]
def Qu(W G:World)(S:Nat->Bool)(e:Ending):Except Int (List<|Nd×BA)->Prop
 |.error f=>e=.returned (.tuple #[At zN zH,.iface 101<|iN f])/\Below W.heap.size W G
 |.ok L=>(∃h',e=.returned (.tuple #[At (CW L) h',.nilIface])/\Am (Ag G.cell? S) (CW L) h')/\Below W.heap.size W G
theorem Yp{G:World}{f:Int}{R:Except Int (List<|Nd×BA)}(H:R=.error f)(hb:Below W.heap.size W G):Qu W G S (.returned<|.tuple #[At zN zH,.iface 101<|iN f]) R:=by subst H;exact⟨rfl,hb⟩
theorem gW(w:World)(G:g<w.heap.size)(i:Nat)(v:Value)(o:Obj):(w.alloc o).setCell (aD g i) v=(w.setCell (aD g i) v).alloc o:=by grind [World.setCell_alloc_past]
theorem iX{c:AR}{k m u g:Int}{o:Bool}{rL:List Kv}{d:BA}{h:Hd}(G:Am c (.mk k m u g o rL d []) h):Am c (Dv<|.mk k m u g o rL d []) h:=Cs.2<|Cs.1 G
theorem ju{x:Nd}(h:A7 x):A7<|Dv x:=by
 obtain⟨k,m,u,g,o,rL,d,ks⟩:=x;rw[A7]at h;show A7 (.mk k m u g false rL d []);grind [A7,EO]
abbrev TG:=λH I t J g O Z ab ad zo (G:Hd) (ak:List Kv) zd (zs:Ay) (X:World)=>(Ce X H (I+(t+1)) (.string J)/\Ce X g ((t+1)*8) (iN O)/\Ce X g ((t+1)*8+1) (iN Z)/\Ce X g ((t+1)*8+2) (iN ab)/\Ce X g ((t+1)*8+3) (iN ad)/\Ce X g ((t+1)*8+4) (.bool zo)/\Ce X g ((t+1)*8+5) (.slice G.aa ak.length G.ca)/\Ce X g ((t+1)*8+6) (.string zd)/\Ce X g ((t+1)*8+7) (.slice G.ak zs.length G.ck):Prop)
theorem df(d3:∀k,S k=true->k<W.heap.size){na:Option Addr}{cn:Nat}{ad:List Nd}{bH:Option Addr}{cs:Nat}{al:List BA}(hx:CP (Ag W.cell? S) na ad)(bb:Bi (Ag W.cell? S) bH al)(e1:ad≠[])(e2:ad.length<=1000)(c9:ad.length<=al.length)(e3:∀y∈ad,y.kids=[]/\A7 y/\FL y){M:Df}(e4:EN W M):
 Calls prog 258 #[M.v,.slice na ad.length cn,.slice bH al.length cs] W λe bY=>Qu W bY S e<|Dl M.us M.gs<|EY ad al:=by
 obtain⟨ua,ga,uc,gc,us,gs⟩:=M;obtain⟨e5,e6,e7,e8,e9⟩:=EL Tryz.infoNd;have fa:Hid _:=e6;have fb:Hid _:=e7;have fc:Hid _:=e8;have fd:Hid _:=e9;obtain⟨c0,c1,b0,fe,hc⟩:=Zb W _ _ ua ga us.length gs.length uc gc rfl rfl;have ff:=hid hx;have d4:=hid bb;have fg:=hid e4;have fh:=hid e3;have fo:=hid e1;obtain⟨R,b1⟩:=Aq<|Dl us gs<|EY ad al;show cL 258 #[G7 ua us.length uc ga gs.length gc,.slice na ad.length cn,.slice bH al.length cs] W λe bY=>Qu W bY S e<|Dl us gs<|EY ad al;rw[b1.out]
 obtain⟨N,bd⟩:=Aq ad.length;obtain⟨d5,b2⟩:=Aq al.length;rw[bd.out]at e2 c9⊢;rw[b2.out]at c9⊢;have aw:Hid<|Jf S W ua ga us.length gs.length uc gc nL []<|(W.alloc<|Er ua us.length uc ga gs.length gc).alloc AO:=⟨fe,c0,c1,b0,CZ _ _ _ _,λf bg=>by cases bg⟩;go_enter func258,ntmps258;go_upto_region 1 with fail
 generalize((W.alloc<|Er ua us.length uc ga gs.length gc).alloc AO)=he at aw⊢;go_wp2;go_loopw [8,16] (λv i wr=>∃(j:Nat) (L:List Fl) (P:List<|Nd×BA),j<=N/\i=iN j/\Hid (Dl us gs ((EY ad al).take j)=.ok P)/\Hid (P.map Prod.fst=L.map Fl.x)/\Hid (L.length=j)/\Hid (Jf S W ua ga us.length gs.length uc gc v L wr)) (λ_ i _=>N-(intOf i).toNat)
 case atStart=>exact⟨0,[],[],N7 _,rfl,rfl,rfl,rfl,aw⟩
 case round=>
  obtain⟨j,L,P,hf,rfl,dk,d6,b4,aw⟩:=hrel;by_cases fp:j<N;rotate_left
  .obtain rfl:j=N:=by omega
   have hb:=NM oM;have d7:Hid<|R=.ok P:=by
    have e:=dk.out;rw[R3 (by rw[XY (by rw[bd.out,b2.out];exact c9),bd];omega),b1]at e;exact e
   have dm:Hid<|P.map Prod.snd=(EY ad al).map Prod.snd/\P.length=j:=by
    have e:=d7.out;rw[<-b1.out]at e;have ar:=(YM e).1;refine⟨ar,?_⟩;have aA:=RX List.length ar;rw[CE,CE,XY (by rw[bd.out,b2.out];exact c9),bd]at aA;exact aA
   have hg:0<j:=by
    have e:=bd.out;rcases Nat.eq_zero_or_pos j with aA|aA
    .rw[aA]at e;exact absurd (CI.1 e) fo
    .exact aA
   obtain⟨ap,rfl⟩:∃ap,j=ap+1:=⟨j-1,by omega⟩;obtain⟨g,d8,rfl,hi,hj,d9,fs⟩:∃g cap,u8=sL g 0 (ap+1) cap/\W.heap.size+1+1<=g/\ap+1<=cap/\(∀(i:Nat) f,L[i]? =some f->A9 wr.cell? g (i*8) f.x f.h)/\∀j,Fz wr g j:=by
    have e:=YC aw.row;rw[b4.out]at e;rcases e with e|e
    .have:=b4.out;rw[e]at this;cases this
    .exact e
   have eb:∀(t:Nat),t<ap+1->∃f p,L[t]? =some f/\P[t]? =some p/\f.x=p.1/\al[t]? =some p.2:=λt da=>by
    obtain⟨f,bg⟩:∃f,L[t]? =some f:=⟨_,NA (by rw[b4.out];exact da)⟩;obtain⟨p,dn⟩:∃p,P[t]? =some p:=⟨_,NA (by rw[dm.out.2];exact da)⟩;obtain⟨y,ak⟩:∃y,ad[t]? =some y:=⟨_,NA (by rw[bd.out];exact da)⟩;obtain⟨nm,ed⟩:∃nm,al[t]? =some nm:=⟨_,NA (by rw[b2.out];omega)⟩;have ar:=RX (λl=>l[t]?) d6;simp only[R6,bg,dn,tx,RV]at ar;have aA:=RX (λl=>l[t]?) dm.1;simp only[R6,dn,Zk ak ed,tx,RV]at aA;exact⟨f,p,bg,dn,ar.symm,by rw[ed,aA]⟩
   have ee:Hid _:=eb;have ft:Hid<|Km S W (sL g 0 (ap+1) d8) g L P ap wr:=by
    obtain⟨f,p,ef,eg,ej,hk⟩:=eb ap oM;have ek:P.drop ap=[p]:=by
     have ar:=N9 (NE.1 eg).1;rw[(NE.1 eg).2,show P.drop (ap+1)=[]from R8 (by rw[dm.out.2];omega)]at ar;exact ar
    refine⟨aw.low,by omega,(aw.row.lt g rfl).2,aw.rb,fs,λs f bb bg=>⟨d9 s f bg,aw.nd f<|NW bg⟩,f.h,?_,?_⟩
    .rw[ek,CW,<-ej];exact d9 ap f ef
    .rw[ek,CW,<-ej];exact aw.nd f<|NW ef
   have hl:=hid aw;go_wp2;go_loopw [13] (λi fx=>∃t:Nat,t<=ap/\i=iN t/\Hid (Km S W (sL g 0 (ap+1) d8) g L P t fx)) (λi _=>(intOf i).toNat)
   case atStart=>exact⟨ap,rP _,by go_num,ft⟩
   case round=>
    obtain⟨t,da,rfl,az⟩:=hrel;cases t with
    |zero=>
     obtain⟨ab,bu,bx⟩:=az.ch;obtain⟨C,dd⟩:=Aq<|CW<|P.drop 0;rw[dd.out]at bu bx;obtain⟨G,H,I,J,zo,O,Z,zs⟩:=C;have em:Hid<|CW P=(.mk G H I J zo O Z zs):=dd.out;have hm:Hid _:=bx;have b0:=az.out.rb;have en:=az.out.low;have eo:=b0.store (.mk G H I J zo O Z zs) ab;have b8:Az (W.heap.size+1) wr<|As wr (W.heap.size+1) (.mk G H I J zo O Z zs) ab:=Cb;have ep:Below W.heap.size W<|As wr (W.heap.size+1) (.mk G H I J zo O Z zs) ab:=en.trans<|b8.below oM en.size
     have eq:Hid<|Am (Ag (As wr (W.heap.size+1) (.mk G H I J zo O Z zs) ab).cell? S) (.mk G H I J zo O Z zs) ab:=bx.on (Bv λq b6 bb=>by
      simp[EZ]at bb;exact⟨bb.2,b8.block q b6 bb.1.1.2⟩)
     obtain⟨z0,dp,dr,z3,z4,z5,ds,du⟩:=f8 b0.2;obtain⟨hn,ho,hp,hq,hr,hs,ht,hu⟩:=b0.1;obtain⟨f0,f1,f2,f3,f4,f5,f6,f7⟩:=bu;simp only[tB,RT]at f0 f1 f2 f3 f4 f5 f6 f7;go_wp2;obtain⟨hv,er⟩:=Aq<|As wr (W.heap.size+1) (.mk G H I J zo O Z zs) ab;rw[er.out]at eo ep eq;have es:=er.out;simp only[As]at es;rw[es];obtain⟨b7,b9,ce,cf,ch,cl,co,cr⟩:=eo.1;refine NZ (v:=.tuple #[At (.mk G H I J zo O Z zs) ab,.nilIface]) (by simp[results,results258,go_sem,At,b7,b9,ce,cf,ch,cl,co,cr]) rfl ?_;rw[d7.out];refine⟨⟨ab,by rw[em.out],?_⟩,ep⟩;rw[em.out];exact eq
    |succ t=>
     obtain⟨f,p,eu,a2,a3,a4⟩:=ee t oM;obtain⟨_,q,_,gb,_,cx⟩:=ee (t+1) oM;obtain⟨ab,bu,bx⟩:=az.ch
     have cD:Hid _:=az.step rfl eu a2 gb a3 bu bx (by
      have:=d3 wr.heap.size;have aA:=az.out.low.size;have hw:=az.out.gz;have hy:=az.out.rb.1.lt;simp[EZ,Value.ownBlock];refine⟨⟨⟨by omega,by omega⟩,by omega⟩,?_⟩;cases hh:S wr.heap.size with
      |false=>rfl
      |true=>have:=this hh;omega)
     have gg:=az.out.gz;obtain⟨C,dd⟩:=Aq<|CW<|P.drop<|t+1;rw[dd.out]at bu bx cD;obtain⟨G,H,I,J,zo,O,Z,zs⟩:=C;obtain⟨ba,bi,rfl,cF⟩:∃b be,bH=some (aD b be)/\∀i s,al[i]? =some s->Ag W.cell? S (aD b<|be+i)=some (.string s):=by
      rcases d4.out with e|e
      .rw[e]at cx;simp at cx
      .exact e
     have c3:Ce wr ba (bi+(t+1))<|.string q.2:=Ai az.low _ _<|BW _ _ _ _<|cF _ _ cx;have hz:ba≠g:=λe=>by
      have ar:=bL<|BW _ _ _ _<|cF _ _ cx;have:ba<W.heap.size:=ar;omega
     have hA:=az.out.fz<|t*8+7;obtain⟨fk,hB⟩:∃u7,Ce wr g (t*8+7) u7:=by
      obtain⟨ar,_⟩:=az.ab t f oM eu;obtain⟨⟨k,m,u,hC,o,rL,d,ks⟩,hD,fl⟩:=f;exact⟨_,ar.2.2.2.2.2.2.2⟩
     obtain⟨f0,f1,f2,f3,f4,f5,f6,f7⟩:=bu;obtain⟨q1,a1⟩:=q;dsimp only at c3 cD cx;rw[show((t+1:Nat):Int)=(t:Int)+1 by omega];have hb:decide ((0:Int)<(t:Int)+1)=true:=NY oM;have hE:(0:Int)<=(t:Int)+1:=by omega
     have hG:(t:Int)+1<(d5:Int):=by omega
     have hH:(t:Int)+1<(ap:Int)+1:=by omega
     have hI:(t:Int)<(ap:Int)+1:=by omega
     have hJ:((t:Int)+1).toNat=t+1:=by omega
     have hK:(t:Int)<=(ap:Int):=by omega
     have hL:IntKind.i64.wrap (t:Int)=(t:Int):=DQ oM oM;have hM:IntKind.i64.wrap ((t:Int)+1-1)=(t:Int):=(DQ oM oM).trans oM;have ao:Ce wr ba (bi+(t+1)) (.string a1)/\Ce wr g ((t+1)*8) (iN G)/\Ce wr g ((t+1)*8+1) (iN H)/\Ce wr g ((t+1)*8+2) (iN I)/\Ce wr g ((t+1)*8+3) (iN J)/\Ce wr g ((t+1)*8+4) (.bool zo)/\Ce wr g ((t+1)*8+5) (.slice ab.aa O.length ab.ca)/\Ce wr g ((t+1)*8+6) (.string Z)/\Ce wr g ((t+1)*8+7) (.slice ab.ak zs.length ab.ck):=⟨c3,f0,f1,f2,f3,f4,f5,f6,f7⟩;have hN:Ce wr.drew ba (bi+(t+1)) (.string a1)/\Ce wr.drew g ((t+1)*8) (iN G)/\Ce wr.drew g ((t+1)*8+1) (iN H)/\Ce wr.drew g ((t+1)*8+2) (iN I)/\Ce wr.drew g ((t+1)*8+3) (iN J)/\Ce wr.drew g ((t+1)*8+4) (.bool zo)/\Ce wr.drew g ((t+1)*8+5) (.slice ab.aa O.length ab.ca)/\Ce wr.drew g ((t+1)*8+6) (.string Z)/\Ce wr.drew g ((t+1)*8+7) (.slice ab.ak zs.length ab.ck):=ao;have hO:(TG ba bi t a1 g G H I J zo ab O Z zs (wr.alloc<|DM a1 G H I J zo ab O Z zs).drew):=⟨Ai (CU wr _) _ _ ao.1,Ai (CU wr _) _ _ ao.2.1,Ai (CU wr _) _ _ ao.2.2.1,Ai (CU wr _) _ _ ao.2.2.2.1,Ai (CU wr _) _ _ ao.2.2.2.2.1,Ai (CU wr _) _ _ ao.2.2.2.2.2.1,Ai (CU wr _) _ _ ao.2.2.2.2.2.2.1,Ai (CU wr _) _ _ ao.2.2.2.2.2.2.2.1,Ai (CU wr _) _ _ ao.2.2.2.2.2.2.2.2⟩;have hP:(TG ba bi t a1 g G H I J zo ab O Z zs ((wr.setCell (aD g<|t*8+7)<|sL wr.heap.size 0 1 1).alloc<|DM a1 G H I J zo ab O Z zs).drew):=⟨Ai (CU _ _) _ _<|(NG _ _ _ _ (λe=>by simp only[Cj]at e;omega)).trans ao.1,Ai (CU _ _) _ _<|(NG _ _ _ _ (λe=>by simp only[Cj]at e;omega)).trans ao.2.1,Ai (CU _ _) _ _<|(NG _ _ _ _ (λe=>by simp only[Cj]at e;omega)).trans ao.2.2.1,Ai (CU _ _) _ _<|(NG _ _ _ _ (λe=>by simp only[Cj]at e;omega)).trans ao.2.2.2.1,Ai (CU _ _) _ _<|(NG _ _ _ _ (λe=>by simp only[Cj]at e;omega)).trans ao.2.2.2.2.1,Ai (CU _ _) _ _<|(NG _ _ _ _ (λe=>by simp only[Cj]at e;omega)).trans ao.2.2.2.2.2.1,Ai (CU _ _) _ _<|(NG _ _ _ _ (λe=>by simp only[Cj]at e;omega)).trans ao.2.2.2.2.2.2.1,Ai (CU _ _) _ _<|(NG _ _ _ _ (λe=>by simp only[Cj]at e;omega)).trans ao.2.2.2.2.2.2.2.1,Ai (CU _ _) _ _<|(NG _ _ _ _ (λe=>by simp only[Cj]at e;omega)).trans ao.2.2.2.2.2.2.2.2⟩;go_upto_region 16 with fail
     go_region_held3 (TG ba bi t a1 g G H I J zo ab O Z zs) (assumption) (fail)
     have gl:Hid<|(wr.alloc<|.cells (.string a1::Bq (.mk G H I J zo O Z zs) ab).toArray 92).setCell (aD g<|t*8+7) (sL wr.heap.size 0 1 1)=(wr.setCell (aD g<|t*8+7)<|sL wr.heap.size 0 1 1).alloc (DM a1 G H I J zo ab O Z zs):=gW wr gg _ _ _;rw[gl.out]at cD;generalize(wr.setCell (aD g<|t*8+7)<|sL wr.heap.size 0 1 1).alloc (DM a1 G H I J zo ab O Z zs)=ev at cD⊢;go_wp2;go_roundw
     case rel=>exact⟨t,by omega,by go_num,cD.below (NB _ _).drew⟩
     case measure=>(simp[intOf];try omega)
  have hb:=NY oM;obtain⟨y,bA⟩:∃y,ad[j]? =some y:=⟨_,NA (by rw[bd.out];exact fp)⟩;obtain⟨nm,c4⟩:∃nm,al[j]? =some nm:=⟨_,NA (by rw[b2.out];omega)⟩;obtain⟨hQ,hR,rfl,go,ew⟩:∃b be,na=some (aD b be)/\∃f:Nat->Hd,∀i x,ad[i]? =some x->A9 (Ag W.cell? S) b (be+i*8) x (f i)/\Am (Ag W.cell? S) x (f i):=by
   rcases ff.out with e|e
   .rw[e]at bA;simp at bA
   .exact e
  obtain⟨ba,bi,rfl,cF⟩:∃b be,bH=some (aD b be)/\∀i s,al[i]? =some s->Ag W.cell? S (aD b<|be+i)=some (.string s):=by
   rcases d4.out with e|e
   .rw[e]at c4;simp at c4
   .exact e
  obtain⟨dw,dx⟩:=ew j y bA;obtain⟨dy,ey,hid⟩:=fh y<|NW bA;have c3:=cF j nm c4;have ez:Hid<|(EY ad al).take (j+1)=(EY ad al).take j++[(Dv y,nm)]:=jU bA c4;have eB:Hid<|EY ad al=(EY ad al).take (j+1)++(EY ad al).drop (j+1):=(CR _ _).symm;generalize go j=ak at dw dx;obtain⟨bk,bl,bn,bo,eD,bp,bq,gq⟩:=y;have dy:gq=[]:=dy;subst dy;have gr:=aw.out.low
  have dz:AW (Ag W.cell? S)<|Ag wr.cell?<|EZ W.heap.size u8 S:=Bv λq b6 bb=>⟨by
   have ar:=aw.out.row.lt;simp[EZ,bb];exact⟨⟨by omega,by omega⟩,λe=>by have:=(ar q e).1;omega⟩,gr.block q b6⟩
  have gu:=(dw.on dz).on<|BW _ _;have eE:=dx.on dz;have gv:=BW _ _ _ _<|dz _ _ c3;have dT:=CU wr<|.cells #[iN bk,iN bl,iN bn,iN bo,.bool false,.slice ak.aa bp.length ak.ca,.string bq,.slice ak.ak 0 ak.ck] 31;have bB:=aw.out.below dT;obtain⟨eF,de⟩:=Aq<|BH true us gs<|Dv<|.mk bk bl bn bo eD bp bq [];have gw:Hid (cL 139 #[G7 ua us.length uc ga gs.length gc,.agg #[iN bk,iN bl,iN bn,iN bo,.bool false,.slice ak.aa bp.length ak.ca,.string bq,.slice ak.ak 0 ak.ck]] (wr.alloc<|.cells #[iN bk,iN bl,iN bn,iN bo,.bool false,.slice ak.aa bp.length ak.ca,.string bq,.slice ak.ak 0 ak.ck] 31) λe bY=>Kk (wr.alloc<|.cells #[iN bk,iN bl,iN bn,iN bo,.bool false,.slice ak.aa bp.length ak.ca,.string bq,.slice ak.ak 0 ak.ck] 31) bY (EZ W.heap.size u8 S) e eF):=by
   have:=Mz (W:=wr.alloc<|.cells #[iN bk,iN bl,iN bn,iN bo,.bool false,.slice ak.aa bp.length ak.ca,.string bq,.slice ak.ak 0 ak.ck] 31) (S:=(EZ W.heap.size u8 S)) (M:=⟨ua,ga,uc,gc,us,gs⟩) (x:=Dv<|.mk bk bl bn bo eD bp bq []) (h:=ak) (bB.hid d3) (Am.on (iX eE)<|Du dT) (ju ey) (by rw[WL];omega) (kY hid)<|fg.out.below bB.low;rw[de.out]at this;exact this
  have hS:=bB.m0;have hT:=bB.m1;obtain⟨n0,hU,hV,hW,hX,hY,hZ,gx⟩:=gu;simp only[RC]at gx;clear dw dx hid ey cF c3 eE ew bA c4;go_wp2_with fail
  refine rQ gw.out ?_;intro e bC eL;cases eF with
  |none=>
   obtain⟨rfl,a6⟩:=eL;have d0:Hid<|R=.error 11:=by
    show R=_;rw[<-b1.out,eB.out];refine XL _ ?_;rw[ez.out,MR,dk.out];dsimp only;rw[de.out]
   have d1:=bB.below a6;have c5:=CU bC AO;have dg:=d1.below c5;have bF:=dg.low;have bf:=dg.rb;rw[show At zN zH=.agg #[iN 0,iN 0,iN 0,iN 0,.bool false,nL,.string ⟨#[]⟩,nL]from rfl];go_upto_region 7 with fail
   generalize bC.alloc AO=a7 at bF bf⊢;have c6:=AC.store bf zN zH;have a6:Below W.heap.size W<|As a7 (W.heap.size+1) zN zH:=bF.trans<|Cb.below oM bF.size;obtain⟨z0,dp,dr,z3,z4,z5,ds,du⟩:=f8 bf.2;obtain⟨f0,f1,f2,f3,f4,f5,f6,f7⟩:=bf.1;go_wp2;obtain⟨gy,c8⟩:=Aq<|As a7 (W.heap.size+1) zN zH;rw[c8.out]at c6 a6;have bs:=c8.out;simp only[As,zN,zH]at bs;simp only[RC]at bs;rw[bs];obtain⟨b7,b9,ce,cf,ch,cl,co,cr⟩:=c6.1;refine NZ (v:=.tuple #[At zN zH,.iface 101<|iN 11]) (by simp[results,results258,go_sem,At,zN,zH,b7,b9,ce,cf,ch,cl,co,cr]) rfl (Yp d0 a6)
  |some z=>
   obtain⟨⟨a8,rfl,gz⟩,a6⟩:=eL;have h0:=hid<|(LT de).2;obtain⟨G,H,I,J,zo,O,Z,zs⟩:=z;have d1:=bB.below a6;have c5:=CU bC<|Aw G H I J zo O Z zs a8;have dg:=d1.below c5;have eX:=hid<|Am.on gz<|Du c5;have d2:=AC.new bC G H I J zo O Z zs a8;have g0:=Ai c5 _ _<|Ai a6 _ _<|Ai dT _ _ gv;have bG:=hid dg;rw[show At (.mk G H I J zo O Z zs) a8=(Ba G H I J zo O Z zs a8)from rfl];have e0:Hid (Dl us gs ((EY ad al).take<|j+1)=if Bf nm=false then .error 4 else .ok (P++[((.mk G H I J zo O Z zs),nm)])):=by
    show _=_;rw[ez.out,MR,dk.out];dsimp only;rw[de.out]
   go_upto_region 7 with fail
   generalize bC.alloc (Aw G H I J zo O Z zs a8)=a7 at bG eX d2 g0⊢;generalize bC.heap.size=h1 at d2⊢;have h2:(j:Int)<(d5:Int):=by omega
   by_cases dj:Bf nm=false
   .have d0:Hid<|R=.error 4:=by
     show R=_;rw[<-b1.out,eB.out];refine XL _ ?_;rw[e0.out,NS dj]
    have bF:=bG.out.low;have bf:=bG.out.rb;go_wp2_with fail
    go_call Iw nm _ as e ev ⟨rfl,rfl⟩
    rw[dj];have c6:=AC.store bf zN zH;have a6:Below W.heap.size W<|As a7 (W.heap.size+1) zN zH:=bF.trans<|Cb.below oM bF.size;obtain⟨z0,dp,dr,z3,z4,z5,ds,du⟩:=f8 bf.2;obtain⟨f0,f1,f2,f3,f4,f5,f6,f7⟩:=bf.1;go_wp2;obtain⟨gy,c8⟩:=Aq<|As a7 (W.heap.size+1) zN zH;rw[c8.out]at c6 a6;have bs:=c8.out;simp only[As,zN,zH]at bs;simp only[RC]at bs;rw[bs];obtain⟨b7,b9,ce,cf,ch,cl,co,cr⟩:=c6.1;refine NZ (v:=.tuple #[At zN zH,.iface 101<|iN 4]) (by simp[results,results258,go_sem,At,zN,zH,b7,b9,ce,cf,ch,cl,co,cr]) rfl (Yp d0 a6)
   .have g2:Bf nm=true:=by simpa using dj
    have g5:Hid<|Dl us gs ((EY ad al).take<|j+1)=.ok (P++[((.mk G H I J zo O Z zs),nm)]):=by show _=_;rw[e0.out,NO dj]
    have g6:Hid<|(P++[(((.mk G H I J zo O Z zs):Nd),nm)]).map Prod.fst=(L++[(⟨(.mk G H I J zo O Z zs),a8,0⟩:Fl)]).map Fl.x:=by show _=_;rw[CT,CT,d6.out];rfl
    have h3:L.length<=1000:=by have:=b4.out;omega
    obtain⟨z0,dp,dr,z3,z4,z5,ds,du⟩:=d2.1;go_wp2_with fail
    go_call Iw nm _ as e ev ⟨rfl,rfl⟩
    rw[g2];go_wp2_with (at_builtin;refine DP (a7.alloc<|Aw G H I J zo O Z zs a8) rfl (.tmp 40) (.tmp 42) 115 rfl (W.heap.size+1+1) 31 e5 (.agg #[iN 0,iN 0,iN 0,iN 0,.bool false,nL,.string ⟨#[]⟩,nL]) 8 104 underlying115 fa fb fc fd rfl oD u8 L.length (BK L) rfl (bG.row.alloc _) (some<|aD a7.heap.size 0) 1 1 (Bq (.mk G H I J zo O Z zs) a8) rfl rfl (.inr ⟨_,rfl,λq t b6=>by rw[Ef,RT];exact Ph a7 _ a8 _ q t b6⟩) (LL _ _) (by unfold maxLen;omega) oM (by have:=bG.out.rb.1.lt;rw[ND];omega) ?_)
    intro h4 h5 g7 g8 g9;have ha:=hid<|(bG.below<|CU a7 _).app (f:=⟨(.mk G H I J zo O Z zs),a8,0⟩) (eX.on<|Du<|CU a7 _) (by rw[Nh,N6];simpa [BK]using g7) g8 (by rw[ND];exact g9);go_wp2;go_roundw
    case rel=>exact⟨j+1,_,_,by omega,by go_num,g5,g6,(show _=_ from by rw[N6,b4.out];rfl),ha⟩
    case measure=>(simp[intOf];try omega)
attribute [local go_sem] Oper.semAt_some
theorem Ir.put(h:Ir S w A xs ry st i Sx)(H:Loop):Ir S w (A.putObj (w.heap.size+1+1+1+1+1)<|.loop H) xs ry H i Sx:=by
 obtain⟨vn,vf,L,I,J,G,O,Z,ab⟩:=h.bx;have ad:=LH (S:=Cu w.heap.size vn vf S) h.lk rfl (.loop H);exact⟨h.low.trans<|GC h.low.size oM _,⟨vn,vf,L,Hy I h.lk _,Hy J h.lk _,⟨ownsRow_putObj G.rn _ h.lk rfl,ownsRow_putObj G.rf _ h.lk rfl,G.ne,λf ak=>(G.nd f ak).on ad⟩,O,Z,ab⟩,(World.putObj_heap_other oM).trans h.dk,World.putObj_heap_same (N3.1 h.lk).1⟩
theorem fF{c:AR}{k m u g:Int}{o:Bool}{rL:List Kv}{d:BA}{ks:Ay}{h:Hd}(G:Am c (.mk k m u g o rL d ks) h):Am c (.mk k m u g o rL d []) ⟨h.aa,h.ca,none,0⟩:=by
 obtain⟨H,I,_⟩:=Cs.1 G;exact Cs.2 ⟨H,I,⟨rP _,by simp⟩,.inl rfl⟩
theorem Hp.put{n₀:Nat}{J:List Fl}(h:Hp S n₀ A vn vf L J){o:Obj}(H:A.heap[l]? =some o)(I:o.isCells=false)(G:Obj):Hp S n₀ (A.putObj l G) vn vf L J:=
 ⟨ownsRow_putObj h.rn G H I,ownsRow_putObj h.rf G H I,h.ne,λf O=>(h.nd f O).on<|LH H I G⟩
theorem VI{V:World}{G:Act}(J:G.tmps[4]? =some vn)(O:G.tmps[5]? =some vf)(hd:G.defers=[{target:=.collected<|w.heap.size+1+1+1+1,args:=#[]}])(H:V.heap[w.heap.size+1+1+1+1]? =some (.deferred<|some []))(Z:Hp S w.heap.size V vn vf L L)(ab:∀(j:Nat) f,L[j]? =some f->∃q r,AX xs (ry.take j)=q::r/\f.x=q.1.with []/\f.ly=q.2)(ad:L.length=ry.length+1\/L.length<=ry.length/\AX xs (ry.take L.length)=[])(I:Below w.heap.size w V):
 bodyPostM Fence.wide 0 prog Tryz.f247 (λe w'=>(∃vn vf L,e=.returned (.tuple #[vn,vf])/\Hp S w.heap.size w' vn vf L L/\(∀(j:Nat) f,L[j]? =some f->∃q r,AX xs (ry.take j)=q::r/\f.x=q.1.with []/\f.ly=q.2)/\(L.length=ry.length+1\/L.length<=ry.length/\AX xs (ry.take L.length)=[]))/\Below w.heap.size w w') .ret G V:=by
 show LeavesInM Fence.wide 0 prog Tryz.f247 G.tmps _ G.defers .returning V;rw[hd];refine⟨by simp,.inl ⟨_,_,rfl,run_takeDeferred H,?_⟩⟩;refine⟨.tuple #[vn,vf],by simp[results,results247,go_sem,J,O],⟨vn,vf,L,rfl,Z.put H rfl _,ab,ad⟩,I.trans<|GC (l:=w.heap.size+1+1+1+1) I.size oM _⟩
theorem XA.toJ(h:XA S w A Sx st vn vf L L vn vf W)(G:L.length=i)(H:∀(j:Nat) f,L[j]? =some f->∃q r,AX xs (ry.take j)=q::r/\f.x=q.1.with []/\f.ly=q.2):Ir S w W xs ry st i<|Cu w.heap.size vn vf S:=⟨h.low,⟨vn,vf,L,h.bn,h.bf,h.r,G,H,rfl⟩,h.dk,h.lk⟩
theorem BP.init{G:Value}{H J O Z ab ad ak al:Value}(ao:XA S w A Sx st vn vf L L vn vf W)(ap:AC W nbx N hb)(ar:Am (Ag W.cell?<|Cu w.heap.size vn vf S) N hb):BP S w A Sx st vn vf L N hb ly nbx vb vo G false false false false false false false false false false false false false false H t25 I J O Z ab t31 ad ak al t35 W:=
 ⟨(λe=>by cases e),(λe=>by cases e),(λe=>by cases e),(λe=>by cases e),(λe=>by cases e),(λe=>by cases e),(λe=>by cases e),(λe=>by cases e),(λe=>by cases e),(λe=>by cases e),(λe=>by cases e),(λe=>by cases e),(λe=>by cases e),(λe=>by cases e),λ_=>⟨ao,ap,ar⟩,(λe=>by cases e),(λe=>by cases e),(λe=>by cases e),(λe=>by cases e),(λe=>by cases e),(λe=>by cases e),(λe=>by cases e)⟩
theorem VD(a7:∀k,S k=true->k<w.heap.size){a:Option Addr}{cap:Nat}{an:Option Addr}{rN:Nat}(hx:CP (Ag w.cell? S) a xs)(a8:Bi (Ag w.cell? S) an ry)(b4:xs.length<=1000)(b6:ry.length<=1000)(bl:EM<|A5 xs)(b7:GH<|A5 xs):
 Calls prog 247 #[.slice a xs.length cap,.slice an ry.length rN] w λe w'=>(∃vn vf L,e=.returned (.tuple #[vn,vf])/\Hp S w.heap.size w' vn vf L L/\(∀(j:Nat) f,L[j]? =some f->∃q r,AX xs (ry.take j)=q::r/\f.x=q.1.with []/\f.ly=q.2)/\(L.length=ry.length+1\/L.length<=ry.length/\AX xs (ry.take L.length)=[]))/\Below w.heap.size w w':=by
 refine(ts (n:=0)).1 ?_;refine callsIn_of_wp_marks func247 rfl trivial ?_ rfl;simp only[ntmps247,List.size_toArray,R5,RC,Nat.reduceAdd,Nat.reduceSub,tH,tG,List.push_toArray,List.append_toArray,CN,Cd];gi_wp2_with fail
 refine⟨trivial,rfl,CallsIn.mono (ts.2<|VS _ a an xs.length cap ry.length rN) ?_⟩;rintro e O ⟨rfl,Z⟩;rw[ND,ND];have ba:=(NB _ w).alloc (rP _)<|.cells #[nL] 115;have bb:=ba.alloc ba.size<|.cells #[nL] 39;have ao:((w.alloc<|.cells #[nL] 115).alloc<|.cells #[nL] 39).heap.size=w.heap.size+1+1:=by rw[ND,ND]
 have b9:Below w.heap.size w O:=by rw[Z];exact(bb.alloc bb.size _).alloc (by rw[ND,ao];omega) _
 have bn:O.heap.size=w.heap.size+1+1+1+1:=by rw[Z,ND,ND,ao]
 have ce:Boxed O w.heap.size 115 nL:=by rw[Z];exact(((Boxed.new w _ _).alloc _).alloc _).alloc _
 have cf:Boxed O (w.heap.size+1) 39 nL:=by
  rw[Z];have:=((Boxed.new (w.alloc<|.cells #[nL] 115) 39 nL).alloc<|.cells #[.slice a xs.length cap] 115).alloc<|.cells #[.slice an ry.length rN] 50;rwa [ND]at this
 have ch:Boxed O (w.heap.size+1+1) 115<|.slice a xs.length cap:=by
  rw[Z];have:=(Boxed.new ((w.alloc<|.cells #[nL] 115).alloc<|.cells #[nL] 39) 115<|.slice a xs.length cap).alloc<|.cells #[.slice an ry.length rN] 50;rwa [ao]at this
 have cl:Boxed O (w.heap.size+1+1+1) 50<|.slice an ry.length rN:=by
  rw[Z];have:=Boxed.new (((w.alloc<|.cells #[nL] 115).alloc<|.cells #[nL] 39).alloc<|.cells #[.slice a xs.length cap] 115) 50<|.slice an ry.length rN;rwa [ND,ao]at this
 clear Z ba bb ao;gi_wp2_with fail
 refine O7 (gf:=145) (lb:=#[pO (w.heap.size+1+1) 0,pO (w.heap.size+1+1+1) 0]) rfl (enters_of func145 oK rfl) ?_;intro fn rec co ad bd cr bo bp;rw[bn]at bd cr bo bp⊢;have az:Below O.heap.size O ad:=by rw[bn];exact bd
 have bq:∀k,w.heap.size<=k->S k=false:=λk bs=>by
  cases hh:S k with
  |false=>rfl
  |true=>have:=a7 k hh;omega
 have bu:Ir S w ad xs ry (rec .ready none) 0<|Cu w.heap.size nL nL S:=⟨b9.trans<|bd.mono oM,⟨_,_,[],Ew ce az,Ew cf az,⟨CZ _ _ _ _,CZ _ _ _ _,λg e=>by simp[Value.ownBlock]at e,λf be=>by cases be⟩,rfl,λj f H=>by simp at H,rfl⟩,bp,bo⟩;have bx:AW (Ag w.cell? S)<|Ag ad.cell?<|Cu w.heap.size nL nL S:=Bv λk bs a8=>⟨by simp[Cu,a8,Value.ownBlock];omega,bu.low.block k bs⟩;have cx:Ag ad.cell? (Cu w.heap.size nL nL S) (aD (w.heap.size+1+1) 0)=some (.slice a xs.length cap):=by rw[CV (by simp[Cu,Value.ownBlock];exact⟨by omega,bq _ oM⟩)];exact(Ew ch az).cell
 have cD:Ag ad.cell? (Cu w.heap.size nL nL S) (aD (w.heap.size+1+1+1) 0)=some (.slice an ry.length rN):=by rw[CV (by simp[Cu,Value.ownBlock];exact⟨by omega,bq _ oM⟩)];exact(Ew cl az).cell
 refine(U4 (w.heap.size+1+1) (w.heap.size+1+1+1) a cap xs an rN ry (w.heap.size+1+1+1+1+1) (λi S' A=>Ir S w A xs ry (rec .ready none) i S') (λA=>∃i Sx,i<=ry.length/\AX xs (ry.take i)=[]/\Ir S w A xs ry (rec .done<|some<|.exit 0) i Sx) ad _ cx cD (hx.on bx) (a8.on bx) b4 b6 bl
  (λi S' A h=>h.hid a7) (λi S' A B h hb=>h.keep hb) ?rounds bu).mono ?after
 case rounds=>
  intro i S' v A bf G cF;have ds:=QN bl<|ry.take i;have c3:=Rc b7<|ry.take i;obtain⟨va,vc,D,rfl,g1,du,g3,g4,bg⟩:=cF;obtain⟨vn,vf,L,ap,ar,I,ak,aw,rfl⟩:=G.bx;refine MK co G.lk rfl ?_;gi_wp2
  refine⟨G.lk,?_⟩;have bA:=(N3.1 G.lk).1;cases D with
  |nil=>
   have bi:AX xs (ry.take i)=[]:=by rw[<-bg];rfl
   gi_wp2
   exact⟨World.putObj_heap_same bA,.inr ⟨rfl,i,bf,bi,_,(G.put<|rec .busy none).put<|rec .done<|some<|.exit 0⟩⟩
  |cons s D=>
   have⟨sb,sp,ly,⟨k,m,u,g,o,rL,d,ks⟩,h⟩:=s;have bB:=g4 _<|N4 ..;obtain⟨vb,vo,rfl,c4⟩:∃b bk,va=some (aD b bk)/\∀j aA,((⟨sb,sp,ly,(.mk k m u g o rL d ks),h⟩:Sp)::D)[j]? =some aA->Ag A.cell? (Cu w.heap.size vn vf S) (aD b<|bk+j*2)=some (pO aA.b aA.p)/\Ag A.cell? (Cu w.heap.size vn vf S) (aD b<|bk+j*2+1)=some (iN aA.ly):=by
    rcases g3 with e|e
    .cases e
    .exact e
   have⟨r0,r1⟩:=c4 0 _ rfl;dsimp only at r0 r1;rw[tB,tl]at r0 r1;have c5:((.mk k m u g o rL d ks),ly)∈AX xs (ry.take i):=by rw[<-bg];exact N4 ..
   have c6:Hid (∃r,AX xs (ry.take i)=((.mk k m u g o rL d ks),ly)::r):=⟨_,bg.symm⟩;have c8:A7<|.mk k m u g o rL d []:=by have e:=c3 _ c5;rw[A7]at e⊢;exact⟨e.1,by simp,by rw[EO];trivial⟩
   have c9:cnt (.mk k m u g o rL d [])<=1000:=by rw[cnt,cntL];omega
   have al:AW (Ag A.cell?<|Cu w.heap.size vn vf S)<|Ag (A.putObj (w.heap.size+1+1+1+1+1)<|.loop<|rec .busy none).cell?<|Cu w.heap.size vn vf S:=LH G.lk rfl _;have bC:XA S w A (Cu w.heap.size vn vf S) (rec .busy none) vn vf L L vn vf<|A.putObj (w.heap.size+1+1+1+1+1)<|.loop<|rec .busy none:=⟨G.low.trans<|GC G.low.size oM _,by rw[World.putObj_size];exact rP _,Hy ap G.lk _,Hy ar G.lk _,⟨ownsRow_putObj I.rn _ G.lk rfl,ownsRow_putObj I.rf _ G.lk rfl,I.ne,λf be=>(I.nd f be).on al⟩,al,(World.putObj_heap_other oM).trans G.dk,World.putObj_heap_same bA⟩;have da:∀g,vn.ownBlock=some g->g<A.heap.size:=λg e=>(I.rn.lt g e).2;have bF:=bB.1.on al
   have bG:=hid<|bB.2.on al;have bH:=al _ _ r0;have bY:=al _ _ r1;have b0:(A.putObj (w.heap.size+1+1+1+1+1)<|.loop<|rec .busy none).heap.size=A.heap.size:=World.putObj_size ..;have dw:Hid<|A.heap.size=A.heap.size:=rfl;generalize A.putObj (w.heap.size+1+1+1+1+1) (.loop<|rec .busy none)=a1 at bC bF bG bH bY b0⊢;have t0:=BW _ _ _ _ bH;have dx:=BW _ _ _ _ bY;have⟨n0,n1,n2,n3,n4,n5,n6,n7⟩:=bF.on<|BW _ _;have b1:Below a1.heap.size a1<|a1.alloc<|.cells #[iN k,iN m,iN u,iN g,.bool o,.slice h.aa rL.length h.ca,.string d,nL] 31:=bN;have b2:=AC.new a1 k m u g o rL d [] ⟨h.aa,h.ca,none,0⟩;rw[b0]at b2;have dd:=bC.below b1;have de:=(fF bG).on<|Du b1;have dg:Hid _:=dd;have dj:Hid _:=de;have dk:Hid _:=b2;gi_wp2
   refine rF (S:=S) (w:=w) (A:=A) (Sx:=Cu w.heap.size vn vf S) (st:=rec .busy none) (vn:=vn) (vf:=vf) (L:=L) (N:=.mk k m u g o rL d []) (hb:=⟨h.aa,h.ca,none,0⟩) (ly:=ly) (nbx:=A.heap.size) (vb:=vb) (vo:=vo) (dl:=D.length) (vc:=vc) a7 c8 c9 da oM r1 rfl (BP.init (dg.below (NB _ _).drew) dk dj) ?_;intro dy dz dT t35 h' a6
   have ab:=(a6.toJ (xs:=xs) (ry:=ry) (i:=i+1) (by rw[N6,ak];rfl) (λj f H=>by
    rw[List.getElem?_append]at H;split at H
    .exact aw j f H
    .rename_i hge
     have e:j-L.length=0:=by
      rcases Nat.eq_zero_or_pos (j-L.length)with e|e
      .exact e
      .rw[tP (by simp;omega)]at H;cases H
     rw[e]at H;simp at H;subst H;have⟨r,hr⟩:=c6.out;have dm:j=i:=by omega
     rw[dm];exact⟨_,r,hr,rfl,rfl⟩)).put<|rec .ready none
   exact⟨a6.lk,.inl ⟨rfl,_,ab,a6.ml.trans<|LH a6.lk rfl _⟩⟩
 case after=>
  rintro e W2 ⟨⟨v,rfl⟩,(⟨S',ab⟩|⟨i,S',bf,bi,ab⟩)⟩
  .refine⟨⟨_,rfl⟩,.inl ⟨ab.lk,?_⟩⟩
   have J:=ab.put<|rec .exhausted none;generalize W2.putObj (w.heap.size+1+1+1+1+1) (.loop<|rec .exhausted none)=dn at J⊢;have⟨vn,vf,L,ap,ar,I,ak,aw,_⟩:=J.bx;have dp:=ap.cell;have dr:=ar.cell;gi_wp2
   gi_quiet (fail)
   all_goals
    gi_wp2
    exact VI rfl rfl rfl J.dk (I.below<|Kb (NB _ _) _) aw (.inl ak) (Kb J.low _)
  .refine⟨⟨_,rfl⟩,.inr ⟨.exit 0,ab.lk,?_⟩⟩
   have J:=ab.put<|rec .exhausted<|some<|.exit 0;generalize W2.putObj (w.heap.size+1+1+1+1+1) (.loop<|rec .exhausted<|some<|.exit 0)=dn at J⊢;have⟨vn,vf,L,ap,ar,I,ak,aw,_⟩:=J.bx;have dp:=ap.cell;have dr:=ar.cell;gi_wp2
   gi_quiet (fail)
   all_goals
    gi_wp2
    exact VI rfl rfl rfl J.dk (I.below<|Kb (NB _ _) _) aw (.inr ⟨by rw[ak];exact bf,by rw[ak];exact bi⟩) (Kb J.low _)
end Go.Proofs.YtchpdmjlicmdaaaGreatDoor
