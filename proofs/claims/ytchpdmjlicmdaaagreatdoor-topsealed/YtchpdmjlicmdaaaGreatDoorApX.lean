/- Part: Ap Aps Abw Aa Na Abb Abe Abg Abd Nb Bt Np. -/
import Derived.Test.YtchpdmjlicmdaaaGreatDoorRows
import Derived.Handy
import Derived.WalkSpells
import Derived.WalkLawsBesides
import Derived.Deep.Upon
import Derived.Deep.AppendLies
import Derived.Lib.IndexMore
import Derived.OrdersHeld
import Derived.BigQuiet
set_option maxRecDepth 100000
set_option maxHeartbeats 16000000
namespace Go.Proofs.YtchpdmjlicmdaaaGreatDoor
open Go.RowKit Go.Proofs.Tryz
variable {b base i k n p:Nat}{o:Oper}{a:Option Addr}{Q:Exit->Act->World->Prop}{u w w':World}{e:TypeId}{v:Value}{xs:List Value}{q:Addr}{S:Nat->Bool}
abbrev BA:=ByteArray
theorem rO:type_of%@World.cell?_alloc_at:=@World.cell?_alloc_at
theorem rP:type_of%@Nat.le_refl:=@Nat.le_refl
theorem rQ:type_of%@Calls.mono:=@Calls.mono
theorem NA:type_of%@List.getElem?_eq_getElem:=@List.getElem?_eq_getElem
theorem NB:type_of%@Below.refl:=@Below.refl
theorem ND:type_of%@World.size_alloc:=@World.size_alloc
theorem NE:type_of%@List.getElem?_eq_some_iff:=@List.getElem?_eq_some_iff
theorem NF:type_of%@World.block_lt_of_cell?:=@World.block_lt_of_cell?
theorem NG:type_of%@World.cell?_setCell_other:=@World.cell?_setCell_other
theorem NM:type_of%@decide_eq_false:=@decide_eq_false
theorem NO:type_of%@if_neg:=@if_neg
theorem NS:type_of%@if_pos:=@if_pos
theorem NW:type_of%@List.mem_of_getElem?:=@List.mem_of_getElem?
theorem NY:type_of%@decide_eq_true:=@decide_eq_true
theorem NZ:type_of%@bodyPost_ret:=@bodyPost_ret
theorem N1:type_of%@Nat.lt_of_lt_of_le:=@Nat.lt_of_lt_of_le
theorem N2:type_of%@World.cell?_setCell_same:=@World.cell?_setCell_same
theorem N3:type_of%@Array.getElem?_eq_some_iff:=@Array.getElem?_eq_some_iff
theorem N4:type_of%@List.mem_cons_self:=@List.mem_cons_self
theorem N6:type_of%@List.length_append:=@List.length_append
theorem N7:type_of%@Nat.zero_le:=@Nat.zero_le
theorem N9:type_of%@List.drop_eq_getElem_cons:=@List.drop_eq_getElem_cons
theorem Rz:type_of%@Nat.le_trans:=@Nat.le_trans
theorem RB:type_of%@World.frozen?_alloc_at:=@World.frozen?_alloc_at
theorem RC:type_of%@List.length_nil:=@List.length_nil
theorem RE:type_of%@World.cell?_of_block:=@World.cell?_of_block
theorem RF:type_of%@wpAnyH_take:=@wpAnyH_take
theorem RT:type_of%@Nat.zero_add:=@Nat.zero_add
theorem RV:type_of%@Option.some.injEq:=@Option.some.injEq
theorem RX:type_of%@congrArg:=@congrArg
theorem R0:type_of%@List.eq_nil_of_length_eq_zero:=@List.eq_nil_of_length_eq_zero
theorem R1:type_of%@List.mem_cons:=@List.mem_cons
theorem R2:type_of%@Option.map_eq_some_iff:=@Option.map_eq_some_iff
theorem R3:type_of%@List.take_of_length_le:=@List.take_of_length_le
theorem R4:type_of%@List.mem_cons_of_mem:=@List.mem_cons_of_mem
theorem R5:type_of%@List.length_cons:=@List.length_cons
theorem R6:type_of%@List.getElem?_map:=@List.getElem?_map
theorem R7:type_of%@List.getElem?_of_mem:=@List.getElem?_of_mem
theorem R8:type_of%@List.drop_of_length_le:=@List.drop_of_length_le
theorem R9:type_of%@List.append_assoc:=@List.append_assoc
theorem Cd:type_of%@List.cons_append:=@List.cons_append
theorem Cj:type_of%@Addr.mk.injEq:=@Addr.mk.injEq
theorem Cq:type_of%@List.mem_append:=@List.mem_append
theorem Cv:type_of%@Below.heap_setCell:=@Below.heap_setCell
theorem CA:type_of%@Classical.choose_spec:=@Classical.choose_spec
theorem CB:type_of%@List.map_cons:=@List.map_cons
theorem CC:type_of%@List.length_pos_iff:=@List.length_pos_iff
theorem CD:type_of%@List.mem_singleton:=@List.mem_singleton
theorem CE:type_of%@List.length_map:=@List.length_map
theorem CF:type_of%@World.frozen?_setCells:=@World.frozen?_setCells
theorem CG:type_of%@List.getElem?_append_right:=@List.getElem?_append_right
theorem CH:type_of%@Value.slice.injEq:=@Value.slice.injEq
theorem CI:type_of%@List.length_eq_zero_iff:=@List.length_eq_zero_iff
theorem CK:type_of%@List.pairwise_cons:=@List.pairwise_cons
theorem CL:type_of%@List.filterMap_cons:=@List.filterMap_cons
theorem CN:type_of%@List.nil_append:=@List.nil_append
theorem CO:type_of%@List.take_add_one:=@List.take_add_one
theorem CQ:type_of%@List.mem_map:=@List.mem_map
theorem CR:type_of%@List.take_append_drop:=@List.take_append_drop
theorem CS:type_of%@below_drewN:=@below_drewN
theorem CT:type_of%@List.map_append:=@List.map_append
theorem CZ:type_of%@World.ownsRow_nil:=@World.ownsRow_nil
theorem C0:type_of%@List.mem_filterMap:=@List.mem_filterMap
theorem C1:type_of%@DataW.trod_int:=@DataW.trod_int
theorem C2:type_of%@Except.ok.injEq:=@Except.ok.injEq
theorem C3:type_of%@List.length_take:=@List.length_take
theorem C4:type_of%@Array.getElem?_eq_none:=@Array.getElem?_eq_none
theorem C5:type_of%@List.getElem?_append_left:=@List.getElem?_append_left
theorem C6:type_of%@of_decide_eq_true:=@of_decide_eq_true
theorem Kn:type_of%@World.frozen?_setCell:=@World.frozen?_setCell
theorem Ko:type_of%@List.foldl_cons:=@List.foldl_cons
theorem Kp:type_of%@List.getElem?_take:=@List.getElem?_take
theorem Kq:type_of%@List.getElem?_drop:=@List.getElem?_drop
theorem KL:type_of%@wpAnyH_done:=@wpAnyH_done
theorem K6:type_of%@Nat.le_of_lt:=@Nat.le_of_lt
theorem gt:type_of%@List.getElem?_set:=@List.getElem?_set
theorem te:type_of%@List.append_nil:=@List.append_nil
theorem ti:type_of%@Below.heap_alloc:=@Below.heap_alloc
theorem tj:type_of%@Except.error.injEq:=@Except.error.injEq
theorem tl:type_of%@Nat.add_zero:=@Nat.add_zero
theorem tn:type_of%@wp_region_lit:=@wp_region_lit
theorem tq:type_of%@BigFrame.wpList_want:=@BigFrame.wpList_want
theorem tr:type_of%@List.mem_map_of_mem:=@List.mem_map_of_mem
theorem ts:type_of%@callsIn_wide:=@callsIn_wide
theorem tt:type_of%@Lib.run_eql_slice_nil:=@Lib.run_eql_slice_nil
theorem tw:type_of%@List.pairwise_iff_getElem:=@List.pairwise_iff_getElem
theorem tx:type_of%@Option.map_some:=@Option.map_some
theorem tz:type_of%@Lib.toList_data:=@Lib.toList_data
theorem tA:type_of%@Bool.eq_iff_iff:=@Bool.eq_iff_iff
theorem tB:type_of%@Nat.zero_mul:=@Nat.zero_mul
theorem tC:type_of%@List.map_map:=@List.map_map
theorem tD:type_of%@decide_eq_true_eq:=@decide_eq_true_eq
theorem tE:type_of%@DataW.trod_string:=@DataW.trod_string
theorem tF:type_of%@List.length_dropLast:=@List.length_dropLast
theorem tG:type_of%@Array.replicate_zero:=@Array.replicate_zero
theorem tH:type_of%@Array.replicate_succ:=@Array.replicate_succ
theorem tJ:type_of%@World.size_setCell:=@World.size_setCell
theorem tK:type_of%@World.ownsRow.lt:=@World.ownsRow.lt
theorem tL:type_of%@World.ownsRow.alloc:=@World.ownsRow.alloc
theorem tM:type_of%@heap_alloc_new:=@heap_alloc_new
theorem tN:type_of%@Nat.le_succ:=@Nat.le_succ
theorem tP:type_of%@List.getElem?_eq_none:=@List.getElem?_eq_none
theorem oM{p:Prop}(h:p:=by omega):p:=h
theorem oS{p:Prop}(h:p:=by simp):p:=h
theorem oD{p:Prop}(h:p:=by decide):p:=h
theorem oK{p:Prop}(h:p:=by kernel_rfl):p:=h
section
variable {P:Program} (w:World)
theorem bm(row:Option Nat):w.grownBy w row:=⟨rfl,rfl,rfl,rP _,λ_ _ _=>rfl⟩
theorem QJ(base:Nat)(t J e:TypeId)(i:TypeInfo)(z:Value)(size Z:Nat)(H:P.underlying t=some (.slice e))(ab:P.info? e=some i)(al:i.zero=some z)
 (ao:i.size=size) (ap:i.bytes=Z) (ar:z.cells.size=size) (aw:0<size)
 (v:Value) (n:Nat) (xs:List Value) (ad:w.ownsRow base e size v n xs)
 (a:Option Addr) (m c:Nat) (G:List Value) (ak:G.length=m*size) (az:(a=none/\m=0)\/∃O,a=some O/\∀j u,G[j]? =some u->w.cell? (O.add j)=some u) (aA:∀u∈G,u.oneCell'=true)
 (a1:n+m<=maxLen) (a6:(n+m)*Z<=140737488355328) (a7:base<=w.heap.size):
 ∃I w',(Builtin.append_ #[t,t] J #[v,.slice a m c]).run P w=.ok I w'/\w'.ownsRow base e size I (n+m) (xs++G)/\w.grownBy w' v.ownBlock/\
  (I.ownBlock=v.ownBlock\/I.ownBlock=some w.heap.size):=by
 rcases az with⟨rfl,rfl⟩|⟨O,rfl,a8⟩
 .obtain rfl:G=[]:=R0<|by simpa using ak
  refine⟨v,w,?_,by simpa using ad,bm w _,.inl rfl⟩;rcases ad.2 with⟨rfl,_⟩|⟨g,cap,bb,rfl,_,_,ba,_⟩
  .exact run_append_nothing w t t J e i H ab none 0 0 (rP _) _<|Src.ofNil w H c
  .exact run_append_nothing w t t J e i H ab (some ⟨g,0,none⟩) n cap ba _<|Src.ofNil w H c
 .obtain⟨I,w',bd,be,bf,_,bg⟩:=run_append_own_at (P:=P) w base t J e i z size Z H ab al ao ap ar aw v n xs ad O m c G ak a8 aA a1 a6 a7
  grind
theorem QK{a:Act}{K:Act->World->Prop}(s x:Operand)(t:TypeId)
 (Z:o.op=.call {callee:=.builtin .append,args:=#[s,x],argTypes:=#[t,t]})
 (base:Nat) (e:TypeId) (i:TypeInfo) (z:Value) (size J:Nat) (ab:P.underlying t=some (.slice e)) (ad:P.info? e=some i) (ak:i.zero=some z)
 (al:i.size=size) (ao:i.bytes=J) (ap:z.cells.size=size) (ar:0<size)
 (v:Value) (n:Nat) (xs:List Value) (aw:a.eval s=v) (az:w.ownsRow base e size v n xs)
 (I:Option Addr) (m c:Nat) (H:List Value) (hx:a.eval x=.slice I m c) (aA:H.length=m*size) (a1:(I=none/\m=0)\/∃O,I=some O/\∀j u,H[j]? =some u->w.cell? (O.add j)=some u) (a6:∀u∈H,u.oneCell'=true)
 (a7:n+m<=maxLen) (a8:(n+m)*J<=140737488355328) (ba:base<=w.heap.size)
 (h:∀G w',w'.ownsRow base e size G (n+m) (xs++H)->w.grownBy w' v.ownBlock->(G.ownBlock=v.ownBlock\/G.ownBlock=some w.heap.size)->K (a.put o.dst G) w'):o.wp P a w K Q:=by
 obtain⟨G,w',bb,bd,be,bf⟩:=QJ (P:=P) w base t o.type e i z size J ab ad ak al ao ap ar v n xs az I m c H aA a1 a6 a7 a8 ba;unfold Oper.wp execOp;simp only[Z,resolve,invoke,builtin,Sem.run_bind,Sem.run_pure,Result.andThen_ok,List.map_toArray,CB,List.map_nil,aw,hx,bb];exact h G w' bd be bf
theorem DP{O:Array Oper}{rM:List Oper}{a:Act}(ab:o.guard=none)(s x:Operand)(t:TypeId)
 (ad:o.op=.call {callee:=.builtin .append,args:=#[s,x],argTypes:=#[t,t]})
 (base:Nat) (e:TypeId) (i:TypeInfo) (z:Value) (size J:Nat) (ak:P.underlying t=some (.slice e)) (al:P.info? e=some i) (ao:i.zero=some z)
 (ap:i.size=size) (ar:i.bytes=J) (aw:z.cells.size=size) (az:0<size)
 (v:Value) (n:Nat) (xs:List Value) (aA:a.eval s=v) (a1:w.ownsRow base e size v n xs)
 (I:Option Addr) (m c:Nat) (H:List Value) (hx:a.eval x=.slice I m c) (a6:H.length=m*size) (a7:(I=none/\m=0)\/∃Z,I=some Z/\∀j u,H[j]? =some u->w.cell? (Z.add j)=some u) (a8:∀u∈H,u.oneCell'=true)
 (ba:n+m<=maxLen) (bb:(n+m)*J<=140737488355328) (bd:base<=w.heap.size)
 (h:∀G w',w'.ownsRow base e size G (n+m) (xs++H)->w.grownBy w' v.ownBlock->(G.ownBlock=v.ownBlock\/G.ownBlock=some w.heap.size)->wpList P O Q rM (a.put o.dst G) w'):wpList P O Q (o::rM) a w:=
 wpList_plain ab λ_ be=>QK w s x t ad base e i z size J ak al ao ap ar aw az v n xs aA a1 I m c H hx a6 a7 a8 ba bb bd λG w' bf bg bi=>be _ _<|h G w' bf bg bi
end
theorem Jm{size:Nat}(h:w.ownsRow base e size v n xs):
 ∃a cap,v=.slice a n cap/\n<=cap/\cap<=maxLen/\((a=none/\n=0/\xs=[]/\cap=0)\/∃g G,a=some ⟨g,0,none⟩/\base<=g/\w.heap[g]? =some (.cells G e (0,0))/\G.size=cap*size/\G.toList.take (n*size)=xs):=by
 rcases h.2 with⟨rfl,rfl⟩|⟨g,cap,G,rfl,hb,H,I,J,O,hx⟩
 .exact⟨none,0,rfl,rP _,N7 _,.inl ⟨rfl,rfl,R0 (by simpa using h.1),rfl⟩⟩
 all_goals grind
theorem Iu{g:Nat}{G:Array Value}(H:w.heap[g]? =some (.cells G e (0,0)))(hx:G.toList.take k=xs){u:Value}(I:xs[i]? =some u):w.cell? ⟨g,i,none⟩=some u:=by grind [World.cell?]
section
variable {P:Program} (w:World)
theorem TY{O:Array Oper}{a:Act}{K:Act->World->Prop}{E:Prop}(ab:o.guard=none)(s x:Operand)(t:TypeId)
 (ad:o.op=.call {callee:=.builtin .append,args:=#[s,x],argTypes:=#[t,t]})
 (base:Nat) (e:TypeId) (i:TypeInfo) (z:Value) (size J:Nat) (ak:P.underlying t=some (.slice e)) (al:P.info? e=some i) (ao:i.zero=some z)
 (ap:i.size=size) (ar:i.bytes=J) (aw:z.cells.size=size) (az:0<size)
 (v:Value) (n:Nat) (xs:List Value) (aA:a.eval s=v) (a1:w.ownsRow base e size v n xs)
 (H:Option Addr) (m c:Nat) (G:List Value) (hx:a.eval x=.slice H m c) (a6:G.length=m*size) (a7:(H=none/\m=0)\/∃Z,H=some Z/\∀j u,G[j]? =some u->w.cell? (Z.add j)=some u) (a8:∀u∈G,u.oneCell'=true)
 (ba:n+m<=maxLen) (bb:(n+m)*J<=140737488355328) (bd:base<=w.heap.size)
 (h:∀I w',w'.ownsRow base e size I (n+m) (xs++G)->w.grownBy w' v.ownBlock->(I.ownBlock=v.ownBlock\/I.ownBlock=some w.heap.size)->K (a.put o.dst I) w'):
 if Region.wanted o (yielded O a.tmps)=true then Oper.wp P o a w K Q else E:=by
 have be:Region.wanted o (yielded O a.tmps)=true:=by simp[Region.wanted,ab]
 rw[NS be];exact QK w s x t ad base e i z size J ak al ao ap ar aw az v n xs aA a1 H m c G hx a6 a7 a8 ba bb bd h
end
abbrev iN(x:Int):Value:=.int .i64 x
abbrev aD(b o:Nat):Addr:=⟨b,o,none⟩
abbrev pO(b o:Nat):Value:=.pointer<|some ⟨b,o,none⟩
abbrev sL(b o n c:Nat):Value:=.slice (some ⟨b,o,none⟩) n c
abbrev nL:Value:=.slice none 0 0
abbrev cL(f:FuncId)(a:Array Value)(w:World)(R:Ending->World->Prop):Prop:=Calls prog f a w R
abbrev Fz(w:World)(b o:Nat):Prop:=w.frozen? ⟨b,o,none⟩=false
theorem bN{o:Obj}:Below w.heap.size w<|w.alloc o:=(NB _ _).alloc (rP _) _
theorem aC{cs:Array Value}{t:TypeId}:(w.alloc<|.cells cs t).cell? ⟨w.heap.size,i,none⟩=cs[i]?:=rO _ _ _ _ rfl
theorem bL{a:Addr}(h:w.cell? a=some v):a.block<w.heap.size:=NF _ _ h
theorem Aq{α:Type}(x:α):∃y,Hid<|x=y:=⟨_,rfl⟩
def Iz(n:Int):Bool:=((((decide (97<=n)&&decide (n<=122))||(decide (48<=n)&&decide (n<=57)))||n==46)||n==95)||n==45
def J3(l:List UInt8):Bool:=((((!l.isEmpty)&&decide (l.length<=12))&& !(l==[46]))&& !(l==[46,46]))&&l.all (λb=>Iz (b.toNat:Int))
def Bf(s:BA):Bool:=J3 s.data.toList
def L8(l:List UInt8):Int:=if J3 (l.drop 2)=true then(if l.take 2=[117,46]then 1 else if l.take 2=[116,46]then 2 else 0)else 0
def DX(s:BA):Int:=L8 s.data.toList
theorem dc(l:List UInt8)(h:l=[]):Lib.index l [46]=-1:=by subst h;simp[Lib.index]
theorem fR(l:List UInt8):Lib.index (46::l) [46]=0:=by rw[Lib.index];simp[List.isPrefixOf]
theorem lG(b:UInt8)(l:List UInt8)(h:b≠46):Lib.index (b::l) [46]=if Lib.index l [46]==-1 then-1 else Lib.index l [46]+1:=by
 have G:([46]:List UInt8).isPrefixOf (b::l)=false:=by simp[List.isPrefixOf,Ne.symm h]
 rw[Lib.index,G];simp
theorem Ys(l:List UInt8):Lib.cut (46::l) [46]=([],l,true):=by
 unfold Lib.cut;rw[fR];simp
theorem Y2(b:UInt8)(l:List UInt8)(h:b≠46):(Lib.cut (b::l) [46]).1=b::(Lib.cut l [46]).1/\(Lib.cut (b::l) [46]).2.1=(Lib.cut l [46]).2.1:=by
 have I:=Lib.index_ge l [46];unfold Lib.cut;rw[lG b l h];by_cases G:Lib.index l [46]=-1
 .grind
 .obtain⟨j,H⟩:∃j:Nat,Lib.index l [46]=j:=⟨(Lib.index l [46]).toNat,by omega⟩
  have hb:(Lib.index l [46]==-1)=false:=by simpa using G
  rw[hb,H];simp only[Bool.false_eq_true,if_false];rw[NS oM,NS oM];simp_all
theorem gU(l:List UInt8):L8 l=if J3 (Lib.cut l [46]).2.1=true then(if(Lib.cut l [46]).1=[117]then 1 else if(Lib.cut l [46]).1=[116]then 2 else 0)else 0:=by
 have n0:J3 []=false:=rfl;have c0:Lib.cut [] [46]=([],[],false):=by unfold Lib.cut;rw[dc [] rfl];rfl
 match l with
 |[]=>rw[c0];rfl
 |a::l=>
  by_cases G:a=46
  .grind [Ys,L8]
  .obtain⟨H,I⟩:=Y2 a l G
   rw[H,I];match l with
   |[]=>rw[c0];unfold L8;simp[n0]
   |b::r=>
    grind [Ys,L8,Y2]
structure Kv where
 n:BA
 v:BA
def Br(a b:BA):Bool:=Op.bytesLess a.toList b.toList
theorem UD:∀l:List UInt8,Op.bytesLess l l=false
 |[]=>rfl
 |a::l=>by simp[Op.bytesLess,UD l]
theorem Vi:∀{x y z:List UInt8},Op.bytesLess x y=true->Op.bytesLess y z=true->Op.bytesLess x z=true
 |_,[],_,h,_=>by simp[Op.bytesLess]at h
 |_,_::_,[],_,h=>by simp[Op.bytesLess]at h
 |[],_::_,_::_,_,_=>rfl
 |a::x,b::y,c::z,H,G=>by
  simp only[Op.bytesLess,Bool.or_eq_true,Bool.and_eq_true,tD,beq_iff_eq]at H G⊢;rcases H with H|⟨rfl,H⟩
  .rcases G with G|⟨rfl,G⟩
   .exact .inl<|UInt8.lt_trans H G
   .exact .inl H
  .rcases G with G|⟨rfl,G⟩
   .exact .inl G
   .exact .inr ⟨rfl,Vi H G⟩
theorem U3:∀x y:List UInt8,Op.bytesLess x y=true\/x=y\/Op.bytesLess y x=true
 |[],[]=>.inr<|.inl rfl
 |[],_::_=>.inl rfl
 |_::_,[]=>.inr<|.inr rfl
 |a::x,b::y=>by
  simp only[Op.bytesLess,Bool.or_eq_true,Bool.and_eq_true,tD,beq_iff_eq];rcases U3 x y with h|h|h
  .rcases UInt8.lt_or_lt_of_ne|>λf=>(Decidable.em<|a=b).imp_right f with e|e|e
   .exact .inl<|.inr ⟨e,h⟩
   .exact .inl<|.inl e
   .exact .inr<|.inr<|.inl e
  .rcases UInt8.lt_or_lt_of_ne|>λf=>(Decidable.em<|a=b).imp_right f with e|e|e
   .exact .inr<|.inl<|by rw[e,h]
   .exact .inl<|.inl e
   .exact .inr<|.inr<|.inl e
  .rcases UInt8.lt_or_lt_of_ne|>λf=>(Decidable.em<|a=b).imp_right f with e|e|e
   .exact .inr<|.inr<|.inr ⟨e.symm,h⟩
   .exact .inl<|.inl e
   .exact .inr<|.inr<|.inl e
theorem ME{x y:BA}(h:x.toList=y.toList):x=y:=by
 rw[tz,tz]at h;have:x.data=y.data:=by
  simp_all
 cases x;cases y;simpa using this
theorem Lw(a:BA):Br a a=false:=UD _
theorem IV{a b c:BA}(G:Br a b=true)(H:Br b c=true):Br a c=true:=Vi G H
theorem Kt(a b:BA):Br a b=true\/a=b\/Br b a=true:=by
 rcases U3 a.toList b.toList with h|h|h
 .exact .inl h
 .grind [ME]
 .exact .inr<|.inr h
theorem Rr{a b:BA}(h:Br a b=true):Br b a=false:=by grind [IV,Lw]
theorem Np{a b:BA}(h:Br a b=true):a≠b:=by grind [Lw]
theorem SP(a b:BA):(Op.bytesLess a.toList b.toList||a.toList==b.toList)= !(Br b a):=by grind [Kt,Rr,Br]
def FH(l:List Kv)(k:Nat):Int:=match l[k]? with
 |none=>0
 |some x=>if DX x.n=0 then 4 else if 20<x.v.size then 1 else match k with
  |0=>0
  |j+1=>match l[j]? with
   |none=>0
   |some p=>if Br p.n x.n=true then 0 else 3
def aF(l:List Kv)(k:Nat):Nat->Int
 |0=>0
 |n+1=>if FH l k=0 then aF l (k+1) n else FH l k
def Ea(l:List Kv):Int:=if 4<l.length then 2 else aF l 0 l.length
theorem Zx{l:List Kv}(h:FH l k=0):aF l k (n+1)=aF l (k+1) n:=by simp[aF,h]
theorem ST{l:List Kv}(h:¬FH l k=0):aF l k (n+1)=FH l k:=by simp[aF,h]
theorem QS{l:List Kv}{x:Kv}(hx:l[k]? =some x)(h:DX x.n=0):FH l k=4:=by simp[FH,hx,h]
theorem QV{l:List Kv}{x:Kv}(hx:l[k]? =some x)(h:DX x.n≠0)(G:20<x.v.size):FH l k=1:=by simp[FH,hx,h,G]
theorem Ut{l:List Kv}{x:Kv}(hx:l[0]? =some x)(h:DX x.n≠0)(G:¬20<x.v.size):FH l 0=0:=by grind [FH]
theorem Ri{l:List Kv}{j:Nat}{x p:Kv}(hx:l[j+1]? =some x)(G:l[j]? =some p)(h:DX x.n≠0)(H:¬20<x.v.size):FH l (j+1)=if Br p.n x.n=true then 0 else 3:=by grind [FH]
theorem ci(l:List Kv)(k:Nat):0<=FH l k/\FH l k<=4:=by grind [FH]
theorem Xh(l:List Kv):∀n k,0<=aF l k n/\aF l k n<=4
 |0,_=>by simp[aF]
 |n+1,k=>by
  unfold aF;split
  .exact Xh l n<|k+1
  .exact ci l k
theorem Vn(l:List Kv):0<=Ea l/\Ea l<=4:=by
 unfold Ea;split
 .decide
 .exact Xh l _ _
def JC(l:List Kv):Prop:=l.length<=4/\(∀x∈l,DX x.n≠0/\x.v.size<=20)/\l.Pairwise (λp x=>Br p.n x.n=true)
theorem mW(l:List Kv):∀n k,aF l k n=0↔∀j,k<=j->j<k+n->FH l j=0:=by intro n k;induction n generalizing k<;>grind [aF]
theorem Uz:∀{l:List Kv},(∀j p x,l[j]? =some p->l[j+1]? =some x->Br p.n x.n=true)->l.Pairwise (λp x=>Br p.n x.n=true)
 |[],_=>List.Pairwise.nil
 |[_],_=>by simp
 |a::b::l,h=>by
  have G:(b::l).Pairwise λp x=>Br p.n x.n=true:=Uz λj p x I J=>h (j+1) p x (by simpa using I) (by simpa using J);have H:Br a.n b.n=true:=h 0 a b rfl rfl
  refine CK.2 ⟨?_,G⟩;intro x hx;rcases R1.1 hx with rfl|hx
  .exact H
  .exact IV H<|(CK.1 G).1 x hx
theorem Wo(l:List Kv):Ea l=0↔JC l:=by
 unfold Ea JC;by_cases G:4<l.length
 .grind
 .rw[NO G,mW]
  constructor
  .grind [R7,QS,QV,Uz,Ri]
  .rintro⟨_,H,J⟩ j _ O
   obtain⟨x,hx⟩:∃x,l[j]? =some x:=⟨l[j]' oM,NA _⟩;obtain⟨I,Z⟩:=H x<|NW hx;match j with
   |0=>exact Ut hx I oM
   |i+1=>
    obtain⟨p,ab⟩:∃p,l[i]? =some p:=⟨l[i]' oM,NA _⟩;grind [Ri,tw.1]
abbrev AR:=Addr->Option Value
def AW(c G:AR):Prop:=∀q v,c q=some v->G q=some v
theorem AW.trans{a b c:AR}(h:AW a b)(k:AW b c):AW a c:=λq v e=>k q v<|h q v e
theorem Ai(hb:Below w.heap.size w w'):AW w.cell? w'.cell?:=λ_ _ h=>(hb.cell<|NF _ _ h).trans h
def I9(c:AR)(b:Nat):AR:=λq=>if q.block=b then none else c q
theorem Sz(c:AR)(b:Nat):AW (I9 c b) c:=λq v h=>by
 unfold I9 at h;split at h
 .cases h
 .exact h
theorem X7{c:AR}(h:q.block≠b):I9 c b q=c q:=by unfold I9;rw[NO h]
def Bg(c:AR)(a:Option Addr)(l:List Kv):Prop:=
 l=[]\/∃b G,a=some ⟨b,G,none⟩/\∀k x,l[k]? =some x->c ⟨b,G+k*2,none⟩=some (.string x.n)/\c ⟨b,G+k*2+1,none⟩=some (.string x.v)
theorem Bg.on{c G:AR}{l:List Kv}(h:Bg c a l)(hb:AW c G):Bg G a l:=by
 rcases h with h|⟨b,J,O,H⟩
 .exact .inl h
 .exact .inr ⟨b,J,O,λk x I=>⟨hb _ _ (H k x I).1,hb _ _ (H k x I).2⟩⟩
theorem Bg.below{l:List Kv}(h:Bg w.cell? a l)(hb:Below w.heap.size w w'):Bg w'.cell? a l:=h.on<|Ai hb
def I7(x:Kv):Bool:=decide (x.n.size<=60)&&decide (x.v.size<=60)
def Hi(l:List Kv):Bool:=decide (l.length<=8)&&l.all I7
inductive Nd where
 |mk (k m u g:Int) (o:Bool) (rL:List Kv) (d:BA) (ks:List<|BA×Nd)
abbrev Ay:=List<|BA×Nd
def Nd.kids:Nd->Ay
 |.mk _ _ _ _ _ _ _ ks=>ks
structure Hd where
 aa:Option Addr
 ca:Nat
 ak:Option Addr
 ck:Nat
def Bq:Nd->Hd->List Value
 |.mk k m u g o rL d ks,h=>[.int .i64 k,.int .i64 m,.int .i64 u,.int .i64 g,.bool o,.slice h.aa rL.length h.ca,.string d,.slice h.ak ks.length h.ck]
def At:Nd->Hd->Value
 |.mk k m u g o rL d ks,h=>.agg #[.int .i64 k,.int .i64 m,.int .i64 u,.int .i64 g,.bool o,.slice h.aa rL.length h.ca,.string d,.slice h.ak ks.length h.ck]
def A9(c:AR)(b p:Nat):Nd->Hd->Prop
 |.mk k m u g o rL d ks,h=>c ⟨b,p,none⟩=some (.int .i64 k)/\c ⟨b,p+1,none⟩=some (.int .i64 m)/\c ⟨b,p+2,none⟩=some (.int .i64 u)/\c ⟨b,p+3,none⟩=some (.int .i64 g)/\
  c ⟨b,p+4,none⟩=some (.bool o)/\c ⟨b,p+5,none⟩=some (.slice h.aa rL.length h.ca)/\c ⟨b,p+6,none⟩=some (.string d)/\c ⟨b,p+7,none⟩=some (.slice h.ak ks.length h.ck)
theorem A9.on{c G:AR}{x:Nd}{h:Hd}(H:A9 c b p x h)(hb:AW c G):A9 G b p x h:=by
 obtain⟨k,m,u,g,o,rL,d,ks⟩:=x;obtain⟨I,J,O,Z,ab,ad,ak,al⟩:=H;exact⟨hb _ _ I,hb _ _ J,hb _ _ O,hb _ _ Z,hb _ _ ab,hb _ _ ad,hb _ _ ak,hb _ _ al⟩
def Ep(c:AR)(b p:Nat)(n:BA)(x:Nd)(h:Hd):Prop:=c ⟨b,p,none⟩=some (.string n)/\A9 c b (p+1) x h
theorem Ep.on{c G:AR}{n:BA}{x:Nd}{h:Hd}(H:Ep c b p n x h)(hb:AW c G):Ep G b p n x h:=⟨hb _ _ H.1,H.2.on hb⟩
inductive Am (c:AR):Nd->Hd->Prop
 |mk {k m u g:Int} {o:Bool} {rL:List Kv} {d:BA} {ks:Ay} {h:Hd} (b off:Nat) (f:Nat->Hd) (ha:Bg c h.aa rL) (hca:rL.length<=h.ca/\h.ca<=9223372036854775807) (hck:ks.length<=h.ck/\h.ck<=9223372036854775807)
  (hak:ks=[]\/h.ak=some ⟨b,off,none⟩) (hc:∀i n x,ks[i]? =some (n,x)->Ep c b (off+i*9) n x (f i)) (hr:∀i n x,ks[i]? =some (n,x)->Am c x (f i)):Am c (.mk k m u g o rL d ks) h
theorem Am.on{c G:AR}{x:Nd}{h:Hd}(H:Am c x h)(hb:AW c G):Am G x h:=by
 induction H with
 |mk b I f J O Z ab ad _ ak=>exact .mk b I f (J.on hb) O Z ab (λi n x al=>(ad i n x al).on hb) ak
def FQ(c:AR)(a:Option Addr)(ks:Ay):Prop:=
 ks=[]\/∃b G,a=some ⟨b,G,none⟩/\∃f:Nat->Hd,∀i n x,ks[i]? =some (n,x)->Ep c b (G+i*9) n x (f i)/\Am c x (f i)
theorem FQ.on{c G:AR}{ks:Ay}(h:FQ c a ks)(hb:AW c G):FQ G a ks:=by
 rcases h with h|⟨b,J,O,f,H⟩
 .exact .inl h
 .exact .inr ⟨b,J,O,f,λi n x I=>⟨(H i n x I).1.on hb,(H i n x I).2.on hb⟩⟩
theorem Cs{c:AR}{k m u g:Int}{o:Bool}{rL:List Kv}{d:BA}{ks:Ay}{h:Hd}:
 Am c (.mk k m u g o rL d ks) h↔Bg c h.aa rL/\(rL.length<=h.ca/\h.ca<=9223372036854775807)/\(ks.length<=h.ck/\h.ck<=9223372036854775807)/\FQ c h.ak ks:=by
 constructor
 .intro ab
  cases ab with
  |mk b O f H I J ad ak al=>
   refine⟨H,I,J,?_⟩;rcases ad with e|e
   .exact .inl e
   .exact .inr ⟨b,O,e,f,λi n x G=>⟨ak i n x G,al i n x G⟩⟩
 .rintro⟨H,I,J,ao⟩
  rcases ao with e|⟨b,O,e,f,Z⟩
  .subst e
   exact .mk 0 0 (λ_=>h) H I J (.inl rfl) (λi n x G=>by simp at G) (λi n x G=>by simp at G)
  .exact .mk b O f H I J (.inr e) (λi n x G=>(Z i n x G).1) λi n x G=>(Z i n x G).2
theorem A9.below{x:Nd}{h:Hd}(G:A9 w.cell? b p x h)(hb:Below w.heap.size w w'):A9 w'.cell? b p x h:=G.on<|Ai hb
theorem Ep.below{n:BA}{x:Nd}{h:Hd}(G:Ep w.cell? b p n x h)(hb:Below w.heap.size w w'):Ep w'.cell? b p n x h:=G.on<|Ai hb
theorem Am.ab{x:Nd}{h:Hd}(G:Am w.cell? x h)(hb:Below w.heap.size w w'):Am w'.cell? x h:=Am.on G<|Ai hb
theorem FQ.below{ks:Ay}(h:FQ w.cell? a ks)(hb:Below w.heap.size w w'):FQ w'.cell? a ks:=FQ.on h<|Ai hb
def IL:Nd->Nat
 |.mk _ _ _ _ _ _ _ ks=>depL ks+1
 where depL:Ay->Nat
 |[]=>0
 |(_,x)::l=>max (IL x)<|depL l
theorem Wg:∀{ks:Ay} {i:Nat} {n:BA} {x:Nd},ks[i]? =some (n,x)->IL x<=IL.depL ks
 |[],_,_,_,h=>by simp at h
 |(m,y)::l,0,n,x,h=>by simp at h;rw[IL.depL,h.2];omega
 |(m,y)::l,i+1,n,x,h=>by have:=Wg (ks:=l) (i:=i) (by simpa using h);rw[IL.depL];omega
theorem ni{k m u g:Int}{o:Bool}{rL:List Kv}{d:BA}{ks:Ay}{n:BA}{x:Nd}(h:ks[i]? =some (n,x)):IL x<IL (.mk k m u g o rL d ks):=by
 have:=Wg h;rw[IL];omega
theorem dA{c:AR}{l G:List Kv}(h:Bg c a l)(h':Bg c a G)(I:l.length=G.length):l=G:=by
 rcases h with rfl|⟨b,Z,rfl,J⟩
 .exact(R0<|by simpa using I.symm).symm
 rcases h' with rfl|⟨ab,ad,e,O⟩
 .exact R0<|by simpa using I
 simp only[RV,Cj]at e;obtain⟨rfl,rfl,_⟩:=e;refine List.ext_getElem I λi ak al=>?_;obtain⟨p0,p1⟩:=J i l[i]<|NA _
 obtain⟨H,q1⟩:=O i G[i]<|NA _;rw[p0]at H;rw[p1]at q1
 simp only[RV,Value.string.injEq]at H q1;cases hx:l[i];cases hy:G[i]
 rw[hx,hy]at H q1;simp only at H q1;rw[H,q1]
theorem fM{c:AR}{x:Nd}{h:Hd}(a1:Am c x h):∀{y:Nd} {h':Hd} {b p:Nat},A9 c b p x h->A9 c b p y h'->Am c y h'->x=y:=by
 induction a1 with
 |@mk k m u g o rL d ks h bl bn f a6 bo bp H a7 bq a8=>
  intro y h' b p hx ba bb;cases bb with
  |@mk bs bu bx bA bB bC bF G h' bG bH bY az b0 b1 I bd be=>
   obtain⟨a0,bf,a2,a3,a4,a5,bg,bi⟩:=hx;obtain⟨J,O,Z,ab,ad,ak,al,ao⟩:=ba;rw[a0]at J;rw[bf]at O;rw[a2]at Z;rw[a3]at ab;rw[a4]at ad;rw[a5]at ak;rw[bg]at al;rw[bi]at ao
   simp only[RV,Value.int.injEq,Value.bool.injEq,Value.string.injEq,CH,true_and]at J O Z ab ad ak al ao;subst J O Z ab ad al;obtain⟨ea,el,_⟩:=ak;obtain⟨ap,ar,_⟩:=ao;rw[<-ea]at az;have:=dA a6 az el;subst this;have bk:ks=G:=by
    rcases H with rfl|H
    .exact(R0<|by simpa using ar.symm).symm
    rcases I with rfl|I
    .exact R0<|by simpa using ar
    rw[H,I]at ap;simp only[RV,Cj]at ap;obtain⟨rfl,rfl,_⟩:=ap;refine List.ext_getElem ar λi b2 b4=>?_;have g1:ks[i]? =some (ks[i].1,ks[i].2):=NA _
    have aA:G[i]? =some (G[i].1,G[i].2):=NA _;obtain⟨p0,p1⟩:=a7 i _ _ g1;obtain⟨aw,q1⟩:=bd i _ _ aA;have:=a8 i _ _ g1 p1 q1<|be i _ _ aA;rw[p0]at aw;simp only[RV,Value.string.injEq]at aw;exact Prod.ext aw this
   rw[bk]
theorem nJ{c H:AR}{y:Nd}{aw ab:Hd}(az:A9 c b p y aw)(bd:Am c y aw)(be:Am c y ab)(bY:A9 H b p y ab)
 (I:∀q,q≠⟨b,p+5,none⟩->q≠⟨b,p+7,none⟩->H q=c q):∀(N:Nat) (x:Nd) (h:Hd),IL x<=N->Am c x h->Am H x h:=by
 obtain⟨b0,b1,b2,b4,b6,b7,b9,ce⟩:=y;have K:=az;obtain⟨a0,cf,a2,a3,a4,a5,ch,cl⟩:=K;have J:∀q s,c q=some (.string s)->H q=some (.string s):=by
  intro q s O;rw[I q _ _,O];all_goals grind
 have ad:∀q s,c q=some (.int .i64 s)->H q=some (.int .i64 s):=by
  intro q s O;rw[I q _ _,O];all_goals grind
 have bf:∀q s,c q=some (.bool s)->H q=some (.bool s):=by
  intro q s O;rw[I q _ _,O];all_goals grind
 intro N;induction N with
 |zero=>intro x h hd;obtain⟨k,m,u,g,o,rL,d,ks⟩:=x;rw[IL]at hd;omega
 |succ N aA=>
  intro x h hd bg;cases bg with
  |@mk k m u g o rL d ks h ak Z f bi bk bl bn bo a1=>
   have bp:Bg H h.aa rL:=by
    rcases bi with e|⟨bq,bs,e,a6⟩
    .exact .inl e
    .exact .inr ⟨bq,bs,e,λi x G=>⟨J _ _ (a6 i x G).1,J _ _ (a6 i x G).2⟩⟩
   have bu:∀i n x,ks[i]? =some (n,x)->∃ao,Ep H ak (Z+i*9) n x ao/\Am H x ao:=by
    intro i n x G;have a7:IL x<=N:=by have:=ni (k:=k) (m:=m) (u:=u) (g:=g) (o:=o) (rL:=rL) (d:=d) G;omega
    obtain⟨a8,al⟩:=bo i n x G;by_cases ba:ak=b/\Z+i*9+1=p
    .obtain⟨ap,ar⟩:=ba
     have bb:=al;rw[ap,ar]at bb;have bx:=fM (a1 i n x G) bb az bd;refine⟨ab,⟨J _ _ a8,?_⟩,aA x ab a7 (by rw[bx];exact be)⟩;grind
    .refine⟨f i,⟨J _ _ a8,?_⟩,aA x (f i) a7<|a1 i n x G⟩
     generalize f i=ao at al;generalize Z+i*9+1=p1 at al ba;obtain⟨co,cr,cx,cD,cF,c3,c4,c5⟩:=x;obtain⟨bA,ap,ar,bB,bC,bF,bG,bH⟩:=al;refine⟨ad _ _ bA,ad _ _ ap,ad _ _ ar,ad _ _ bB,bf _ _ bC,?_,J _ _ bG,?_⟩
     .rw[I,bF]
      all_goals grind
     .rw[I,bH]
      all_goals grind
   obtain⟨F,hF⟩:∃F:Nat->Hd,∀i n x,ks[i]? =some (n,x)->Ep H ak (Z+i*9) n x (F i)/\Am H x (F i):=by
    refine⟨λi=>if G:i<ks.length then Classical.choose (bu i ks[i].1 ks[i].2<|NA G)else h,λi n x G=>?_⟩;grind
   exact .mk ak Z F bp bk bl bn (λi n x G=>(hF i n x G).1) λi n x G=>(hF i n x G).2
theorem Wx{c G:AR}{y:Nd}{H I:Hd}(J:A9 c b p y H)(O:Am c y H)(Z:Am c y I)(ab:A9 G b p y I)
 (ad:∀q,q≠⟨b,p+5,none⟩->q≠⟨b,p+7,none⟩->G q=c q) {x:Nd} {h:Hd} (hx:Am c x h):Am G x h:=nJ J O Z ab ad _ x h (rP _) hx
mutual
def FF:Nd->Int->Int
 |.mk _ _ _ _ _ rL d ks,left=>if left<=0\/Hi rL=false\/300<d.size\/left<(ks.length:Int)then 0 else ET ks (left-1)
def ET:List (BA×Nd)->Int->Int
 |[],left=>left
 |(n,x)::l,left=>if left<=0 then left else if 60<n.size then 0 else ET l (FF x left)
end
mutual
theorem VB:∀(x:Nd) (left:Int),FF x left<=max left 0
 |.mk _ _ _ _ _ rL d ks,left=>by
  rw[FF];split
  .omega
  .have:=Wa ks<|left-1;omega
theorem Wa:∀(l:List<|BA×Nd) (left:Int),ET l left<=max left 0
 |[],left=>by rw[ET];omega
 |(n,x)::l,left=>by
  rw[ET];split
  .omega
  .split
   .omega
   .have G:=Wa l<|FF x left
    have H:=VB x left;omega
end
theorem cC{l:List (BA×Nd)}{left:Int}(h:left<=0):ET l left=left:=by cases l<;>grind [ET]
theorem bZ{ks:List (BA×Nd)}{n:BA}{x:Nd}{left:Int}(G:ks[k]? =some (n,x))(h:0<left):ET (ks.drop k) left=if 60<n.size then 0 else ET (ks.drop<|k+1) (FF x left):=by grind [N9,ET]
mutual
def cnt:Nd->Nat
 |.mk _ _ _ _ _ _ _ ks=>cntL ks+1
def cntL:Ay->Nat
 |[]=>0
 |(_,x)::l=>cnt x+cntL l
end
mutual
def AI:Nd->Prop
 |.mk _ _ _ _ _ rL d ks=>(rL.length<=255/\∀r∈rL,r.n.size<=255/\r.v.size<=255)/\d.size<=300/\Co ks
def Co:Ay->Prop
 |[]=>True
 |(n,x)::l=>n.size<=255/\AI x/\Co l
end
theorem MV:∀{ks:Ay} {i:Nat} {n:BA} {x:Nd},Co ks->ks[i]? =some (n,x)->n.size<=255/\AI x:=by intro ks i n x;induction ks generalizing i n x<;>grind [Co]
theorem MS:∀{ks:Ay} {i:Nat} {n:BA} {x:Nd},ks[i]? =some (n,x)->cnt x<=cntL ks:=by intro ks i n x;induction ks generalizing i n x<;>grind [cntL]
theorem JV:∀ks:Ay,ks.length<=cntL ks
 |[]=>rP _
 |(n,.mk _ _ _ _ _ _ _ ks)::l=>by have:=JV l;rw[cntL,cnt];simp;omega
theorem fG{l:List Kv}(h:Hi l=true):l.length<=255/\∀r∈l,r.n.size<=255/\r.v.size<=255:=by grind [Hi,I7]
mutual
theorem VA:∀(x:Nd) (left:Int),0<FF x left->AI x/\(cnt x:Int)+FF x left<=left
 |.mk k m u g o rL d ks,left,h=>by
  rw[FF]at h⊢;by_cases G:left<=0\/Hi rL=false\/300<d.size\/left<(ks.length:Int)
  .rw[NS G]at h;omega
  .rw[NO G]at h⊢
   obtain⟨H,I⟩:=UN ks (left-1) h;have hb:Hi rL=true:=by cases hb:Hi rL with|true=>rfl|false=>exact absurd (.inr<|.inl hb) G
   refine⟨by rw[AI];exact⟨fG hb,by omega,H⟩,?_⟩;rw[cnt];omega
theorem UN:∀(l:Ay) (left:Int),0<ET l left->Co l/\(cntL l:Int)+ET l left<=left
 |[],left,h=>by rw[ET,Co,cntL];simp
 |(n,x)::l,left,h=>by
  rw[ET]at h⊢;by_cases G:left<=0
  .rw[NS G]at h;omega
  rw[NO G]at h⊢;by_cases H:60<n.size
  .rw[NS H]at h;omega
  rw[NO H]at h⊢;obtain⟨I,O⟩:=UN l _ h;have hx:0<FF x left:=by omega
  obtain⟨J,Z⟩:=VA x left hx;refine⟨by rw[Co];exact⟨by omega,J,I⟩,?_⟩;rw[cntL];omega
end
abbrev DB:List Value:=[.bool false,.int .i64 0,.int .i64 0,.int .i64 0,.bool false,.bool false,.int .i64 0,.int .i64 0,.int .i64 0,.bool false,.slice none 0 0,.bool false,.int .i64 0,.int .i64 0,.int .i64 0,.int .i64 0,.bool false,.slice none 0 0,.string ⟨#[]⟩,.slice none 0 0,.int .i64 0]
abbrev A2:Obj:=.cells #[.bool false,.int .i64 0,.int .i64 0,.int .i64 0,.bool false,.bool false,.int .i64 0,.int .i64 0,.int .i64 0,.bool false,.slice none 0 0,.bool false,.int .i64 0,.int .i64 0,.int .i64 0,.int .i64 0,.bool false,.slice none 0 0,.string ⟨#[]⟩,.slice none 0 0,.int .i64 0] 216
abbrev AO:Obj:=.cells #[.int .i64 0,.int .i64 0,.int .i64 0,.int .i64 0,.bool false,.slice none 0 0,.string ⟨#[]⟩,.slice none 0 0] 31
abbrev Qz:Obj:=.cells #[.int .i64 0,.int .i64 0,.int .i64 0,.int .i64 0,.int .i64 0,.slice none 0 0,.string ⟨#[]⟩] 52
abbrev Aw(k m u g:Int)(o:Bool)(rL:List Kv)(d:BA)(ks:List<|BA×Nd)(h:Hd):Obj:=.cells #[.int .i64 k,.int .i64 m,.int .i64 u,.int .i64 g,.bool o,.slice h.aa rL.length h.ca,.string d,.slice h.ak ks.length h.ck] 31
abbrev Ba(k m u g:Int)(o:Bool)(rL:List Kv)(d:BA)(ks:List<|BA×Nd)(h:Hd):Value:=.agg #[.int .i64 k,.int .i64 m,.int .i64 u,.int .i64 g,.bool o,.slice h.aa rL.length h.ca,.string d,.slice h.ak ks.length h.ck]
abbrev AY(cop:Int)(cpath coth cname cdata:BA)(cA cB:Int):Obj:=.cells #[.int .i64 cop,.string cpath,.string coth,.string cname,.string cdata,.int .i64 cA,.int .i64 cB] 35
abbrev Fr(cop:Int)(cpath coth cname cdata:BA)(cA cB:Int):Value:=.agg #[.int .i64 cop,.string cpath,.string coth,.string cname,.string cdata,.int .i64 cA,.int .i64 cB]
theorem hid{p:Prop}(h:p):Hid p:=h
theorem tk:(∀(a:Act) (t:Nat) (v:Value),a.put (some t) v={a with tmps:=a.tmps.setIfInBounds t v})/\(∀(l:List Value) (i:Nat) (v:Value),l.toArray.setIfInBounds i v=(l.set i v).toArray)/\(∀(x v:Value) (l:List Value),(x::l).set 0 v=v::l)/\∀(x v:Value) (l:List Value) (n:Nat),(x::l).set (n+1) v=x::l.set n v:=⟨λ_ _ _=>rfl,λl i v=>by simp,λ_ _ _=>rfl,λ_ _ _ _=>rfl⟩
abbrev Bw(w w':World):Prop:=Below w.heap.size w w'
abbrev sB(w:World)(b:Nat)(v0 v1 v2 v3 v4 v5 v6 v7:Value):World:=(((((((w.setCell ⟨b,0,none⟩ v0).setCell ⟨b,1,none⟩ v1).setCell ⟨b,2,none⟩ v2).setCell ⟨b,3,none⟩ v3).setCell ⟨b,4,none⟩ v4).setCell ⟨b,5,none⟩ v5).setCell ⟨b,6,none⟩ v6).setCell ⟨b,7,none⟩ v7
abbrev Bb:=Operand.tmp
abbrev Bp(p:String)(d:Option Tmp)(o:Op)(t:TypeId)(a:Array Edge)(g:Option<|Nat×Bool):Oper:=⟨d,o,t,p,a,g⟩
abbrev Bs(n:Nat):Edge:=⟨n,.data⟩
abbrev JK(n:Nat):Edge:=⟨n,.chain⟩
abbrev Da(n:Nat):Edge:=⟨n,.guard⟩
abbrev Bh(n:Nat):Edge:=⟨n,.phase⟩
abbrev DM(n:BA)(k m u g:Int)(o:Bool)(h:Hd)(a:List Kv)(d:BA)(ks:Ay):Obj:=.cells #[.string n,.int .i64 k,.int .i64 m,.int .i64 u,.int .i64 g,.bool o,.slice h.aa a.length h.ca,.string d,.slice h.ak ks.length h.ck] 92
abbrev EG:Obj:=.cells #[.int .i64 0,.int .i64 0,.slice none 0 0,.int .i64 0] 41
abbrev ER(u g:Int)(a:Option Addr)(n c:Nat)(k:Int):Obj:=.cells #[.int .i64 u,.int .i64 g,.slice a n c,.int .i64 k] 41
abbrev GA:Obj:=.cells #[.slice none 0 0,.slice none 0 0,.slice none 0 0] 117
abbrev Er(a:Option Addr)(n c:Nat)(e:Option Addr)(m d:Nat):Obj:=.cells #[.slice a n c,.slice e m d] 38
abbrev EE(b:Nat):Obj:=.cells #[.pointer<|some ⟨b,0,none⟩] 73
abbrev Bm(l:List Value):Obj:=.cells l.toArray 216
abbrev Lp(b o:Nat)(l:Int):Obj:=.cells #[.pointer<|some ⟨b,o,none⟩,.int .i64 l] 164
abbrev Ip(n v:BA):Obj:=.cells #[.string n,.string v] 148
abbrev E6(d:Bool)(m u g:Int)(p:Bool):Obj:=.cells #[.bool d,.int .i64 m,.int .i64 u,.int .i64 g,.bool p] 214
abbrev Fv(n:BA)(a:Option Addr)(l c:Nat):Obj:=.cells #[.string n,.slice a l c] 169
abbrev Fj(u g:Int)(a:Option Addr)(n c:Nat)(k:Int):Value:=.agg #[.int .i64 u,.int .i64 g,.slice a n c,.int .i64 k]
abbrev G7(a:Option Addr)(n c:Nat)(e:Option Addr)(m d:Nat):Value:=.agg #[.slice a n c,.slice e m d]
abbrev Gc(d:Bool)(m u g:Int)(p:Bool):Value:=.agg #[.bool d,.int .i64 m,.int .i64 u,.int .i64 g,.bool p]
abbrev GK:Value:=.agg #[.int .i64 0,.int .i64 0,.int .i64 0,.int .i64 0,.bool false,.slice none 0 0,.string ⟨#[]⟩,.slice none 0 0]
abbrev Ce(w:World)(b o:Nat)(v:Value):Prop:=w.cell? ⟨b,o,none⟩=some v
section
variable {P:Program} {md:Region.Mode} {ops:Array Oper} {Q:Exit->Act->World->Prop} {S:World->Prop}
theorem tI(i:Nat)(oi:Oper)(v:Value){fuel:Nat}{listed:Array Bool}{a:Act}(hS:S w)(h:wpAnyH P md ops Q S fuel (listed.setIfInBounds i true) (a.put oi.dst v) w)(hi:ops[i]? =some oi:=by rfl)(hs:Region.noSelect ops=true:=by kernel_rfl)(hf:Region.free md ops listed i=true:=by kernel_rfl)(hr:(Region.ready md ops listed).contains i=true:=by kernel_rfl)(hQ:∀c a w,Q (.panic c) (a.put oi.dst v) w->Q (.panic c) a w:=by exact λ_ _ _ h=>h)(hw:Region.wanted oi (yielded ops a.tmps)=true:=by rfl)(hv:∀w,S w->(execOp a.eval oi).run P w=.ok (.value v) w:=by intro w hw;(repeat(obtain⟨_,hw⟩:=hw));go_simp):wpAnyH P md ops Q S (fuel+1) listed a w:=
 RF hi hs hf hr hQ (Or.inl ⟨hw,hv⟩) hS h
theorem tO(i:Nat)(oi:Oper){fuel:Nat}{listed:Array Bool}{a:Act}(hS:S w)(h:wpAnyH P md ops Q S fuel (listed.setIfInBounds i true) (a.put oi.dst undef) w)(hi:ops[i]? =some oi:=by rfl)(hs:Region.noSelect ops=true:=by kernel_rfl)(hf:Region.free md ops listed i=true:=by kernel_rfl)(hr:(Region.ready md ops listed).contains i=true:=by kernel_rfl)(hQ:∀c a w,Q (.panic c) (a.put oi.dst undef) w->Q (.panic c) a w:=by exact λ_ _ _ h=>h)(hw:Region.wanted oi (yielded ops a.tmps)=false:=by rfl):wpAnyH P md ops Q S (fuel+1) listed a w:=
 RF hi hs hf hr hQ (Or.inr ⟨hw,rfl⟩) hS h
end
def DT(n:Int):Bool:=decide (0<=n)&&decide (n<=65535)
def Lh(k m u g:Int)(o:Bool)(la G H:Nat)(up I:Bool):Int:=
 if 200<G then 1 else if k=3/\(up=false\/0<m\/0<u\/0<g\/0<la)then 3 else if(0<G/\k≠1)\/(0<H/\k≠2)then 3 else if o=true/\(k≠2\/I=true\/up=false)then 3 else 0
def EQ(up G:Bool):Nd->Int
 |.mk k m u g o rL d ks=>if k<1\/3<k then 3 else if m<0\/4095<m\/DT u=false\/DT g=false then 1 else if Ea rL≠0 then Ea rL else Lh k m u g o rL.length d.size ks.length up G
theorem fI(k m u g:Int)(o:Bool)(la G H:Nat)(up I:Bool):0<=Lh k m u g o la G H up I/\Lh k m u g o la G H up I<=4:=by grind [Lh]
theorem fQ(up G:Bool)(x:Nd):0<=EQ up G x/\EQ up G x<=4:=by
 obtain⟨k,m,u,g,o,rL,d,ks⟩:=x;rw[EQ];have H:=Vn rL;have I:=fI k m u g o rL.length d.size ks.length up G;grind
def Ll:Option BA->BA->Bool
 |none,_=>true
 |some p,n=>Br p n
mutual
def DA(up:Bool):Nd->Nat->Nat->Int×Nat
 |.mk k m u g o rL d ks,deep,seen=>if 60<=seen\/6<deep then(2,seen)else if EQ up (decide (deep=0)) (.mk k m u g o rL d ks)≠0 then(EQ up (decide (deep=0))<|.mk k m u g o rL d ks,seen+1)else Dw up none ks (deep+1) (seen+1)
def Dw(up:Bool):Option BA->Ay->Nat->Nat->Int×Nat
 |_,[],_,seen=>(0,seen)
 |p,(n,x)::l,deep,seen=>if Bf n=false then(4,seen)else if Ll p n=false then(3,seen)else if(DA up x deep seen).1≠0 then DA up x deep seen else Dw up (some n) l deep (DA up x deep seen).2
end
def Dj(up:Bool):Nd->Int
 |.mk k m u g o rL d ks=>if k≠2 then 7 else(DA up (.mk k m u g o rL d ks) 0 0).1
mutual
theorem Vm(up:Bool):∀(x:Nd) (G H:Nat),H<=60->(0<=(DA up x G H).1/\(DA up x G H).1<=4)/\(DA up x G H).2<=60
 |.mk k m u g o rL d ks,G,H,hs=>by
  rw[DA];split
  .exact⟨by simp,by simp;omega⟩
  .rename_i h
   split
   .exact⟨(fQ up (decide (G=0)) (.mk k m u g o rL d ks):_),by simp;omega⟩
   .exact UU up none ks (G+1) (H+1) oM
theorem UU(up:Bool):∀(p:Option BA) (l:Ay) (G H:Nat),H<=60->(0<=(Dw up p l G H).1/\(Dw up p l G H).1<=4)/\(Dw up p l G H).2<=60
 |p,[],G,H,hs=>by rw[Dw];exact⟨by simp,hs⟩
 |p,(n,x)::l,G,H,hs=>by
  rw[Dw];have I:=Vm up x G H hs;split
  .exact⟨by simp,hs⟩
  .split
   .exact⟨by simp,hs⟩
   .split
    .exact I
    .exact UU up (some n) l G _ I.2
end
def GT(ks:Ay):Nat->Option BA
 |0=>none
 |j+1=>(ks[j]?).map (·.1)
theorem gm{up:Bool}{ks:Ay}{j:Nat}{n:BA}{x:Nd}{H G:Nat}(h:ks[j]? =some (n,x)):
 Dw up (GT ks j) (ks.drop j) H G=if Bf n=false then(4,G)else if Ll (GT ks j) n=false then(3,G)else if(DA up x H G).1≠0 then DA up x H G else Dw up (GT ks<|j+1) (ks.drop<|j+1) H (DA up x H G).2:=by grind [GT,N9,Dw]
def BV(m:BA):Ay->Nat->Int
 |[],_=>-1
 |p::l,i=>if p.1=m then(i:Int)else BV m l (i+1)
def JE(m:BA):Nd->Int
 |.mk k _ _ _ _ _ _ ks=>if k=2 then BV m ks 0 else-1
theorem KE(m:BA):∀(ks:Ay) (i:Nat),(BV m ks i=-1/\∀p∈ks,p.1≠m)\/∃j x,BV m ks i=((i+j:Nat):Int)/\ks[j]? =some (m,x)/\∀q,q<j->∀p,ks[q]? =some p->p.1≠m
 |[],i=>.inl ⟨by rw[BV],by simp⟩
 |p::l,i=>by
  rw[BV];by_cases h:p.1=m
  .rw[NS h]
   refine .inr ⟨0,p.2,by simp,by simp[<-h],λq O=>by omega⟩
  .rw[NO h]
   rcases KE m l (i+1)with⟨H,I⟩|⟨j,x,H,I,Z⟩
   .refine .inl ⟨H,?_⟩
    intro J G;rcases R1.1 G with e|e
    .rw[e];exact h
    .exact I J e
   .refine .inr ⟨j+1,x,by rw[H];congr 1;omega,by simpa using I,?_⟩
    intro q O J G;cases q with
    |zero=>simp at G;rw[<-G];exact h
    |succ q=>exact Z q oM J<|by simpa using G
def Fg(m:BA)(ks:Ay):Nat:=ks.findIdx λp=>Br m p.1
theorem nN(m:BA)(ks:Ay):Fg m ks<=ks.length:=List.findIdx_le_length
def NQ(m:BA)(x:Nd)(ks:Ay):Ay:=
 if BV m ks 0<0 then ks.take (Fg m ks)++(m,x)::ks.drop (Fg m ks)else ks.take (BV m ks 0).toNat++(m,x)::ks.drop ((BV m ks 0).toNat+1)
def NN(m:BA)(ks:Ay):Ay:=ks.take (BV m ks 0).toNat++ks.drop ((BV m ks 0).toNat+1)
def J2(c:Option Nd)(m:BA)(ks:Ay):Except Int Ay:=match c with
 |some x=>if Bf m=false then .error 4 else .ok (NQ m x ks)
 |none=>if BV m ks 0<0 then .error 5 else .ok (NN m ks)
def Nd.with:Nd->Ay->Nd
 |.mk k m u g o rL d _,ks=>.mk k m u g o rL d ks
def Nd.kind:Nd->Int
 |.mk k _ _ _ _ _ _ _=>k
def Nd.kid(x:Nd)(j:Nat):Nd:=match x.kids[j]? with
 |some p=>p.2
 |none=>x
def A3(c:Option Nd):List BA->Nd->Except Int Nd
 |[],_=>.error 7
 |[m],x=>if x.kind≠2 then .error 7 else(J2 c m x.kids).map x.with
 |m::G::l,x=>if x.kind≠2 then .error 7 else if BV m x.kids 0<0 then .error 5 else
   (A3 c (G::l)<|x.kid (BV m x.kids 0).toNat).map λz=>x.with<|x.kids.set (BV m x.kids 0).toNat (m,z)
def Ct:List BA->Nd->Option Nd
 |[],x=>some x
 |m::l,x=>if x.kind≠2\/BV m x.kids 0<0 then none else Ct l (x.kid (BV m x.kids 0).toNat)
def zN:Nd:=.mk 0 0 0 0 false [] ⟨#[]⟩ []
def Gl:Except Int Nd->Int
 |.error f=>f
 |.ok _=>0
def E5:Except Int Nd->Nd
 |.error _=>zN
 |.ok x=>x
abbrev Ch:=List<|BA×Nd×Hd
def bare(L:Ch):Ay:=L.map λe=>(e.1,e.2.1)
def Bd:Ch->List Value
 |[]=>[]
 |(n,x,h)::l=>.string n::(Bq x h++Bd l)
theorem Fb(x:Nd)(h:Hd):(Bq x h).length=8:=by obtain⟨k,m,u,g,o,rL,d,ks⟩:=x;rfl
theorem IQ:∀L:Ch,(Bd L).length=L.length*9
 |[]=>rfl
 |(n,x,h)::l=>by simp[Bd,IQ l,Fb];omega
theorem MD:∀A B:Ch,Bd (A++B)=Bd A++Bd B
 |[],_=>rfl
 |(n,x,h)::l,B=>by simp[Bd,MD l B]
theorem LL(x:Nd)(h:Hd):∀u∈Bq x h,u.oneCell'=true:=by
 obtain⟨k,m,u,g,o,rL,d,ks⟩:=x;intro v G;simp[Bq]at G;rcases G with rfl|rfl|rfl|rfl|rfl|rfl|rfl|rfl<;>rfl
theorem PC:∀L:Ch,∀u∈Bd L,u.oneCell'=true
 |[],u,h=>by cases h
 |(n,x,h)::l,u,G=>by
  simp[Bd]at G;rcases G with rfl|G|G
  .rfl
  .exact LL x h u G
  .exact PC l u G
theorem KA:∀(L:Ch) (i:Nat) (n:BA) (x:Nd) (h:Hd),L[i]? =some (n,x,h)->∀q u,(.string n::Bq x h)[q]? =some u->(Bd L)[i*9+q]? =some u
 |[],i,n,x,h,hi=>by simp at hi
 |(n',x',h')::l,0,n,x,h,hi=>by
  simp at hi;obtain⟨rfl,rfl,rfl⟩:=hi;intro q u G;have H:q<9:=by have:=(NE.1 G).1;simp[Fb]at this;omega
  rw[tB,RT];show(Value.string n'::(Bq x' h'++Bd l))[q]? =some u;cases q with
  |zero=>exact G
  |succ q=>simp at G⊢;rw[C5 (by rw[Fb];omega)];exact G
 |(n',x',h')::l,i+1,n,x,h,hi=>by
  intro q u G;have:=KA l i n x h (by simpa using hi) q u G;have e:(i+1)*9+q=(i*9+q)+8+1:=by omega
  rw[e];show(Value.string n'::(Bq x' h'++Bd l))[i*9+q+8+1]? =some u;simp only[List.getElem?_cons_succ];rw[CG (by rw[Fb];omega),Fb];rw[show i*9+q+8-8=i*9+q by omega];exact this
theorem GR{c:AR}{x:Nd}{h:Hd}:A9 c b p x h↔∀q u,(Bq x h)[q]? =some u->c (aD b<|p+q)=some u:=by
 obtain⟨k,m,u,g,o,rL,d,ks⟩:=x;constructor
 .rintro⟨H,I,J,O,Z,ab,ad,ak⟩ q v G
  match q,G with
  |0,G=>simp[Bq]at G;subst G;exact H
  |1,G=>simp[Bq]at G;subst G;exact I
  |2,G=>simp[Bq]at G;subst G;exact J
  |3,G=>simp[Bq]at G;subst G;exact O
  |4,G=>simp[Bq]at G;subst G;exact Z
  |5,G=>simp[Bq]at G;subst G;exact ab
  |6,G=>simp[Bq]at G;subst G;exact ad
  |7,G=>simp[Bq]at G;subst G;exact ak
  |q+8,G=>simp[Bq]at G
 .intro G
  exact⟨G 0 _ rfl,G 1 _ rfl,G 2 _ rfl,G 3 _ rfl,G 4 _ rfl,G 5 _ rfl,G 6 _ rfl,G 7 _ rfl⟩
theorem JY{c:AR}{n:BA}{x:Nd}{h:Hd}:Ep c b p n x h↔∀q u,(Value.string n::Bq x h)[q]? =some u->c (aD b<|p+q)=some u:=by
 unfold Ep;rw[GR];constructor
 .grind
 .intro G
  exact⟨G 0 _ rfl,λq u h=>by have:=G (q+1) u (by simpa using h);rw[Nat.add_assoc,Nat.add_comm 1 q];exact this⟩
def Dh(c:AR)(a:Option Addr)(L:Ch):Prop:=
 (L=[]\/∃b G,a=some (aD b G)/\∀j u,(Bd L)[j]? =some u->c (aD b<|G+j)=some u)/\∀e∈L,Am c e.2.1 e.2.2
theorem LO{c:AR}{L:Ch}(h:Dh c a L):FQ c a<|bare L:=by
 obtain⟨I,J⟩:=h;rcases I with rfl|⟨b,O,Z,ab⟩
 .exact .inl rfl
 .refine .inr ⟨b,O,Z,λi=>((L[i]?).map λe=>e.2.2).getD ⟨none,0,none,0⟩,?_⟩
  intro i n x G;obtain⟨⟨ak,al,h'⟩,H,e⟩:∃e,L[i]? =some e/\(e.1,e.2.1)=(n,x):=by
   unfold bare at G;rw[R6]at G
   cases hL:L[i]? with
   |none=>rw[hL]at G;cases G
   |some e=>rw[hL]at G;exact⟨e,rfl,by simpa using G⟩
  simp at e;obtain⟨rfl,rfl⟩:=e;simp only[H,tx,Option.getD_some];refine⟨JY.2 λq u ad=>?_,J _<|NW H⟩;have:=ab _ _<|KA L i _ _ _ H q u ad;rw[<-Nat.add_assoc]at this;exact this
theorem pT:∀(L:Ch) (j:Nat) (u:Value),(Bd L)[j]? =some u->∃n x h,L[j / 9]? =some (n,x,h)/\(Value.string n::Bq x h)[j%9]? =some u
 |L,j,u,hj=>by
  have I:=(NE.1 hj).1;rw[IQ]at I;have G:j / 9<L.length:=by omega
  refine⟨L[j / 9].1,L[j / 9].2.1,L[j / 9].2.2,NA G,?_⟩;have J:(Value.string L[j / 9].1::Bq L[j / 9].2.1 L[j / 9].2.2).length=9:=by simp[Fb]
  have O:j%9<(Value.string L[j / 9].1::Bq L[j / 9].2.1 L[j / 9].2.2).length:=by rw[J];omega
  obtain⟨v,H⟩:∃v,(Value.string L[j / 9].1::Bq L[j / 9].2.1 L[j / 9].2.2)[j%9]? =some v:=⟨_,NA O⟩;have:=KA L (j / 9) _ _ _ (NA G) (j%9) v H;rw[show j / 9*9+j%9=j by omega,hj]at this;rw[H,this]
theorem YA{c:AR}{ks:Ay}(h:FQ c a ks):∃L,bare L=ks/\Dh c a L:=by
 rcases h with rfl|⟨b,Z,ab,f,J⟩
 .exact⟨[],rfl,.inl rfl,λe G=>by cases G⟩
 .have O:∀i e,(ks.mapIdx λi p=>(p.1,p.2,f i))[i]? =some e->ks[i]? =some (e.1,e.2.1)/\e.2.2=f i:=by
   intro i e G;rw[List.getElem?_mapIdx]at G;cases H:ks[i]? with
   |none=>rw[H]at G;cases G
   |some p=>rw[H]at G;simp at G;subst G;exact⟨rfl,rfl⟩
  refine⟨ks.mapIdx λi p=>(p.1,p.2,f i),?_,.inr ⟨b,Z,ab,?_⟩,?_⟩
  .unfold bare
   apply List.ext_getElem?;intro i;rw[R6,List.getElem?_mapIdx];cases ks[i]?<;>simp
  .intro j u ad
   obtain⟨n,x,h,G,ak⟩:=pT _ j u ad;obtain⟨H,I⟩:=O _ _ G;simp only at I H;have:=JY.1 (J _ _ _ H).1 (j%9) u (by rw[<-I];exact ak);rw[Nat.add_assoc,show j / 9*9+j%9=j by omega]at this;exact this
  .intro e G
   obtain⟨i,al⟩:=R7 G;obtain⟨H,I⟩:=O _ _ al;rw[I];exact(J _ _ _ H).2
theorem cy(A B:Ch):bare (A++B)=bare A++bare B:=by simp[bare]
theorem GP(A:Ch):(bare A).length=A.length:=by simp[bare]
theorem fA(A:Ch)(n:Nat):bare (A.take n)=(bare A).take n:=by simp[bare,List.map_take]
theorem gK(A:Ch)(n:Nat):bare (A.drop n)=(bare A).drop n:=by simp[bare,List.map_drop]
theorem Dh.on{c G:AR}{L:Ch}(h:Dh c a L)(hb:AW c G):Dh G a L:=by
 obtain⟨H,I⟩:=h;refine⟨?_,λe J=>(I e J).on hb⟩;rcases H with e|⟨b,O,Z,ab⟩
 .grind
 .exact .inr ⟨b,O,Z,λj u ad=>hb _ _<|ab j u ad⟩
structure Az (b:Nat) (w w':World):Prop where
 os:w'.os=w.os
 tape:w'.tape=w.tape
 output:w'.output=w.output
 size:w.heap.size<=w'.heap.size
 block:∀k,k<w.heap.size->k≠b->w'.heap[k]? =w.heap[k]?
theorem Az.refl(b:Nat)(w:World):Az b w w:=⟨rfl,rfl,rfl,rP _,λ_ _ _=>rfl⟩
theorem Az.trans{v:World}(h:Az b u v)(k:Az b v w):Az b u w:=
 ⟨k.os.trans h.os,k.tape.trans h.tape,k.output.trans h.output,Rz h.size k.size,λi G hb=>(k.block i (N1 G h.size) hb).trans<|h.block i G hb⟩
theorem Az.of_below(h:Below w.heap.size w w'):Az b w w':=⟨h.os,h.tape,h.output,h.size,λk G _=>h.block k G⟩
theorem Az.then(h:Az b u w)(k:Below w.heap.size w w'):Az b u w':=h.trans<|.of_below k
theorem Az.below(h:Az b w w'){B:Nat}(G:B<=b)(H:B<=w.heap.size):Below B w w':=⟨h.os,h.tape,h.output,h.size,λk I=>h.block k oM oM⟩
theorem Az.cell(h:Az b w w'){p:Addr}(G:p.block<w.heap.size)(hb:p.block≠b):w'.cell? p=w.cell? p:=RE (w:=w)<|h.block p.block G hb
theorem Az.frozen(h:Az b w w'){p:Addr}(G:p.block<w.heap.size)(hb:p.block≠b):w'.frozen? p=w.frozen? p:=World.frozen?_of_block (w:=w)<|h.block p.block G hb
theorem Az.alloc(h:Az b u w)(o:Obj):Az b u<|w.alloc o:=h.then<|(NB _ w).alloc (rP _) o
theorem Az.setCell(h:Az b u w)(o:Nat)(s:Option Nat)(v:Value):Az b u<|w.setCell ⟨b,o,s⟩ v:=
 h.trans ⟨rfl,rfl,rfl,by simp,λk _ hb=>Cv _ _ _ _ hb⟩
theorem Az.drewN(h:Az b u w)(n:Nat):Az b u<|w.drewN n:=h.then<|CS (NB _ w) n
theorem Az.mle(h:Az b w w'):AW (I9 w.cell? b)<|I9 w'.cell? b:=by
 intro q v G;by_cases hb:q.block=b
 .grind [I9]
 .rw[X7 hb]at G⊢
  exact(h.cell (bL G) hb).trans G
theorem mt(hb:Below w.heap.size w w')(I:w.heap.size<=b):AW w.cell?<|I9 w'.cell? b:=by
 intro q v G;have H:q.block<w.heap.size:=bL G;rw[X7 oM];exact(hb.cell H).trans G
def Ed(w:World)(b:Nat)(u v:Value):Prop:=w.cell? (aD b 0)=some u/\w.cell? (aD b 1)=some v/\w.frozen? (aD b 0)=false/\w.frozen? (aD b 1)=false
theorem Ed.lt{u:Value}(h:Ed w b u v):b<w.heap.size:=NF _ _ h.1
theorem Ed.below{u:Value}(h:Ed w b u v)(hb:Below w.heap.size w w'):Ed w' b u v:=by
 have G:=h.lt;obtain⟨H,I,J,O⟩:=h;exact⟨(hb.cell (p:=(aD b 0)) G).trans H,(hb.cell (p:=(aD b 1)) G).trans I,(hb.frozen (p:=(aD b 0)) G).trans J,(hb.frozen (p:=(aD b 1)) G).trans O⟩
theorem Ed.set1{u:Value}(h:Ed w b u v)(G:Value):Ed (w.setCell (aD b 1) G) b u G:=by
 obtain⟨H,I,J,O⟩:=h;exact⟨(NG _ _ _ _ oS).trans H,N2 _ _ _ I,by simpa using J,by simpa using O⟩
theorem Ed.new(w:World)(u v:Value)(t:TypeId):Ed (w.alloc<|.cells #[u,v] t) w.heap.size u v:=
 ⟨aC,aC,World.frozen?_alloc_new _ _ _ _,World.frozen?_alloc_new _ _ _ _⟩
def Dz:List Kv->List Value
 |[]=>[]
 |r::l=>.string r.n::.string r.v::Dz l
theorem Oi:∀L:List Kv,(Dz L).length=L.length*2
 |[]=>rfl
 |r::l=>by simp[Dz,Oi l];omega
theorem UF:∀A B:List Kv,Dz (A++B)=Dz A++Dz B
 |[],_=>rfl
 |r::l,B=>by simp[Dz,UF l B]
theorem RP:∀L:List Kv,∀u∈Dz L,u.oneCell'=true
 |[],u,h=>by cases h
 |r::l,u,h=>by
  simp[Dz]at h;rcases h with rfl|rfl|h
  .rfl
  .rfl
  .exact RP l u h
theorem RW:∀(L:List Kv) (k:Nat) (r:Kv),L[k]? =some r->(Dz L)[k*2]? =some (.string r.n)/\(Dz L)[k*2+1]? =some (.string r.v):=by intro L k r;induction L generalizing k r<;>grind [Dz]
theorem Ef(b G j:Nat):((aD b G):Addr).add j=(aD b<|G+j):=by by_cases H:j=0<;>simp[Addr.add,H]
theorem Ev{size:Nat}(h:w.ownsRow base e size v n xs):
 ∃a cap,v=.slice a n cap/\n<=cap/\cap<=9223372036854775807/\((a=none/\n=0/\xs=[]/\cap=0)\/∃g,a=some (aD g 0)/\base<=g/\g<w.heap.size/\(∀j u,xs[j]? =some u->w.cell? (aD g j)=some u)/\∀j,w.frozen? (aD g j)=false):=by
 obtain⟨a,cap,G,H,I,J⟩:=Jm h;refine⟨a,cap,G,H,by unfold maxLen at I;omega,?_⟩;grind [Iu,World.frozen?]
theorem Oj{L:List Kv}(h:w.ownsRow base e 2 v n<|Dz L):∃a cap,v=.slice a n cap/\n<=cap/\cap<=9223372036854775807/\Bg w.cell? a L:=by
 obtain⟨a,cap,G,H,I,J⟩:=Ev h;refine⟨a,cap,G,H,I,?_⟩;rcases J with⟨_,_,hx,_⟩|⟨g,O,_,_,Z,_⟩
 .left
  cases L with
  |nil=>rfl
  |cons r l=>simp[Dz]at hx
 .refine .inr ⟨g,0,O,λk r ab=>?_⟩
  grind [RW]
def I2(base:Nat)(w:World)(a:Option Addr)(ks:Ay):Prop:=ks=[]\/∃g,a=some (aD g 0)/\base<=g/\g<w.heap.size/\∀j,w.frozen? (aD g j)=false
theorem I2.below{ks:Ay}(h:I2 base w a ks)(hb:Below w.heap.size w w'):I2 base w' a ks:=by
 rcases h with h|⟨g,H,I,G,J⟩
 .exact .inl h
 .exact .inr ⟨g,H,I,N1 G hb.size,λj=>(hb.frozen (p:=(aD g j)) G).trans<|J j⟩
def Ag(c:AR)(S:Nat->Bool):AR:=λq=>if S q.block=true then none else c q
theorem Fe(c:AR):Ag c (λ_=>false)=c:=by funext q;simp[Ag]
theorem BW(c:AR)(S:Nat->Bool):AW (Ag c S) c:=λq v h=>by
 unfold Ag at h;split at h
 .cases h
 .exact h
theorem CV{c:AR}(h:S q.block=false):Ag c S q=c q:=by grind [Ag]
theorem Gg{c:AR}(h:Ag c S q=some v):S q.block=false:=by grind [Ag]
theorem Bv{S':Nat->Bool}(h:∀k,k<w.heap.size->S k=false->S' k=false/\w'.heap[k]? =w.heap[k]?):AW (Ag w.cell? S)<|Ag w'.cell? S':=by
 intro q v G;grind [Gg,CV,bL,RE]
theorem Du(hb:Below w.heap.size w w'):AW (Ag w.cell? S)<|Ag w'.cell? S:=Bv λk G H=>⟨H,hb.block k G⟩
theorem Uj{L:List Kv}(Z:∀k,S k=true->k<base)(h:w.ownsRow base e 2 v n<|Dz L):∃a cap,v=.slice a n cap/\n<=cap/\cap<=9223372036854775807/\Bg (Ag w.cell? S) a L:=by
 obtain⟨a,cap,G,H,I,J⟩:=Ev h;refine⟨a,cap,G,H,I,?_⟩;rcases J with⟨_,_,hx,_⟩|⟨g,O,hb,_,ab,_⟩
 .left
  cases L with
  |nil=>rfl
  |cons r l=>simp[Dz]at hx
 .have ad:S g=false:=by
   grind
  refine .inr ⟨g,0,O,λk r ak=>?_⟩;grind [RW,CV]
theorem Ul{L:Ch}(ap:∀k,S k=true->k<base)(h:w.ownsRow base e 9 v n<|Bd L)(G:∀e∈L,Am (Ag w.cell? S) e.2.1 e.2.2):∃a cap,v=.slice a n cap/\n<=cap/\cap<=9223372036854775807/\Dh (Ag w.cell? S) a L/\I2 base w a (bare L):=by
 obtain⟨a,cap,I,J,O,Z⟩:=Ev h;refine⟨a,cap,I,J,O,?_⟩;rcases Z with⟨_,_,hx,_⟩|⟨g,H,hb,ab,ad,ak⟩
 .have:L=[]:=by
   cases L with
   |nil=>rfl
   |cons r l=>obtain⟨n,x,h⟩:=r;simp[Bd]at hx
  subst this;exact⟨⟨.inl rfl,G⟩,.inl rfl⟩
 .have al:S g=false:=by
   grind
  exact⟨⟨.inr ⟨g,0,H,λj u ao=>by rw[RT,CV al];exact ad j u ao⟩,G⟩,.inr ⟨g,H,hb,ab,ak⟩⟩
theorem Vd{l:List Kv}(h:Bg w.cell? a l):(a=none/\l.length=0)\/∃G,a=some G/\∀j u,(Dz l)[j]? =some u->w.cell? (G.add j)=some u:=by
 rcases h with rfl|⟨b,Z,rfl,I⟩
 .cases a with
  |none=>exact .inl ⟨rfl,rfl⟩
  |some G=>exact .inr ⟨G,rfl,λj u J=>by simp[Dz]at J⟩
 .refine .inr ⟨_,rfl,λj u O=>?_⟩
  have ab:j<l.length*2:=by have:=(NE.1 O).1;rwa [Oi]at this
  obtain⟨r,H⟩:∃r,l[j / 2]? =some r:=⟨l[j / 2]' oM,NA _⟩;obtain⟨ad,ak⟩:=I _ r H;obtain⟨f1,f2⟩:=RW l _ r H;grind [Ef]
theorem UZ{L:Ch}(h:Dh w.cell? a L):(a=none/\L.length=0)\/∃G,a=some G/\∀j u,(Bd L)[j]? =some u->w.cell? (G.add j)=some u:=by
 rcases h.1 with rfl|⟨b,I,rfl,J⟩
 .cases a with
  |none=>exact .inl ⟨rfl,rfl⟩
  |some G=>exact .inr ⟨G,rfl,λj u H=>by simp[Bd]at H⟩
 all_goals grind [Ef]
def BS(w:World)(b p:Nat):Nd->Hd->World
 |.mk k m u g o rL d ks,h=>(((((((w.setCell ⟨b,p,none⟩<|iN k).setCell ⟨b,p+1,none⟩<|iN m).setCell ⟨b,p+2,none⟩<|iN u).setCell ⟨b,p+3,none⟩<|iN g).setCell ⟨b,p+4,none⟩<|.bool o).setCell ⟨b,p+5,none⟩<|.slice h.aa rL.length h.ca).setCell ⟨b,p+6,none⟩<|.string d).setCell ⟨b,p+7,none⟩<|.slice h.ak ks.length h.ck
theorem GQ{x:Nd}{h:Hd}(G:∀j,j<8->q≠(aD b<|p+j)):(BS w b p x h).cell? q=w.cell? q:=by
 obtain⟨k,m,u,g,o,rL,d,ks⟩:=x;unfold BS;rw[NG _ _ _ _ (G 7 oM).symm,NG _ _ _ _ (G 6 oM).symm,NG _ _ _ _ (G 5 oM).symm,NG _ _ _ _ (G 4 oM).symm,NG _ _ _ _ (G 3 oM).symm,NG _ _ _ _ (G 2 oM).symm,NG _ _ _ _ (G 1 oM).symm,NG _ _ _ _ (show((aD b p):Addr)≠q from(G 0 oM).symm)]
theorem LV{x y:Nd}{h h':Hd}(G:A9 w.cell? b p y h'):A9 (BS w b p x h).cell? b p x h:=by
 obtain⟨k,m,u,g,o,rL,d,ks⟩:=x;obtain⟨al,ao,ap,ar,aw,az,aA,a1⟩:=y;obtain⟨H,I,J,O,Z,ab,ad,ak⟩:=G;unfold BS;refine⟨?_,?_,?_,?_,?_,?_,?_,?_⟩<;>simp[NG,World.cell?_setCell_same',H,I,J,O,Z,ab,ad,ak]
theorem Oz{x:Nd}{h:Hd}(q:Addr):(BS w b p x h).frozen? q=w.frozen? q:=by
 obtain⟨k,m,u,g,o,rL,d,ks⟩:=x;unfold BS;simp
theorem Pm{x:Nd}{h:Hd}:Az b w<|BS w b p x h:=by
 obtain⟨k,m,u,g,o,rL,d,ks⟩:=x;unfold BS;exact((((((((Az.refl b w).setCell _ _ _).setCell _ _ _).setCell _ _ _).setCell _ _ _).setCell _ _ _).setCell _ _ _).setCell _ _ _).setCell _ _ _
theorem jJ{x:Nd}{h h':Hd}(G:A9 w.cell? b p x h)(q:Addr)(J:q≠(aD b<|p+5))(O:q≠(aD b<|p+7)):(BS w b p x h').cell? q=w.cell? q:=by
 by_cases H:∃j,j<8/\q=(aD b<|p+j)
 .obtain⟨j,Z,rfl⟩:=H
  have I:=LV (x:=x) (h:=h') G;obtain⟨k,m,u,g,o,rL,d,ks⟩:=x;obtain⟨a0,ab,a2,a3,a4,a5,ad,ak⟩:=G;obtain⟨al,ao,ap,ar,aw,az,aA,a1⟩:=I;grind
 all_goals grind [GQ]
end Go.Proofs.YtchpdmjlicmdaaaGreatDoor
