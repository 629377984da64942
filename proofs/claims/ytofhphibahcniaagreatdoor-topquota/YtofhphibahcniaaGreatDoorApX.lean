/-
  TopQuota: Ap Aps Abw Aa Na Abb Abd Nb Bt Np.
-/
import Derived.Test.YtofhphibahcniaaGreatDoorRows
import Derived.WalkKit
import Derived.WalkSpells
import Derived.WalkLawsBesides
import Derived.Maps.AppendAt
import Derived.Deep.Upon
import Derived.Deep.AppendLies
import Derived.Lib.Strings
import Derived.Lib.IndexMore
import Derived.Below
import Derived.OrdersHeld
import Derived.Deep.QuietTactic
import Derived.BigQuiet
set_option maxRecDepth 100000
set_option maxHeartbeats 16000000
namespace Go.Proofs.YtofhphibahcniaaGreatDoor
open Go.RowKit Go.Proofs.Tryz
abbrev BA:=ByteArray
theorem nl:type_of%@World.cell?_alloc_at:=@World.cell?_alloc_at
theorem nn:type_of%@Nat.le_refl:=@Nat.le_refl
theorem np:type_of%@Calls.mono:=@Calls.mono
theorem nt:type_of%@List.getElem?_eq_getElem:=@List.getElem?_eq_getElem
theorem nv:type_of%@Below.refl:=@Below.refl
theorem nw:type_of%@World.size_alloc:=@World.size_alloc
theorem ny:type_of%@List.getElem?_eq_some_iff:=@List.getElem?_eq_some_iff
theorem nz:type_of%@World.block_lt_of_cell?:=@World.block_lt_of_cell?
theorem nA:type_of%@World.cell?_setCell_other:=@World.cell?_setCell_other
theorem nB:type_of%@decide_eq_false:=@decide_eq_false
theorem nC:type_of%@if_neg:=@if_neg
theorem nD:type_of%@if_pos:=@if_pos
theorem nE:type_of%@List.mem_of_getElem?:=@List.mem_of_getElem?
theorem nF:type_of%@decide_eq_true:=@decide_eq_true
theorem nG:type_of%@bodyPost_ret:=@bodyPost_ret
theorem nH:type_of%@Nat.lt_of_lt_of_le:=@Nat.lt_of_lt_of_le
theorem nI:type_of%@World.cell?_setCell_same:=@World.cell?_setCell_same
theorem nJ:type_of%@Array.getElem?_eq_some_iff:=@Array.getElem?_eq_some_iff
theorem nK:type_of%@List.mem_cons_self:=@List.mem_cons_self
theorem nM:type_of%@List.length_append:=@List.length_append
theorem nN:type_of%@Nat.zero_le:=@Nat.zero_le
theorem nO:type_of%@List.drop_eq_getElem_cons:=@List.drop_eq_getElem_cons
theorem nP:type_of%@Nat.le_trans:=@Nat.le_trans
theorem nQ:type_of%@World.frozen?_alloc_at:=@World.frozen?_alloc_at
theorem nR:type_of%@List.length_nil:=@List.length_nil
theorem nS:type_of%@World.cell?_of_block:=@World.cell?_of_block
theorem nT:type_of%@wpAnyH_take:=@wpAnyH_take
theorem nU:type_of%@Nat.zero_add:=@Nat.zero_add
theorem nV:type_of%@Option.some.injEq:=@Option.some.injEq
theorem nW:type_of%@congrArg:=@congrArg
theorem nX:type_of%@List.eq_nil_of_length_eq_zero:=@List.eq_nil_of_length_eq_zero
theorem nY:type_of%@List.mem_cons:=@List.mem_cons
theorem n0:type_of%@Option.map_eq_some_iff:=@Option.map_eq_some_iff
theorem n1:type_of%@List.take_of_length_le:=@List.take_of_length_le
theorem n2:type_of%@List.mem_cons_of_mem:=@List.mem_cons_of_mem
theorem n3:type_of%@List.length_cons:=@List.length_cons
theorem n4:type_of%@List.getElem?_map:=@List.getElem?_map
theorem n5:type_of%@List.getElem?_of_mem:=@List.getElem?_of_mem
theorem n7:type_of%@List.drop_of_length_le:=@List.drop_of_length_le
theorem n8:type_of%@List.append_assoc:=@List.append_assoc
theorem n9:type_of%@List.cons_append:=@List.cons_append
theorem rc:type_of%@Addr.mk.injEq:=@Addr.mk.injEq
theorem rd:type_of%@List.mem_append:=@List.mem_append
theorem re:type_of%@Below.heap_setCell:=@Below.heap_setCell
theorem rg:type_of%@Classical.choose_spec:=@Classical.choose_spec
theorem rh:type_of%@List.map_cons:=@List.map_cons
theorem ri:type_of%@List.length_pos_iff:=@List.length_pos_iff
theorem rj:type_of%@List.mem_singleton:=@List.mem_singleton
theorem rk:type_of%@List.length_map:=@List.length_map
theorem rm:type_of%@World.frozen?_setCells:=@World.frozen?_setCells
theorem ro:type_of%@List.getElem?_append_right:=@List.getElem?_append_right
theorem rp:type_of%@Value.slice.injEq:=@Value.slice.injEq
theorem rq:type_of%@List.length_eq_zero_iff:=@List.length_eq_zero_iff
theorem rr:type_of%@List.pairwise_cons:=@List.pairwise_cons
theorem rt:type_of%@List.filterMap_cons:=@List.filterMap_cons
theorem ru:type_of%@List.nil_append:=@List.nil_append
theorem rv:type_of%@List.take_add_one:=@List.take_add_one
theorem rx:type_of%@List.mem_map:=@List.mem_map
theorem ry:type_of%@List.take_append_drop:=@List.take_append_drop
theorem rz:type_of%@below_drewN:=@below_drewN
theorem rA:type_of%@List.map_append:=@List.map_append
theorem rB:type_of%@World.ownsRow_nil:=@World.ownsRow_nil
theorem rC:type_of%@List.mem_filterMap:=@List.mem_filterMap
theorem rD:type_of%@DataW.trod_int:=@DataW.trod_int
theorem rE:type_of%@Except.ok.injEq:=@Except.ok.injEq
theorem rF:type_of%@List.length_take:=@List.length_take
theorem rG:type_of%@Array.getElem?_eq_none:=@Array.getElem?_eq_none
theorem rH:type_of%@List.getElem?_append_left:=@List.getElem?_append_left
theorem rI:type_of%@of_decide_eq_true:=@of_decide_eq_true
theorem rJ:type_of%@World.frozen?_setCell:=@World.frozen?_setCell
theorem rK:type_of%@List.foldl_cons:=@List.foldl_cons
theorem rL:type_of%@List.getElem?_take:=@List.getElem?_take
theorem rM:type_of%@List.getElem?_drop:=@List.getElem?_drop
theorem rN:type_of%@wpAnyH_done:=@wpAnyH_done
theorem rO:type_of%@Nat.le_of_lt:=@Nat.le_of_lt
theorem rP:type_of%@List.getElem?_set:=@List.getElem?_set
theorem rQ:type_of%@List.append_nil:=@List.append_nil
theorem rR:type_of%@Below.heap_alloc:=@Below.heap_alloc
theorem rS:type_of%@Except.error.injEq:=@Except.error.injEq
theorem rT:type_of%@Nat.add_zero:=@Nat.add_zero
theorem rU:type_of%@wp_region_lit:=@wp_region_lit
theorem rV:type_of%@BigFrame.wpList_want:=@BigFrame.wpList_want
theorem rW:type_of%@List.mem_map_of_mem:=@List.mem_map_of_mem
theorem rX:type_of%@callsIn_wide:=@callsIn_wide
theorem rY:type_of%@Lib.run_eql_slice_nil:=@Lib.run_eql_slice_nil
theorem rZ:type_of%@List.pairwise_iff_getElem:=@List.pairwise_iff_getElem
theorem r0:type_of%@Option.map_some:=@Option.map_some
theorem r1:type_of%@Lib.toList_data:=@Lib.toList_data
theorem r2:type_of%@Bool.eq_iff_iff:=@Bool.eq_iff_iff
theorem r3:type_of%@Nat.zero_mul:=@Nat.zero_mul
theorem r4:type_of%@List.map_map:=@List.map_map
theorem r5:type_of%@decide_eq_true_eq:=@decide_eq_true_eq
theorem r6:type_of%@DataW.trod_string:=@DataW.trod_string
theorem r7:type_of%@List.length_dropLast:=@List.length_dropLast
theorem r8:type_of%@Array.replicate_zero:=@Array.replicate_zero
theorem r9:type_of%@Array.replicate_succ:=@Array.replicate_succ
section
variable {P:Program} (w:World)
theorem WI(row:Option Nat):w.grownBy w row:=⟨rfl,rfl,rfl,nn _,fun _ _ _=>rfl⟩
theorem PM(base:Nat)(t I e:TypeId)(i:TypeInfo)(z:Value)(size O:Nat)(H:P.underlying t=some (.slice e))(Q:P.info? e=some i)(V:i.zero=some z)
 (Y:i.size=size) (Z:i.bytes=O) (aa:z.cells.size=size) (ab:0<size)
 (v:Value) (n:Nat) (xs:List Value) (R:w.ownsRow base e size v n xs)
 (a:Option Addr) (m c:Nat) (F:List Value) (T:F.length=m*size) (ad:(a=none∧m=0)∨∃J,a=some J∧∀j u,F[j]? =some u→w.cell? (J.add j)=some u) (ak:∀u∈F,u.oneCell'=true)
 (ao:n+m≤maxLen) (ap:(n+m)*O≤140737488355328) (ar:base≤w.heap.size):
 ∃G w',(Builtin.append_ #[t,t] I #[v,.slice a m c]).run P w=.ok G w'∧w'.ownsRow base e size G (n+m) (xs++F)∧w.grownBy w' v.ownBlock∧
  (G.ownBlock=v.ownBlock∨G.ownBlock=some w.heap.size):=by
 rcases ad with⟨rfl,rfl⟩|⟨J,rfl,ay⟩
 ·obtain rfl:F=[]:=nX (by simpa using T)
  refine⟨v,w,?_,by simpa using R,WI w _,.inl rfl⟩;rcases R.2 with⟨rfl,_⟩|⟨g,cap,ba,rfl,_,_,az,_⟩
  ·exact run_append_nothing w t t I e i H Q none 0 0 (nn _) _ (Src.ofNil w H c)
  ·exact run_append_nothing w t t I e i H Q (some ⟨g,0,none⟩) n cap az _ (Src.ofNil w H c)
 ·obtain⟨G,w',a1,a6,a7,_,a8⟩:=run_append_own_at (P:=P) w base t I e i z size O H Q V Y Z aa ab v n xs R J m c F T ay ak ao ap ar
  exact⟨G,w',a1,a6,a7,a8⟩
theorem MT{o:Oper}{a:Act}{K:Act→World→Prop}{O:Exit→Act→World→Prop}(s x:Operand)(t:TypeId)
 (Q:o.op=.call {callee:=.builtin .append,args:=#[s,x],argTypes:=#[t,t]})
 (base:Nat) (e:TypeId) (i:TypeInfo) (z:Value) (size I:Nat) (R:P.underlying t=some (.slice e)) (T:P.info? e=some i) (V:i.zero=some z)
 (Y:i.size=size) (Z:i.bytes=I) (aa:z.cells.size=size) (ab:0<size)
 (v:Value) (n:Nat) (xs:List Value) (ad:a.eval s=v) (ak:w.ownsRow base e size v n xs)
 (H:Option Addr) (m c:Nat) (G:List Value) (hx:a.eval x=.slice H m c) (ao:G.length=m*size) (ap:(H=none∧m=0)∨∃J,H=some J∧∀j u,G[j]? =some u→w.cell? (J.add j)=some u) (ar:∀u∈G,u.oneCell'=true)
 (ay:n+m≤maxLen) (az:(n+m)*I≤140737488355328) (a1:base≤w.heap.size)
 (h:∀F w',w'.ownsRow base e size F (n+m) (xs++G)→w.grownBy w' v.ownBlock→(F.ownBlock=v.ownBlock∨F.ownBlock=some w.heap.size)→K (a.put o.dst F) w'):o.wp P a w K O:=by
 obtain⟨F,w',a6,a7,a8,ba⟩:=PM (P:=P) w base t o.type e i z size I R T V Y Z aa ab v n xs ak H m c G ao ap ar ay az a1;unfold Oper.wp execOp;simp only[Q,resolve,invoke,builtin,Sem.run_bind,Sem.run_pure,Result.andThen_ok,List.map_toArray,rh,List.map_nil,ad,hx,a6];exact h F w' a7 a8 ba
theorem DZ{J:Array Oper}{ni:List Oper}{o:Oper}{a:Act}{O:Exit→Act→World→Prop}(R:o.guard=none)(s x:Operand)(t:TypeId)
 (T:o.op=.call {callee:=.builtin .append,args:=#[s,x],argTypes:=#[t,t]})
 (base:Nat) (e:TypeId) (i:TypeInfo) (z:Value) (size I:Nat) (V:P.underlying t=some (.slice e)) (Y:P.info? e=some i) (Z:i.zero=some z)
 (aa:i.size=size) (ab:i.bytes=I) (ad:z.cells.size=size) (ak:0<size)
 (v:Value) (n:Nat) (xs:List Value) (ao:a.eval s=v) (ap:w.ownsRow base e size v n xs)
 (H:Option Addr) (m c:Nat) (G:List Value) (hx:a.eval x=.slice H m c) (ar:G.length=m*size) (ay:(H=none∧m=0)∨∃Q,H=some Q∧∀j u,G[j]? =some u→w.cell? (Q.add j)=some u) (az:∀u∈G,u.oneCell'=true)
 (a1:n+m≤maxLen) (a6:(n+m)*I≤140737488355328) (a7:base≤w.heap.size)
 (h:∀F w',w'.ownsRow base e size F (n+m) (xs++G)→w.grownBy w' v.ownBlock→(F.ownBlock=v.ownBlock∨F.ownBlock=some w.heap.size)→wpList P J O ni (a.put o.dst F) w'):wpList P J O (o::ni) a w:=
 wpList_plain R fun _ a8=>MT w s x t T base e i z size I V Y Z aa ab ad ak v n xs ao ap H m c G hx ar ay az a1 a6 a7 fun F w' ba bb bd=>a8 _ _ (h F w' ba bb bd)
end
theorem KN{w:World}{base:Nat}{e:TypeId}{size:Nat}{v:Value}{n:Nat}{xs:List Value}(h:w.ownsRow base e size v n xs):
 ∃a cap,v=.slice a n cap∧n≤cap∧cap≤maxLen∧((a=none∧n=0∧xs=[]∧cap=0)∨∃g F,a=some ⟨g,0,none⟩∧base≤g∧w.heap[g]? =some (.cells F e (0,0))∧F.size=cap*size∧F.toList.take (n*size)=xs):=by
 rcases h.2 with⟨rfl,rfl⟩|⟨g,cap,F,rfl,hb,G,H,I,J,hx⟩
 ·exact⟨none,0,rfl,nn _,nN _,.inl ⟨rfl,rfl,nX (by simpa using h.1),rfl⟩⟩
 ·exact⟨_,cap,rfl,H,I,.inr ⟨g,F,rfl,hb,G,J,hx⟩⟩
theorem F7{w:World}{g:Nat}{e:TypeId}{G:Array Value}{k:Nat}{xs:List Value}(H:w.heap[g]? =some (.cells G e (0,0)))(hx:G.toList.take k=xs){i:Nat}{u:Value}(F:xs[i]? =some u):w.cell? ⟨g,i,none⟩=some u:=by
 subst hx;have:G.toList[i]? =some u:=by
  rw[rL]at F;split at F
  ·exact F
  ·cases F
 simp[World.cell?,H];simpa using this
section
variable {P:Program} (w:World)
theorem KK{J:Array Oper}{o:Oper}{a:Act}{K:Act→World→Prop}{Q:Exit→Act→World→Prop}{E:Prop}(R:o.guard=none)(s x:Operand)(t:TypeId)
 (T:o.op=.call {callee:=.builtin .append,args:=#[s,x],argTypes:=#[t,t]})
 (base:Nat) (e:TypeId) (i:TypeInfo) (z:Value) (size I:Nat) (V:P.underlying t=some (.slice e)) (Y:P.info? e=some i) (Z:i.zero=some z)
 (aa:i.size=size) (ab:i.bytes=I) (ad:z.cells.size=size) (ak:0<size)
 (v:Value) (n:Nat) (xs:List Value) (ao:a.eval s=v) (ap:w.ownsRow base e size v n xs)
 (G:Option Addr) (m c:Nat) (F:List Value) (hx:a.eval x=.slice G m c) (ar:F.length=m*size) (ay:(G=none∧m=0)∨∃O,G=some O∧∀j u,F[j]? =some u→w.cell? (O.add j)=some u) (az:∀u∈F,u.oneCell'=true)
 (a1:n+m≤maxLen) (a6:(n+m)*I≤140737488355328) (a7:base≤w.heap.size)
 (h:∀H w',w'.ownsRow base e size H (n+m) (xs++F)→w.grownBy w' v.ownBlock→(H.ownBlock=v.ownBlock∨H.ownBlock=some w.heap.size)→K (a.put o.dst H) w'):
 if Region.wanted o (yielded J a.tmps)=true then Oper.wp P o a w K Q else E:=by
 have a8:Region.wanted o (yielded J a.tmps)=true:=by simp[Region.wanted,R]
 rw[nD a8];exact MT w s x t T base e i z size I V Y Z aa ab ad ak v n xs ao ap G m c F hx ar ay az a1 a6 a7 h
end
abbrev iN(x:Int):Value:=.int .i64 x
abbrev aD(b o:Nat):Addr:=⟨b,o,none⟩
abbrev pO(b o:Nat):Value:=.pointer (some ⟨b,o,none⟩)
abbrev sL(b o n c:Nat):Value:=.slice (some ⟨b,o,none⟩) n c
abbrev nL:Value:=.slice none 0 0
abbrev cL(f:FuncId)(a:Array Value)(w:World)(F:Ending→World→Prop):Prop:=Calls prog f a w F
abbrev Fz(w:World)(b o:Nat):Prop:=w.frozen? ⟨b,o,none⟩=false
theorem bN{w:World}{o:Obj}:Below w.heap.size w (w.alloc o):=(nv _ _).alloc (nn _) _
theorem aC{w:World}{cs:Array Value}{t:TypeId}{i:Nat}:(w.alloc (.cells cs t)).cell? ⟨w.heap.size,i,none⟩=cs[i]?:=nl _ _ _ _ rfl
theorem bL{w:World}{a:Addr}{v:Value}(h:w.cell? a=some v):a.block<w.heap.size:=nz _ _ h
theorem AQ{F:Type}(x:F):∃y,Hid (x=y):=⟨_,rfl⟩
def Gl(n:Int):Bool:=((((decide (97≤n)&&decide (n≤122))||(decide (48≤n)&&decide (n≤57)))||n==46)||n==95)||n==45
def He(l:List UInt8):Bool:=((((!l.isEmpty)&&decide (l.length≤12))&& !(l==[46]))&& !(l==[46,46]))&&l.all (fun b=>Gl (b.toNat:Int))
def AY(s:BA):Bool:=He s.data.toList
def I1(l:List UInt8):Int:=if He (l.drop 2)=true then(if l.take 2=[117,46]then 1 else if l.take 2=[116,46]then 2 else 0)else 0
def Db(s:BA):Int:=I1 s.data.toList
theorem Xv(l:List UInt8)(h:l=[]):Lib.index l [46]=-1:=by subst h;simp[Lib.index]
theorem YH(l:List UInt8):Lib.index (46::l) [46]=0:=by rw[Lib.index];simp[List.isPrefixOf]
theorem bO(b:UInt8)(l:List UInt8)(h:b≠46):Lib.index (b::l) [46]=if Lib.index l [46]==-1 then-1 else Lib.index l [46]+1:=by
 have F:([46]:List UInt8).isPrefixOf (b::l)=false:=by simp[List.isPrefixOf,Ne.symm h]
 rw[Lib.index,F];simp
theorem UJ(l:List UInt8):Lib.cut (46::l) [46]=([],l,true):=by
 unfold Lib.cut;rw[YH];simp
theorem Vm(b:UInt8)(l:List UInt8)(h:b≠46):(Lib.cut (b::l) [46]).1=b::(Lib.cut l [46]).1∧(Lib.cut (b::l) [46]).2.1=(Lib.cut l [46]).2.1:=by
 have J:=Lib.index_ge l [46];unfold Lib.cut;rw[bO b l h];by_cases F:Lib.index l [46]=-1
 ·rw[F];simp
 ·obtain⟨j,G⟩:∃j:Nat,Lib.index l [46]=j:=⟨(Lib.index l [46]).toNat,by omega⟩
  have hb:(Lib.index l [46]==-1)=false:=by simpa using F
  rw[hb,G];simp only[Bool.false_eq_true,if_false];rw[nD (by omega),nD (by omega)];have H:((j:Int)+1).toNat=j+1:=by omega
  have I:((j:Int)).toNat=j:=by omega
  rw[H,I];simp
theorem Y4(l:List UInt8):I1 l=if He (Lib.cut l [46]).2.1=true then(if(Lib.cut l [46]).1=[117]then 1 else if(Lib.cut l [46]).1=[116]then 2 else 0)else 0:=by
 have G:He []=false:=rfl;have c0:Lib.cut [] [46]=([],[],false):=by unfold Lib.cut;rw[Xv [] rfl];rfl
 match l with
 |[]=>rw[c0];rfl
 |a::l=>
  by_cases F:a=46
  ·subst F
   rw[UJ];unfold I1;have H:¬(46::l).take 2=[117,46]:=by simp
   have I:¬(46::l).take 2=[116,46]:=by simp
   rw[nC H,nC I];simp
  ·obtain⟨J,O⟩:=Vm a l F
   rw[J,O];match l with
   |[]=>rw[c0];unfold I1;simp[G]
   |b::r=>
    by_cases hb:b=46
    ·subst hb
     rw[UJ];unfold I1;simp
    ·obtain⟨Q,R⟩:=Vm b r hb
     rw[Q];unfold I1;simp[hb]
structure Kv where
 n:BA
 v:BA
def AZ(a b:BA):Bool:=Op.bytesLess a.toList b.toList
theorem Qf:∀l:List UInt8,Op.bytesLess l l=false
 |[]=>rfl
 |a::l=>by simp[Op.bytesLess,Qf l]
theorem QO:∀{x y z:List UInt8},Op.bytesLess x y=true→Op.bytesLess y z=true→Op.bytesLess x z=true
 |_,[],_,h,_=>by simp[Op.bytesLess]at h
 |_,_::_,[],_,h=>by simp[Op.bytesLess]at h
 |[],_::_,_::_,_,_=>rfl
 |a::x,b::y,c::z,G,F=>by
  simp only[Op.bytesLess,Bool.or_eq_true,Bool.and_eq_true,r5,beq_iff_eq]at G F⊢;rcases G with G|⟨rfl,G⟩
  ·rcases F with F|⟨rfl,F⟩
   ·exact .inl (UInt8.lt_trans G F)
   ·exact .inl G
  ·rcases F with F|⟨rfl,F⟩
   ·exact .inl F
   ·exact .inr ⟨rfl,QO G F⟩
theorem Qx:∀x y:List UInt8,Op.bytesLess x y=true∨x=y∨Op.bytesLess y x=true
 |[],[]=>.inr (.inl rfl)
 |[],_::_=>.inl rfl
 |_::_,[]=>.inr (.inr rfl)
 |a::x,b::y=>by
  simp only[Op.bytesLess,Bool.or_eq_true,Bool.and_eq_true,r5,beq_iff_eq];rcases Qx x y with h|h|h
  ·rcases UInt8.lt_or_lt_of_ne|>fun f=>(Decidable.em (a=b)).imp_right f with e|e|e
   ·exact .inl (.inr ⟨e,h⟩)
   ·exact .inl (.inl e)
   ·exact .inr (.inr (.inl e))
  ·rcases UInt8.lt_or_lt_of_ne|>fun f=>(Decidable.em (a=b)).imp_right f with e|e|e
   ·exact .inr (.inl (by rw[e,h]))
   ·exact .inl (.inl e)
   ·exact .inr (.inr (.inl e))
  ·rcases UInt8.lt_or_lt_of_ne|>fun f=>(Decidable.em (a=b)).imp_right f with e|e|e
   ·exact .inr (.inr (.inr ⟨e.symm,h⟩))
   ·exact .inl (.inl e)
   ·exact .inr (.inr (.inl e))
theorem Jo{x y:BA}(h:x.toList=y.toList):x=y:=by
 rw[r1,r1]at h;have:x.data=y.data:=by
  cases hx:x.data;cases hy:y.data
  rw[hx,hy]at h;simpa using h
 cases x;cases y;simpa using this
theorem Hv(a:BA):AZ a a=false:=Qf _
theorem GE{a b c:BA}(F:AZ a b=true)(G:AZ b c=true):AZ a c=true:=QO F G
theorem IE(a b:BA):AZ a b=true∨a=b∨AZ b a=true:=by
 rcases Qx a.toList b.toList with h|h|h
 ·exact .inl h
 ·exact .inr (.inl (Jo h))
 ·exact .inr (.inr h)
theorem J4{a b:BA}(h:AZ a b=true):AZ b a=false:=by
 cases h2:AZ b a with
 |false=>rfl
 |true=>have:=GE h h2;rw[Hv]at this;cases this
theorem Ia{a b:BA}(h:AZ a b=true):a≠b:=by rintro rfl;rw[Hv]at h;cases h
theorem OS(a b:BA):(Op.bytesLess a.toList b.toList||a.toList==b.toList)= !(AZ b a):=by
 rcases IE a b with h|h|h
 ·rw[J4 h];show(AZ a b||_)=_;rw[h];rfl
 ·subst h;rw[Hv];simp
 ·rw[h];show(AZ a b||_)=_;rw[J4 h]
  have:¬a.toList=b.toList:=fun e=>Ia h (Jo e).symm;simpa using this
def Ed(l:List Kv)(k:Nat):Int:=match l[k]? with
 |none=>0
 |some x=>if Db x.n=0 then 4 else if 20<x.v.size then 1 else match k with
  |0=>0
  |j+1=>match l[j]? with
   |none=>0
   |some p=>if AZ p.n x.n=true then 0 else 3
def aF(l:List Kv)(k:Nat):Nat→Int
 |0=>0
 |n+1=>if Ed l k=0 then aF l (k+1) n else Ed l k
def Dc(l:List Kv):Int:=if 4<l.length then 2 else aF l 0 l.length
theorem Pc{l:List Kv}{k n:Nat}(h:Ed l k=0):aF l k (n+1)=aF l (k+1) n:=by simp[aF,h]
theorem Mp{l:List Kv}{k n:Nat}(h:¬Ed l k=0):aF l k (n+1)=Ed l k:=by simp[aF,h]
theorem KR{l:List Kv}{k:Nat}{x:Kv}(hx:l[k]? =some x)(h:Db x.n=0):Ed l k=4:=by simp[Ed,hx,h]
theorem KV{l:List Kv}{k:Nat}{x:Kv}(hx:l[k]? =some x)(h:Db x.n≠0)(F:20<x.v.size):Ed l k=1:=by simp[Ed,hx,h,F]
theorem P4{l:List Kv}{x:Kv}(hx:l[0]? =some x)(h:Db x.n≠0)(F:¬20<x.v.size):Ed l 0=0:=by
 simp only[Ed,hx];rw[nC h,nC F]
theorem Nk{l:List Kv}{j:Nat}{x p:Kv}(hx:l[j+1]? =some x)(F:l[j]? =some p)(h:Db x.n≠0)(G:¬20<x.v.size):Ed l (j+1)=if AZ p.n x.n=true then 0 else 3:=by
 simp only[Ed,hx,F];rw[nC h,nC G]
theorem WZ(l:List Kv)(k:Nat):0≤Ed l k∧Ed l k≤4:=by
 unfold Ed;split
 ·decide
 ·split
  ·decide
  ·split
   ·decide
   ·split
    ·decide
    ·split
     ·decide
     ·split<;>decide
theorem Tj(l:List Kv):∀n k,0≤aF l k n∧aF l k n≤4
 |0,_=>by simp[aF]
 |n+1,k=>by
  unfold aF;split
  ·exact Tj l n (k+1)
  ·exact WZ l k
theorem QS(l:List Kv):0≤Dc l∧Dc l≤4:=by
 unfold Dc;split
 ·decide
 ·exact Tj l _ _
def Hk(l:List Kv):Prop:=l.length≤4∧(∀x∈l,Db x.n≠0∧x.v.size≤20)∧l.Pairwise (fun p x=>AZ p.n x.n=true)
theorem Uc(l:List Kv):∀n k,aF l k n=0↔∀j,k≤j→j<k+n→Ed l j=0
 |0,k=>by simp[aF];intro j G H;omega
 |n+1,k=>by
  by_cases h:Ed l k=0
  ·rw[Pc h,Uc l n (k+1)]
   constructor
   ·intro F j G H
    by_cases e:j=k
    ·rw[e];exact h
    ·exact F j (by omega) (by omega)
   ·intro F j G H;exact F j (by omega) (by omega)
  ·rw[Mp h]
   constructor
   ·intro e;exact absurd e h
   ·intro F;exact absurd (F k (nn _) (by omega)) h
theorem Qb:∀{l:List Kv},(∀j p x,l[j]? =some p→l[j+1]? =some x→AZ p.n x.n=true)→l.Pairwise (fun p x=>AZ p.n x.n=true)
 |[],_=>List.Pairwise.nil
 |[_],_=>by simp
 |a::b::l,h=>by
  have F:(b::l).Pairwise (fun p x=>AZ p.n x.n=true):=Qb fun j p x H I=>h (j+1) p x (by simpa using H) (by simpa using I);have G:AZ a.n b.n=true:=h 0 a b rfl rfl
  refine rr.2 ⟨?_,F⟩;intro x hx;rcases nY.1 hx with rfl|hx
  ·exact G
  ·exact GE G ((rr.1 F).1 x hx)
theorem NQ(l:List Kv):Dc l=0↔Hk l:=by
 unfold Dc Hk;by_cases O:4<l.length
 ·rw[nD O]
  constructor
  ·intro h;cases h
  ·intro h;omega
 ·rw[nC O,Uc]
  constructor
  ·intro Q
   refine⟨by omega,?_,?_⟩
   ·intro x hx
    obtain⟨j,I⟩:=n5 hx;have T:=(ny.1 I).1;have F:=Q j (nN _) (by omega);by_cases G:Db x.n=0
    ·rw[KR I G]at F;cases F
    ·refine⟨G,?_⟩
     by_cases H:20<x.v.size
     ·rw[KV I G H]at F;cases F
     ·omega
   ·refine Qb fun j p x V J=>?_
    have T:=(ny.1 J).1;have F:=Q (j+1) (nN _) (by omega);by_cases G:Db x.n=0
    ·rw[KR J G]at F;cases F
    ·by_cases H:20<x.v.size
     ·rw[KV J G H]at F;cases F
     ·rw[Nk J V G H]at F
      split at F
      ·assumption
      ·cases F
  ·rintro⟨_,Y,Z⟩ j _ I
   obtain⟨x,hx⟩:∃x,l[j]? =some x:=⟨l[j]'(by omega),nt _⟩;obtain⟨G,H⟩:=Y x (nE hx);match j with
   |0=>exact P4 hx G (by omega)
   |i+1=>
    obtain⟨p,R⟩:∃p,l[i]? =some p:=⟨l[i]'(by omega),nt _⟩;rw[Nk hx R G (by omega),nD];have aa:=(ny.1 hx).2;have ab:=(ny.1 R).2;have:=rZ.1 Z i (i+1) (by omega) (by omega) (by omega);rw[aa,ab]at this;exact this
abbrev AH:=Addr→Option Value
def AR(c F:AH):Prop:=∀q v,c q=some v→F q=some v
theorem AR.trans{a b c:AH}(h:AR a b)(k:AR b c):AR a c:=fun q v e=>k q v (h q v e)
theorem Aj{w w':World}(hb:Below w.heap.size w w'):AR w.cell? w'.cell?:=fun _ _ h=>(hb.cell (nz _ _ h)).trans h
def GP(c:AH)(b:Nat):AH:=fun q=>if q.block=b then none else c q
theorem OE(c:AH)(b:Nat):AR (GP c b) c:=fun q v h=>by
 unfold GP at h;split at h
 ·cases h
 ·exact h
theorem Uk{c:AH}{b:Nat}{q:Addr}(h:q.block≠b):GP c b q=c q:=by unfold GP;rw[nC h]
def Bp(c:AH)(a:Option Addr)(l:List Kv):Prop:=
 l=[]∨∃b F,a=some ⟨b,F,none⟩∧∀k x,l[k]? =some x→c ⟨b,F+k*2,none⟩=some (.string x.n)∧c ⟨b,F+k*2+1,none⟩=some (.string x.v)
theorem Bp.on{c F:AH}{a:Option Addr}{l:List Kv}(h:Bp c a l)(hb:AR c F):Bp F a l:=by
 rcases h with h|⟨b,I,J,G⟩
 ·exact .inl h
 ·exact .inr ⟨b,I,J,fun k x H=>⟨hb _ _ (G k x H).1,hb _ _ (G k x H).2⟩⟩
theorem Bp.below{w w':World}{a:Option Addr}{l:List Kv}(h:Bp w.cell? a l)(hb:Below w.heap.size w w'):Bp w'.cell? a l:=h.on (Aj hb)
def GN(x:Kv):Bool:=decide (x.n.size≤60)&&decide (x.v.size≤60)
def Fu(l:List Kv):Bool:=decide (l.length≤8)&&l.all GN
inductive Nd where
 |mk (k m u g:Int) (o:Bool) (nh:List Kv) (d:BA) (ks:List (BA×Nd))
abbrev Ar:=List (BA×Nd)
def Nd.kids:Nd→Ar
 |.mk _ _ _ _ _ _ _ ks=>ks
structure Hd where
 aa:Option Addr
 ca:Nat
 ak:Option Addr
 ck:Nat
def Bl:Nd→Hd→List Value
 |.mk k m u g o nh d ks,h=>[.int .i64 k,.int .i64 m,.int .i64 u,.int .i64 g,.bool o,.slice h.aa nh.length h.ca,.string d,.slice h.ak ks.length h.ck]
def Al:Nd→Hd→Value
 |.mk k m u g o nh d ks,h=>.agg #[.int .i64 k,.int .i64 m,.int .i64 u,.int .i64 g,.bool o,.slice h.aa nh.length h.ca,.string d,.slice h.ak ks.length h.ck]
def Bi(c:AH)(b p:Nat):Nd→Hd→Prop
 |.mk k m u g o nh d ks,h=>c ⟨b,p,none⟩=some (.int .i64 k)∧c ⟨b,p+1,none⟩=some (.int .i64 m)∧c ⟨b,p+2,none⟩=some (.int .i64 u)∧c ⟨b,p+3,none⟩=some (.int .i64 g)∧
  c ⟨b,p+4,none⟩=some (.bool o)∧c ⟨b,p+5,none⟩=some (.slice h.aa nh.length h.ca)∧c ⟨b,p+6,none⟩=some (.string d)∧c ⟨b,p+7,none⟩=some (.slice h.ak ks.length h.ck)
theorem Bi.on{c F:AH}{b p:Nat}{x:Nd}{h:Hd}(G:Bi c b p x h)(hb:AR c F):Bi F b p x h:=by
 obtain⟨k,m,u,g,o,nh,d,ks⟩:=x;obtain⟨H,I,J,O,Q,R,T,V⟩:=G;exact⟨hb _ _ H,hb _ _ I,hb _ _ J,hb _ _ O,hb _ _ Q,hb _ _ R,hb _ _ T,hb _ _ V⟩
def Dq(c:AH)(b p:Nat)(n:BA)(x:Nd)(h:Hd):Prop:=c ⟨b,p,none⟩=some (.string n)∧Bi c b (p+1) x h
theorem Dq.on{c F:AH}{b p:Nat}{n:BA}{x:Nd}{h:Hd}(G:Dq c b p n x h)(hb:AR c F):Dq F b p n x h:=⟨hb _ _ G.1,G.2.on hb⟩
inductive Ah (c:AH):Nd→Hd→Prop
 |mk {k m u g:Int} {o:Bool} {nh:List Kv} {d:BA} {ks:Ar} {h:Hd} (b off:Nat) (f:Nat→Hd) (ha:Bp c h.aa nh) (hca:nh.length≤h.ca∧h.ca≤9223372036854775807) (hck:ks.length≤h.ck∧h.ck≤9223372036854775807)
  (hak:ks=[]∨h.ak=some ⟨b,off,none⟩) (hc:∀i n x,ks[i]? =some (n,x)→Dq c b (off+i*9) n x (f i)) (hr:∀i n x,ks[i]? =some (n,x)→Ah c x (f i)):Ah c (.mk k m u g o nh d ks) h
theorem Ah.on{c F:AH}{x:Nd}{h:Hd}(G:Ah c x h)(hb:AR c F):Ah F x h:=by
 induction G with
 |mk b H f I J O Q R _ T=>exact .mk b H f (I.on hb) J O Q (fun i n x V=>(R i n x V).on hb) T
def Ea(c:AH)(a:Option Addr)(ks:Ar):Prop:=
 ks=[]∨∃b F,a=some ⟨b,F,none⟩∧∃f:Nat→Hd,∀i n x,ks[i]? =some (n,x)→Dq c b (F+i*9) n x (f i)∧Ah c x (f i)
theorem Ea.on{c F:AH}{a:Option Addr}{ks:Ar}(h:Ea c a ks)(hb:AR c F):Ea F a ks:=by
 rcases h with h|⟨b,I,J,f,G⟩
 ·exact .inl h
 ·exact .inr ⟨b,I,J,f,fun i n x H=>⟨(G i n x H).1.on hb,(G i n x H).2.on hb⟩⟩
theorem Cq{c:AH}{k m u g:Int}{o:Bool}{nh:List Kv}{d:BA}{ks:Ar}{h:Hd}:
 Ah c (.mk k m u g o nh d ks) h↔Bp c h.aa nh∧(nh.length≤h.ca∧h.ca≤9223372036854775807)∧(ks.length≤h.ck∧h.ck≤9223372036854775807)∧Ea c h.ak ks:=by
 constructor
 ·intro Q
  cases Q with
  |mk b J f G H I R T V=>
   refine⟨G,H,I,?_⟩;rcases R with e|e
   ·exact .inl e
   ·exact .inr ⟨b,J,e,f,fun i n x F=>⟨T i n x F,V i n x F⟩⟩
 ·rintro⟨G,H,I,Y⟩
  rcases Y with e|⟨b,J,e,f,O⟩
  ·subst e
   exact .mk 0 0 (fun _=>h) G H I (.inl rfl) (fun i n x F=>by simp at F) (fun i n x F=>by simp at F)
  ·exact .mk b J f G H I (.inr e) (fun i n x F=>(O i n x F).1) (fun i n x F=>(O i n x F).2)
theorem Bi.below{w w':World}{b p:Nat}{x:Nd}{h:Hd}(F:Bi w.cell? b p x h)(hb:Below w.heap.size w w'):Bi w'.cell? b p x h:=F.on (Aj hb)
theorem Dq.below{w w':World}{b p:Nat}{n:BA}{x:Nd}{h:Hd}(F:Dq w.cell? b p n x h)(hb:Below w.heap.size w w'):Dq w'.cell? b p n x h:=F.on (Aj hb)
theorem Ah.ab{w w':World}{x:Nd}{h:Hd}(F:Ah w.cell? x h)(hb:Below w.heap.size w w'):Ah w'.cell? x h:=Ah.on F (Aj hb)
theorem Ea.below{w w':World}{a:Option Addr}{ks:Ar}(h:Ea w.cell? a ks)(hb:Below w.heap.size w w'):Ea w'.cell? a ks:=Ea.on h (Aj hb)
def Gz:Nd→Nat
 |.mk _ _ _ _ _ _ _ ks=>depL ks+1
 where depL:Ar→Nat
 |[]=>0
 |(_,x)::l=>max (Gz x) (depL l)
theorem RZ:∀{ks:Ar} {i:Nat} {n:BA} {x:Nd},ks[i]? =some (n,x)→Gz x≤Gz.depL ks
 |[],_,_,_,h=>by simp at h
 |(m,y)::l,0,n,x,h=>by simp at h;rw[Gz.depL,h.2];omega
 |(m,y)::l,i+1,n,x,h=>by have:=RZ (ks:=l) (i:=i) (by simpa using h);rw[Gz.depL];omega
theorem di{k m u g:Int}{o:Bool}{nh:List Kv}{d:BA}{ks:Ar}{i:Nat}{n:BA}{x:Nd}(h:ks[i]? =some (n,x)):Gz x<Gz (.mk k m u g o nh d ks):=by
 have:=RZ h;rw[Gz];omega
theorem XC{c:AH}{a:Option Addr}{l F:List Kv}(h:Bp c a l)(h':Bp c a F)(H:l.length=F.length):l=F:=by
 rcases h with rfl|⟨b,R,rfl,I⟩
 ·exact(nX (by simpa using H.symm)).symm
 rcases h' with rfl|⟨T,V,e,J⟩
 ·exact nX (by simpa using H)
 simp only[nV,rc]at e;obtain⟨rfl,rfl,_⟩:=e;refine List.ext_getElem H fun i Y Z=>?_;obtain⟨O,Q⟩:=I i l[i] (nt _)
 obtain⟨G,q1⟩:=J i F[i] (nt _);rw[O]at G;rw[Q]at q1
 simp only[nV,Value.string.injEq]at G q1;cases hx:l[i];cases hy:F[i]
 rw[hx,hy]at G q1;simp only at G q1;rw[G,q1]
theorem YE{c:AH}{x:Nd}{h:Hd}(ao:Ah c x h):∀{y:Nd} {h':Hd} {b p:Nat},Bi c b p x h→Bi c b p y h'→Ah c y h'→x=y:=by
 induction ao with
 |@mk k m u g o nh d ks h bk bl f ap bn bo G ar bp ay=>
  intro y h' b p hx az a1;cases a1 with
  |@mk bs bu bv bx bA bB bC F h' bF bG bH ad bY b0 H a6 a7=>
   obtain⟨a0,a8,a2,a3,a4,a5,ba,bb⟩:=hx;obtain⟨I,J,O,Q,R,T,V,Y⟩:=az;rw[a0]at I;rw[a8]at J;rw[a2]at O;rw[a3]at Q;rw[a4]at R;rw[a5]at T;rw[ba]at V;rw[bb]at Y
   simp only[nV,Value.int.injEq,Value.bool.injEq,Value.string.injEq,rp,true_and]at I J O Q R T V Y;subst I J O Q R V;obtain⟨bd,be,_⟩:=T;obtain⟨Z,aa,_⟩:=Y;rw[←bd]at ad;have:=XC ap ad be;subst this;have bf:ks=F:=by
    rcases G with rfl|G
    ·exact(nX (by simpa using aa.symm)).symm
    rcases H with rfl|H
    ·exact nX (by simpa using aa)
    rw[G,H]at Z;simp only[nV,rc]at Z;obtain⟨rfl,rfl,_⟩:=Z;refine List.ext_getElem aa fun i b1 b2=>?_;have g1:ks[i]? =some (ks[i].1,ks[i].2):=nt _
    have ak:F[i]? =some (F[i].1,F[i].2):=nt _;obtain⟨bg,bi⟩:=ar i _ _ g1;obtain⟨ab,q1⟩:=a6 i _ _ ak;have:=ay i _ _ g1 bi q1 (a7 i _ _ ak);rw[bg]at ab;simp only[nV,Value.string.injEq]at ab;exact Prod.ext ab this
   rw[bf]
theorem dC{c H:AH}{b p:Nat}{y:Nd}{ap T:Hd}(ar:Bi c b p y ap)(bi:Ah c y ap)(bk:Ah c y T)(bl:Bi H b p y T)
 (J:∀q,q≠⟨b,p+5,none⟩→q≠⟨b,p+7,none⟩→H q=c q):∀(N:Nat) (x:Nd) (h:Hd),Gz x≤N→Ah c x h→Ah H x h:=by
 obtain⟨b4,b5,bn,b6,b7,b9,cb,cd⟩:=y;have K:=ar;obtain⟨a0,cf,a2,a3,a4,a5,cg,ad⟩:=K;have O:∀q s,c q=some (.string s)→H q=some (.string s):=by
  intro q s F;rw[J q _ _,F]
  ·rintro rfl;rw[a5]at F;cases F
  ·rintro rfl;rw[ad]at F;cases F
 have V:∀q s,c q=some (.int .i64 s)→H q=some (.int .i64 s):=by
  intro q s F;rw[J q _ _,F]
  ·rintro rfl;rw[a5]at F;cases F
  ·rintro rfl;rw[ad]at F;cases F
 have bo:∀q s,c q=some (.bool s)→H q=some (.bool s):=by
  intro q s F;rw[J q _ _,F]
  ·rintro rfl;rw[a5]at F;cases F
  ·rintro rfl;rw[ad]at F;cases F
 intro N;induction N with
 |zero=>intro x h hd;obtain⟨k,m,u,g,o,nh,d,ks⟩:=x;rw[Gz]at hd;omega
 |succ N ay=>
  intro x h hd bp;cases bp with
  |@mk k m u g o nh d ks h I Q f bs bu bv bx bA az=>
   have bB:Bp H h.aa nh:=by
    rcases bs with e|⟨bC,bF,e,a1⟩
    ·exact .inl e
    ·exact .inr ⟨bC,bF,e,fun i x G=>⟨O _ _ (a1 i x G).1,O _ _ (a1 i x G).2⟩⟩
   have a6:∀i n x,ks[i]? =some (n,x)→∃ak,Dq H I (Q+i*9) n x ak∧Ah H x ak:=by
    intro i n x G;have a7:Gz x≤N:=by have:=di (k:=k) (m:=m) (u:=u) (g:=g) (o:=o) (nh:=nh) (d:=d) G;omega
    obtain⟨a8,Y⟩:=bA i n x G;by_cases Z:I=b∧Q+i*9+1=p
    ·obtain⟨aa,R⟩:=Z
     have ba:=Y;rw[aa,R]at ba;have bb:=YE (az i n x G) ba ar bi;refine⟨T,⟨O _ _ a8,?_⟩,ay x T a7 (by rw[bb];exact bk)⟩;rw[aa,R,bb];exact bl
    ·refine⟨f i,⟨O _ _ a8,?_⟩,ay x (f i) a7 (az i n x G)⟩
     generalize f i=ak at Y;generalize Q+i*9+1=ao at Y Z;obtain⟨ch,cl,bG,co,cp,cr,cu,cx⟩:=x;obtain⟨bH,aa,R,bY,bd,b0,b1,b2⟩:=Y;refine⟨V _ _ bH,V _ _ aa,V _ _ R,V _ _ bY,bo _ _ bd,?_,O _ _ b1,?_⟩
     ·rw[J,b0]
      ·intro e;simp at e;exact Z ⟨e.1,e.2⟩
      ·intro e;simp at e
       obtain⟨rfl,e⟩:=e;have:ao=p+2:=by omega
       subst this;have be:c ⟨I,p+4,none⟩=some (.int .i64 bG):=R;rw[a4]at be;cases be
     ·rw[J,b2]
      ·intro e;simp at e
       obtain⟨rfl,e⟩:=e;have:p=ao+2:=by omega
       subst this;have bf:c ⟨I,ao+4,none⟩=some (.int .i64 bn):=a2;rw[bd]at bf;cases bf
      ·intro e;simp at e;exact Z ⟨e.1,e.2⟩
   obtain⟨ab,hF⟩:∃ab:Nat→Hd,∀i n x,ks[i]? =some (n,x)→Dq H I (Q+i*9) n x (ab i)∧Ah H x (ab i):=by
    refine⟨fun i=>if G:i<ks.length then Classical.choose (a6 i ks[i].1 ks[i].2 (nt G))else h,fun i n x G=>?_⟩;obtain⟨bg,b3⟩:=ny.1 G;simp only[bg,dite_true];have:=rg (a6 i ks[i].1 ks[i].2 (nt bg));simp only[b3]at this⊢;exact this
   exact .mk I Q ab bB bu bv bx (fun i n x G=>(hF i n x G).1) (fun i n x G=>(hF i n x G).2)
theorem Sq{c F:AH}{b p:Nat}{y:Nd}{G H:Hd}(I:Bi c b p y G)(J:Ah c y G)(O:Ah c y H)(Q:Bi F b p y H)
 (R:∀q,q≠⟨b,p+5,none⟩→q≠⟨b,p+7,none⟩→F q=c q) {x:Nd} {h:Hd} (hx:Ah c x h):Ah F x h:=dC I J O Q R _ x h (nn _) hx
mutual
def DF:Nd→Int→Int
 |.mk _ _ _ _ _ nh d ks,left=>if left≤0∨Fu nh=false∨300<d.size∨left<(ks.length:Int)then 0 else DE ks (left-1)
def DE:List (BA×Nd)→Int→Int
 |[],left=>left
 |(n,x)::l,left=>if left≤0 then left else if 60<n.size then 0 else DE l (DF x left)
end
mutual
theorem Rd:∀(x:Nd) (left:Int),DF x left≤max left 0
 |.mk _ _ _ _ _ nh d ks,left=>by
  rw[DF];split
  ·omega
  ·have:=RN ks (left-1);omega
theorem RN:∀(l:List (BA×Nd)) (left:Int),DE l left≤max left 0
 |[],left=>by rw[DE];omega
 |(n,x)::l,left=>by
  rw[DE];split
  ·omega
  ·split
   ·omega
   ·have F:=RN l (DF x left)
    have G:=Rd x left;omega
end
theorem Xe{l:List (BA×Nd)}{left:Int}(h:left≤0):DE l left=left:=by
 cases l with
 |nil=>rw[DE]
 |cons p l=>obtain⟨n,x⟩:=p;rw[DE,nD h]
theorem WX{ks:List (BA×Nd)}{k:Nat}{n:BA}{x:Nd}{left:Int}(F:ks[k]? =some (n,x))(h:0<left):DE (ks.drop k) left=if 60<n.size then 0 else DE (ks.drop (k+1)) (DF x left):=by
 obtain⟨G,H⟩:=ny.1 F;rw[nO G,H,DE,nC (by omega)]
mutual
def cnt:Nd→Nat
 |.mk _ _ _ _ _ _ _ ks=>cntL ks+1
def cntL:Ar→Nat
 |[]=>0
 |(_,x)::l=>cnt x+cntL l
end
mutual
def AB:Nd→Prop
 |.mk _ _ _ _ _ nh d ks=>(nh.length≤255∧∀r∈nh,r.n.size≤255∧r.v.size≤255)∧d.size≤300∧Bu ks
def Bu:Ar→Prop
 |[]=>True
 |(n,x)::l=>n.size≤255∧AB x∧Bu l
end
theorem J9:∀{ks:Ar} {i:Nat} {n:BA} {x:Nd},Bu ks→ks[i]? =some (n,x)→n.size≤255∧AB x
 |[],_,_,_,_,h=>by simp at h
 |(m,y)::l,0,n,x,hl,h=>by simp at h;rw[Bu]at hl;rw[←h.1,←h.2];exact⟨hl.1,hl.2.1⟩
 |(m,y)::l,i+1,n,x,hl,h=>by rw[Bu]at hl;exact J9 hl.2.2 (by simpa using h)
theorem Jv:∀{ks:Ar} {i:Nat} {n:BA} {x:Nd},ks[i]? =some (n,x)→cnt x≤cntL ks
 |[],_,_,_,h=>by simp at h
 |(m,y)::l,0,n,x,h=>by simp at h;rw[cntL,h.2];omega
 |(m,y)::l,i+1,n,x,h=>by have:=Jv (ks:=l) (i:=i) (by simpa using h);rw[cntL];omega
theorem Gc:∀ks:Ar,ks.length≤cntL ks
 |[]=>nn _
 |(n,.mk _ _ _ _ _ _ _ ks)::l=>by have:=Gc l;rw[cntL,cnt];simp;omega
theorem Yz{l:List Kv}(h:Fu l=true):l.length≤255∧∀r∈l,r.n.size≤255∧r.v.size≤255:=by
 simp only[Fu,GN,Bool.and_eq_true,r5,List.all_eq_true]at h;exact⟨by omega,fun r F=>by have:=h.2 r F;omega⟩
mutual
theorem Rc:∀(x:Nd) (left:Int),0<DF x left→AB x∧(cnt x:Int)+DF x left≤left
 |.mk k m u g o nh d ks,left,h=>by
  rw[DF]at h⊢;by_cases F:left≤0∨Fu nh=false∨300<d.size∨left<(ks.length:Int)
  ·rw[nD F]at h;omega
  ·rw[nC F]at h⊢
   obtain⟨G,H⟩:=Qm ks (left-1) h;have hb:Fu nh=true:=by cases hb:Fu nh with|true=>rfl|false=>exact absurd (.inr (.inl hb)) F
   refine⟨by rw[AB];exact⟨Yz hb,by omega,G⟩,?_⟩;rw[cnt];omega
theorem Qm:∀(l:Ar) (left:Int),0<DE l left→Bu l∧(cntL l:Int)+DE l left≤left
 |[],left,h=>by rw[DE,Bu,cntL];simp
 |(n,x)::l,left,h=>by
  rw[DE]at h⊢;by_cases F:left≤0
  ·rw[nD F]at h;omega
  rw[nC F]at h⊢;by_cases G:60<n.size
  ·rw[nD G]at h;omega
  rw[nC G]at h⊢;obtain⟨H,J⟩:=Qm l _ h;have hx:0<DF x left:=by omega
  obtain⟨I,O⟩:=Rc x left hx;refine⟨by rw[Bu];exact⟨by omega,I,H⟩,?_⟩;rw[cntL];omega
end
abbrev CJ:List Value:=[.bool false,.int .i64 0,.int .i64 0,.int .i64 0,.bool false,.bool false,.int .i64 0,.int .i64 0,.int .i64 0,.bool false,.slice none 0 0,.bool false,.int .i64 0,.int .i64 0,.int .i64 0,.int .i64 0,.bool false,.slice none 0 0,.string ⟨#[]⟩,.slice none 0 0,.int .i64 0]
abbrev AU:Obj:=.cells #[.bool false,.int .i64 0,.int .i64 0,.int .i64 0,.bool false,.bool false,.int .i64 0,.int .i64 0,.int .i64 0,.bool false,.slice none 0 0,.bool false,.int .i64 0,.int .i64 0,.int .i64 0,.int .i64 0,.bool false,.slice none 0 0,.string ⟨#[]⟩,.slice none 0 0,.int .i64 0] 101
abbrev AJ:Obj:=.cells #[.int .i64 0,.int .i64 0,.int .i64 0,.int .i64 0,.bool false,.slice none 0 0,.string ⟨#[]⟩,.slice none 0 0] 54
abbrev C9:Obj:=.cells #[.int .i64 0,.int .i64 0,.int .i64 0,.int .i64 0,.int .i64 0,.slice none 0 0,.string ⟨#[]⟩] 44
abbrev As(k m u g:Int)(o:Bool)(nh:List Kv)(d:BA)(ks:List (BA×Nd))(h:Hd):Obj:=.cells #[.int .i64 k,.int .i64 m,.int .i64 u,.int .i64 g,.bool o,.slice h.aa nh.length h.ca,.string d,.slice h.ak ks.length h.ck] 54
abbrev A5(k m u g:Int)(o:Bool)(nh:List Kv)(d:BA)(ks:List (BA×Nd))(h:Hd):Value:=.agg #[.int .i64 k,.int .i64 m,.int .i64 u,.int .i64 g,.bool o,.slice h.aa nh.length h.ca,.string d,.slice h.ak ks.length h.ck]
abbrev Az(cop:Int)(cpath coth cname cdata:BA)(cA cB:Int):Obj:=.cells #[.int .i64 cop,.string cpath,.string coth,.string cname,.string cdata,.int .i64 cA,.int .i64 cB] 48
abbrev PB(cop:Int)(cpath coth cname cdata:BA)(cA cB:Int):Value:=.agg #[.int .i64 cop,.string cpath,.string coth,.string cname,.string cdata,.int .i64 cA,.int .i64 cB]
theorem hid{p:Prop}(h:p):Hid p:=h
theorem tk:(∀(a:Act) (t:Nat) (v:Value),a.put (some t) v={a with tmps:=a.tmps.setIfInBounds t v})∧(∀(l:List Value) (i:Nat) (v:Value),l.toArray.setIfInBounds i v=(l.set i v).toArray)∧(∀(x v:Value) (l:List Value),(x::l).set 0 v=v::l)∧∀(x v:Value) (l:List Value) (n:Nat),(x::l).set (n+1) v=x::l.set n v:=⟨fun _ _ _=>rfl,fun l i v=>by simp,fun _ _ _=>rfl,fun _ _ _ _=>rfl⟩
abbrev Bw(w w':World):Prop:=Below w.heap.size w w'
abbrev sB(w:World)(b:Nat)(v0 v1 v2 v3 v4 v5 v6 v7:Value):World:=(((((((w.setCell ⟨b,0,none⟩ v0).setCell ⟨b,1,none⟩ v1).setCell ⟨b,2,none⟩ v2).setCell ⟨b,3,none⟩ v3).setCell ⟨b,4,none⟩ v4).setCell ⟨b,5,none⟩ v5).setCell ⟨b,6,none⟩ v6).setCell ⟨b,7,none⟩ v7
abbrev Ce(w:World)(b o:Nat)(v:Value):Prop:=w.cell? ⟨b,o,none⟩=some v
section
variable {P:Program} {md:Region.Mode} {ops:Array Oper} {Q:Exit→Act→World→Prop} {S:World→Prop}
theorem tI(i:Nat)(oi:Oper)(v:Value){fuel:Nat}{listed:Array Bool}{a:Act}{w:World}(hS:S w)(h:wpAnyH P md ops Q S fuel (listed.setIfInBounds i true) (a.put oi.dst v) w)(hi:ops[i]? =some oi:=by rfl)(hs:Region.noSelect ops=true:=by kernel_rfl)(hf:Region.free md ops listed i=true:=by kernel_rfl)(hr:(Region.ready md ops listed).contains i=true:=by kernel_rfl)(hQ:∀c a w,Q (.panic c) (a.put oi.dst v) w→Q (.panic c) a w:=by exact fun _ _ _ h=>h)(hw:Region.wanted oi (yielded ops a.tmps)=true:=by rfl)(hv:∀w,S w→(execOp a.eval oi).run P w=.ok (.value v) w:=by intro w hw;(repeat(obtain⟨_,hw⟩:=hw));go_simp):wpAnyH P md ops Q S (fuel+1) listed a w:=
 nT hi hs hf hr hQ (Or.inl ⟨hw,hv⟩) hS h
theorem tO(i:Nat)(oi:Oper){fuel:Nat}{listed:Array Bool}{a:Act}{w:World}(hS:S w)(h:wpAnyH P md ops Q S fuel (listed.setIfInBounds i true) (a.put oi.dst undef) w)(hi:ops[i]? =some oi:=by rfl)(hs:Region.noSelect ops=true:=by kernel_rfl)(hf:Region.free md ops listed i=true:=by kernel_rfl)(hr:(Region.ready md ops listed).contains i=true:=by kernel_rfl)(hQ:∀c a w,Q (.panic c) (a.put oi.dst undef) w→Q (.panic c) a w:=by exact fun _ _ _ h=>h)(hw:Region.wanted oi (yielded ops a.tmps)=false:=by rfl):wpAnyH P md ops Q S (fuel+1) listed a w:=
 nT hi hs hf hr hQ (Or.inr ⟨hw,rfl⟩) hS h
end
def CV(n:Int):Bool:=decide (0≤n)&&decide (n≤65535)
def Jc(k m u g:Int)(o:Bool)(la F G:Nat)(up H:Bool):Int:=
 if 200<F then 1 else if k=3∧(up=false∨0<m∨0<u∨0<g∨0<la)then 3 else if(0<F∧k≠1)∨(0<G∧k≠2)then 3 else if o=true∧(k≠2∨H=true∨up=false)then 3 else 0
def DT(up F:Bool):Nd→Int
 |.mk k m u g o nh d ks=>if k<1∨3<k then 3 else if m<0∨4095<m∨CV u=false∨CV g=false then 1 else if Dc nh≠0 then Dc nh else Jc k m u g o nh.length d.size ks.length up F
theorem YB(k m u g:Int)(o:Bool)(la F G:Nat)(up H:Bool):0≤Jc k m u g o la F G up H∧Jc k m u g o la F G up H≤4:=by
 unfold Jc;repeat' split
 all_goals decide
theorem YG(up F:Bool)(x:Nd):0≤DT up F x∧DT up F x≤4:=by
 obtain⟨k,m,u,g,o,nh,d,ks⟩:=x;rw[DT];have G:=QS nh;have H:=YB k m u g o nh.length d.size ks.length up F;repeat' split
 all_goals omega
def Je:Option BA→BA→Bool
 |none,_=>true
 |some p,n=>AZ p n
mutual
def CT(up:Bool):Nd→Nat→Nat→Int×Nat
 |.mk k m u g o nh d ks,deep,seen=>if 60≤seen∨6<deep then(2,seen)else if DT up (decide (deep=0)) (.mk k m u g o nh d ks)≠0 then(DT up (decide (deep=0)) (.mk k m u g o nh d ks),seen+1)else CQ up none ks (deep+1) (seen+1)
def CQ(up:Bool):Option BA→Ar→Nat→Nat→Int×Nat
 |_,[],_,seen=>(0,seen)
 |p,(n,x)::l,deep,seen=>if AY n=false then(4,seen)else if Je p n=false then(3,seen)else if(CT up x deep seen).1≠0 then CT up x deep seen else CQ up (some n) l deep (CT up x deep seen).2
end
def CC(up:Bool):Nd→Int
 |.mk k m u g o nh d ks=>if k≠2 then 7 else(CT up (.mk k m u g o nh d ks) 0 0).1
mutual
theorem QQ(up:Bool):∀(x:Nd) (F G:Nat),G≤60→(0≤(CT up x F G).1∧(CT up x F G).1≤4)∧(CT up x F G).2≤60
 |.mk k m u g o nh d ks,F,G,hs=>by
  rw[CT];split
  ·exact⟨by simp,by simp;omega⟩
  ·rename_i h
   split
   ·exact⟨(YG up (decide (F=0)) (.mk k m u g o nh d ks):_),by simp;omega⟩
   ·exact Qr up none ks (F+1) (G+1) (by omega)
theorem Qr(up:Bool):∀(p:Option BA) (l:Ar) (F G:Nat),G≤60→(0≤(CQ up p l F G).1∧(CQ up p l F G).1≤4)∧(CQ up p l F G).2≤60
 |p,[],F,G,hs=>by rw[CQ];exact⟨by simp,hs⟩
 |p,(n,x)::l,F,G,hs=>by
  rw[CQ];have H:=QQ up x F G hs;split
  ·exact⟨by simp,hs⟩
  ·split
   ·exact⟨by simp,hs⟩
   ·split
    ·exact H
    ·exact Qr up (some n) l F _ H.2
end
def EY(ks:Ar):Nat→Option BA
 |0=>none
 |j+1=>(ks[j]?).map (·.1)
theorem YQ{up:Bool}{ks:Ar}{j:Nat}{n:BA}{x:Nd}{G F:Nat}(h:ks[j]? =some (n,x)):
 CQ up (EY ks j) (ks.drop j) G F=if AY n=false then(4,F)else if Je (EY ks j) n=false then(3,F)else if(CT up x G F).1≠0 then CT up x G F else CQ up (EY ks (j+1)) (ks.drop (j+1)) G (CT up x G F).2:=by
 obtain⟨H,I⟩:=ny.1 h;have:EY ks (j+1)=some n:=by simp[EY,h]
 rw[nO H,I,CQ,this]
def BD(m:BA):Ar→Nat→Int
 |[],_=>-1
 |p::l,i=>if p.1=m then(i:Int)else BD m l (i+1)
def Hl(m:BA):Nd→Int
 |.mk k _ _ _ _ _ _ ks=>if k=2 then BD m ks 0 else-1
theorem IR(m:BA):∀(ks:Ar) (i:Nat),(BD m ks i=-1∧∀p∈ks,p.1≠m)∨∃j x,BD m ks i=((i+j:Nat):Int)∧ks[j]? =some (m,x)∧∀q,q<j→∀p,ks[q]? =some p→p.1≠m
 |[],i=>.inl ⟨by rw[BD],by simp⟩
 |p::l,i=>by
  rw[BD];by_cases h:p.1=m
  ·rw[nD h]
   refine .inr ⟨0,p.2,by simp,by simp[←h],fun q J=>by omega⟩
  ·rw[nC h]
   rcases IR m l (i+1)with⟨G,H⟩|⟨j,x,G,H,O⟩
   ·refine .inl ⟨G,?_⟩
    intro I F;rcases nY.1 F with e|e
    ·rw[e];exact h
    ·exact H I e
   ·refine .inr ⟨j+1,x,by rw[G];congr 1;omega,by simpa using H,?_⟩
    intro q J I F;cases q with
    |zero=>simp at F;rw[←F];exact h
    |succ q=>exact O q (by omega) I (by simpa using F)
def D7(m:BA)(ks:Ar):Nat:=ks.findIdx (fun p=>AZ m p.1)
theorem dG(m:BA)(ks:Ar):D7 m ks≤ks.length:=List.findIdx_le_length
def KD(m:BA)(x:Nd)(ks:Ar):Ar:=
 if BD m ks 0<0 then ks.take (D7 m ks)++(m,x)::ks.drop (D7 m ks)else ks.take (BD m ks 0).toNat++(m,x)::ks.drop ((BD m ks 0).toNat+1)
def KA(m:BA)(ks:Ar):Ar:=ks.take (BD m ks 0).toNat++ks.drop ((BD m ks 0).toNat+1)
def GM(c:Option Nd)(m:BA)(ks:Ar):Except Int Ar:=match c with
 |some x=>if AY m=false then .error 4 else .ok (KD m x ks)
 |none=>if BD m ks 0<0 then .error 5 else .ok (KA m ks)
def Nd.with:Nd→Ar→Nd
 |.mk k m u g o nh d _,ks=>.mk k m u g o nh d ks
def Nd.kind:Nd→Int
 |.mk k _ _ _ _ _ _ _=>k
def Nd.kid(x:Nd)(j:Nat):Nd:=match x.kids[j]? with
 |some p=>p.2
 |none=>x
def AV(c:Option Nd):List BA→Nd→Except Int Nd
 |[],_=>.error 7
 |[m],x=>if x.kind≠2 then .error 7 else(GM c m x.kids).map x.with
 |m::F::l,x=>if x.kind≠2 then .error 7 else if BD m x.kids 0<0 then .error 5 else
   (AV c (F::l) (x.kid (BD m x.kids 0).toNat)).map fun z=>x.with (x.kids.set (BD m x.kids 0).toNat (m,z))
def BU:List BA→Nd→Option Nd
 |[],x=>some x
 |m::l,x=>if x.kind≠2∨BD m x.kids 0<0 then none else BU l (x.kid (BD m x.kids 0).toNat)
def zN:Nd:=.mk 0 0 0 0 false [] ⟨#[]⟩ []
def EK:Except Int Nd→Int
 |.error f=>f
 |.ok _=>0
def DV:Except Int Nd→Nd
 |.error _=>zN
 |.ok x=>x
abbrev BH:=List (BA×Nd×Hd)
def bare(L:BH):Ar:=L.map fun e=>(e.1,e.2.1)
def Bn:BH→List Value
 |[]=>[]
 |(n,x,h)::l=>.string n::(Bl x h++Bn l)
theorem D1(x:Nd)(h:Hd):(Bl x h).length=8:=by obtain⟨k,m,u,g,o,nh,d,ks⟩:=x;rfl
theorem Ht:∀L:BH,(Bn L).length=L.length*9
 |[]=>rfl
 |(n,x,h)::l=>by simp[Bn,Ht l,D1];omega
theorem J0:∀A B:BH,Bn (A++B)=Bn A++Bn B
 |[],_=>rfl
 |(n,x,h)::l,B=>by simp[Bn,J0 l B]
theorem Kh(x:Nd)(h:Hd):∀u∈Bl x h,u.oneCell'=true:=by
 obtain⟨k,m,u,g,o,nh,d,ks⟩:=x;intro v F;simp[Bl]at F;rcases F with rfl|rfl|rfl|rfl|rfl|rfl|rfl|rfl<;>rfl
theorem Md:∀L:BH,∀u∈Bn L,u.oneCell'=true
 |[],u,h=>by cases h
 |(n,x,h)::l,u,F=>by
  simp[Bn]at F;rcases F with rfl|F|F
  ·rfl
  ·exact Kh x h u F
  ·exact Md l u F
theorem JB:∀(L:BH) (i:Nat) (n:BA) (x:Nd) (h:Hd),L[i]? =some (n,x,h)→∀q u,(.string n::Bl x h)[q]? =some u→(Bn L)[i*9+q]? =some u
 |[],i,n,x,h,hi=>by simp at hi
 |(n',x',h')::l,0,n,x,h,hi=>by
  simp at hi;obtain⟨rfl,rfl,rfl⟩:=hi;intro q u F;have G:q<9:=by have:=(ny.1 F).1;simp[D1]at this;omega
  rw[r3,nU];show(Value.string n'::(Bl x' h'++Bn l))[q]? =some u;cases q with
  |zero=>exact F
  |succ q=>simp at F⊢;rw[rH (by rw[D1];omega)];exact F
 |(n',x',h')::l,i+1,n,x,h,hi=>by
  intro q u F;have:=JB l i n x h (by simpa using hi) q u F;have e:(i+1)*9+q=(i*9+q)+8+1:=by omega
  rw[e];show(Value.string n'::(Bl x' h'++Bn l))[i*9+q+8+1]? =some u;simp only[List.getElem?_cons_succ];rw[ro (by rw[D1];omega),D1];rw[show i*9+q+8-8=i*9+q by omega];exact this
theorem Ec{c:AH}{b p:Nat}{x:Nd}{h:Hd}:Bi c b p x h↔∀q u,(Bl x h)[q]? =some u→c (aD b (p+q))=some u:=by
 obtain⟨k,m,u,g,o,nh,d,ks⟩:=x;constructor
 ·rintro⟨G,H,I,J,O,Q,R,T⟩ q v F
  match q,F with
  |0,F=>simp[Bl]at F;subst F;exact G
  |1,F=>simp[Bl]at F;subst F;exact H
  |2,F=>simp[Bl]at F;subst F;exact I
  |3,F=>simp[Bl]at F;subst F;exact J
  |4,F=>simp[Bl]at F;subst F;exact O
  |5,F=>simp[Bl]at F;subst F;exact Q
  |6,F=>simp[Bl]at F;subst F;exact R
  |7,F=>simp[Bl]at F;subst F;exact T
  |q+8,F=>simp[Bl]at F
 ·intro F
  exact⟨F 0 _ rfl,F 1 _ rfl,F 2 _ rfl,F 3 _ rfl,F 4 _ rfl,F 5 _ rfl,F 6 _ rfl,F 7 _ rfl⟩
theorem Jz{c:AH}{b p:Nat}{n:BA}{x:Nd}{h:Hd}:Dq c b p n x h↔∀q u,(Value.string n::Bl x h)[q]? =some u→c (aD b (p+q))=some u:=by
 unfold Dq;rw[Ec];constructor
 ·rintro⟨G,H⟩ q u F
  cases q with
  |zero=>simp at F;subst F;exact G
  |succ q=>have:=H q u (by simpa using F);rw[Nat.add_assoc,Nat.add_comm 1 q]at this;exact this
 ·intro F
  exact⟨F 0 _ rfl,fun q u h=>by have:=F (q+1) u (by simpa using h);rw[Nat.add_assoc,Nat.add_comm 1 q];exact this⟩
def Cv(c:AH)(a:Option Addr)(L:BH):Prop:=
 (L=[]∨∃b F,a=some ⟨b,F,none⟩∧∀j u,(Bn L)[j]? =some u→c ⟨b,F+j,none⟩=some u)∧∀e∈L,Ah c e.2.1 e.2.2
theorem IQ{c:AH}{a:Option Addr}{L:BH}(h:Cv c a L):Ea c a (bare L):=by
 obtain⟨H,I⟩:=h;rcases H with rfl|⟨b,J,O,Q⟩
 ·exact .inl rfl
 ·refine .inr ⟨b,J,O,fun i=>((L[i]?).map (fun e=>e.2.2)).getD ⟨none,0,none,0⟩,?_⟩
  intro i n x F;obtain⟨⟨T,V,h'⟩,G,e⟩:∃e,L[i]? =some e∧(e.1,e.2.1)=(n,x):=by
   unfold bare at F;rw[n4]at F
   cases hL:L[i]? with
   |none=>rw[hL]at F;cases F
   |some e=>rw[hL]at F;exact⟨e,rfl,by simpa using F⟩
  simp at e;obtain⟨rfl,rfl⟩:=e;simp only[G,r0,Option.getD_some];refine⟨Jz.2 fun q u R=>?_,I _ (nE G)⟩;have:=Q _ _ (JB L i _ _ _ G q u R);rw[←Nat.add_assoc]at this;exact this
theorem eP:∀(L:BH) (j:Nat) (u:Value),(Bn L)[j]? =some u→∃n x h,L[j / 9]? =some (n,x,h)∧(Value.string n::Bl x h)[j%9]? =some u
 |L,j,u,hj=>by
  have H:=(ny.1 hj).1;rw[Ht]at H;have F:j / 9<L.length:=by omega
  refine⟨L[j / 9].1,L[j / 9].2.1,L[j / 9].2.2,nt F,?_⟩;have I:(Value.string L[j / 9].1::Bl L[j / 9].2.1 L[j / 9].2.2).length=9:=by simp[D1]
  have J:j%9<(Value.string L[j / 9].1::Bl L[j / 9].2.1 L[j / 9].2.2).length:=by rw[I];omega
  obtain⟨v,G⟩:∃v,(Value.string L[j / 9].1::Bl L[j / 9].2.1 L[j / 9].2.2)[j%9]? =some v:=⟨_,nt J⟩;have:=JB L (j / 9) _ _ _ (nt F) (j%9) v G;rw[show j / 9*9+j%9=j by omega,hj]at this;rw[G,this]
theorem UT{c:AH}{a:Option Addr}{ks:Ar}(h:Ea c a ks):∃L,bare L=ks∧Cv c a L:=by
 rcases h with rfl|⟨b,O,Q,f,I⟩
 ·exact⟨[],rfl,.inl rfl,fun e F=>by cases F⟩
 ·have J:∀i e,(ks.mapIdx (fun i p=>(p.1,p.2,f i)))[i]? =some e→ks[i]? =some (e.1,e.2.1)∧e.2.2=f i:=by
   intro i e F;rw[List.getElem?_mapIdx]at F;cases G:ks[i]? with
   |none=>rw[G]at F;cases F
   |some p=>rw[G]at F;simp at F;subst F;exact⟨rfl,rfl⟩
  refine⟨ks.mapIdx (fun i p=>(p.1,p.2,f i)),?_,.inr ⟨b,O,Q,?_⟩,?_⟩
  ·unfold bare
   apply List.ext_getElem?;intro i;rw[n4,List.getElem?_mapIdx];cases ks[i]?<;>simp
  ·intro j u R
   obtain⟨n,x,h,F,T⟩:=eP _ j u R;obtain⟨G,H⟩:=J _ _ F;simp only at H G;have:=Jz.1 (I _ _ _ G).1 (j%9) u (by rw[←H];exact T);rw[Nat.add_assoc,show j / 9*9+j%9=j by omega]at this;exact this
  ·intro e F
   obtain⟨i,V⟩:=n5 F;obtain⟨G,H⟩:=J _ _ V;rw[H];exact(I _ _ _ G).2
theorem Xd(A B:BH):bare (A++B)=bare A++bare B:=by simp[bare]
theorem E7(A:BH):(bare A).length=A.length:=by simp[bare]
theorem Yt(A:BH)(n:Nat):bare (A.take n)=(bare A).take n:=by simp[bare,List.map_take]
theorem YW(A:BH)(n:Nat):bare (A.drop n)=(bare A).drop n:=by simp[bare,List.map_drop]
theorem Cv.on{c F:AH}{a:Option Addr}{L:BH}(h:Cv c a L)(hb:AR c F):Cv F a L:=by
 obtain⟨G,H⟩:=h;refine⟨?_,fun e I=>(H e I).on hb⟩;rcases G with e|⟨b,J,O,Q⟩
 ·exact .inl e
 ·exact .inr ⟨b,J,O,fun j u R=>hb _ _ (Q j u R)⟩
structure Ao (b:Nat) (w w':World):Prop where
 os:w'.os=w.os
 tape:w'.tape=w.tape
 output:w'.output=w.output
 size:w.heap.size≤w'.heap.size
 block:∀k,k<w.heap.size→k≠b→w'.heap[k]? =w.heap[k]?
theorem Ao.refl(b:Nat)(w:World):Ao b w w:=⟨rfl,rfl,rfl,nn _,fun _ _ _=>rfl⟩
theorem Ao.trans{b:Nat}{u v w:World}(h:Ao b u v)(k:Ao b v w):Ao b u w:=
 ⟨k.os.trans h.os,k.tape.trans h.tape,k.output.trans h.output,nP h.size k.size,fun i F hb=>(k.block i (nH F h.size) hb).trans (h.block i F hb)⟩
theorem Ao.of_below{b:Nat}{w w':World}(h:Below w.heap.size w w'):Ao b w w':=⟨h.os,h.tape,h.output,h.size,fun k F _=>h.block k F⟩
theorem Ao.then{b:Nat}{u w w':World}(h:Ao b u w)(k:Below w.heap.size w w'):Ao b u w':=h.trans (.of_below k)
theorem Ao.below{b:Nat}{w w':World}(h:Ao b w w'){B:Nat}(F:B≤b)(G:B≤w.heap.size):Below B w w':=⟨h.os,h.tape,h.output,h.size,fun k H=>h.block k (by omega) (by omega)⟩
theorem Ao.cell{b:Nat}{w w':World}(h:Ao b w w'){p:Addr}(F:p.block<w.heap.size)(hb:p.block≠b):w'.cell? p=w.cell? p:=nS (w:=w) (h.block p.block F hb)
theorem Ao.frozen{b:Nat}{w w':World}(h:Ao b w w'){p:Addr}(F:p.block<w.heap.size)(hb:p.block≠b):w'.frozen? p=w.frozen? p:=World.frozen?_of_block (w:=w) (h.block p.block F hb)
theorem Ao.alloc{b:Nat}{u w:World}(h:Ao b u w)(o:Obj):Ao b u (w.alloc o):=h.then ((nv _ w).alloc (nn _) o)
theorem Ao.setCell{b:Nat}{u w:World}(h:Ao b u w)(o:Nat)(s:Option Nat)(v:Value):Ao b u (w.setCell ⟨b,o,s⟩ v):=
 h.trans ⟨rfl,rfl,rfl,by simp,fun k _ hb=>re _ _ _ _ hb⟩
theorem Ao.drewN{b:Nat}{u w:World}(h:Ao b u w)(n:Nat):Ao b u (w.drewN n):=h.then (rz (nv _ w) n)
theorem Ao.mle{b:Nat}{w w':World}(h:Ao b w w'):AR (GP w.cell? b) (GP w'.cell? b):=by
 intro q v F;by_cases hb:q.block=b
 ·unfold GP at F;rw[nD hb]at F;cases F
 ·rw[Uk hb]at F⊢
  exact(h.cell (bL F) hb).trans F
theorem cE{w w':World}{b:Nat}(hb:Below w.heap.size w w')(H:w.heap.size≤b):AR w.cell? (GP w'.cell? b):=by
 intro q v F;have G:q.block<w.heap.size:=bL F;rw[Uk (by omega)];exact(hb.cell G).trans F
def Dl(w:World)(b:Nat)(u v:Value):Prop:=w.cell? ⟨b,0,none⟩=some u∧w.cell? ⟨b,1,none⟩=some v∧w.frozen? ⟨b,0,none⟩=false∧w.frozen? ⟨b,1,none⟩=false
theorem Dl.lt{w:World}{b:Nat}{u v:Value}(h:Dl w b u v):b<w.heap.size:=nz _ _ h.1
theorem Dl.below{w w':World}{b:Nat}{u v:Value}(h:Dl w b u v)(hb:Below w.heap.size w w'):Dl w' b u v:=by
 have F:=h.lt;obtain⟨G,H,I,J⟩:=h;exact⟨(hb.cell (p:=(aD b 0)) F).trans G,(hb.cell (p:=(aD b 1)) F).trans H,(hb.frozen (p:=(aD b 0)) F).trans I,(hb.frozen (p:=(aD b 1)) F).trans J⟩
theorem Dl.set1{w:World}{b:Nat}{u v:Value}(h:Dl w b u v)(F:Value):Dl (w.setCell (aD b 1) F) b u F:=by
 obtain⟨G,H,I,J⟩:=h;exact⟨(nA _ _ _ _ (by simp)).trans G,nI _ _ _ H,by simpa using I,by simpa using J⟩
theorem Dl.new(w:World)(u v:Value)(t:TypeId):Dl (w.alloc (.cells #[u,v] t)) w.heap.size u v:=
 ⟨aC,aC,World.frozen?_alloc_new _ _ _ _,World.frozen?_alloc_new _ _ _ _⟩
def Cr:List Kv→List Value
 |[]=>[]
 |r::l=>.string r.n::.string r.v::Cr l
theorem KT:∀L:List Kv,(Cr L).length=L.length*2
 |[]=>rfl
 |r::l=>by simp[Cr,KT l];omega
theorem M1:∀A B:List Kv,Cr (A++B)=Cr A++Cr B
 |[],_=>rfl
 |r::l,B=>by simp[Cr,M1 l B]
theorem Lu:∀L:List Kv,∀u∈Cr L,u.oneCell'=true
 |[],u,h=>by cases h
 |r::l,u,h=>by
  simp[Cr]at h;rcases h with rfl|rfl|h
  ·rfl
  ·rfl
  ·exact Lu l u h
theorem LD:∀(L:List Kv) (k:Nat) (r:Kv),L[k]? =some r→(Cr L)[k*2]? =some (.string r.n)∧(Cr L)[k*2+1]? =some (.string r.v)
 |[],k,r,h=>by simp at h
 |x::l,0,r,h=>by simp at h;subst h;simp[Cr]
 |x::l,k+1,r,h=>by
  have:=LD l k r (by simpa using h);have e:(k+1)*2=k*2+2:=by omega
  rw[e];simpa [Cr]using this
theorem D2(b F j:Nat):(⟨b,F,none⟩:Addr).add j=⟨b,F+j,none⟩:=by by_cases G:j=0<;>simp[Addr.add,G]
theorem Df{w:World}{base:Nat}{e:TypeId}{size:Nat}{v:Value}{n:Nat}{xs:List Value}(h:w.ownsRow base e size v n xs):
 ∃a cap,v=.slice a n cap∧n≤cap∧cap≤9223372036854775807∧((a=none∧n=0∧xs=[]∧cap=0)∨∃g,a=some (aD g 0)∧base≤g∧g<w.heap.size∧(∀j u,xs[j]? =some u→w.cell? (aD g j)=some u)∧∀j,w.frozen? (aD g j)=false):=by
 obtain⟨a,cap,H,I,J,G⟩:=KN h;refine⟨a,cap,H,I,by unfold maxLen at J;omega,?_⟩;rcases G with G|⟨g,T,O,hb,F,_,hx⟩
 ·exact .inl G
 ·refine .inr ⟨g,O,hb,?_,fun j u Q=>F7 F hx Q,fun j=>?_⟩
  ·by_cases R:g<w.heap.size
   ·exact R
   ·rw[rG (by omega)]at F;cases F
  ·simp[World.frozen?,F]
theorem M3{w:World}{base:Nat}{e:TypeId}{v:Value}{n:Nat}{L:List Kv}(h:w.ownsRow base e 2 v n (Cr L)):∃a cap,v=.slice a n cap∧n≤cap∧cap≤9223372036854775807∧Bp w.cell? a L:=by
 obtain⟨a,cap,I,F,G,J⟩:=Df h;refine⟨a,cap,I,F,G,?_⟩;rcases J with⟨_,_,hx,_⟩|⟨g,O,_,_,H,_⟩
 ·left
  cases L with
  |nil=>rfl
  |cons r l=>simp[Cr]at hx
 ·refine .inr ⟨g,0,O,fun k r Q=>?_⟩
  obtain⟨F,G⟩:=LD L k r Q;rw[nU];exact⟨H _ _ F,H _ _ G⟩
def GJ(base:Nat)(w:World)(a:Option Addr)(ks:Ar):Prop:=ks=[]∨∃g,a=some ⟨g,0,none⟩∧base≤g∧g<w.heap.size∧∀j,w.frozen? ⟨g,j,none⟩=false
theorem GJ.below{base:Nat}{w w':World}{a:Option Addr}{ks:Ar}(h:GJ base w a ks)(hb:Below w.heap.size w w'):GJ base w' a ks:=by
 rcases h with h|⟨g,G,H,F,I⟩
 ·exact .inl h
 ·exact .inr ⟨g,G,H,nH F hb.size,fun j=>(hb.frozen (p:=(aD g j)) F).trans (I j)⟩
def Ag(c:AH)(S:Nat→Bool):AH:=fun q=>if S q.block=true then none else c q
theorem Dg(c:AH):Ag c (fun _=>false)=c:=by funext q;simp[Ag]
theorem Ci(c:AH)(S:Nat→Bool):AR (Ag c S) c:=fun q v h=>by
 unfold Ag at h;split at h
 ·cases h
 ·exact h
theorem Ck{c:AH}{S:Nat→Bool}{q:Addr}(h:S q.block=false):Ag c S q=c q:=by unfold Ag;rw[nC (by rw[h];decide)]
theorem IJ{c:AH}{S:Nat→Bool}{q:Addr}{v:Value}(h:Ag c S q=some v):S q.block=false:=by
 unfold Ag at h;cases hs:S q.block with
 |false=>rfl
 |true=>rw[nD hs]at h;cases h
theorem BN{w w':World}{S S':Nat→Bool}(h:∀k,k<w.heap.size→S k=false→S' k=false∧w'.heap[k]? =w.heap[k]?):AR (Ag w.cell? S) (Ag w'.cell? S'):=by
 intro q v F;have G:=IJ F;rw[Ck G]at F;obtain⟨H,I⟩:=h q.block (bL F) G;rw[Ck H,nS (w:=w) I];exact F
theorem CN{w w':World}{S:Nat→Bool}(hb:Below w.heap.size w w'):AR (Ag w.cell? S) (Ag w'.cell? S):=BN fun k F G=>⟨G,hb.block k F⟩
theorem PV{w:World}{base:Nat}{e:TypeId}{v:Value}{n:Nat}{L:List Kv}{S:Nat→Bool}(J:∀k,S k=true→k<base)(h:w.ownsRow base e 2 v n (Cr L)):∃a cap,v=.slice a n cap∧n≤cap∧cap≤9223372036854775807∧Bp (Ag w.cell? S) a L:=by
 obtain⟨a,cap,O,F,G,Q⟩:=Df h;refine⟨a,cap,O,F,G,?_⟩;rcases Q with⟨_,_,hx,_⟩|⟨g,R,hb,_,H,_⟩
 ·left
  cases L with
  |nil=>rfl
  |cons r l=>simp[Cr]at hx
 ·have I:S g=false:=by
   cases hs:S g with
   |false=>rfl
   |true=>have:=J g hs;omega
  refine .inr ⟨g,0,R,fun k r T=>?_⟩;obtain⟨F,G⟩:=LD L k r T;rw[nU,Ck I,Ck I];exact⟨H _ _ F,H _ _ G⟩
theorem MW{w:World}{base:Nat}{e:TypeId}{v:Value}{n:Nat}{L:BH}{S:Nat→Bool}(H:∀k,S k=true→k<base)(h:w.ownsRow base e 9 v n (Bn L))(F:∀e∈L,Ah (Ag w.cell? S) e.2.1 e.2.2):∃a cap,v=.slice a n cap∧n≤cap∧cap≤9223372036854775807∧Cv (Ag w.cell? S) a L∧GJ base w a (bare L):=by
 obtain⟨a,cap,I,J,O,Q⟩:=Df h;refine⟨a,cap,I,J,O,?_⟩;rcases Q with⟨_,_,hx,_⟩|⟨g,G,hb,R,T,V⟩
 ·have:L=[]:=by
   cases L with
   |nil=>rfl
   |cons r l=>obtain⟨n,x,h⟩:=r;simp[Bn]at hx
  subst this;exact⟨⟨.inl rfl,F⟩,.inl rfl⟩
 ·have Y:S g=false:=by
   cases hs:S g with
   |false=>rfl
   |true=>have:=H g hs;omega
  exact⟨⟨.inr ⟨g,0,G,fun j u Z=>by rw[nU,Ck Y];exact T j u Z⟩,F⟩,.inr ⟨g,G,hb,R,V⟩⟩
theorem QH{w:World}{a:Option Addr}{l:List Kv}(h:Bp w.cell? a l):(a=none∧l.length=0)∨∃H,a=some H∧∀j u,(Cr l)[j]? =some u→w.cell? (H.add j)=some u:=by
 rcases h with rfl|⟨b,Y,rfl,J⟩
 ·cases a with
  |none=>exact .inl ⟨rfl,rfl⟩
  |some H=>exact .inr ⟨H,rfl,fun j u O=>by simp[Cr]at O⟩
 ·refine .inr ⟨_,rfl,fun j u F=>?_⟩
  have Z:j<l.length*2:=by have:=(ny.1 F).1;rwa [KT]at this
  obtain⟨r,I⟩:∃r,l[j / 2]? =some r:=⟨l[j / 2]'(by omega),nt _⟩;obtain⟨Q,R⟩:=J _ r I;obtain⟨T,V⟩:=LD l _ r I;rw[D2];have G:j=j / 2*2∨j=j / 2*2+1:=by omega
  rcases G with G|G
  ·rw[G]at F⊢;rw[T]at F;cases F;exact Q
  ·rw[G]at F⊢;rw[V]at F;cases F;rw[←Nat.add_assoc];exact R
theorem Qu{w:World}{a:Option Addr}{L:BH}(h:Cv w.cell? a L):(a=none∧L.length=0)∨∃F,a=some F∧∀j u,(Bn L)[j]? =some u→w.cell? (F.add j)=some u:=by
 rcases h.1 with rfl|⟨b,J,rfl,G⟩
 ·cases a with
  |none=>exact .inl ⟨rfl,rfl⟩
  |some F=>exact .inr ⟨F,rfl,fun j u H=>by simp[Bn]at H⟩
 ·exact .inr ⟨_,rfl,fun j u I=>by rw[D2];exact G j u I⟩
def CU(w:World)(b p:Nat):Nd→Hd→World
 |.mk k m u g o nh d ks,h=>(((((((w.setCell ⟨b,p,none⟩ (.int .i64 k)).setCell ⟨b,p+1,none⟩ (.int .i64 m)).setCell ⟨b,p+2,none⟩ (.int .i64 u)).setCell ⟨b,p+3,none⟩ (.int .i64 g)).setCell ⟨b,p+4,none⟩ (.bool o)).setCell ⟨b,p+5,none⟩ (.slice h.aa nh.length h.ca)).setCell ⟨b,p+6,none⟩ (.string d)).setCell ⟨b,p+7,none⟩ (.slice h.ak ks.length h.ck)
theorem G5{w:World}{b p:Nat}{x:Nd}{h:Hd}{q:Addr}(F:∀j,j<8→q≠(aD b (p+j))):(CU w b p x h).cell? q=w.cell? q:=by
 obtain⟨k,m,u,g,o,nh,d,ks⟩:=x;unfold CU;rw[nA _ _ _ _ (F 7 (by omega)).symm,nA _ _ _ _ (F 6 (by omega)).symm,nA _ _ _ _ (F 5 (by omega)).symm,nA _ _ _ _ (F 4 (by omega)).symm,nA _ _ _ _ (F 3 (by omega)).symm,nA _ _ _ _ (F 2 (by omega)).symm,nA _ _ _ _ (F 1 (by omega)).symm,nA _ _ _ _ (show((aD b p):Addr)≠q from(F 0 (by omega)).symm)]
theorem Km{w:World}{b p:Nat}{x y:Nd}{h h':Hd}(F:Bi w.cell? b p y h'):Bi (CU w b p x h).cell? b p x h:=by
 obtain⟨k,m,u,g,o,nh,d,ks⟩:=x;obtain⟨V,Y,Z,aa,ab,ad,ak,ao⟩:=y;obtain⟨G,H,I,J,O,Q,R,T⟩:=F;unfold CU;refine⟨?_,?_,?_,?_,?_,?_,?_,?_⟩<;>simp[nA,World.cell?_setCell_same',G,H,I,J,O,Q,R,T]
theorem Nl{w:World}{b p:Nat}{x:Nd}{h:Hd}(q:Addr):(CU w b p x h).frozen? q=w.frozen? q:=by
 obtain⟨k,m,u,g,o,nh,d,ks⟩:=x;unfold CU;simp
theorem LX{w:World}{b p:Nat}{x:Nd}{h:Hd}:Ao b w (CU w b p x h):=by
 obtain⟨k,m,u,g,o,nh,d,ks⟩:=x;unfold CU;exact((((((((Ao.refl b w).setCell _ _ _).setCell _ _ _).setCell _ _ _).setCell _ _ _).setCell _ _ _).setCell _ _ _).setCell _ _ _).setCell _ _ _
theorem Z1{w:World}{b p:Nat}{x:Nd}{h h':Hd}(G:Bi w.cell? b p x h)(q:Addr)(I:q≠(aD b (p+5)))(J:q≠(aD b (p+7))):(CU w b p x h').cell? q=w.cell? q:=by
 by_cases H:∃j,j<8∧q=(aD b (p+j))
 ·obtain⟨j,F,rfl⟩:=H
  have O:=Km (x:=x) (h:=h') G;obtain⟨k,m,u,g,o,nh,d,ks⟩:=x;obtain⟨a0,Q,a2,a3,a4,a5,R,ad⟩:=G;obtain⟨T,V,Y,Z,aa,ak,ab,ao⟩:=O;match j,F with
  |0,_=>exact T.trans a0.symm
  |1,_=>exact V.trans Q.symm
  |2,_=>exact Y.trans a2.symm
  |3,_=>exact Z.trans a3.symm
  |4,_=>exact aa.trans a4.symm
  |5,_=>exact absurd rfl I
  |6,_=>exact ab.trans R.symm
  |7,_=>exact absurd rfl J
  |j+8,F=>omega
 ·exact G5 fun j F e=>H ⟨j,F,e⟩
end Go.Proofs.YtofhphibahcniaaGreatDoor
