/-
  A LAW FOR append(dst, src...): dst the call's own, src whatever slice, an empty one of whatever address too; at the list of operations, and at a step of a region that draws its order.
  ATTRIBUTES, the facts of no program: names that may be, their classes, what is wrong with a list, where a name belongs, what is set and dropped.
  TREES IN MEMORY, the facts of no program: what a memory says, a tree in it, what is light, what is the same, what a store of a list of the same leaves.
  TREES, the facts of no program: what is wrong with one, what is found, put and cut.
  A WORLD THAT IS AS IT WAS, BUT ONE BLOCK; a box of two numbers.
-/
import Derived.Test.YtkjknbjjchdjlaaGreatDoorRows
import Derived.WalkKit
import Derived.WalkSpells
import Derived.WalkLawsBesides
import Derived.Maps.AppendAt
import Derived.Deep.Upon
import Derived.Deep.AppendLies
import Derived.Lib.Strings
import Derived.Lib.IndexMore
import Derived.Below
import Derived.Deep.QuietTactic
import Derived.BigQuiet
namespace Go.Proofs.YtkjknbjjchdjlaaGreatDoor
open Go.RowKit
section
variable {P : Program} (w : World)
theorem grownBy_refl (row : Option Nat) : w.grownBy w row := ⟨rfl, rfl, rfl, Nat.le_refl _, fun _ _ _ => rfl⟩
theorem run_append_src (base : Nat) (t ty e : TypeId) (i : TypeInfo) (z : Value) (size bytes : Nat) (ht : P.underlying t = some (.slice e)) (hi : P.info? e = some i) (hz : i.zero = some z)
    (hsize : i.size = size) (hby : i.bytes = bytes) (hzs : z.cells.size = size) (hsz : 0 < size)
    (v : Value) (n : Nat) (xs : List Value) (hown : w.ownsRow base e size v n xs)
    (a : Option Addr) (m c : Nat) (news : List Value) (hl : news.length = m * size) (hsrc : (a = none ∧ m = 0) ∨ ∃ ad, a = some ad ∧ ∀ j u, news[j]? = some u → w.cell? (ad.add j) = some u) (h1 : ∀ u ∈ news, u.oneCell' = true)
    (h63 : n + m ≤ maxLen) (hbytes : (n + m) * bytes ≤ 140737488355328) (hbase : base ≤ w.heap.size) :
    ∃ v' w', (Builtin.append_ #[t, t] ty #[v, .slice a m c]).run P w = .ok v' w' ∧ w'.ownsRow base e size v' (n + m) (xs ++ news) ∧ w.grownBy w' v.ownBlock ∧
      (v'.ownBlock = v.ownBlock ∨ v'.ownBlock = some w.heap.size) := by
  rcases hsrc with ⟨rfl, rfl⟩ | ⟨ad, rfl, hnews⟩
  · obtain rfl : news = [] := List.eq_nil_of_length_eq_zero (by simpa using hl)
    refine ⟨v, w, ?_, by simpa using hown, grownBy_refl w _, .inl rfl⟩
    rcases hown.2 with ⟨rfl, _⟩ | ⟨g, cap, cur, rfl, _, _, hle, _⟩
    · exact run_append_nothing w t t ty e i ht hi none 0 0 (Nat.le_refl _) _ (Src.ofNil w ht c)
    · exact run_append_nothing w t t ty e i ht hi (some ⟨g, 0, none⟩) n cap hle _ (Src.ofNil w ht c)
  · obtain ⟨v', w', hr, h2, h3, _, h5⟩ := run_append_own_at (P := P) w base t ty e i z size bytes ht hi hz hsize hby hzs hsz v n xs hown ad m c news hl hnews h1 h63 hbytes hbase
    exact ⟨v', w', hr, h2, h3, h5⟩
theorem wp_append_src {o : Oper} {a : Act} {K : Act → World → Prop} {Q : Exit → Act → World → Prop} (s x : Operand) (t : TypeId)
    (ho : o.op = .call { callee := .builtin .append, args := #[s, x], argTypes := #[t, t] })
    (base : Nat) (e : TypeId) (i : TypeInfo) (z : Value) (size bytes : Nat) (ht : P.underlying t = some (.slice e)) (hi : P.info? e = some i) (hz : i.zero = some z)
    (hsize : i.size = size) (hby : i.bytes = bytes) (hzs : z.cells.size = size) (hsz : 0 < size)
    (v : Value) (n : Nat) (xs : List Value) (hs : a.eval s = v) (hown : w.ownsRow base e size v n xs)
    (ao : Option Addr) (m c : Nat) (news : List Value) (hx : a.eval x = .slice ao m c) (hl : news.length = m * size) (hsrc : (ao = none ∧ m = 0) ∨ ∃ ad, ao = some ad ∧ ∀ j u, news[j]? = some u → w.cell? (ad.add j) = some u) (h1 : ∀ u ∈ news, u.oneCell' = true)
    (h63 : n + m ≤ maxLen) (hbytes : (n + m) * bytes ≤ 140737488355328) (hbase : base ≤ w.heap.size)
    (h : ∀ v' w', w'.ownsRow base e size v' (n + m) (xs ++ news) → w.grownBy w' v.ownBlock → (v'.ownBlock = v.ownBlock ∨ v'.ownBlock = some w.heap.size) → K (a.put o.dst v') w') : o.wp P a w K Q := by
  obtain ⟨v', w', hr, h2, h3, h4⟩ := run_append_src (P := P) w base t o.type e i z size bytes ht hi hz hsize hby hzs hsz v n xs hown ao m c news hl hsrc h1 h63 hbytes hbase
  unfold Oper.wp execOp
  simp only [ho, resolve, invoke, builtin, Sem.run_bind, Sem.run_pure, Result.andThen_ok, List.map_toArray, List.map_cons, List.map_nil, hs, hx, hr]
  exact h v' w' h2 h3 h4
theorem wpList_append_src {ops : Array Oper} {rest : List Oper} {o : Oper} {a : Act} {Q : Exit → Act → World → Prop} (hgd : o.guard = none) (s x : Operand) (t : TypeId)
    (ho : o.op = .call { callee := .builtin .append, args := #[s, x], argTypes := #[t, t] })
    (base : Nat) (e : TypeId) (i : TypeInfo) (z : Value) (size bytes : Nat) (ht : P.underlying t = some (.slice e)) (hi : P.info? e = some i) (hz : i.zero = some z)
    (hsize : i.size = size) (hby : i.bytes = bytes) (hzs : z.cells.size = size) (hsz : 0 < size)
    (v : Value) (n : Nat) (xs : List Value) (hs : a.eval s = v) (hown : w.ownsRow base e size v n xs)
    (ao : Option Addr) (m c : Nat) (news : List Value) (hx : a.eval x = .slice ao m c) (hl : news.length = m * size) (hsrc : (ao = none ∧ m = 0) ∨ ∃ ad, ao = some ad ∧ ∀ j u, news[j]? = some u → w.cell? (ad.add j) = some u) (h1 : ∀ u ∈ news, u.oneCell' = true)
    (h63 : n + m ≤ maxLen) (hbytes : (n + m) * bytes ≤ 140737488355328) (hbase : base ≤ w.heap.size)
    (h : ∀ v' w', w'.ownsRow base e size v' (n + m) (xs ++ news) → w.grownBy w' v.ownBlock → (v'.ownBlock = v.ownBlock ∨ v'.ownBlock = some w.heap.size) → wpList P ops Q rest (a.put o.dst v') w') : wpList P ops Q (o :: rest) a w :=
  wpList_plain hgd fun _ hK => wp_append_src w s x t ho base e i z size bytes ht hi hz hsize hby hzs hsz v n xs hs hown ao m c news hx hl hsrc h1 h63 hbytes hbase fun v' w' h2 h3 h4 => hK _ _ (h v' w' h2 h3 h4)
theorem step_append_src {ops : Array Oper} {o : Oper} {a : Act} {K : Act → World → Prop} {Q : Exit → Act → World → Prop} {E : Prop} (hgd : o.guard = none) (s x : Operand) (t : TypeId)
    (ho : o.op = .call { callee := .builtin .append, args := #[s, x], argTypes := #[t, t] })
    (base : Nat) (e : TypeId) (i : TypeInfo) (z : Value) (size bytes : Nat) (ht : P.underlying t = some (.slice e)) (hi : P.info? e = some i) (hz : i.zero = some z)
    (hsize : i.size = size) (hby : i.bytes = bytes) (hzs : z.cells.size = size) (hsz : 0 < size)
    (v : Value) (n : Nat) (xs : List Value) (hs : a.eval s = v) (hown : w.ownsRow base e size v n xs)
    (ao : Option Addr) (m c : Nat) (news : List Value) (hx : a.eval x = .slice ao m c) (hl : news.length = m * size) (hsrc : (ao = none ∧ m = 0) ∨ ∃ ad, ao = some ad ∧ ∀ j u, news[j]? = some u → w.cell? (ad.add j) = some u) (h1 : ∀ u ∈ news, u.oneCell' = true)
    (h63 : n + m ≤ maxLen) (hbytes : (n + m) * bytes ≤ 140737488355328) (hbase : base ≤ w.heap.size)
    (h : ∀ v' w', w'.ownsRow base e size v' (n + m) (xs ++ news) → w.grownBy w' v.ownBlock → (v'.ownBlock = v.ownBlock ∨ v'.ownBlock = some w.heap.size) → K (a.put o.dst v') w') :
    if Region.wanted o (yielded ops a.tmps) = true then Oper.wp P o a w K Q else E := by
  have hw : Region.wanted o (yielded ops a.tmps) = true := by simp [Region.wanted, hgd]
  rw [if_pos hw]
  exact wp_append_src w s x t ho base e i z size bytes ht hi hz hsize hby hzs hsz v n xs hs hown ao m c news hx hl hsrc h1 h63 hbytes hbase h
end
/-- What a value that owns its row looks like. -/
theorem ownsRow_form {w : World} {base : Nat} {e : TypeId} {size : Nat} {v : Value} {n : Nat} {xs : List Value} (h : w.ownsRow base e size v n xs) :
    ∃ a cap, v = .slice a n cap ∧ n ≤ cap ∧ cap ≤ maxLen ∧ ((a = none ∧ n = 0 ∧ xs = [] ∧ cap = 0) ∨ ∃ g cur, a = some ⟨g, 0, none⟩ ∧ base ≤ g ∧ w.heap[g]? = some (.cells cur e (0, 0)) ∧ cur.size = cap * size ∧ cur.toList.take (n * size) = xs) := by
  rcases h.2 with ⟨rfl, rfl⟩ | ⟨g, cap, cur, rfl, hb, hg, hle, hm, hs, hx⟩
  · exact ⟨none, 0, rfl, Nat.le_refl _, Nat.zero_le _, .inl ⟨rfl, rfl, List.eq_nil_of_length_eq_zero (by simpa using h.1), rfl⟩⟩
  · exact ⟨_, cap, rfl, hle, hm, .inr ⟨g, cur, rfl, hb, hg, hs, hx⟩⟩
/-- A cell of the row. -/
theorem ownsRow_cell {w : World} {g : Nat} {e : TypeId} {cur : Array Value} {k : Nat} {xs : List Value} (hg : w.heap[g]? = some (.cells cur e (0, 0))) (hx : cur.toList.take k = xs) {i : Nat} {u : Value} (hi : xs[i]? = some u) : w.cell? ⟨g, i, none⟩ = some u := by
  subst hx
  have : cur.toList[i]? = some u := by
    rw [List.getElem?_take] at hi
    split at hi
    · exact hi
    · cases hi
  simp [World.cell?, hg]
  simpa using this
end Go.Proofs.YtkjknbjjchdjlaaGreatDoor
namespace Go.Proofs.YtkjknbjjchdjlaaGreatDoor
open Go.RowKit
/-- May a name have that byte? -/
def signB (n : Int) : Bool := ((((decide (97 ≤ n) && decide (n ≤ 122)) || (decide (48 ≤ n) && decide (n ≤ 57))) || n == 46) || n == 95) || n == 45
/-- May it be a name? -/
def nameL (l : List UInt8) : Bool := ((((!l.isEmpty) && decide (l.length ≤ 12)) && !(l == [46])) && !(l == [46, 46])) && l.all (fun b => signB (b.toNat : Int))
def nameB (s : ByteArray) : Bool := nameL s.data.toList
/-- A name's class, as the document says it. -/
def classL (l : List UInt8) : Int := if nameL (l.drop 2) = true then (if l.take 2 = [117, 46] then 1 else if l.take 2 = [116, 46] then 2 else 0) else 0
def classB (s : ByteArray) : Int := classL s.data.toList
/-- An attribute. -/
structure Kv where
  n : ByteArray
  v : ByteArray
/-- Is one name below another? -/
def ltB (a b : ByteArray) : Bool := Op.bytesLess a.toList b.toList
theorem toList_inj {x y : ByteArray} (h : x.toList = y.toList) : x = y := by
  rw [Lib.toList_data, Lib.toList_data] at h
  have : x.data = y.data := by
    cases hx : x.data; cases hy : y.data
    rw [hx, hy] at h
    simpa using h
  cases x; cases y; simpa using this
/-- What is wrong with the k-th of a list. -/
def stepA (l : List Kv) (k : Nat) : Int := match l[k]? with
  | none => 0
  | some x => if classB x.n = 0 then 4 else if 20 < x.v.size then 1 else match k with
    | 0 => 0
    | j + 1 => match l[j]? with
      | none => 0
      | some p => if ltB p.n x.n = true then 0 else 3
/-- The first thing that is wrong with n of a list, from the k-th on. -/
def aF (l : List Kv) (k : Nat) : Nat → Int
  | 0 => 0
  | n + 1 => if stepA l k = 0 then aF l (k + 1) n else stepA l k
/-- What is wrong with a list. -/
def chkA (l : List Kv) : Int := if 4 < l.length then 2 else aF l 0 l.length
end Go.Proofs.YtkjknbjjchdjlaaGreatDoor
namespace Go.Proofs.YtkjknbjjchdjlaaGreatDoor
open Go.RowKit
/-- What a memory says. -/
abbrev Mem := Addr → Option Value
/-- All that the one says the other says. -/
def MLe (c c' : Mem) : Prop := ∀ q v, c q = some v → c' q = some v
theorem MLe.refl (c : Mem) : MLe c c := fun _ _ h => h
theorem MLe.trans {a b c : Mem} (h : MLe a b) (k : MLe b c) : MLe a c := fun q v e => k q v (h q v e)
theorem mle_below {w w' : World} (hb : Below w.heap.size w w') : MLe w.cell? w'.cell? := fun _ _ h => (hb.cell (World.block_lt_of_cell? _ _ h)).trans h
/-- A slice of attributes: nothing is asked of an empty one's address. -/
def Kvm (c : Mem) (a : Option Addr) (l : List Kv) : Prop :=
  l = [] ∨ ∃ b off, a = some ⟨b, off, none⟩ ∧ ∀ k x, l[k]? = some x → c ⟨b, off + k * 2, none⟩ = some (.string x.n) ∧ c ⟨b, off + k * 2 + 1, none⟩ = some (.string x.v)
theorem Kvm.on {c c' : Mem} {a : Option Addr} {l : List Kv} (h : Kvm c a l) (hb : MLe c c') : Kvm c' a l := by
  rcases h with h | ⟨b, off, ha, hc⟩
  · exact .inl h
  · exact .inr ⟨b, off, ha, fun k x hk => ⟨hb _ _ (hc k x hk).1, hb _ _ (hc k x hk).2⟩⟩
theorem Kvm.below {w w' : World} {a : Option Addr} {l : List Kv} (h : Kvm w.cell? a l) (hb : Below w.heap.size w w') : Kvm w'.cell? a l := h.on (mle_below hb)
/-- A tree. -/
inductive Nd where
  | mk (k m u g : Int) (o : Bool) (at_ : List Kv) (d : ByteArray) (ks : List (ByteArray × Nd))
abbrev Kds := List (ByteArray × Nd)
def Nd.kids : Nd → Kds
  | .mk _ _ _ _ _ _ _ ks => ks
/-- Where a node's lists lie, and what room they have. -/
structure Hd where
  aa : Option Addr
  ca : Nat
  ak : Option Addr
  ck : Nat
/-- A node's eight values. -/
def ndL : Nd → Hd → List Value
  | .mk k m u g o at_ d ks, h => [.int .i64 k, .int .i64 m, .int .i64 u, .int .i64 g, .bool o, .slice h.aa at_.length h.ca, .string d, .slice h.ak ks.length h.ck]
def ndV : Nd → Hd → Value
  | .mk k m u g o at_ d ks, h => .agg #[.int .i64 k, .int .i64 m, .int .i64 u, .int .i64 g, .bool o, .slice h.aa at_.length h.ca, .string d, .slice h.ak ks.length h.ck]
/-- A node's eight cells, at a place. -/
def NAt (c : Mem) (b p : Nat) : Nd → Hd → Prop
  | .mk k m u g o at_ d ks, h => c ⟨b, p, none⟩ = some (.int .i64 k) ∧ c ⟨b, p + 1, none⟩ = some (.int .i64 m) ∧ c ⟨b, p + 2, none⟩ = some (.int .i64 u) ∧ c ⟨b, p + 3, none⟩ = some (.int .i64 g) ∧
    c ⟨b, p + 4, none⟩ = some (.bool o) ∧ c ⟨b, p + 5, none⟩ = some (.slice h.aa at_.length h.ca) ∧ c ⟨b, p + 6, none⟩ = some (.string d) ∧ c ⟨b, p + 7, none⟩ = some (.slice h.ak ks.length h.ck)
theorem NAt.on {c c' : Mem} {b p : Nat} {x : Nd} {h : Hd} (hk : NAt c b p x h) (hb : MLe c c') : NAt c' b p x h := by
  obtain ⟨k, m, u, g, o, at_, d, ks⟩ := x
  obtain ⟨h0, h1, h2, h3, h4, h5, h6, h7⟩ := hk
  exact ⟨hb _ _ h0, hb _ _ h1, hb _ _ h2, hb _ _ h3, hb _ _ h4, hb _ _ h5, hb _ _ h6, hb _ _ h7⟩
/-- A kid's nine cells. -/
def KdAt (c : Mem) (b p : Nat) (n : ByteArray) (x : Nd) (h : Hd) : Prop := c ⟨b, p, none⟩ = some (.string n) ∧ NAt c b (p + 1) x h
theorem KdAt.on {c c' : Mem} {b p : Nat} {n : ByteArray} {x : Nd} {h : Hd} (hk : KdAt c b p n x h) (hb : MLe c c') : KdAt c' b p n x h := ⟨hb _ _ hk.1, hk.2.on hb⟩
/-- A tree in memory. -/
inductive NdV (c : Mem) : Nd → Hd → Prop
  | mk {k m u g : Int} {o : Bool} {at_ : List Kv} {d : ByteArray} {ks : Kds} {h : Hd} (b off : Nat) (f : Nat → Hd) (ha : Kvm c h.aa at_) (hca : at_.length ≤ h.ca ∧ h.ca ≤ 9223372036854775807) (hck : ks.length ≤ h.ck ∧ h.ck ≤ 9223372036854775807)
      (hak : ks = [] ∨ h.ak = some ⟨b, off, none⟩) (hc : ∀ i n x, ks[i]? = some (n, x) → KdAt c b (off + i * 9) n x (f i)) (hr : ∀ i n x, ks[i]? = some (n, x) → NdV c x (f i)) : NdV c (.mk k m u g o at_ d ks) h
theorem NdV.on {c c' : Mem} {x : Nd} {h : Hd} (hn : NdV c x h) (hb : MLe c c') : NdV c' x h := by
  induction hn with
  | mk b off f ha hca hck hak hc _ ih => exact .mk b off f (ha.on hb) hca hck hak (fun i n x hi => (hc i n x hi).on hb) ih
/-- A list of kids in memory. -/
def KsV (c : Mem) (a : Option Addr) (ks : Kds) : Prop :=
  ks = [] ∨ ∃ b off, a = some ⟨b, off, none⟩ ∧ ∃ f : Nat → Hd, ∀ i n x, ks[i]? = some (n, x) → KdAt c b (off + i * 9) n x (f i) ∧ NdV c x (f i)
theorem KsV.on {c c' : Mem} {a : Option Addr} {ks : Kds} (h : KsV c a ks) (hb : MLe c c') : KsV c' a ks := by
  rcases h with h | ⟨b, off, ha, f, hc⟩
  · exact .inl h
  · exact .inr ⟨b, off, ha, f, fun i n x hi => ⟨(hc i n x hi).1.on hb, (hc i n x hi).2.on hb⟩⟩
theorem ndV_iff {c : Mem} {k m u g : Int} {o : Bool} {at_ : List Kv} {d : ByteArray} {ks : Kds} {h : Hd} :
    NdV c (.mk k m u g o at_ d ks) h ↔ Kvm c h.aa at_ ∧ (at_.length ≤ h.ca ∧ h.ca ≤ 9223372036854775807) ∧ (ks.length ≤ h.ck ∧ h.ck ≤ 9223372036854775807) ∧ KsV c h.ak ks := by
  constructor
  · intro hn
    cases hn with
    | mk b off f ha hca hck hak hc hr =>
      refine ⟨ha, hca, hck, ?_⟩
      rcases hak with e | e
      · exact .inl e
      · exact .inr ⟨b, off, e, f, fun i n x hi => ⟨hc i n x hi, hr i n x hi⟩⟩
  · rintro ⟨ha, hca, hck, hk⟩
    rcases hk with e | ⟨b, off, e, f, hf⟩
    · subst e
      exact .mk 0 0 (fun _ => h) ha hca hck (.inl rfl) (fun i n x hi => by simp at hi) (fun i n x hi => by simp at hi)
    · exact .mk b off f ha hca hck (.inr e) (fun i n x hi => (hf i n x hi).1) (fun i n x hi => (hf i n x hi).2)
theorem NAt.below {w w' : World} {b p : Nat} {x : Nd} {h : Hd} (hk : NAt w.cell? b p x h) (hb : Below w.heap.size w w') : NAt w'.cell? b p x h := hk.on (mle_below hb)
theorem KdAt.below {w w' : World} {b p : Nat} {n : ByteArray} {x : Nd} {h : Hd} (hk : KdAt w.cell? b p n x h) (hb : Below w.heap.size w w') : KdAt w'.cell? b p n x h := hk.on (mle_below hb)
theorem NdV.ab {w w' : World} {x : Nd} {h : Hd} (hn : NdV w.cell? x h) (hb : Below w.heap.size w w') : NdV w'.cell? x h := NdV.on hn (mle_below hb)
theorem KsV.below {w w' : World} {a : Option Addr} {ks : Kds} (h : KsV w.cell? a ks) (hb : Below w.heap.size w w') : KsV w'.cell? a ks := KsV.on h (mle_below hb)
/-- How deep a tree is. -/
def dep : Nd → Nat
  | .mk _ _ _ _ _ _ _ ks => depL ks + 1
  where depL : Kds → Nat
  | [] => 0
  | (_, x) :: l => max (dep x) (depL l)
theorem depL_get : ∀ {ks : Kds} {i : Nat} {n : ByteArray} {x : Nd}, ks[i]? = some (n, x) → dep x ≤ dep.depL ks
  | [], _, _, _, h => by simp at h
  | (m, y) :: l, 0, n, x, h => by simp at h; rw [dep.depL, h.2]; omega
  | (m, y) :: l, i + 1, n, x, h => by have := depL_get (ks := l) (i := i) (by simpa using h); rw [dep.depL]; omega
theorem dep_kid {k m u g : Int} {o : Bool} {at_ : List Kv} {d : ByteArray} {ks : Kds} {i : Nat} {n : ByteArray} {x : Nd} (h : ks[i]? = some (n, x)) : dep x < dep (.mk k m u g o at_ d ks) := by
  have := depL_get h; rw [dep]; omega
theorem kvm_unique {c : Mem} {a : Option Addr} {l l' : List Kv} (h : Kvm c a l) (h' : Kvm c a l') (hl : l.length = l'.length) : l = l' := by
  rcases h with rfl | ⟨b, off, rfl, hc⟩
  · exact (List.eq_nil_of_length_eq_zero (by simpa using hl.symm)).symm
  rcases h' with rfl | ⟨b', off', e, hc'⟩
  · exact List.eq_nil_of_length_eq_zero (by simpa using hl)
  simp only [Option.some.injEq, Addr.mk.injEq] at e
  obtain ⟨rfl, rfl, _⟩ := e
  refine List.ext_getElem hl fun i h1 h2 => ?_
  obtain ⟨p0, p1⟩ := hc i l[i] (List.getElem?_eq_getElem _)
  obtain ⟨q0, q1⟩ := hc' i l'[i] (List.getElem?_eq_getElem _)
  rw [p0] at q0; rw [p1] at q1
  simp only [Option.some.injEq, Value.string.injEq] at q0 q1
  cases hx : l[i]; cases hy : l'[i]
  rw [hx, hy] at q0 q1; simp only at q0 q1; rw [q0, q1]
/-- A place has one tree. -/
theorem nd_unique {c : Mem} {x : Nd} {h : Hd} (hn : NdV c x h) : ∀ {y : Nd} {h' : Hd} {b p : Nat}, NAt c b p x h → NAt c b p y h' → NdV c y h' → x = y := by
  induction hn with
  | @mk k m u g o at_ d ks h bb off f ha hca hck hak hc hr ih =>
    intro y h' b p hx hy hn'
    cases hn' with
    | @mk k' m' u' g' o' at' d' ks' h' bb' off' f' ha' hca' hck' hak' hc' hr' =>
      obtain ⟨a0, a1, a2, a3, a4, a5, a6, a7⟩ := hx
      obtain ⟨e0, e1, e2, e3, e4, e5, e6, e7⟩ := hy
      rw [a0] at e0; rw [a1] at e1; rw [a2] at e2; rw [a3] at e3; rw [a4] at e4; rw [a5] at e5; rw [a6] at e6; rw [a7] at e7
      simp only [Option.some.injEq, Value.int.injEq, Value.bool.injEq, Value.string.injEq, Value.slice.injEq, true_and] at e0 e1 e2 e3 e4 e5 e6 e7
      subst e0 e1 e2 e3 e4 e6
      obtain ⟨ea, el, _⟩ := e5
      obtain ⟨ek, elk, _⟩ := e7
      rw [← ea] at ha'
      have := kvm_unique ha ha' el
      subst this
      have hks : ks = ks' := by
        rcases hak with rfl | hak
        · exact (List.eq_nil_of_length_eq_zero (by simpa using elk.symm)).symm
        rcases hak' with rfl | hak'
        · exact List.eq_nil_of_length_eq_zero (by simpa using elk)
        rw [hak, hak'] at ek
        simp only [Option.some.injEq, Addr.mk.injEq] at ek
        obtain ⟨rfl, rfl, _⟩ := ek
        refine List.ext_getElem elk fun i h1 h2 => ?_
        have g1 : ks[i]? = some (ks[i].1, ks[i].2) := List.getElem?_eq_getElem _
        have g2 : ks'[i]? = some (ks'[i].1, ks'[i].2) := List.getElem?_eq_getElem _
        obtain ⟨p0, p1⟩ := hc i _ _ g1
        obtain ⟨q0, q1⟩ := hc' i _ _ g2
        have := ih i _ _ g1 p1 q1 (hr' i _ _ g2)
        rw [p0] at q0
        simp only [Option.some.injEq, Value.string.injEq] at q0
        exact Prod.ext q0 this
      rw [hks]
/-- A STORE OF THE SAME: where the two lists of a kid's node are put in the place of two others that hold the same, every tree is what it was. -/
theorem nd_swap {c c' : Mem} {b p : Nat} {y : Nd} {hy hy' : Hd} (hK : NAt c b p y hy) (hN : NdV c y hy) (hN' : NdV c y hy') (hK' : NAt c' b p y hy')
    (hs : ∀ q, q ≠ ⟨b, p + 5, none⟩ → q ≠ ⟨b, p + 7, none⟩ → c' q = c q) : ∀ (N : Nat) (x : Nd) (h : Hd), dep x ≤ N → NdV c x h → NdV c' x h := by
  obtain ⟨ky, my, uy, gy, oy, aty, dy, ksy⟩ := y
  have K := hK
  obtain ⟨a0, a1, a2, a3, a4, a5, a6, a7⟩ := K
  have str : ∀ q s, c q = some (.string s) → c' q = some (.string s) := by
    intro q s hq
    rw [hs q _ _, hq]
    · rintro rfl; rw [a5] at hq; cases hq
    · rintro rfl; rw [a7] at hq; cases hq
  have int : ∀ q s, c q = some (.int .i64 s) → c' q = some (.int .i64 s) := by
    intro q s hq
    rw [hs q _ _, hq]
    · rintro rfl; rw [a5] at hq; cases hq
    · rintro rfl; rw [a7] at hq; cases hq
  have bool : ∀ q s, c q = some (.bool s) → c' q = some (.bool s) := by
    intro q s hq
    rw [hs q _ _, hq]
    · rintro rfl; rw [a5] at hq; cases hq
    · rintro rfl; rw [a7] at hq; cases hq
  intro N
  induction N with
  | zero => intro x h hd; obtain ⟨k, m, u, g, o, at_, d, ks⟩ := x; rw [dep] at hd; omega
  | succ N IH =>
    intro x h hd hn
    cases hn with
    | @mk k m u g o at_ d ks h bb off f ha hca hck hak hc hr =>
      have ha' : Kvm c' h.aa at_ := by
        rcases ha with e | ⟨b2, o2, e, hcc⟩
        · exact .inl e
        · exact .inr ⟨b2, o2, e, fun i x hi => ⟨str _ _ (hcc i x hi).1, str _ _ (hcc i x hi).2⟩⟩
      -- kid by kid
      have each : ∀ i n x, ks[i]? = some (n, x) → ∃ hh, KdAt c' bb (off + i * 9) n x hh ∧ NdV c' x hh := by
        intro i n x hi
        have hdx : dep x ≤ N := by have := dep_kid (k := k) (m := m) (u := u) (g := g) (o := o) (at_ := at_) (d := d) hi; omega
        obtain ⟨k0, k1⟩ := hc i n x hi
        by_cases hat : bb = b ∧ off + i * 9 + 1 = p
        · obtain ⟨e1, e2⟩ := hat
          have k1' := k1
          rw [e1, e2] at k1'
          have exy := nd_unique (hr i n x hi) k1' hK hN
          refine ⟨hy', ⟨str _ _ k0, ?_⟩, IH x hy' hdx (by rw [exy]; exact hN')⟩
          rw [e1, e2, exy]; exact hK'
        · refine ⟨f i, ⟨str _ _ k0, ?_⟩, IH x (f i) hdx (hr i n x hi)⟩
          generalize f i = hh at k1
          generalize off + i * 9 + 1 = p1 at k1 hat
          obtain ⟨k', m', u', g', o', at', d', ks'⟩ := x
          obtain ⟨e0, e1, e2, e3, e4, e5, e6, e7⟩ := k1
          refine ⟨int _ _ e0, int _ _ e1, int _ _ e2, int _ _ e3, bool _ _ e4, ?_, str _ _ e6, ?_⟩
          · rw [hs, e5]
            · intro e; simp at e; exact hat ⟨e.1, e.2⟩
            · intro e; simp at e
              obtain ⟨rfl, e⟩ := e
              have : p1 = p + 2 := by omega
              subst this
              have e2' : c ⟨bb, p + 4, none⟩ = some (.int .i64 u') := e2
              rw [a4] at e2'; cases e2'
          · rw [hs, e7]
            · intro e; simp at e
              obtain ⟨rfl, e⟩ := e
              have : p = p1 + 2 := by omega
              subst this
              have a2' : c ⟨bb, p1 + 4, none⟩ = some (.int .i64 uy) := a2
              rw [e4] at a2'; cases a2'
            · intro e; simp at e; exact hat ⟨e.1, e.2⟩
      obtain ⟨F, hF⟩ : ∃ F : Nat → Hd, ∀ i n x, ks[i]? = some (n, x) → KdAt c' bb (off + i * 9) n x (F i) ∧ NdV c' x (F i) := by
        refine ⟨fun i => if hi : i < ks.length then Classical.choose (each i ks[i].1 ks[i].2 (List.getElem?_eq_getElem hi)) else h, fun i n x hi => ?_⟩
        obtain ⟨hlt, he⟩ := List.getElem?_eq_some_iff.1 hi
        simp only [hlt, dite_true]
        have := Classical.choose_spec (each i ks[i].1 ks[i].2 (List.getElem?_eq_getElem hlt))
        simp only [he] at this ⊢
        exact this
      exact .mk bb off F ha' hca hck hak (fun i n x hi => (hF i n x hi).1) (fun i n x hi => (hF i n x hi).2)
theorem nd_swap' {c c' : Mem} {b p : Nat} {y : Nd} {hy hy' : Hd} (hK : NAt c b p y hy) (hN : NdV c y hy) (hN' : NdV c y hy') (hK' : NAt c' b p y hy')
    (hs : ∀ q, q ≠ ⟨b, p + 5, none⟩ → q ≠ ⟨b, p + 7, none⟩ → c' q = c q) {x : Nd} {h : Hd} (hx : NdV c x h) : NdV c' x h := nd_swap hK hN hN' hK' hs _ x h (Nat.le_refl _) hx
mutual
/-- How many nodes it has. -/
def cnt : Nd → Nat
  | .mk _ _ _ _ _ _ _ ks => cntL ks + 1
def cntL : Kds → Nat
  | [] => 0
  | (_, x) :: l => cnt x + cntL l
end
mutual
/-- Each of little: attributes, data, names. -/
def Lil : Nd → Prop
  | .mk _ _ _ _ _ at_ d ks => (at_.length ≤ 255 ∧ ∀ r ∈ at_, r.n.size ≤ 255 ∧ r.v.size ≤ 255) ∧ d.size ≤ 300 ∧ LilL ks
def LilL : Kds → Prop
  | [] => True
  | (n, x) :: l => n.size ≤ 255 ∧ Lil x ∧ LilL l
end
theorem cntL_len : ∀ ks : Kds, ks.length ≤ cntL ks
  | [] => Nat.le_refl _
  | (n, .mk _ _ _ _ _ _ _ ks) :: l => by have := cntL_len l; rw [cntL, cnt]; simp; omega
end Go.Proofs.YtkjknbjjchdjlaaGreatDoor
namespace Go.Proofs.YtkjknbjjchdjlaaGreatDoor
open Go.RowKit
def idB (n : Int) : Bool := decide (0 ≤ n) && decide (n ≤ 65535)
/-- What is wrong with a node by itself, behind its attributes. -/
def nfR (k m u g : Int) (o : Bool) (la ld lk : Nat) (up root : Bool) : Int :=
  if 200 < ld then 1 else if k = 3 ∧ (up = false ∨ 0 < m ∨ 0 < u ∨ 0 < g ∨ 0 < la) then 3 else if (0 < ld ∧ k ≠ 1) ∨ (0 < lk ∧ k ≠ 2) then 3 else if o = true ∧ (k ≠ 2 ∨ root = true ∨ up = false) then 3 else 0
def nfF (up root : Bool) : Nd → Int
  | .mk k m u g o at_ d ks => if k < 1 ∨ 3 < k then 3 else if m < 0 ∨ 4095 < m ∨ idB u = false ∨ idB g = false then 1 else if chkA at_ ≠ 0 then chkA at_ else nfR k m u g o at_.length d.size ks.length up root
/-- Is that name above the one ahead? -/
def upB : Option ByteArray → ByteArray → Bool
  | none, _ => true
  | some p, n => ltB p n
mutual
/-- A tree gone over: with so many names, so many nodes ahead: what is wrong, how many nodes then. -/
def wlkN (up : Bool) : Nd → Nat → Nat → Int × Nat
  | .mk k m u g o at_ d ks, deep, seen => if 60 ≤ seen ∨ 6 < deep then (2, seen) else if nfF up (decide (deep = 0)) (.mk k m u g o at_ d ks) ≠ 0 then (nfF up (decide (deep = 0)) (.mk k m u g o at_ d ks), seen + 1) else wlkL up none ks (deep + 1) (seen + 1)
def wlkL (up : Bool) : Option ByteArray → Kds → Nat → Nat → Int × Nat
  | _, [], _, seen => (0, seen)
  | p, (n, x) :: l, deep, seen => if nameB n = false then (4, seen) else if upB p n = false then (3, seen) else if (wlkN up x deep seen).1 ≠ 0 then wlkN up x deep seen else wlkL up (some n) l deep (wlkN up x deep seen).2
end
/-- What is wrong with a tree. -/
def tfF (up : Bool) : Nd → Int
  | .mk k m u g o at_ d ks => if k ≠ 2 then 7 else (wlkN up (.mk k m u g o at_ d ks) 0 0).1
def Nd.with : Nd → Kds → Nd
  | .mk k m u g o at_ d _, ks => .mk k m u g o at_ d ks
def Nd.kind : Nd → Int
  | .mk k _ _ _ _ _ _ _ => k
def Nd.kid (x : Nd) (j : Nat) : Nd := match x.kids[j]? with
  | some p => p.2
  | none => x
/-- The zero node. -/
def zN : Nd := .mk 0 0 0 0 false [] ⟨#[]⟩ []
/-- Kids with where their lists lie. -/
abbrev Khs := List (ByteArray × Nd × Hd)
def bare (L : Khs) : Kds := L.map fun e => (e.1, e.2.1)
def kfl : Khs → List Value
  | [] => []
  | (n, x, h) :: l => .string n :: (ndL x h ++ kfl l)
theorem ndL_length (x : Nd) (h : Hd) : (ndL x h).length = 8 := by obtain ⟨k, m, u, g, o, at_, d, ks⟩ := x; rfl
theorem kfl_length : ∀ L : Khs, (kfl L).length = L.length * 9
  | [] => rfl
  | (n, x, h) :: l => by simp [kfl, kfl_length l, ndL_length]; omega
theorem kfl_append : ∀ A B : Khs, kfl (A ++ B) = kfl A ++ kfl B
  | [], _ => rfl
  | (n, x, h) :: l, B => by simp [kfl, kfl_append l B]
theorem ndL_one (x : Nd) (h : Hd) : ∀ u ∈ ndL x h, u.oneCell' = true := by
  obtain ⟨k, m, u, g, o, at_, d, ks⟩ := x
  intro v hv
  simp [ndL] at hv
  rcases hv with rfl | rfl | rfl | rfl | rfl | rfl | rfl | rfl <;> rfl
theorem kfl_one : ∀ L : Khs, ∀ u ∈ kfl L, u.oneCell' = true
  | [], u, h => by cases h
  | (n, x, h) :: l, u, hu => by
    simp [kfl] at hu
    rcases hu with rfl | hu | hu
    · rfl
    · exact ndL_one x h u hu
    · exact kfl_one l u hu
theorem kfl_get : ∀ (L : Khs) (i : Nat) (n : ByteArray) (x : Nd) (h : Hd), L[i]? = some (n, x, h) → ∀ q u, (.string n :: ndL x h)[q]? = some u → (kfl L)[i * 9 + q]? = some u
  | [], i, n, x, h, hi => by simp at hi
  | (n', x', h') :: l, 0, n, x, h, hi => by
    simp at hi
    obtain ⟨rfl, rfl, rfl⟩ := hi
    intro q u hq
    have hl : q < 9 := by have := (List.getElem?_eq_some_iff.1 hq).1; simp [ndL_length] at this; omega
    rw [Nat.zero_mul, Nat.zero_add]
    show (Value.string n' :: (ndL x' h' ++ kfl l))[q]? = some u
    cases q with
    | zero => exact hq
    | succ q => simp at hq ⊢; rw [List.getElem?_append_left (by rw [ndL_length]; omega)]; exact hq
  | (n', x', h') :: l, i + 1, n, x, h, hi => by
    intro q u hq
    have := kfl_get l i n x h (by simpa using hi) q u hq
    have e : (i + 1) * 9 + q = (i * 9 + q) + 8 + 1 := by omega
    rw [e]
    show (Value.string n' :: (ndL x' h' ++ kfl l))[i * 9 + q + 8 + 1]? = some u
    simp only [List.getElem?_cons_succ]
    rw [List.getElem?_append_right (by rw [ndL_length]; omega), ndL_length]
    rw [show i * 9 + q + 8 - 8 = i * 9 + q by omega]; exact this
theorem nat_iff {c : Mem} {b p : Nat} {x : Nd} {h : Hd} : NAt c b p x h ↔ ∀ q u, (ndL x h)[q]? = some u → c ⟨b, p + q, none⟩ = some u := by
  obtain ⟨k, m, u, g, o, at_, d, ks⟩ := x
  constructor
  · rintro ⟨h0, h1, h2, h3, h4, h5, h6, h7⟩ q v hq
    match q, hq with
    | 0, hq => simp [ndL] at hq; subst hq; exact h0
    | 1, hq => simp [ndL] at hq; subst hq; exact h1
    | 2, hq => simp [ndL] at hq; subst hq; exact h2
    | 3, hq => simp [ndL] at hq; subst hq; exact h3
    | 4, hq => simp [ndL] at hq; subst hq; exact h4
    | 5, hq => simp [ndL] at hq; subst hq; exact h5
    | 6, hq => simp [ndL] at hq; subst hq; exact h6
    | 7, hq => simp [ndL] at hq; subst hq; exact h7
    | q + 8, hq => simp [ndL] at hq
  · intro hq
    exact ⟨hq 0 _ rfl, hq 1 _ rfl, hq 2 _ rfl, hq 3 _ rfl, hq 4 _ rfl, hq 5 _ rfl, hq 6 _ rfl, hq 7 _ rfl⟩
theorem kdAt_iff {c : Mem} {b p : Nat} {n : ByteArray} {x : Nd} {h : Hd} : KdAt c b p n x h ↔ ∀ q u, (Value.string n :: ndL x h)[q]? = some u → c ⟨b, p + q, none⟩ = some u := by
  unfold KdAt
  rw [nat_iff]
  constructor
  · rintro ⟨h0, h1⟩ q u hq
    cases q with
    | zero => simp at hq; subst hq; exact h0
    | succ q => have := h1 q u (by simpa using hq); rw [Nat.add_assoc, Nat.add_comm 1 q] at this; exact this
  · intro hq
    exact ⟨hq 0 _ rfl, fun q u h => by have := hq (q + 1) u (by simpa using h); rw [Nat.add_assoc, Nat.add_comm 1 q]; exact this⟩
/-- A list of kids in memory, with where their lists lie. -/
def KsH (c : Mem) (a : Option Addr) (L : Khs) : Prop :=
  (L = [] ∨ ∃ b off, a = some ⟨b, off, none⟩ ∧ ∀ j u, (kfl L)[j]? = some u → c ⟨b, off + j, none⟩ = some u) ∧ ∀ e ∈ L, NdV c e.2.1 e.2.2
theorem ksH_ksV {c : Mem} {a : Option Addr} {L : Khs} (h : KsH c a L) : KsV c a (bare L) := by
  obtain ⟨h1, h2⟩ := h
  rcases h1 with rfl | ⟨b, off, ha, hc⟩
  · exact .inl rfl
  · refine .inr ⟨b, off, ha, fun i => ((L[i]?).map (fun e => e.2.2)).getD ⟨none, 0, none, 0⟩, ?_⟩
    intro i n x hi
    obtain ⟨⟨n', x', h'⟩, he, e⟩ : ∃ e, L[i]? = some e ∧ (e.1, e.2.1) = (n, x) := by
      unfold bare at hi; rw [List.getElem?_map] at hi
      cases hL : L[i]? with
      | none => rw [hL] at hi; cases hi
      | some e => rw [hL] at hi; exact ⟨e, rfl, by simpa using hi⟩
    simp at e
    obtain ⟨rfl, rfl⟩ := e
    simp only [he, Option.map_some, Option.getD_some]
    refine ⟨kdAt_iff.2 fun q u hq => ?_, h2 _ (List.mem_of_getElem? he)⟩
    have := hc _ _ (kfl_get L i _ _ _ he q u hq)
    rw [← Nat.add_assoc] at this; exact this
theorem kfl_at : ∀ (L : Khs) (j : Nat) (u : Value), (kfl L)[j]? = some u → ∃ n x h, L[j / 9]? = some (n, x, h) ∧ (Value.string n :: ndL x h)[j % 9]? = some u
  | L, j, u, hj => by
    have hl := (List.getElem?_eq_some_iff.1 hj).1
    rw [kfl_length] at hl
    have hq : j / 9 < L.length := by omega
    refine ⟨L[j / 9].1, L[j / 9].2.1, L[j / 9].2.2, List.getElem?_eq_getElem hq, ?_⟩
    have hlen : (Value.string L[j / 9].1 :: ndL L[j / 9].2.1 L[j / 9].2.2).length = 9 := by simp [ndL_length]
    have hj9 : j % 9 < (Value.string L[j / 9].1 :: ndL L[j / 9].2.1 L[j / 9].2.2).length := by rw [hlen]; omega
    obtain ⟨v, hv⟩ : ∃ v, (Value.string L[j / 9].1 :: ndL L[j / 9].2.1 L[j / 9].2.2)[j % 9]? = some v := ⟨_, List.getElem?_eq_getElem hj9⟩
    have := kfl_get L (j / 9) _ _ _ (List.getElem?_eq_getElem hq) (j % 9) v hv
    rw [show j / 9 * 9 + j % 9 = j by omega, hj] at this
    rw [hv, this]
theorem ksV_ksH {c : Mem} {a : Option Addr} {ks : Kds} (h : KsV c a ks) : ∃ L, bare L = ks ∧ KsH c a L := by
  rcases h with rfl | ⟨b, off, ha, f, hc⟩
  · exact ⟨[], rfl, .inl rfl, fun e he => by cases he⟩
  · have hg : ∀ i e, (ks.mapIdx (fun i p => (p.1, p.2, f i)))[i]? = some e → ks[i]? = some (e.1, e.2.1) ∧ e.2.2 = f i := by
      intro i e he
      rw [List.getElem?_mapIdx] at he
      cases hk : ks[i]? with
      | none => rw [hk] at he; cases he
      | some p => rw [hk] at he; simp at he; subst he; exact ⟨rfl, rfl⟩
    refine ⟨ks.mapIdx (fun i p => (p.1, p.2, f i)), ?_, .inr ⟨b, off, ha, ?_⟩, ?_⟩
    · unfold bare
      apply List.ext_getElem?
      intro i
      rw [List.getElem?_map, List.getElem?_mapIdx]
      cases ks[i]? <;> simp
    · intro j u hj
      obtain ⟨n, x, h, he, hq⟩ := kfl_at _ j u hj
      obtain ⟨hk, ef⟩ := hg _ _ he
      simp only at ef hk
      have := kdAt_iff.1 (hc _ _ _ hk).1 (j % 9) u (by rw [← ef]; exact hq)
      rw [Nat.add_assoc, show j / 9 * 9 + j % 9 = j by omega] at this
      exact this
    · intro e he
      obtain ⟨i, hi⟩ := List.getElem?_of_mem he
      obtain ⟨hk, ef⟩ := hg _ _ hi
      rw [ef]; exact (hc _ _ _ hk).2
theorem bare_length (A : Khs) : (bare A).length = A.length := by simp [bare]
theorem KsH.on {c c' : Mem} {a : Option Addr} {L : Khs} (h : KsH c a L) (hb : MLe c c') : KsH c' a L := by
  obtain ⟨h1, h2⟩ := h
  refine ⟨?_, fun e he => (h2 e he).on hb⟩
  rcases h1 with e | ⟨b, off, ha, hc⟩
  · exact .inl e
  · exact .inr ⟨b, off, ha, fun j u hj => hb _ _ (hc j u hj)⟩
end Go.Proofs.YtkjknbjjchdjlaaGreatDoor
namespace Go.Proofs.YtkjknbjjchdjlaaGreatDoor
open Go.RowKit
/-- All blocks that were there are as they were, but one. -/
structure But (b : Nat) (w w' : World) : Prop where
  os : w'.os = w.os
  tape : w'.tape = w.tape
  output : w'.output = w.output
  size : w.heap.size ≤ w'.heap.size
  block : ∀ k, k < w.heap.size → k ≠ b → w'.heap[k]? = w.heap[k]?
theorem But.refl (b : Nat) (w : World) : But b w w := ⟨rfl, rfl, rfl, Nat.le_refl _, fun _ _ _ => rfl⟩
theorem But.trans {b : Nat} {u v w : World} (h : But b u v) (k : But b v w) : But b u w :=
  ⟨k.os.trans h.os, k.tape.trans h.tape, k.output.trans h.output, Nat.le_trans h.size k.size, fun i hi hb => (k.block i (Nat.lt_of_lt_of_le hi h.size) hb).trans (h.block i hi hb)⟩
theorem But.of_below {b : Nat} {w w' : World} (h : Below w.heap.size w w') : But b w w' := ⟨h.os, h.tape, h.output, h.size, fun k hk _ => h.block k hk⟩
theorem But.then {b : Nat} {u w w' : World} (h : But b u w) (k : Below w.heap.size w w') : But b u w' := h.trans (.of_below k)
theorem But.below {b : Nat} {w w' : World} (h : But b w w') {B : Nat} (hB : B ≤ b) (hs : B ≤ w.heap.size) : Below B w w' := ⟨h.os, h.tape, h.output, h.size, fun k hk => h.block k (by omega) (by omega)⟩
theorem But.cell {b : Nat} {w w' : World} (h : But b w w') {p : Addr} (hp : p.block < w.heap.size) (hb : p.block ≠ b) : w'.cell? p = w.cell? p := World.cell?_of_block (w := w) (h.block p.block hp hb)
theorem But.frozen {b : Nat} {w w' : World} (h : But b w w') {p : Addr} (hp : p.block < w.heap.size) (hb : p.block ≠ b) : w'.frozen? p = w.frozen? p := World.frozen?_of_block (w := w) (h.block p.block hp hb)
theorem But.alloc {b : Nat} {u w : World} (h : But b u w) (o : Obj) : But b u (w.alloc o) := h.then ((Below.refl _ w).alloc (Nat.le_refl _) o)
theorem But.setCell {b : Nat} {u w : World} (h : But b u w) (o : Nat) (s : Option Nat) (v : Value) : But b u (w.setCell ⟨b, o, s⟩ v) :=
  h.trans ⟨rfl, rfl, rfl, by simp, fun k _ hb => Below.heap_setCell _ _ _ _ hb⟩
end Go.Proofs.YtkjknbjjchdjlaaGreatDoor
