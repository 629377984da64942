/-
  A NODE's BYTES; append OF A STRING TO A ROW OF BYTES THAT THE CALL OWNS: no walk.
-/
import Derived.Test.YtkkhfnkmfkdhiabNp
import Derived.Lib.AppendStr
namespace Go.Proofs.Ytkkhfnkmfkdhiab
open Go.RowKit

def b8 (z : Int) : UInt8 := UInt8.ofNat (z % 256).toNat
theorem b8_val (z : Int) : ((b8 z).toNat : Int) = z % 256 := by
  unfold b8
  have h1 : 0 ≤ z % 256 := Int.emod_nonneg _ (by decide)
  have h2 : z % 256 < 256 := Int.emod_lt_of_pos _ (by decide)
  rw [UInt8.toNat_ofNat']
  omega
/-- Bytes in memory. -/
def bc (l : List UInt8) : List Value := l.map fun b => .int .u8 b.toNat
theorem bc_append (a b : List UInt8) : bc (a ++ b) = bc a ++ bc b := by simp [bc]
theorem bc_length (a : List UInt8) : (bc a).length = a.length := by simp [bc]
theorem bc_one (a : List UInt8) : ∀ u ∈ bc a, u.oneCell' = true := by
  intro u hu
  unfold bc at hu
  obtain ⟨b, _, rfl⟩ := List.mem_map.1 hu
  rfl
theorem bc_str (s : ByteArray) : Lib.strCells s = bc s.data.toList := rfl
/-- A text, in one byte how many bytes, and these. -/
def txt (s : ByteArray) : List UInt8 := b8 s.size :: s.data.toList
theorem txt_length (s : ByteArray) : (txt s).length = 1 + s.size := by simp [txt]; omega
def num2 (z : Int) : List UInt8 := [b8 (z / 256), b8 z]
def atB : List Kv → List UInt8
  | [] => []
  | r :: l => txt r.n ++ (txt r.v ++ atB l)
mutual
def byN : Nd → List UInt8
  | .mk k m u g o at_ d ks => b8 (if o = true then k + 8 else k) :: (num2 m ++ (num2 u ++ (num2 g ++ (b8 at_.length :: (atB at_ ++ (txt d ++ (b8 ks.length :: byL ks)))))))
def byL : Kds → List UInt8
  | [] => []
  | p :: l => txt p.1 ++ (byN p.2 ++ byL l)
end
/-- A row that has grown: what else was there is as it was. -/
structure Gr (w w' : World) (v v' : Value) : Prop where
  g : w.grownBy w' v.ownBlock
  o : v'.ownBlock = v.ownBlock ∨ ∃ s, v'.ownBlock = some s ∧ w.heap.size ≤ s
theorem Gr.refl (w : World) (v : Value) : Gr w w v v := ⟨World.grownBy.refl _ _, .inl rfl⟩
theorem Gr.trans {w w1 w2 : World} {v v1 v2 : Value} (h : Gr w w1 v v1) (k : Gr w1 w2 v1 v2) : Gr w w2 v v2 := by
  obtain ⟨⟨a1, a2, a3, a4, a5⟩, ho⟩ := h
  obtain ⟨⟨b1, b2, b3, b4, b5⟩, ko⟩ := k
  refine ⟨⟨b1.trans a1, b2.trans a2, b3.trans a3, Nat.le_trans a4 b4, fun q hq hne => ?_⟩, ?_⟩
  · refine (b5 q (Nat.lt_of_lt_of_le hq a4) ?_).trans (a5 q hq hne)
    rcases ho with e | ⟨s, e, hs⟩
    · rw [e]; exact hne
    · rw [e]; intro e2
      have : q = s := by simpa using e2
      omega
  · rcases ko with e | ⟨s, e, hs⟩
    · rw [e]; exact ho
    · exact .inr ⟨s, e, Nat.le_trans a4 hs⟩
/-- append of a string to a row that is not empty. -/
theorem run_append_str {P : Program} (w : World) (base : Nat) (t u ty e : TypeId) (i : TypeInfo) (ht : P.underlying t = some (.slice e)) (hu : P.underlying u = some .string) (hi : P.info? e = some i) (hz : i.zero = some (.int .u8 0)) (hsize : i.size = 1) (hby : i.bytes = 1)
    (v : Value) (n : Nat) (xs : List Value) (hown : w.ownsRow base e 1 v n xs) (hn : 0 < n) (s : ByteArray) (h63 : n + s.size ≤ 1000000) (hbase : base ≤ w.heap.size) :
    ∃ v' w', (Builtin.append_ #[t, u] ty #[v, .string s]).run P w = .ok v' w' ∧ w'.ownsRow base e 1 v' (n + s.size) (xs ++ bc s.data.toList) ∧ Gr w w' v v' := by
  obtain ⟨v', w', hr, h2, h3, _⟩ := Lib.run_append_own_string (P := P) w base t u ty e i ht hu hi hz hsize hby v n xs hown s (by unfold maxLen; omega) (by omega) hbase
  refine ⟨v', w', hr, h2, h3, ?_⟩
  obtain ⟨a, cap, rfl, h1, hm, hf⟩ := ownsRow_form hown
  rcases hf with ⟨_, e0, _⟩ | ⟨g, cur, rfl, hb, hg, hs, hx⟩
  · omega
  · by_cases hroom : n + s.size ≤ cap
    · have q := Lib.run_append_room_string (P := P) w t u ty e i ht hu hi hsize g n cap cur hg s hroom (by rw [hs]; omega)
      rw [hr] at q
      obtain ⟨rfl, _⟩ : v' = .slice (some ⟨g, 0, none⟩) (n + s.size) cap ∧ w' = _ := by simpa using q
      exact .inl rfl
    · have hxl : xs.length = n * 1 := hown.1
      have q := Lib.run_append_grow_string (P := P) w t u ty e i (.int .u8 0) ht hu hi hz ⟨g, 0, none⟩ n cap xs (by rw [hsize]; exact hxl) (fun j u hj => by rw [addr_add, Nat.zero_add]; exact ownsRow_cell hg hx hj) s (by omega) (by omega) (by rw [hby]; exact growslice_fits (by omega) (by omega))
      rw [hr] at q
      obtain ⟨rfl, _⟩ : v' = .slice (some ⟨w.heap.size, 0, none⟩) (n + s.size) (grownCap w (n + s.size) cap e) ∧ w' = _ := by simpa using q
      exact .inr ⟨w.heap.size, rfl, Nat.le_refl _⟩
theorem wpList_append_str {P : Program} (w : World) {ops : Array Oper} {rest : List Oper} {o : Oper} {a : Act} {Q : Exit → Act → World → Prop} (hgd : o.guard = none) (sl x : Operand) (t u : TypeId)
    (ho : o.op = .call { callee := .builtin .append, args := #[sl, x], argTypes := #[t, u] })
    (base : Nat) (e : TypeId) (i : TypeInfo) (ht : P.underlying t = some (.slice e)) (hu : P.underlying u = some .string) (hi : P.info? e = some i) (hz : i.zero = some (.int .u8 0)) (hsize : i.size = 1) (hby : i.bytes = 1)
    (v : Value) (n : Nat) (xs : List Value) (hs : a.eval sl = v) (hown : w.ownsRow base e 1 v n xs) (hn : 0 < n) (s : ByteArray) (hx : a.eval x = .string s) (h63 : n + s.size ≤ 1000000) (hbase : base ≤ w.heap.size)
    (h : ∀ v' w', w'.ownsRow base e 1 v' (n + s.size) (xs ++ bc s.data.toList) → Gr w w' v v' → wpList P ops Q rest (a.put o.dst v') w') : wpList P ops Q (o :: rest) a w := by
  refine wpList_plain hgd fun K hK => ?_
  obtain ⟨v', w', hr, h2, h3⟩ := run_append_str (P := P) w base t u o.type e i ht hu hi hz hsize hby v n xs hown hn s h63 hbase
  unfold Oper.wp execOp
  simp only [ho, resolve, invoke, builtin, Sem.run_bind, Sem.run_pure, Result.andThen_ok, List.map_toArray, List.map_cons, List.map_nil, hs, hx, hr]
  exact hK _ _ (h v' w' h2 h3)
end Go.Proofs.Ytkkhfnkmfkdhiab
