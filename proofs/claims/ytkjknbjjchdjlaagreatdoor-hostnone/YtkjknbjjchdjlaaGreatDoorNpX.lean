/-
  ROWS OF ATTRIBUTES AND OF KIDS THAT A CALL OWNS, read; a node that is stored.
  A NODE's BYTES; append OF A STRING TO A ROW OF BYTES THAT THE CALL OWNS: no walk.
  WHAT sign AND Name DO, the program's and the document's: the walks.
  WHAT strings.Cut DOES AT A DOT, AND WHAT Class DOES, the program's and the document's: the walks.
  LISTS OF ATTRIBUTES IN MEMORY; what attr.Check does: the walk.
-/
import Derived.Test.YtkjknbjjchdjlaaGreatDoorApX
import Derived.Lib.AppendStr
import Derived.Test.YtkjknbjjchdjlaaGreatDoorRows
import Derived.WalkKit
import Derived.WalkSpells
import Derived.WalkLawsBesides
import Derived.Lib.Strings
import Derived.Shelf.Strings.Search1
import Derived.Shelf.Strings.Search2
import Derived.Test.YtkjknbjjchdjlaaGreatDoorProg
import Derived.Lib.CutLaws
import Derived.Deep.QuietTactic
import Derived.BigQuiet
namespace Go.Proofs.YtkjknbjjchdjlaaGreatDoor
open Go.RowKit
def flat : List Kv → List Value
  | [] => []
  | r :: l => .string r.n :: .string r.v :: flat l
theorem flat_length : ∀ L : List Kv, (flat L).length = L.length * 2
  | [] => rfl
  | r :: l => by simp [flat, flat_length l]; omega
theorem flat_one : ∀ L : List Kv, ∀ u ∈ flat L, u.oneCell' = true
  | [], u, h => by cases h
  | r :: l, u, h => by
    simp [flat] at h
    rcases h with rfl | rfl | h
    · rfl
    · rfl
    · exact flat_one l u h
theorem flat_get : ∀ (L : List Kv) (k : Nat) (r : Kv), L[k]? = some r → (flat L)[k * 2]? = some (.string r.n) ∧ (flat L)[k * 2 + 1]? = some (.string r.v)
  | [], k, r, h => by simp at h
  | x :: l, 0, r, h => by simp at h; subst h; simp [flat]
  | x :: l, k + 1, r, h => by
    have := flat_get l k r (by simpa using h)
    have e : (k + 1) * 2 = k * 2 + 2 := by omega
    rw [e]
    simpa [flat] using this
theorem addr_add (b off j : Nat) : (⟨b, off, none⟩ : Addr).add j = ⟨b, off + j, none⟩ := by by_cases hj0 : j = 0 <;> simp [Addr.add, hj0]
/-- An owned row, cell by cell. -/
theorem owns_cells {w : World} {base : Nat} {e : TypeId} {size : Nat} {v : Value} {n : Nat} {xs : List Value} (h : w.ownsRow base e size v n xs) :
    ∃ a cap, v = .slice a n cap ∧ n ≤ cap ∧ cap ≤ 9223372036854775807 ∧ ((a = none ∧ n = 0 ∧ xs = [] ∧ cap = 0) ∨ ∃ g, a = some ⟨g, 0, none⟩ ∧ base ≤ g ∧ g < w.heap.size ∧ (∀ j u, xs[j]? = some u → w.cell? ⟨g, j, none⟩ = some u) ∧ ∀ j, w.frozen? ⟨g, j, none⟩ = false) := by
  obtain ⟨a, cap, hv, h1, h2, hf⟩ := ownsRow_form h
  refine ⟨a, cap, hv, h1, by unfold maxLen at h2; omega, ?_⟩
  rcases hf with hf | ⟨g, cur, ha, hb, hg, _, hx⟩
  · exact .inl hf
  · refine .inr ⟨g, ha, hb, ?_, fun j u hj => ownsRow_cell hg hx hj, fun j => ?_⟩
    · by_cases hlt : g < w.heap.size
      · exact hlt
      · rw [Array.getElem?_eq_none (by omega)] at hg; cases hg
    · simp [World.frozen?, hg]
theorem kvm_of_owns {w : World} {base : Nat} {e : TypeId} {v : Value} {n : Nat} {L : List Kv} (h : w.ownsRow base e 2 v n (flat L)) : ∃ a cap, v = .slice a n cap ∧ n ≤ cap ∧ cap ≤ 9223372036854775807 ∧ Kvm w.cell? a L := by
  obtain ⟨a, cap, hv, h1, h2, hf⟩ := owns_cells h
  refine ⟨a, cap, hv, h1, h2, ?_⟩
  rcases hf with ⟨_, _, hx, _⟩ | ⟨g, ha, _, _, hc, _⟩
  · left
    cases L with
    | nil => rfl
    | cons r l => simp [flat] at hx
  · refine .inr ⟨g, 0, ha, fun k r hk => ?_⟩
    obtain ⟨h1, h2⟩ := flat_get L k r hk
    rw [Nat.zero_add]
    exact ⟨hc _ _ h1, hc _ _ h2⟩
/-- New kids, which may be written. -/
def FreshK (base : Nat) (w : World) (a : Option Addr) (ks : Kds) : Prop := ks = [] ∨ ∃ g, a = some ⟨g, 0, none⟩ ∧ base ≤ g ∧ g < w.heap.size ∧ ∀ j, w.frozen? ⟨g, j, none⟩ = false
theorem FreshK.below {base : Nat} {w w' : World} {a : Option Addr} {ks : Kds} (h : FreshK base w a ks) (hb : Below w.heap.size w w') : FreshK base w' a ks := by
  rcases h with h | ⟨g, ha, h1, h2, h3⟩
  · exact .inl h
  · exact .inr ⟨g, ha, h1, Nat.lt_of_lt_of_le h2 hb.size, fun j => (hb.frozen (p := ⟨g, j, none⟩) h2).trans (h3 j)⟩
/-- A memory but some blocks. -/
def offS (c : Mem) (S : Nat → Bool) : Mem := fun q => if S q.block = true then none else c q
theorem offS_no (c : Mem) : offS c (fun _ => false) = c := by funext q; simp [offS]
theorem offS_le (c : Mem) (S : Nat → Bool) : MLe (offS c S) c := fun q v h => by
  unfold offS at h
  split at h
  · cases h
  · exact h
theorem offS_ne {c : Mem} {S : Nat → Bool} {q : Addr} (h : S q.block = false) : offS c S q = c q := by unfold offS; rw [if_neg (by rw [h]; decide)]
theorem offS_off {c : Mem} {S : Nat → Bool} {q : Addr} {v : Value} (h : offS c S q = some v) : S q.block = false := by
  unfold offS at h
  cases hs : S q.block with
  | false => rfl
  | true => rw [if_pos hs] at h; cases h
/-- A step that leaves the blocks that are said. -/
theorem mle_step {w w' : World} {S S' : Nat → Bool} (h : ∀ k, k < w.heap.size → S k = false → S' k = false ∧ w'.heap[k]? = w.heap[k]?) : MLe (offS w.cell? S) (offS w'.cell? S') := by
  intro q v hq
  have hs := offS_off hq
  rw [offS_ne hs] at hq
  obtain ⟨h1, h2⟩ := h q.block (World.block_lt_of_cell? _ _ hq) hs
  rw [offS_ne h1, World.cell?_of_block (w := w) h2]; exact hq
theorem mle_S {w w' : World} {S : Nat → Bool} (hb : Below w.heap.size w w') : MLe (offS w.cell? S) (offS w'.cell? S) := mle_step fun k hk hs => ⟨hs, hb.block k hk⟩
theorem kvm_of_ownsS {w : World} {base : Nat} {e : TypeId} {v : Value} {n : Nat} {L : List Kv} {S : Nat → Bool} (hS : ∀ k, S k = true → k < base) (h : w.ownsRow base e 2 v n (flat L)) : ∃ a cap, v = .slice a n cap ∧ n ≤ cap ∧ cap ≤ 9223372036854775807 ∧ Kvm (offS w.cell? S) a L := by
  obtain ⟨a, cap, hv, h1, h2, hf⟩ := owns_cells h
  refine ⟨a, cap, hv, h1, h2, ?_⟩
  rcases hf with ⟨_, _, hx, _⟩ | ⟨g, ha, hb, _, hc, _⟩
  · left
    cases L with
    | nil => rfl
    | cons r l => simp [flat] at hx
  · have hg : S g = false := by
      cases hs : S g with
      | false => rfl
      | true => have := hS g hs; omega
    refine .inr ⟨g, 0, ha, fun k r hk => ?_⟩
    obtain ⟨h1, h2⟩ := flat_get L k r hk
    rw [Nat.zero_add, offS_ne hg, offS_ne hg]
    exact ⟨hc _ _ h1, hc _ _ h2⟩
theorem ksH_of_ownsS {w : World} {base : Nat} {e : TypeId} {v : Value} {n : Nat} {L : Khs} {S : Nat → Bool} (hS : ∀ k, S k = true → k < base) (h : w.ownsRow base e 9 v n (kfl L)) (hN : ∀ e ∈ L, NdV (offS w.cell? S) e.2.1 e.2.2) : ∃ a cap, v = .slice a n cap ∧ n ≤ cap ∧ cap ≤ 9223372036854775807 ∧ KsH (offS w.cell? S) a L ∧ FreshK base w a (bare L) := by
  obtain ⟨a, cap, hv, h1, h2, hf⟩ := owns_cells h
  refine ⟨a, cap, hv, h1, h2, ?_⟩
  rcases hf with ⟨_, _, hx, _⟩ | ⟨g, ha, hb, hl, hc, hfr⟩
  · have : L = [] := by
      cases L with
      | nil => rfl
      | cons r l => obtain ⟨n, x, h⟩ := r; simp [kfl] at hx
    subst this
    exact ⟨⟨.inl rfl, hN⟩, .inl rfl⟩
  · have hg : S g = false := by
      cases hs : S g with
      | false => rfl
      | true => have := hS g hs; omega
    exact ⟨⟨.inr ⟨g, 0, ha, fun j u hj => by rw [Nat.zero_add, offS_ne hg]; exact hc j u hj⟩, hN⟩, .inr ⟨g, ha, hb, hl, hfr⟩⟩
theorem src_of_kvm {w : World} {a : Option Addr} {l : List Kv} (h : Kvm w.cell? a l) : (a = none ∧ l.length = 0) ∨ ∃ ad, a = some ad ∧ ∀ j u, (flat l)[j]? = some u → w.cell? (ad.add j) = some u := by
  rcases h with rfl | ⟨b, off, rfl, hc⟩
  · cases a with
    | none => exact .inl ⟨rfl, rfl⟩
    | some ad => exact .inr ⟨ad, rfl, fun j u hu => by simp [flat] at hu⟩
  · refine .inr ⟨_, rfl, fun j u hj => ?_⟩
    have hjl : j < l.length * 2 := by have := (List.getElem?_eq_some_iff.1 hj).1; rwa [flat_length] at this
    obtain ⟨r, hr⟩ : ∃ r, l[j / 2]? = some r := ⟨l[j / 2]'(by omega), List.getElem?_eq_getElem _⟩
    obtain ⟨h1, h2⟩ := hc _ r hr
    obtain ⟨f1, f2⟩ := flat_get l _ r hr
    rw [addr_add]
    have hm : j = j / 2 * 2 ∨ j = j / 2 * 2 + 1 := by omega
    rcases hm with hm | hm
    · rw [hm] at hj ⊢; rw [f1] at hj; cases hj; exact h1
    · rw [hm] at hj ⊢; rw [f2] at hj; cases hj; rw [← Nat.add_assoc]; exact h2
theorem src_of_ksH {w : World} {a : Option Addr} {L : Khs} (h : KsH w.cell? a L) : (a = none ∧ L.length = 0) ∨ ∃ ad, a = some ad ∧ ∀ j u, (kfl L)[j]? = some u → w.cell? (ad.add j) = some u := by
  rcases h.1 with rfl | ⟨b, off, rfl, hc⟩
  · cases a with
    | none => exact .inl ⟨rfl, rfl⟩
    | some ad => exact .inr ⟨ad, rfl, fun j u hu => by simp [kfl] at hu⟩
  · exact .inr ⟨_, rfl, fun j u hj => by rw [addr_add]; exact hc j u hj⟩
/-- A node stored. -/
def st8 (w : World) (b p : Nat) : Nd → Hd → World
  | .mk k m u g o at_ d ks, h => (((((((w.setCell ⟨b, p, none⟩ (.int .i64 k)).setCell ⟨b, p + 1, none⟩ (.int .i64 m)).setCell ⟨b, p + 2, none⟩ (.int .i64 u)).setCell ⟨b, p + 3, none⟩ (.int .i64 g)).setCell ⟨b, p + 4, none⟩ (.bool o)).setCell ⟨b, p + 5, none⟩ (.slice h.aa at_.length h.ca)).setCell ⟨b, p + 6, none⟩ (.string d)).setCell ⟨b, p + 7, none⟩ (.slice h.ak ks.length h.ck)
theorem st8_far {w : World} {b p : Nat} {x : Nd} {h : Hd} {q : Addr} (hq : ∀ j, j < 8 → q ≠ ⟨b, p + j, none⟩) : (st8 w b p x h).cell? q = w.cell? q := by
  obtain ⟨k, m, u, g, o, at_, d, ks⟩ := x
  unfold st8
  rw [World.cell?_setCell_other _ _ _ _ (hq 7 (by omega)).symm, World.cell?_setCell_other _ _ _ _ (hq 6 (by omega)).symm, World.cell?_setCell_other _ _ _ _ (hq 5 (by omega)).symm, World.cell?_setCell_other _ _ _ _ (hq 4 (by omega)).symm, World.cell?_setCell_other _ _ _ _ (hq 3 (by omega)).symm, World.cell?_setCell_other _ _ _ _ (hq 2 (by omega)).symm, World.cell?_setCell_other _ _ _ _ (hq 1 (by omega)).symm, World.cell?_setCell_other _ _ _ _ (show (⟨b, p, none⟩ : Addr) ≠ q from (hq 0 (by omega)).symm)]
theorem st8_at {w : World} {b p : Nat} {x y : Nd} {h h' : Hd} (hy : NAt w.cell? b p y h') : NAt (st8 w b p x h).cell? b p x h := by
  obtain ⟨k, m, u, g, o, at_, d, ks⟩ := x
  obtain ⟨k', m', u', g', o', at', d', ks'⟩ := y
  obtain ⟨h0, h1, h2, h3, h4, h5, h6, h7⟩ := hy
  unfold st8
  refine ⟨?_, ?_, ?_, ?_, ?_, ?_, ?_, ?_⟩ <;> simp [World.cell?_setCell_other, World.cell?_setCell_same', h0, h1, h2, h3, h4, h5, h6, h7]
theorem st8_frozen {w : World} {b p : Nat} {x : Nd} {h : Hd} (q : Addr) : (st8 w b p x h).frozen? q = w.frozen? q := by
  obtain ⟨k, m, u, g, o, at_, d, ks⟩ := x
  unfold st8
  simp
theorem st8_but {w : World} {b p : Nat} {x : Nd} {h : Hd} : But b w (st8 w b p x h) := by
  obtain ⟨k, m, u, g, o, at_, d, ks⟩ := x
  unfold st8
  exact ((((((((But.refl b w).setCell _ _ _).setCell _ _ _).setCell _ _ _).setCell _ _ _).setCell _ _ _).setCell _ _ _).setCell _ _ _).setCell _ _ _
/-- Of the same node: all but its two lists are as they were. -/
theorem st8_same {w : World} {b p : Nat} {x : Nd} {h h' : Hd} (hy : NAt w.cell? b p x h) (q : Addr) (h5 : q ≠ ⟨b, p + 5, none⟩) (h7 : q ≠ ⟨b, p + 7, none⟩) : (st8 w b p x h').cell? q = w.cell? q := by
  by_cases hq : ∃ j, j < 8 ∧ q = ⟨b, p + j, none⟩
  · obtain ⟨j, hj, rfl⟩ := hq
    have hn := st8_at (x := x) (h := h') hy
    obtain ⟨k, m, u, g, o, at_, d, ks⟩ := x
    obtain ⟨a0, a1, a2, a3, a4, a5, a6, a7⟩ := hy
    obtain ⟨e0, e1, e2, e3, e4, e5, e6, e7⟩ := hn
    match j, hj with
    | 0, _ => exact e0.trans a0.symm
    | 1, _ => exact e1.trans a1.symm
    | 2, _ => exact e2.trans a2.symm
    | 3, _ => exact e3.trans a3.symm
    | 4, _ => exact e4.trans a4.symm
    | 5, _ => exact absurd rfl h5
    | 6, _ => exact e6.trans a6.symm
    | 7, _ => exact absurd rfl h7
    | j + 8, hj => omega
  · exact st8_far fun j hj e => hq ⟨j, hj, e⟩
end Go.Proofs.YtkjknbjjchdjlaaGreatDoor
namespace Go.Proofs.YtkjknbjjchdjlaaGreatDoor
open Go.RowKit
def b8 (z : Int) : UInt8 := UInt8.ofNat (z % 256).toNat
theorem b8_val (z : Int) : ((b8 z).toNat : Int) = z % 256 := by
  unfold b8
  have h1 : 0 ≤ z % 256 := Int.emod_nonneg _ (by decide)
  have h2 : z % 256 < 256 := Int.emod_lt_of_pos _ (by decide)
  rw [UInt8.toNat_ofNat']
  omega
/-- Bytes in memory. -/
def bc (l : List UInt8) : List Value := l.map fun b => .int .u8 b.toNat
theorem bc_append (a b : List UInt8) : bc (a ++ b) = bc a ++ bc b := by simp [bc]
theorem bc_one (a : List UInt8) : ∀ u ∈ bc a, u.oneCell' = true := by
  intro u hu
  unfold bc at hu
  obtain ⟨b, _, rfl⟩ := List.mem_map.1 hu
  rfl
/-- A text, in one byte how many bytes, and these. -/
def txt (s : ByteArray) : List UInt8 := b8 s.size :: s.data.toList
theorem txt_length (s : ByteArray) : (txt s).length = 1 + s.size := by simp [txt]; omega
def num2 (z : Int) : List UInt8 := [b8 (z / 256), b8 z]
def atB : List Kv → List UInt8
  | [] => []
  | r :: l => txt r.n ++ (txt r.v ++ atB l)
mutual
def byN : Nd → List UInt8
  | .mk k m u g o at_ d ks => b8 (if o = true then k + 8 else k) :: (num2 m ++ (num2 u ++ (num2 g ++ (b8 at_.length :: (atB at_ ++ (txt d ++ (b8 ks.length :: byL ks)))))))
def byL : Kds → List UInt8
  | [] => []
  | p :: l => txt p.1 ++ (byN p.2 ++ byL l)
end
/-- A row that has grown: what else was there is as it was. -/
structure Gr (w w' : World) (v v' : Value) : Prop where
  g : w.grownBy w' v.ownBlock
  o : v'.ownBlock = v.ownBlock ∨ ∃ s, v'.ownBlock = some s ∧ w.heap.size ≤ s
theorem Gr.refl (w : World) (v : Value) : Gr w w v v := ⟨World.grownBy.refl _ _, .inl rfl⟩
theorem Gr.trans {w w1 w2 : World} {v v1 v2 : Value} (h : Gr w w1 v v1) (k : Gr w1 w2 v1 v2) : Gr w w2 v v2 := by
  obtain ⟨⟨a1, a2, a3, a4, a5⟩, ho⟩ := h
  obtain ⟨⟨b1, b2, b3, b4, b5⟩, ko⟩ := k
  refine ⟨⟨b1.trans a1, b2.trans a2, b3.trans a3, Nat.le_trans a4 b4, fun q hq hne => ?_⟩, ?_⟩
  · refine (b5 q (Nat.lt_of_lt_of_le hq a4) ?_).trans (a5 q hq hne)
    rcases ho with e | ⟨s, e, hs⟩
    · rw [e]; exact hne
    · rw [e]; intro e2
      have : q = s := by simpa using e2
      omega
  · rcases ko with e | ⟨s, e, hs⟩
    · rw [e]; exact ho
    · exact .inr ⟨s, e, Nat.le_trans a4 hs⟩
/-- append of a string to a row that is not empty. -/
theorem run_append_str {P : Program} (w : World) (base : Nat) (t u ty e : TypeId) (i : TypeInfo) (ht : P.underlying t = some (.slice e)) (hu : P.underlying u = some .string) (hi : P.info? e = some i) (hz : i.zero = some (.int .u8 0)) (hsize : i.size = 1) (hby : i.bytes = 1)
    (v : Value) (n : Nat) (xs : List Value) (hown : w.ownsRow base e 1 v n xs) (hn : 0 < n) (s : ByteArray) (h63 : n + s.size ≤ 100000000) (hbase : base ≤ w.heap.size) :
    ∃ v' w', (Builtin.append_ #[t, u] ty #[v, .string s]).run P w = .ok v' w' ∧ w'.ownsRow base e 1 v' (n + s.size) (xs ++ bc s.data.toList) ∧ Gr w w' v v' := by
  obtain ⟨v', w', hr, h2, h3, _⟩ := Lib.run_append_own_string (P := P) w base t u ty e i ht hu hi hz hsize hby v n xs hown s (by unfold maxLen; omega) (by omega) hbase
  refine ⟨v', w', hr, h2, h3, ?_⟩
  obtain ⟨a, cap, rfl, h1, hm, hf⟩ := ownsRow_form hown
  rcases hf with ⟨_, e0, _⟩ | ⟨g, cur, rfl, hb, hg, hs, hx⟩
  · omega
  · by_cases hroom : n + s.size ≤ cap
    · have q := Lib.run_append_room_string (P := P) w t u ty e i ht hu hi hsize g n cap cur hg s hroom (by rw [hs]; omega)
      rw [hr] at q
      obtain ⟨rfl, _⟩ : v' = .slice (some ⟨g, 0, none⟩) (n + s.size) cap ∧ w' = _ := by simpa using q
      exact .inl rfl
    · have hxl : xs.length = n * 1 := hown.1
      have q := Lib.run_append_grow_string (P := P) w t u ty e i (.int .u8 0) ht hu hi hz ⟨g, 0, none⟩ n cap xs (by rw [hsize]; exact hxl) (fun j u hj => by rw [addr_add, Nat.zero_add]; exact ownsRow_cell hg hx hj) s (by omega) (by omega) (by rw [hby]; exact growslice_fits (by omega) (by omega))
      rw [hr] at q
      obtain ⟨rfl, _⟩ : v' = .slice (some ⟨w.heap.size, 0, none⟩) (n + s.size) (grownCap w (n + s.size) cap e) ∧ w' = _ := by simpa using q
      exact .inr ⟨w.heap.size, rfl, Nat.le_refl _⟩
theorem wpList_append_str {P : Program} (w : World) {ops : Array Oper} {rest : List Oper} {o : Oper} {a : Act} {Q : Exit → Act → World → Prop} (hgd : o.guard = none) (sl x : Operand) (t u : TypeId)
    (ho : o.op = .call { callee := .builtin .append, args := #[sl, x], argTypes := #[t, u] })
    (base : Nat) (e : TypeId) (i : TypeInfo) (ht : P.underlying t = some (.slice e)) (hu : P.underlying u = some .string) (hi : P.info? e = some i) (hz : i.zero = some (.int .u8 0)) (hsize : i.size = 1) (hby : i.bytes = 1)
    (v : Value) (n : Nat) (xs : List Value) (hs : a.eval sl = v) (hown : w.ownsRow base e 1 v n xs) (hn : 0 < n) (s : ByteArray) (hx : a.eval x = .string s) (h63 : n + s.size ≤ 100000000) (hbase : base ≤ w.heap.size)
    (h : ∀ v' w', w'.ownsRow base e 1 v' (n + s.size) (xs ++ bc s.data.toList) → Gr w w' v v' → wpList P ops Q rest (a.put o.dst v') w') : wpList P ops Q (o :: rest) a w := by
  refine wpList_plain hgd fun K hK => ?_
  obtain ⟨v', w', hr, h2, h3⟩ := run_append_str (P := P) w base t u o.type e i ht hu hi hz hsize hby v n xs hown hn s h63 hbase
  unfold Oper.wp execOp
  simp only [ho, resolve, invoke, builtin, Sem.run_bind, Sem.run_pure, Result.andThen_ok, List.map_toArray, List.map_cons, List.map_nil, hs, hx, hr]
  exact hK _ _ (h v' w' h2 h3)
end Go.Proofs.YtkjknbjjchdjlaaGreatDoor
namespace Go.Proofs.YtkjknbjjchdjlaaGreatDoor
open Go.RowKit
theorem ret_bool {a b : Bool} (h : a = b) : Ending.returned (.bool a) = .returned (.bool b) := by rw [h]
end Go.Proofs.YtkjknbjjchdjlaaGreatDoor
namespace Go.Proofs.YtkjknbjjchdjlaaGreatDoor
open Go.RowKit
theorem wrap_small {x : Int} (h1 : -9223372036854775808 ≤ x) (h2 : x ≤ 9223372036854775807) : IntKind.i64.wrap x = x := by
  simp [IntKind.wrap, IntKind.signed, IntKind.bits]; omega
end Go.Proofs.YtkjknbjjchdjlaaGreatDoor
namespace Go.Proofs.YtkjknbjjchdjlaaGreatDoor
open Go.RowKit
/-- An error, by its number. -/
def errV (n : Int) : Value := if n = 0 then .nilIface else .iface 47 (.int .i64 n)
theorem errV_of {n m : Int} (h : n = m) (hm : m ≠ 0) : errV n = .iface 47 (.int .i64 m) := by subst h; simp [errV, hm]
theorem errV_nil {n : Int} (h : n = 0) : errV n = .nilIface := by subst h; rfl
theorem ret_val {a b : Value} (h : a = b) : Ending.returned a = .returned b := by rw [h]
end Go.Proofs.YtkjknbjjchdjlaaGreatDoor
