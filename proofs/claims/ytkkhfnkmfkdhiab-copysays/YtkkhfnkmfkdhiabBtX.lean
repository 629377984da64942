/-
  A WORLD THAT IS AS IT WAS, BUT ONE BLOCK; a box of two numbers.
  ROWS OF ATTRIBUTES AND OF KIDS THAT A CALL OWNS, read; a node that is stored.
-/
import Derived.Test.YtkkhfnkmfkdhiabNaX
import Derived.WalkKit
import Derived.WalkLawsBesides
import Derived.Deep.QuietTactic
import Derived.BigQuiet
import Derived.Test.YtkkhfnkmfkdhiabApY
namespace Go.Proofs.Ytkkhfnkmfkdhiab
open Go.RowKit

/-- All blocks that were there are as they were, but one. -/
structure But (b : Nat) (w w' : World) : Prop where
  os : w'.os = w.os
  tape : w'.tape = w.tape
  output : w'.output = w.output
  size : w.heap.size ≤ w'.heap.size
  block : ∀ k, k < w.heap.size → k ≠ b → w'.heap[k]? = w.heap[k]?
theorem But.refl (b : Nat) (w : World) : But b w w := ⟨rfl, rfl, rfl, Nat.le_refl _, fun _ _ _ => rfl⟩
theorem But.trans {b : Nat} {u v w : World} (h : But b u v) (k : But b v w) : But b u w :=
  ⟨k.os.trans h.os, k.tape.trans h.tape, k.output.trans h.output, Nat.le_trans h.size k.size, fun i hi hb => (k.block i (Nat.lt_of_lt_of_le hi h.size) hb).trans (h.block i hi hb)⟩
theorem But.of_below {b : Nat} {w w' : World} (h : Below w.heap.size w w') : But b w w' := ⟨h.os, h.tape, h.output, h.size, fun k hk _ => h.block k hk⟩
theorem But.then {b : Nat} {u w w' : World} (h : But b u w) (k : Below w.heap.size w w') : But b u w' := h.trans (.of_below k)
theorem But.below {b : Nat} {w w' : World} (h : But b w w') {B : Nat} (hB : B ≤ b) (hs : B ≤ w.heap.size) : Below B w w' := ⟨h.os, h.tape, h.output, h.size, fun k hk => h.block k (by omega) (by omega)⟩
theorem But.cell {b : Nat} {w w' : World} (h : But b w w') {p : Addr} (hp : p.block < w.heap.size) (hb : p.block ≠ b) : w'.cell? p = w.cell? p := World.cell?_of_block (w := w) (h.block p.block hp hb)
theorem But.frozen {b : Nat} {w w' : World} (h : But b w w') {p : Addr} (hp : p.block < w.heap.size) (hb : p.block ≠ b) : w'.frozen? p = w.frozen? p := World.frozen?_of_block (w := w) (h.block p.block hp hb)
theorem But.alloc {b : Nat} {u w : World} (h : But b u w) (o : Obj) : But b u (w.alloc o) := h.then ((Below.refl _ w).alloc (Nat.le_refl _) o)
theorem But.setCell {b : Nat} {u w : World} (h : But b u w) (o : Nat) (s : Option Nat) (v : Value) : But b u (w.setCell ⟨b, o, s⟩ v) :=
  h.trans ⟨rfl, rfl, rfl, by simp, fun k _ hb => Below.heap_setCell _ _ _ _ hb⟩
theorem But.drewN {b : Nat} {u w : World} (h : But b u w) (n : Nat) : But b u (w.drewN n) := h.then (below_drewN (Below.refl _ w) n)
/-- What was said but of one block is said still. -/
theorem But.mle {b : Nat} {w w' : World} (h : But b w w') : MLe (offB w.cell? b) (offB w'.cell? b) := by
  intro q v hq
  by_cases hb : q.block = b
  · unfold offB at hq; rw [if_pos hb] at hq; cases hq
  · rw [offB_ne hb] at hq ⊢
    exact (h.cell (World.block_lt_of_cell? _ _ hq) hb).trans hq
/-- What lies below a block is said without it. -/
theorem mle_off {w w' : World} {b : Nat} (hb : Below w.heap.size w w') (hs : w.heap.size ≤ b) : MLe w.cell? (offB w'.cell? b) := by
  intro q v hq
  have hlt : q.block < w.heap.size := World.block_lt_of_cell? _ _ hq
  rw [offB_ne (by omega)]
  exact (hb.cell hlt).trans hq

/-- A box of two cells, which may be written. -/
def TBox (w : World) (b : Nat) (u v : Value) : Prop := w.cell? ⟨b, 0, none⟩ = some u ∧ w.cell? ⟨b, 1, none⟩ = some v ∧ w.frozen? ⟨b, 0, none⟩ = false ∧ w.frozen? ⟨b, 1, none⟩ = false
theorem TBox.lt {w : World} {b : Nat} {u v : Value} (h : TBox w b u v) : b < w.heap.size := World.block_lt_of_cell? _ _ h.1
theorem TBox.below {w w' : World} {b : Nat} {u v : Value} (h : TBox w b u v) (hb : Below w.heap.size w w') : TBox w' b u v := by
  have hl := h.lt
  obtain ⟨h0, h1, h2, h3⟩ := h
  exact ⟨(hb.cell (p := ⟨b, 0, none⟩) hl).trans h0, (hb.cell (p := ⟨b, 1, none⟩) hl).trans h1, (hb.frozen (p := ⟨b, 0, none⟩) hl).trans h2, (hb.frozen (p := ⟨b, 1, none⟩) hl).trans h3⟩
theorem TBox.set0 {w : World} {b : Nat} {u v : Value} (h : TBox w b u v) (u' : Value) : TBox (w.setCell ⟨b, 0, none⟩ u') b u' v := by
  obtain ⟨h0, h1, h2, h3⟩ := h
  exact ⟨World.cell?_setCell_same _ _ _ h0, (World.cell?_setCell_other _ _ _ _ (by simp)).trans h1, by simpa using h2, by simpa using h3⟩
theorem TBox.set1 {w : World} {b : Nat} {u v : Value} (h : TBox w b u v) (v' : Value) : TBox (w.setCell ⟨b, 1, none⟩ v') b u v' := by
  obtain ⟨h0, h1, h2, h3⟩ := h
  exact ⟨(World.cell?_setCell_other _ _ _ _ (by simp)).trans h0, World.cell?_setCell_same _ _ _ h1, by simpa using h2, by simpa using h3⟩
theorem TBox.new (w : World) (u v : Value) (t : TypeId) : TBox (w.alloc (.cells #[u, v] t)) w.heap.size u v :=
  ⟨World.cell?_alloc_at _ _ _ _ rfl, World.cell?_alloc_at _ _ _ _ rfl, World.frozen?_alloc_new _ _ _ _, World.frozen?_alloc_new _ _ _ _⟩
end Go.Proofs.Ytkkhfnkmfkdhiab

namespace Go.Proofs.Ytkkhfnkmfkdhiab
open Go.RowKit

def flat : List Kv → List Value
  | [] => []
  | r :: l => .string r.n :: .string r.v :: flat l
theorem flat_length : ∀ L : List Kv, (flat L).length = L.length * 2
  | [] => rfl
  | r :: l => by simp [flat, flat_length l]; omega
theorem flat_append : ∀ A B : List Kv, flat (A ++ B) = flat A ++ flat B
  | [], _ => rfl
  | r :: l, B => by simp [flat, flat_append l B]
theorem flat_one : ∀ L : List Kv, ∀ u ∈ flat L, u.oneCell' = true
  | [], u, h => by cases h
  | r :: l, u, h => by
    simp [flat] at h
    rcases h with rfl | rfl | h
    · rfl
    · rfl
    · exact flat_one l u h
theorem flat_get : ∀ (L : List Kv) (k : Nat) (r : Kv), L[k]? = some r → (flat L)[k * 2]? = some (.string r.n) ∧ (flat L)[k * 2 + 1]? = some (.string r.v)
  | [], k, r, h => by simp at h
  | x :: l, 0, r, h => by simp at h; subst h; simp [flat]
  | x :: l, k + 1, r, h => by
    have := flat_get l k r (by simpa using h)
    have e : (k + 1) * 2 = k * 2 + 2 := by omega
    rw [e]
    simpa [flat] using this
theorem addr_add (b off j : Nat) : (⟨b, off, none⟩ : Addr).add j = ⟨b, off + j, none⟩ := by by_cases hj0 : j = 0 <;> simp [Addr.add, hj0]
/-- An owned row, cell by cell. -/
theorem owns_cells {w : World} {base : Nat} {e : TypeId} {size : Nat} {v : Value} {n : Nat} {xs : List Value} (h : w.ownsRow base e size v n xs) :
    ∃ a cap, v = .slice a n cap ∧ n ≤ cap ∧ cap ≤ 9223372036854775807 ∧ ((a = none ∧ n = 0 ∧ xs = [] ∧ cap = 0) ∨ ∃ g, a = some ⟨g, 0, none⟩ ∧ base ≤ g ∧ g < w.heap.size ∧ (∀ j u, xs[j]? = some u → w.cell? ⟨g, j, none⟩ = some u) ∧ ∀ j, w.frozen? ⟨g, j, none⟩ = false) := by
  obtain ⟨a, cap, hv, h1, h2, hf⟩ := ownsRow_form h
  refine ⟨a, cap, hv, h1, by unfold maxLen at h2; omega, ?_⟩
  rcases hf with hf | ⟨g, cur, ha, hb, hg, _, hx⟩
  · exact .inl hf
  · refine .inr ⟨g, ha, hb, ?_, fun j u hj => ownsRow_cell hg hx hj, fun j => ?_⟩
    · by_cases hlt : g < w.heap.size
      · exact hlt
      · rw [Array.getElem?_eq_none (by omega)] at hg; cases hg
    · simp [World.frozen?, hg]
theorem kvm_of_owns {w : World} {base : Nat} {e : TypeId} {v : Value} {n : Nat} {L : List Kv} (h : w.ownsRow base e 2 v n (flat L)) : ∃ a cap, v = .slice a n cap ∧ n ≤ cap ∧ cap ≤ 9223372036854775807 ∧ Kvm w.cell? a L := by
  obtain ⟨a, cap, hv, h1, h2, hf⟩ := owns_cells h
  refine ⟨a, cap, hv, h1, h2, ?_⟩
  rcases hf with ⟨_, _, hx, _⟩ | ⟨g, ha, _, _, hc, _⟩
  · left
    cases L with
    | nil => rfl
    | cons r l => simp [flat] at hx
  · refine .inr ⟨g, 0, ha, fun k r hk => ?_⟩
    obtain ⟨h1, h2⟩ := flat_get L k r hk
    rw [Nat.zero_add]
    exact ⟨hc _ _ h1, hc _ _ h2⟩
/-- New kids, which may be written. -/
def FreshK (base : Nat) (w : World) (a : Option Addr) (ks : Kds) : Prop := ks = [] ∨ ∃ g, a = some ⟨g, 0, none⟩ ∧ base ≤ g ∧ g < w.heap.size ∧ ∀ j, w.frozen? ⟨g, j, none⟩ = false
theorem FreshK.below {base : Nat} {w w' : World} {a : Option Addr} {ks : Kds} (h : FreshK base w a ks) (hb : Below w.heap.size w w') : FreshK base w' a ks := by
  rcases h with h | ⟨g, ha, h1, h2, h3⟩
  · exact .inl h
  · exact .inr ⟨g, ha, h1, Nat.lt_of_lt_of_le h2 hb.size, fun j => (hb.frozen (p := ⟨g, j, none⟩) h2).trans (h3 j)⟩
theorem ksH_of_owns {w : World} {base : Nat} {e : TypeId} {v : Value} {n : Nat} {L : Khs} (h : w.ownsRow base e 9 v n (kfl L)) (hN : ∀ e ∈ L, NdV w.cell? e.2.1 e.2.2) : ∃ a cap, v = .slice a n cap ∧ n ≤ cap ∧ cap ≤ 9223372036854775807 ∧ KsH w.cell? a L ∧ FreshK base w a (bare L) := by
  obtain ⟨a, cap, hv, h1, h2, hf⟩ := owns_cells h
  refine ⟨a, cap, hv, h1, h2, ?_⟩
  rcases hf with ⟨_, _, hx, _⟩ | ⟨g, ha, hb, hl, hc, hfr⟩
  · have : L = [] := by
      cases L with
      | nil => rfl
      | cons r l => obtain ⟨n, x, h⟩ := r; simp [kfl] at hx
    subst this
    exact ⟨⟨.inl rfl, hN⟩, .inl rfl⟩
  · exact ⟨⟨.inr ⟨g, 0, ha, fun j u hj => by rw [Nat.zero_add]; exact hc j u hj⟩, hN⟩, .inr ⟨g, ha, hb, hl, hfr⟩⟩
/-- A memory but some blocks. -/
def offS (c : Mem) (S : Nat → Bool) : Mem := fun q => if S q.block = true then none else c q
theorem offS_no (c : Mem) : offS c (fun _ => false) = c := by funext q; simp [offS]
theorem offS_le (c : Mem) (S : Nat → Bool) : MLe (offS c S) c := fun q v h => by
  unfold offS at h
  split at h
  · cases h
  · exact h
theorem offS_ne {c : Mem} {S : Nat → Bool} {q : Addr} (h : S q.block = false) : offS c S q = c q := by unfold offS; rw [if_neg (by rw [h]; decide)]
theorem offS_off {c : Mem} {S : Nat → Bool} {q : Addr} {v : Value} (h : offS c S q = some v) : S q.block = false := by
  unfold offS at h
  cases hs : S q.block with
  | false => rfl
  | true => rw [if_pos hs] at h; cases h
/-- A step that leaves the blocks that are said. -/
theorem mle_step {w w' : World} {S S' : Nat → Bool} (h : ∀ k, k < w.heap.size → S k = false → S' k = false ∧ w'.heap[k]? = w.heap[k]?) : MLe (offS w.cell? S) (offS w'.cell? S') := by
  intro q v hq
  have hs := offS_off hq
  rw [offS_ne hs] at hq
  obtain ⟨h1, h2⟩ := h q.block (World.block_lt_of_cell? _ _ hq) hs
  rw [offS_ne h1, World.cell?_of_block (w := w) h2]; exact hq
theorem mle_S {w w' : World} {S : Nat → Bool} (hb : Below w.heap.size w w') : MLe (offS w.cell? S) (offS w'.cell? S) := mle_step fun k hk hs => ⟨hs, hb.block k hk⟩
theorem kvm_of_ownsS {w : World} {base : Nat} {e : TypeId} {v : Value} {n : Nat} {L : List Kv} {S : Nat → Bool} (hS : ∀ k, S k = true → k < base) (h : w.ownsRow base e 2 v n (flat L)) : ∃ a cap, v = .slice a n cap ∧ n ≤ cap ∧ cap ≤ 9223372036854775807 ∧ Kvm (offS w.cell? S) a L := by
  obtain ⟨a, cap, hv, h1, h2, hf⟩ := owns_cells h
  refine ⟨a, cap, hv, h1, h2, ?_⟩
  rcases hf with ⟨_, _, hx, _⟩ | ⟨g, ha, hb, _, hc, _⟩
  · left
    cases L with
    | nil => rfl
    | cons r l => simp [flat] at hx
  · have hg : S g = false := by
      cases hs : S g with
      | false => rfl
      | true => have := hS g hs; omega
    refine .inr ⟨g, 0, ha, fun k r hk => ?_⟩
    obtain ⟨h1, h2⟩ := flat_get L k r hk
    rw [Nat.zero_add, offS_ne hg, offS_ne hg]
    exact ⟨hc _ _ h1, hc _ _ h2⟩
theorem ksH_of_ownsS {w : World} {base : Nat} {e : TypeId} {v : Value} {n : Nat} {L : Khs} {S : Nat → Bool} (hS : ∀ k, S k = true → k < base) (h : w.ownsRow base e 9 v n (kfl L)) (hN : ∀ e ∈ L, NdV (offS w.cell? S) e.2.1 e.2.2) : ∃ a cap, v = .slice a n cap ∧ n ≤ cap ∧ cap ≤ 9223372036854775807 ∧ KsH (offS w.cell? S) a L ∧ FreshK base w a (bare L) := by
  obtain ⟨a, cap, hv, h1, h2, hf⟩ := owns_cells h
  refine ⟨a, cap, hv, h1, h2, ?_⟩
  rcases hf with ⟨_, _, hx, _⟩ | ⟨g, ha, hb, hl, hc, hfr⟩
  · have : L = [] := by
      cases L with
      | nil => rfl
      | cons r l => obtain ⟨n, x, h⟩ := r; simp [kfl] at hx
    subst this
    exact ⟨⟨.inl rfl, hN⟩, .inl rfl⟩
  · have hg : S g = false := by
      cases hs : S g with
      | false => rfl
      | true => have := hS g hs; omega
    exact ⟨⟨.inr ⟨g, 0, ha, fun j u hj => by rw [Nat.zero_add, offS_ne hg]; exact hc j u hj⟩, hN⟩, .inr ⟨g, ha, hb, hl, hfr⟩⟩
theorem src_of_kvm {w : World} {a : Option Addr} {l : List Kv} (h : Kvm w.cell? a l) : (a = none ∧ l.length = 0) ∨ ∃ ad, a = some ad ∧ ∀ j u, (flat l)[j]? = some u → w.cell? (ad.add j) = some u := by
  rcases h with rfl | ⟨b, off, rfl, hc⟩
  · cases a with
    | none => exact .inl ⟨rfl, rfl⟩
    | some ad => exact .inr ⟨ad, rfl, fun j u hu => by simp [flat] at hu⟩
  · refine .inr ⟨_, rfl, fun j u hj => ?_⟩
    have hjl : j < l.length * 2 := by have := (List.getElem?_eq_some_iff.1 hj).1; rwa [flat_length] at this
    obtain ⟨r, hr⟩ : ∃ r, l[j / 2]? = some r := ⟨l[j / 2]'(by omega), List.getElem?_eq_getElem _⟩
    obtain ⟨h1, h2⟩ := hc _ r hr
    obtain ⟨f1, f2⟩ := flat_get l _ r hr
    rw [addr_add]
    have hm : j = j / 2 * 2 ∨ j = j / 2 * 2 + 1 := by omega
    rcases hm with hm | hm
    · rw [hm] at hj ⊢; rw [f1] at hj; cases hj; exact h1
    · rw [hm] at hj ⊢; rw [f2] at hj; cases hj; rw [← Nat.add_assoc]; exact h2
theorem src_of_ksH {w : World} {a : Option Addr} {L : Khs} (h : KsH w.cell? a L) : (a = none ∧ L.length = 0) ∨ ∃ ad, a = some ad ∧ ∀ j u, (kfl L)[j]? = some u → w.cell? (ad.add j) = some u := by
  rcases h.1 with rfl | ⟨b, off, rfl, hc⟩
  · cases a with
    | none => exact .inl ⟨rfl, rfl⟩
    | some ad => exact .inr ⟨ad, rfl, fun j u hu => by simp [kfl] at hu⟩
  · exact .inr ⟨_, rfl, fun j u hj => by rw [addr_add]; exact hc j u hj⟩

/-- A node stored. -/
def st8 (w : World) (b p : Nat) : Nd → Hd → World
  | .mk k m u g o at_ d ks, h => (((((((w.setCell ⟨b, p, none⟩ (.int .i64 k)).setCell ⟨b, p + 1, none⟩ (.int .i64 m)).setCell ⟨b, p + 2, none⟩ (.int .i64 u)).setCell ⟨b, p + 3, none⟩ (.int .i64 g)).setCell ⟨b, p + 4, none⟩ (.bool o)).setCell ⟨b, p + 5, none⟩ (.slice h.aa at_.length h.ca)).setCell ⟨b, p + 6, none⟩ (.string d)).setCell ⟨b, p + 7, none⟩ (.slice h.ak ks.length h.ck)
theorem st8_far {w : World} {b p : Nat} {x : Nd} {h : Hd} {q : Addr} (hq : ∀ j, j < 8 → q ≠ ⟨b, p + j, none⟩) : (st8 w b p x h).cell? q = w.cell? q := by
  obtain ⟨k, m, u, g, o, at_, d, ks⟩ := x
  unfold st8
  rw [World.cell?_setCell_other _ _ _ _ (hq 7 (by omega)).symm, World.cell?_setCell_other _ _ _ _ (hq 6 (by omega)).symm, World.cell?_setCell_other _ _ _ _ (hq 5 (by omega)).symm, World.cell?_setCell_other _ _ _ _ (hq 4 (by omega)).symm, World.cell?_setCell_other _ _ _ _ (hq 3 (by omega)).symm, World.cell?_setCell_other _ _ _ _ (hq 2 (by omega)).symm, World.cell?_setCell_other _ _ _ _ (hq 1 (by omega)).symm, World.cell?_setCell_other _ _ _ _ (show (⟨b, p, none⟩ : Addr) ≠ q from (hq 0 (by omega)).symm)]
theorem st8_at {w : World} {b p : Nat} {x y : Nd} {h h' : Hd} (hy : NAt w.cell? b p y h') : NAt (st8 w b p x h).cell? b p x h := by
  obtain ⟨k, m, u, g, o, at_, d, ks⟩ := x
  obtain ⟨k', m', u', g', o', at', d', ks'⟩ := y
  obtain ⟨h0, h1, h2, h3, h4, h5, h6, h7⟩ := hy
  unfold st8
  refine ⟨?_, ?_, ?_, ?_, ?_, ?_, ?_, ?_⟩ <;> simp [World.cell?_setCell_other, World.cell?_setCell_same', h0, h1, h2, h3, h4, h5, h6, h7]
theorem st8_frozen {w : World} {b p : Nat} {x : Nd} {h : Hd} (q : Addr) : (st8 w b p x h).frozen? q = w.frozen? q := by
  obtain ⟨k, m, u, g, o, at_, d, ks⟩ := x
  unfold st8
  simp
theorem st8_but {w : World} {b p : Nat} {x : Nd} {h : Hd} : But b w (st8 w b p x h) := by
  obtain ⟨k, m, u, g, o, at_, d, ks⟩ := x
  unfold st8
  exact ((((((((But.refl b w).setCell _ _ _).setCell _ _ _).setCell _ _ _).setCell _ _ _).setCell _ _ _).setCell _ _ _).setCell _ _ _).setCell _ _ _
/-- Of the same node: all but its two lists are as they were. -/
theorem st8_same {w : World} {b p : Nat} {x : Nd} {h h' : Hd} (hy : NAt w.cell? b p x h) (q : Addr) (h5 : q ≠ ⟨b, p + 5, none⟩) (h7 : q ≠ ⟨b, p + 7, none⟩) : (st8 w b p x h').cell? q = w.cell? q := by
  by_cases hq : ∃ j, j < 8 ∧ q = ⟨b, p + j, none⟩
  · obtain ⟨j, hj, rfl⟩ := hq
    have hn := st8_at (x := x) (h := h') hy
    obtain ⟨k, m, u, g, o, at_, d, ks⟩ := x
    obtain ⟨a0, a1, a2, a3, a4, a5, a6, a7⟩ := hy
    obtain ⟨e0, e1, e2, e3, e4, e5, e6, e7⟩ := hn
    match j, hj with
    | 0, _ => exact e0.trans a0.symm
    | 1, _ => exact e1.trans a1.symm
    | 2, _ => exact e2.trans a2.symm
    | 3, _ => exact e3.trans a3.symm
    | 4, _ => exact e4.trans a4.symm
    | 5, _ => exact absurd rfl h5
    | 6, _ => exact e6.trans a6.symm
    | 7, _ => exact absurd rfl h7
    | j + 8, hj => omega
  · exact st8_far fun j hj e => hq ⟨j, hj, e⟩
end Go.Proofs.Ytkkhfnkmfkdhiab
