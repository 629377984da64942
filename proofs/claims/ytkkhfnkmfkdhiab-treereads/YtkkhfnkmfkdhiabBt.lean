/-
  A WORLD THAT IS AS IT WAS, BUT ONE BLOCK; a box of two numbers.
-/
import Derived.Test.YtkkhfnkmfkdhiabNb
import Derived.WalkKit
import Derived.WalkLawsBesides
import Derived.Deep.QuietTactic
import Derived.BigQuiet
namespace Go.Proofs.Ytkkhfnkmfkdhiab
open Go.RowKit

/-- All blocks that were there are as they were, but one. -/
structure But (b : Nat) (w w' : World) : Prop where
  os : w'.os = w.os
  tape : w'.tape = w.tape
  output : w'.output = w.output
  size : w.heap.size ≤ w'.heap.size
  block : ∀ k, k < w.heap.size → k ≠ b → w'.heap[k]? = w.heap[k]?
theorem But.refl (b : Nat) (w : World) : But b w w := ⟨rfl, rfl, rfl, Nat.le_refl _, fun _ _ _ => rfl⟩
theorem But.trans {b : Nat} {u v w : World} (h : But b u v) (k : But b v w) : But b u w :=
  ⟨k.os.trans h.os, k.tape.trans h.tape, k.output.trans h.output, Nat.le_trans h.size k.size, fun i hi hb => (k.block i (Nat.lt_of_lt_of_le hi h.size) hb).trans (h.block i hi hb)⟩
theorem But.of_below {b : Nat} {w w' : World} (h : Below w.heap.size w w') : But b w w' := ⟨h.os, h.tape, h.output, h.size, fun k hk _ => h.block k hk⟩
theorem But.then {b : Nat} {u w w' : World} (h : But b u w) (k : Below w.heap.size w w') : But b u w' := h.trans (.of_below k)
theorem But.below {b : Nat} {w w' : World} (h : But b w w') {B : Nat} (hB : B ≤ b) (hs : B ≤ w.heap.size) : Below B w w' := ⟨h.os, h.tape, h.output, h.size, fun k hk => h.block k (by omega) (by omega)⟩
theorem But.cell {b : Nat} {w w' : World} (h : But b w w') {p : Addr} (hp : p.block < w.heap.size) (hb : p.block ≠ b) : w'.cell? p = w.cell? p := World.cell?_of_block (w := w) (h.block p.block hp hb)
theorem But.frozen {b : Nat} {w w' : World} (h : But b w w') {p : Addr} (hp : p.block < w.heap.size) (hb : p.block ≠ b) : w'.frozen? p = w.frozen? p := World.frozen?_of_block (w := w) (h.block p.block hp hb)
theorem But.alloc {b : Nat} {u w : World} (h : But b u w) (o : Obj) : But b u (w.alloc o) := h.then ((Below.refl _ w).alloc (Nat.le_refl _) o)
theorem But.setCell {b : Nat} {u w : World} (h : But b u w) (o : Nat) (s : Option Nat) (v : Value) : But b u (w.setCell ⟨b, o, s⟩ v) :=
  h.trans ⟨rfl, rfl, rfl, by simp, fun k _ hb => Below.heap_setCell _ _ _ _ hb⟩
theorem But.drewN {b : Nat} {u w : World} (h : But b u w) (n : Nat) : But b u (w.drewN n) := h.then (below_drewN (Below.refl _ w) n)
/-- What was said but of one block is said still. -/
theorem But.mle {b : Nat} {w w' : World} (h : But b w w') : MLe (offB w.cell? b) (offB w'.cell? b) := by
  intro q v hq
  by_cases hb : q.block = b
  · unfold offB at hq; rw [if_pos hb] at hq; cases hq
  · rw [offB_ne hb] at hq ⊢
    exact (h.cell (World.block_lt_of_cell? _ _ hq) hb).trans hq
/-- What lies below a block is said without it. -/
theorem mle_off {w w' : World} {b : Nat} (hb : Below w.heap.size w w') (hs : w.heap.size ≤ b) : MLe w.cell? (offB w'.cell? b) := by
  intro q v hq
  have hlt : q.block < w.heap.size := World.block_lt_of_cell? _ _ hq
  rw [offB_ne (by omega)]
  exact (hb.cell hlt).trans hq

/-- A box of two cells, which may be written. -/
def TBox (w : World) (b : Nat) (u v : Value) : Prop := w.cell? ⟨b, 0, none⟩ = some u ∧ w.cell? ⟨b, 1, none⟩ = some v ∧ w.frozen? ⟨b, 0, none⟩ = false ∧ w.frozen? ⟨b, 1, none⟩ = false
theorem TBox.lt {w : World} {b : Nat} {u v : Value} (h : TBox w b u v) : b < w.heap.size := World.block_lt_of_cell? _ _ h.1
theorem TBox.below {w w' : World} {b : Nat} {u v : Value} (h : TBox w b u v) (hb : Below w.heap.size w w') : TBox w' b u v := by
  have hl := h.lt
  obtain ⟨h0, h1, h2, h3⟩ := h
  exact ⟨(hb.cell (p := ⟨b, 0, none⟩) hl).trans h0, (hb.cell (p := ⟨b, 1, none⟩) hl).trans h1, (hb.frozen (p := ⟨b, 0, none⟩) hl).trans h2, (hb.frozen (p := ⟨b, 1, none⟩) hl).trans h3⟩
theorem TBox.set0 {w : World} {b : Nat} {u v : Value} (h : TBox w b u v) (u' : Value) : TBox (w.setCell ⟨b, 0, none⟩ u') b u' v := by
  obtain ⟨h0, h1, h2, h3⟩ := h
  exact ⟨World.cell?_setCell_same _ _ _ h0, (World.cell?_setCell_other _ _ _ _ (by simp)).trans h1, by simpa using h2, by simpa using h3⟩
theorem TBox.set1 {w : World} {b : Nat} {u v : Value} (h : TBox w b u v) (v' : Value) : TBox (w.setCell ⟨b, 1, none⟩ v') b u v' := by
  obtain ⟨h0, h1, h2, h3⟩ := h
  exact ⟨(World.cell?_setCell_other _ _ _ _ (by simp)).trans h0, World.cell?_setCell_same _ _ _ h1, by simpa using h2, by simpa using h3⟩
theorem TBox.new (w : World) (u v : Value) (t : TypeId) : TBox (w.alloc (.cells #[u, v] t)) w.heap.size u v :=
  ⟨World.cell?_alloc_at _ _ _ _ rfl, World.cell?_alloc_at _ _ _ _ rfl, World.frozen?_alloc_new _ _ _ _, World.frozen?_alloc_new _ _ _ _⟩
end Go.Proofs.Ytkkhfnkmfkdhiab
