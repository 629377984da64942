/-
  A SLICE OF RANGES THAT CAME IN, as the walks want it.
-/
import Derived.Test.YtoadlnojcbkdgaaIi
import Derived.ProofKit
import Derived.OpenShut
import Derived.ShutString
import Derived.ChangeOld
import Derived.Below
import Derived.Deep.Slices
import Derived.Deep.Strs
namespace Go.Proofs.Ytoadlnojcbkdgaa
open Go.ChangeShapes Go.WideShapes Go.ChangeAt Go.RowKit Go.Deep

namespace RowsIn
theorem cells53 : Try.prog.cellsOf 53 = 3 := by kernel_rfl
theorem cells3 : Try.prog.cellsOf 3 = 1 := by kernel_rfl
theorem i64_of_wf {x : Int} (h : (Lit.int .i64 x).wf = true) : I64 x := by
  simp [Lit.wf, IntKind.min, IntKind.max, IntKind.signed, IntKind.bits] at h
  exact ⟨by omega, by omega⟩
theorem three_of {α : Type} {l : List α} (h : l.length = 3) : ∃ a b c, l = [a, b, c] := by
  match l, h with
  | [a, b, c], _ => exact ⟨a, b, c, rfl⟩

theorem rgs_of_trod {H : Type} {enc : TypeId × Value → H} {W : World} {m : Nat} {v : Value} {y : DataW H × List MemPlace} (h : DataW.trod enc Try.prog W 0 (fun _ => true) true m 22 [v] = some y) :
    ∃ a n cap rs, v = .slice a n cap ∧ n ≤ cap ∧ rs.length = n ∧ Rgs W a rs ∧ ∀ r ∈ rs, r.ok := by
  rcases open_slice Try.underlying22 h with ⟨hcs, _⟩ | ⟨x, len, cap, mm, n, D, Pl, hcs, _, hl, _, hmm, _, hx⟩
  · obtain rfl : v = .slice none 0 0 := by simpa using hcs
    exact ⟨none, 0, 0, [], rfl, Nat.le_refl _, rfl, .inl rfl, by simp⟩
  · obtain rfl : v = .slice (some x) len cap := by simpa using hcs
    have hlm : len ≤ mm := by rw [hmm]; simp; exact hl
    have each : ∀ i, i < len → ∃ r : Rg, (W.cell? (x.add (i * 3)) = some (.int .i64 r.i) ∧ W.cell? ((x.add (i * 3)).add 1) = some (.int .i64 r.o) ∧ W.cell? ((x.add (i * 3)).add 2) = some (.int .i64 r.n)) ∧ r.ok := by
      intro i hi
      obtain ⟨cs', h1, h2⟩ := hx i (by omega)
      rw [cells53] at h1
      obtain ⟨_, hlen, hcell⟩ := World.cells?_some h1
      obtain ⟨c0, c1, c2, rfl⟩ := three_of hlen
      obtain ⟨y0, y1, y2, k, _, _, t0, t1, t2⟩ := trod_struct3 Try.underlying53 h2
      rw [cells3] at t0 t1 t2
      obtain ⟨u0, e0, _, w0⟩ := DataW.trod_int Try.underlying3 t0
      obtain ⟨u1, e1, _, w1⟩ := DataW.trod_int Try.underlying3 t1
      obtain ⟨u2, e2, _, w2⟩ := DataW.trod_int Try.underlying3 t2
      simp at e0 e1 e2
      subst e0 e1 e2
      have g0 := hcell 0 (by omega)
      have g1 := hcell 1 (by omega)
      have g2 := hcell 2 (by omega)
      exact ⟨⟨u0, u1, u2⟩, ⟨by simpa [Addr.add] using g0, by simpa using g1, by simpa using g2⟩, i64_of_wf w0, i64_of_wf w1, i64_of_wf w2⟩
    obtain ⟨f, hf⟩ : ∃ f : Nat → Rg, ∀ i, i < len → (W.cell? (x.add (i * 3)) = some (.int .i64 (f i).i) ∧ W.cell? ((x.add (i * 3)).add 1) = some (.int .i64 (f i).o) ∧ W.cell? ((x.add (i * 3)).add 2) = some (.int .i64 (f i).n)) ∧ (f i).ok := by
      refine ⟨fun i => if h : i < len then Classical.choose (each i h) else ⟨0, 0, 0⟩, fun i hi => ?_⟩
      simp only [hi, dite_true]
      exact Classical.choose_spec (each i hi)
    refine ⟨some x, len, cap, (List.range len).map f, rfl, hl, by simp, ?_, ?_⟩
    · by_cases h0 : len = 0
      · subst h0; exact .inl rfl
      · obtain ⟨b, off, spot⟩ := x
        have hspot : spot = none := by
          have := World.cell?_spot (hf 0 (by omega)).1.1
          simpa [Addr.add] using this
        subst hspot
        refine .inr ⟨b, off, rfl, fun k r hk => ?_⟩
        have hkl : k < len := by have := (List.getElem?_eq_some_iff.1 hk).1; simpa using this
        have er : r = f k := by simp [hkl] at hk; exact hk.symm
        subst er
        obtain ⟨⟨g0, g1, g2⟩, _⟩ := hf k hkl
        have e : (⟨b, off, none⟩ : Addr).add (k * 3) = ⟨b, off + k * 3, none⟩ := by by_cases hj0 : k * 3 = 0 <;> simp [Addr.add, hj0]
        rw [e] at g0 g1 g2
        exact ⟨g0, by simpa [Addr.add] using g1, by simpa [Addr.add] using g2⟩
    · intro r hr
      obtain ⟨i, hi, rfl⟩ := List.mem_map.1 hr
      exact (hf i (by simpa using hi)).2
end RowsIn
end Go.Proofs.Ytoadlnojcbkdgaa
