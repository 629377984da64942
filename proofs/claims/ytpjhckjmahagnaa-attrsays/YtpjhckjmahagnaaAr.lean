/-
  A SLICE OF ATTRIBUTES THAT CAME IN, as the walks want it.
-/
import Derived.Test.YtpjhckjmahagnaaAf
import Derived.ProofKit
import Derived.OpenShut
import Derived.ShutString
import Derived.ChangeOld
import Derived.Below
import Derived.Deep.Slices
import Derived.Deep.Strs
namespace Go.Proofs.Ytpjhckjmahagnaa
open Go.ChangeShapes Go.WideShapes Go.ChangeAt Go.RowKit Go.Deep

namespace RowsIn
theorem own : ownKnob Try.prog.godebug = none := by kernel_rfl
theorem laidOut : laidOutB Try.prog = true := by kernel_rfl
theorem cells65 : Try.prog.cellsOf 65 = 2 := by kernel_rfl
theorem cells9 : Try.prog.cellsOf 9 = 1 := by kernel_rfl
theorem two_of {α : Type} {l : List α} (h : l.length = 2) : ∃ a b, l = [a, b] := by
  match l, h with
  | [a, b], _ => exact ⟨a, b, rfl⟩

theorem kvm_of_trod {H : Type} {enc : TypeId × Value → H} {W : World} {m : Nat} {v : Value} {y : DataW H × List MemPlace} (h : DataW.trod enc Try.prog W 0 (fun _ => true) true m 62 [v] = some y) :
    ∃ a n cap l, v = .slice a n cap ∧ l.length = n ∧ Kvm W a l := by
  rcases open_slice Try.underlying62 h with ⟨hcs, _⟩ | ⟨x, len, cap, mm, n, D, Pl, hcs, _, hl, _, hmm, _, hx⟩
  · obtain rfl : v = .slice none 0 0 := by simpa using hcs
    exact ⟨none, 0, 0, [], rfl, rfl, .inl rfl⟩
  · obtain rfl : v = .slice (some x) len cap := by simpa using hcs
    have hlm : len ≤ mm := by rw [hmm]; simp; exact hl
    have each : ∀ i, i < len → ∃ r : Kv, W.cell? (x.add (i * 2)) = some (.string r.n) ∧ W.cell? ((x.add (i * 2)).add 1) = some (.string r.v) := by
      intro i hi
      obtain ⟨cs', h1, h2⟩ := hx i (by omega)
      rw [cells65] at h1
      obtain ⟨_, hlen, hcell⟩ := World.cells?_some h1
      obtain ⟨c0, c1, rfl⟩ := two_of hlen
      obtain ⟨y0, y1, k, _, _, t0, t1⟩ := trod_struct2 Try.underlying65 h2
      rw [cells9] at t0 t1
      obtain ⟨u0, e0, _, w0⟩ := DataW.trod_string Try.underlying9 t0
      obtain ⟨u1, e1, _, w1⟩ := DataW.trod_string Try.underlying9 t1
      simp at e0 e1
      subst e0 e1
      have g0 := hcell 0 (by omega)
      have g1 := hcell 1 (by omega)
      exact ⟨⟨u0, u1⟩, by simpa [Addr.add] using g0, by simpa using g1⟩
    obtain ⟨f, hf⟩ : ∃ f : Nat → Kv, ∀ i, i < len → W.cell? (x.add (i * 2)) = some (.string (f i).n) ∧ W.cell? ((x.add (i * 2)).add 1) = some (.string (f i).v) := by
      refine ⟨fun i => if h : i < len then Classical.choose (each i h) else ⟨ByteArray.empty, ByteArray.empty⟩, fun i hi => ?_⟩
      simp only [hi, dite_true]
      exact Classical.choose_spec (each i hi)
    refine ⟨some x, len, cap, (List.range len).map f, rfl, by simp, ?_⟩
    by_cases h0 : len = 0
    · subst h0; exact .inl rfl
    · obtain ⟨b, off, spot⟩ := x
      have hspot : spot = none := by
        have := World.cell?_spot (hf 0 (by omega)).1
        simpa [Addr.add] using this
      subst hspot
      refine .inr ⟨b, off, rfl, fun k r hk => ?_⟩
      have hkl : k < len := by have := (List.getElem?_eq_some_iff.1 hk).1; simpa using this
      have er : r = f k := by simp [hkl] at hk; exact hk.symm
      subst er
      obtain ⟨g0, g1⟩ := hf k hkl
      have e : (⟨b, off, none⟩ : Addr).add (k * 2) = ⟨b, off + k * 2, none⟩ := by by_cases hj0 : k * 2 = 0 <;> simp [Addr.add, hj0]
      rw [e] at g0 g1
      exact ⟨g0, by simpa [Addr.add] using g1⟩
end RowsIn
end Go.Proofs.Ytpjhckjmahagnaa
