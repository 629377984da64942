/-
  TopMerge: the walk.
-/
import Derived.Test.YtgmeecfdkcbggaaGdX
import Derived.Test.YtgmeecfdkcbggaaGeX
import Derived.Deep.RegionHeld3
import Derived.Deep.Cut
namespace Go.Proofs.Ytgmeecfdkcbggaa
open Go.RowKit
theorem lights_ok {xs : List Nd} (h : lightsB xs = true) : LaysOk xs ∧ xs.length ≤ 5 := by
  unfold lightsB at h
  rw [Bool.and_eq_true] at h
  have h5 : xs.length ≤ 5 := of_decide_eq_true h.1
  have ha : ∀ x ∈ xs, Lil x ∧ cnt x ≤ 80 := fun x hx => by
    have e2 := of_decide_eq_true (List.all_eq_true.1 h.2 x hx)
    have e3 := light_lil x 80 e2
    exact ⟨e3.1, by have := e3.2; omega⟩
  refine ⟨⟨fun x hx => (ha x hx).1, ?_⟩, h5⟩
  have ht : ∀ l : Fls, (∀ q ∈ l, cnt q.1 ≤ 80) → tot l ≤ 80 * l.length := fun l => by
    induction l with
    | nil => intro _; exact Nat.le_refl _
    | cons q r ih =>
      intro hq
      have h1 := ih fun p hp => hq p (List.mem_cons_of_mem _ hp)
      have h2 := hq q (List.mem_cons_self ..)
      rw [tot, List.length_cons]
      omega
  have := ht (layP xs) fun q hq => (ha q.1 (layP_mem hq)).2
  rw [layP_len] at this
  omega
end Go.Proofs.Ytgmeecfdkcbggaa
