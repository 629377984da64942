/-
  WHAT SameNode DOES of two trees that are the same: the walk.
-/
import Derived.Test.YtkjknbjjchdjlaaGreatDoorWaY
import Derived.Deep.RegionHeld3
namespace Go.Proofs.YtkjknbjjchdjlaaGreatDoor
open Go.RowKit
mutual
/-- No list in it is longer than that. -/
def Lim : Nd → Prop
  | .mk _ _ _ _ _ at_ _ ks => at_.length ≤ 1000 ∧ ks.length ≤ 1000 ∧ LimL ks
def LimL : List (ByteArray × Nd) → Prop
  | [] => True
  | (_, x) :: l => Lim x ∧ LimL l
end
theorem limL_get : ∀ {ks : List (ByteArray × Nd)} {i : Nat} {n : ByteArray} {x : Nd}, LimL ks → ks[i]? = some (n, x) → Lim x
  | [], _, _, _, _, h => by simp at h
  | (m, y) :: l, 0, n, x, hl, h => by simp at h; rw [LimL] at hl; rw [← h.2]; exact hl.1
  | (m, y) :: l, i + 1, n, x, hl, h => by rw [LimL] at hl; exact limL_get hl.2 (by simpa using h)
mutual
theorem lim_of : ∀ (x : Nd), cnt x ≤ 1000 → Lil x → Lim x
  | .mk _ _ _ _ _ at_ d ks, hc, hl => by
    rw [cnt] at hc
    rw [Lil] at hl
    rw [Lim]
    have := hl.1.1
    have := cntL_len ks
    exact ⟨by omega, by omega, limL_of ks (by omega) hl.2.2⟩
theorem limL_of : ∀ (l : Kds), cntL l ≤ 1000 → LilL l → LimL l
  | [], _, _ => by rw [LimL]; trivial
  | (n, x) :: l, hc, hl => by
    rw [cntL] at hc
    rw [LilL] at hl
    rw [LimL]
    exact ⟨lim_of x (by omega) hl.2.1, limL_of l (by omega) hl.2.2⟩
end
end Go.Proofs.YtkjknbjjchdjlaaGreatDoor
