/-
  WHAT path.Under DOES: the walk.
-/
import Derived.Test.YtehcjhdiekfaoabWt
import Derived.Test.YtehcjhdiekfaoabNe
namespace Go.Proofs.Ytehcjhdiekfaoab
open Go.RowKit

/-- Does one list begin another? -/
def undB : List ByteArray → List ByteArray → Bool
  | [], _ => true
  | _ :: _, [] => false
  | x :: a, y :: b => if y = x then undB a b else false
theorem und_iff : ∀ a b : List ByteArray, undB a b = true ↔ a <+: b
  | [], b => by simp [undB]
  | x :: a, [] => by simp [undB]
  | x :: a, y :: b => by
    rw [undB, List.cons_prefix_cons, ← und_iff a b]
    by_cases h : y = x
    · rw [if_pos h]; simp [h]
    · rw [if_neg h]; simp; exact fun e => absurd e.symm h
theorem und_long {a b : List ByteArray} (h : b.length < a.length) : undB a b = false := by
  cases hu : undB a b with
  | false => rfl
  | true => have := ((und_iff a b).1 hu).length_le; omega
theorem und_drop {a b : List ByteArray} {j : Nat} {x y : ByteArray} (hx : a[j]? = some x) (hy : b[j]? = some y) : undB (a.drop j) (b.drop j) = if y = x then undB (a.drop (j + 1)) (b.drop (j + 1)) else false := by
  obtain ⟨h1, e1⟩ := List.getElem?_eq_some_iff.1 hx
  obtain ⟨h2, e2⟩ := List.getElem?_eq_some_iff.1 hy
  rw [List.drop_eq_getElem_cons h1, List.drop_eq_getElem_cons h2, e1, e2, undB]

set_option maxRecDepth 100000 in
set_option maxHeartbeats 1000000 in
theorem under_any (a a' : Option Addr) (c c' : Nat) (l l' : List ByteArray) (w : World) (_hl : l.length ≤ 1000) (hl' : l'.length ≤ 1000) (h : Strs w.cell? a l) (h' : Strs w.cell? a' l') :
    Calls Try.prog 18 #[.slice a l.length c, .slice a' l'.length c'] w fun e w' => e = .returned (.bool (undB l l')) ∧ w = w' := by
  by_cases hlen : l'.length < l.length
  · have d : decide ((l'.length : Int) < (l.length : Int)) = true := decide_eq_true (by omega)
    have HR : Hid (undB l l' = false) := und_long hlen
    go_enter Try.func18, Try.ntmps18
    go_wp2
    go_ret
    exact ⟨ret_bool HR.out.symm, rfl⟩
  have d : decide ((l'.length : Int) < (l.length : Int)) = false := decide_eq_false (by omega)
  obtain ⟨R, HR⟩ : ∃ R, Hid (undB l l' = R) := ⟨_, rfl⟩
  rw [HR.out]
  have HS : Hid (Strs w.cell? a l) := h
  have HS' : Hid (Strs w.cell? a' l') := h'
  clear h h'
  go_enter Try.func18, Try.ntmps18
  go_wp2
  go_loop [14] (fun i => ∃ j : Nat, j ≤ l.length ∧ i = .int .i64 j ∧ Hid (R = undB (l.drop j) (l'.drop j))) (fun i => l.length - (intOf i).toNat)
  case atStart => exact ⟨0, Nat.zero_le _, rfl, HR.out.symm⟩
  case round =>
    obtain ⟨j, hj, rfl, HJ⟩ := hrel
    by_cases hjl : j < l.length
    rotate_left
    · have hji : decide ((j : Int) < (l.length : Int)) = false := decide_eq_false (by omega)
      have HE : Hid (R = true) := by show _ = _; rw [HJ.out, List.drop_of_length_le (by omega), undB]
      go_wp2
      go_ret
      exact ⟨ret_bool HE.out.symm, rfl⟩
    have hji : (j : Int) < (l.length : Int) := by omega
    have hji' : (j : Int) < (l'.length : Int) := by omega
    obtain ⟨x, hx⟩ : ∃ s, l[j]? = some s := ⟨l[j], List.getElem?_eq_getElem _⟩
    obtain ⟨y, hy⟩ : ∃ s, l'[j]? = some s := ⟨l'[j]'(by omega), List.getElem?_eq_getElem _⟩
    rcases HS.out with e | ⟨b, off, rfl, hc⟩
    · rw [e] at hjl; simp at hjl
    rcases HS'.out with e | ⟨b', off', rfl, hc'⟩
    · rw [e] at hy; simp at hy
    have q0 := hc j x hx
    have q1 := hc' j y hy
    have HD : Hid (R = if y = x then undB (l.drop (j + 1)) (l'.drop (j + 1)) else false) := HJ.out.trans (und_drop hx hy)
    clear hc hc' hx hy HJ
    by_cases hxy : y = x
    · have bn : (y.toList == x.toList) = true := by rw [hxy]; simp
      have HN : Hid (R = undB (l.drop (j + 1)) (l'.drop (j + 1))) := by show _ = _; rw [HD.out, if_pos hxy]
      clear hxy
      go_wp2
      go_round
      case rel => exact ⟨j + 1, by omega, by go_num, HN.out⟩
      case measure => simp [intOf]; omega
    · have bn : (y.toList == x.toList) = false := by simp; exact fun e => hxy (toList_inj e)
      have HN : Hid (R = false) := by show _ = _; rw [HD.out, if_neg hxy]
      clear hxy
      go_wp2
      go_ret
      exact ⟨ret_bool HN.out.symm, rfl⟩
end Go.Proofs.Ytehcjhdiekfaoab
