/-
  WHAT few DOES: the walk.
-/
import Derived.Test.YtkkhfnkmfkdhiabWtY
namespace Go.Proofs.Ytkkhfnkmfkdhiab
open Go.RowKit

def fewB (l : List ByteArray) : Bool := decide (l.length ≤ 12) && l.all (fun s => decide (s.size ≤ 60))
theorem few_drop {l : List ByteArray} {j : Nat} {s : ByteArray} (h : l[j]? = some s) : (l.drop j).all (fun s => decide (s.size ≤ 60)) = (decide (s.size ≤ 60) && (l.drop (j + 1)).all (fun s => decide (s.size ≤ 60))) := by
  obtain ⟨q1, q2⟩ := List.getElem?_eq_some_iff.1 h
  rw [List.drop_eq_getElem_cons q1, q2, List.all_cons]
set_option maxRecDepth 100000 in
set_option maxHeartbeats 1000000 in
theorem few_any (a : Option Addr) (cl : Nat) (l : List ByteArray) (W : World) (hSt : Strs W.cell? a l) (hll : l.length ≤ 9223372036854775807) :
    Calls Try.prog 27 #[.slice a l.length cl] W fun e W' => e = .returned (.bool (fewB l)) ∧ W' = W := by
  obtain ⟨RR, HRR⟩ : ∃ RR, Hid (fewB l = RR) := ⟨_, rfl⟩
  rw [HRR.out]
  by_cases hl : l.length ≤ 12
  rotate_left
  · have d1 : decide ((12 : Int) < (l.length : Int)) = true := decide_eq_true (by omega)
    have d2 : decide (12 < l.length) = true := decide_eq_true (by omega)
    have HE : Hid (RR = false) := by show _ = _; rw [← HRR.out, fewB, decide_eq_false hl]; rfl
    clear hl hSt HRR
    go_enter Try.func27, Try.ntmps27
    go_wp2
    go_ret
    exact ⟨ret_bool HE.out.symm, rfl⟩
  have d1 : decide ((12 : Int) < (l.length : Int)) = false := decide_eq_false (by omega)
  have d2 : decide (12 < l.length) = false := decide_eq_false (by omega)
  have HN : Hid (RR = (l.drop 0).all (fun s => decide (s.size ≤ 60))) := by show _ = _; rw [← HRR.out, fewB, decide_eq_true hl]; rfl
  have HST : Hid (∀ i s, l[i]? = some s → ∃ b off, a = some ⟨b, off, none⟩ ∧ W.cell? ⟨b, off + i, none⟩ = some (.string s)) := by
    intro i s hi
    rcases hSt with e | ⟨b, off, e, hc⟩
    · rw [e] at hi; simp at hi
    · exact ⟨b, off, e, hc i s hi⟩
  clear hSt HRR
  go_enter Try.func27, Try.ntmps27
  go_wp2
  go_loop [3] (fun i => ∃ j : Nat, j ≤ l.length ∧ i = .int .i64 j ∧ Hid (RR = (l.drop j).all (fun s => decide (s.size ≤ 60)))) (fun i => l.length - (intOf i).toNat)
  case atStart => exact ⟨0, Nat.zero_le _, rfl, HN.out⟩
  case round =>
    obtain ⟨j, hj, rfl, HJ⟩ := hrel
    clear d1 d2
    by_cases hjl : j < l.length
    · have hji : (j : Int) < (l.length : Int) := by omega
      obtain ⟨s, hs⟩ : ∃ s, l[j]? = some s := ⟨l[j], List.getElem?_eq_getElem _⟩
      obtain ⟨b, off, rfl, c0⟩ := HST.out j s hs
      have HD : Hid (RR = (decide (s.size ≤ 60) && (l.drop (j + 1)).all (fun s => decide (s.size ≤ 60)))) := by show _ = _; rw [HJ.out, few_drop hs]
      clear hs
      by_cases h6 : s.size ≤ 60
      · have e1 : decide ((60 : Int) < (s.size : Int)) = false := decide_eq_false (by omega)
        have e2 : decide (60 < s.size) = false := decide_eq_false (by omega)
        have HR3 : Hid (RR = (l.drop (j + 1)).all (fun s => decide (s.size ≤ 60))) := by show _ = _; rw [HD.out, decide_eq_true h6, Bool.true_and]
        clear h6 HD
        go_wp2
        go_round
        case rel => exact ⟨j + 1, by omega, by go_num, HR3.out⟩
        case measure => simp [intOf]; omega
      · have e1 : decide ((60 : Int) < (s.size : Int)) = true := decide_eq_true (by omega)
        have e2 : decide (60 < s.size) = true := decide_eq_true (by omega)
        have HR3 : Hid (RR = false) := by show _ = _; rw [HD.out, decide_eq_false h6, Bool.false_and]
        clear h6 HD
        go_wp2
        go_ret
        exact ⟨ret_bool HR3.out.symm, rfl⟩
    · have hji : decide ((j : Int) < (l.length : Int)) = false := decide_eq_false (by omega)
      have HR3 : Hid (RR = true) := by show _ = _; rw [HJ.out, List.drop_of_length_le (by omega)]; rfl
      go_wp2
      go_ret
      exact ⟨ret_bool HR3.out.symm, rfl⟩
end Go.Proofs.Ytkkhfnkmfkdhiab
