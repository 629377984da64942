/-
  WHAT THE OTHER SIDE SAYS OF MAPS: the walks of span, common, outside, inside.
-/
import Derived.Test.YtoadlnojcbkdgaaIc
import Derived.Deep.QuietTactic
import Derived.BigQuiet
namespace Go.Proofs.Ytoadlnojcbkdgaa
open Go.RowKit

set_option maxHeartbeats 400000 in
theorem span_yes (f n : Int) (h : bndB f n = true) (w : World) : Calls Try.prog 35 #[.int .i64 f, .int .i64 n] w fun e w' => e = .returned (.tuple #[.int .i64 f, .int .i64 (f + n - 1), .bool true]) ∧ w' = w := by
  have h' : 0 ≤ f ∧ 1 ≤ n ∧ n - 1 ≤ 65535 - f := by simpa [bndB] using h
  obtain ⟨h1, h2, h3⟩ := h'
  have d1 : decide (f < 0) = false := by simp; omega
  have d2 : decide (65535 < f) = false := by simp; omega
  have d3 : decide (n < 1) = false := by simp; omega
  have d4 : decide (65536 < n) = false := by simp; omega
  have d5 : decide (65535 < f + n - 1) = false := by simp; omega
  go_enter Try.func35, Try.ntmps35
  go_wp2
  go_ret3
  exact ⟨rfl, rfl⟩

set_option maxHeartbeats 400000 in
theorem span_no (f n : Int) (hf : I64 f) (hn : I64 n) (h : bndB f n = false) (w : World) : Calls Try.prog 35 #[.int .i64 f, .int .i64 n] w fun e w' => e = .returned (.tuple #[.int .i64 0, .int .i64 0, .bool false]) ∧ w' = w := by
  obtain ⟨f1, f2⟩ := hf
  obtain ⟨n1, n2⟩ := hn
  have h' : ¬ (0 ≤ f ∧ 1 ≤ n ∧ n - 1 ≤ 65535 - f) := by simpa [bndB] using h
  clear h
  by_cases c1 : f < 0
  · clear h'
    go_enter Try.func35, Try.ntmps35
    go_wp2
    go_ret3
    exact ⟨rfl, rfl⟩
  have d1 : decide (f < 0) = false := by simpa using c1
  by_cases c2 : 65535 < f
  · clear h'
    go_enter Try.func35, Try.ntmps35
    go_wp2
    go_ret3
    exact ⟨rfl, rfl⟩
  have d2 : decide (65535 < f) = false := by simpa using c2
  by_cases c3 : n < 1
  · clear h'
    go_enter Try.func35, Try.ntmps35
    go_wp2
    go_ret3
    exact ⟨rfl, rfl⟩
  have d3 : decide (n < 1) = false := by simpa using c3
  by_cases c4 : 65536 < n
  · clear h'
    go_enter Try.func35, Try.ntmps35
    go_wp2
    go_ret3
    exact ⟨rfl, rfl⟩
  have d4 : decide (65536 < n) = false := by simpa using c4
  have c5 : 65535 < f + n - 1 := by omega
  clear h'
  go_enter Try.func35, Try.ntmps35
  go_wp2
  go_ret3
  exact ⟨rfl, rfl⟩

set_option maxHeartbeats 400000 in
theorem common_any (a n b m : Int) (h1 : 0 ≤ a) (h2 : a ≤ 65535) (h3 : 1 ≤ n) (h4 : n ≤ 65536) (h5 : 0 ≤ b) (h6 : b ≤ 65535) (h7 : 1 ≤ m) (h8 : m ≤ 65536) (v : Bool) (hv : meetB b m a n = v) (w : World) :
    Calls Try.prog 36 #[.int .i64 a, .int .i64 n, .int .i64 b, .int .i64 m] w fun e w' => e = .returned (.bool v) ∧ w' = w := by
  have HV : Hid (meetB b m a n = v) := hv
  clear hv
  by_cases g1 : a + n - 1 < b
  · have HB : Hid (meetB b m a n = false) := by show _ = _; simp [meetB]; omega
    go_enter Try.func36, Try.ntmps36
    go_wp2
    go_ret
    exact ⟨ret_bool (HB.out.symm.trans HV.out), rfl⟩
  · have d1 : decide (a + n - 1 < b) = false := by simpa using g1
    have HB : Hid (meetB b m a n = !decide (b + m - 1 < a)) := by
      show _ = _
      rw [Bool.eq_iff_iff]; simp [meetB]; omega
    go_enter Try.func36, Try.ntmps36
    go_wp2
    go_ret
    exact ⟨ret_bool (HB.out.symm.trans HV.out), rfl⟩
end Go.Proofs.Ytoadlnojcbkdgaa
