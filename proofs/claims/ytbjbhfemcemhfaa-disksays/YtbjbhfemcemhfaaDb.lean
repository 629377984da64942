/-
  THE PROGRAM's DISK: check, spend, Read, Write, Cut, On, Power, Written, Blocks, Bytes: the walks.
-/
import Derived.Test.YtbjbhfemcemhfaaDa
namespace Go.Proofs.Ytbjbhfemcemhfaa
open Go.RowKit

theorem assertD (W : World) (n : Int) : (Instr.typeAssert (.iface 47 (.int .i64 n)) 26 47 true).run Try.prog W = .ok (.tuple #[.int .i64 n, .bool true]) W := by kernel_rfl
set_option maxHeartbeats 400000 in
theorem ksame_nil (w : World) : Calls Try.prog 6 #[.nilIface, .int .i64 0] w fun e w' => e = .returned (.bool true) ∧ w = w' := by
  go_enter Try.func6, Try.ntmps6
  go_wp2
  go_ret
  exact ⟨rfl, rfl⟩
set_option maxHeartbeats 400000 in
theorem ksame_err (n : Int) (hn : 0 < n) (w : World) : Calls Try.prog 6 #[.iface 47 (.int .i64 n), .int .i64 n] w fun e w' => e = .returned (.bool true) ∧ w = w' := by
  have ha := assertD
  go_enter Try.func6, Try.ntmps6
  go_wp2
  go_ret
  exact ⟨rfl, rfl⟩
theorem ksame_any (n : Int) (hn : 0 ≤ n) (w : World) : Calls Try.prog 6 #[kerrV n, .int .i64 n] w fun e w' => e = .returned (.bool true) ∧ w = w' := by
  by_cases h : n = 0
  · subst h; exact ksame_nil w
  · rw [kerrV_of h]; exact ksame_err n (by omega) w

set_option maxRecDepth 100000 in
set_option maxHeartbeats 1000000 in
theorem kcheck_any {W : World} {db rb cap : Nat} {c : Dk} (h : KB W db rb cap c) (p n : Int) (hp : p ≤ 9223372036854775807) (hs : c.s.size ≤ 100000000) :
    Calls Try.prog 19 #[.pointer (some ⟨db, 0, none⟩), .int .i64 p, .int .i64 n] W fun e w' => e = .returned (kerrV (ckF c.off c.s.size p n)) ∧ W = w' := by
  obtain ⟨y0, y1, y2, y3, z0, z1, z2, z3⟩ := h.cells
  clear h
  obtain ⟨s, cut, wr, off⟩ := c
  simp only at y0 y1 y2 y3 hs ⊢
  cases off
  rotate_left
  · rw [show ckF true s.size p n = 16 from if_pos rfl]
    go_enter Try.func19, Try.ntmps19
    go_wp2
    go_ret
    exact ⟨rfl, rfl⟩
  by_cases h1 : p < 0
  · rw [show ckF false s.size p n = 1 by unfold ckF; rw [if_neg (by decide), if_pos (.inl h1)]]
    have b1 : decide (p < 0) = true := decide_eq_true h1
    go_enter Try.func19, Try.ntmps19
    go_wp2
    go_ret
    exact ⟨rfl, rfl⟩
  have b1 : decide (p < 0) = false := decide_eq_false h1
  by_cases h2 : n < 0
  · rw [show ckF false s.size p n = 1 by unfold ckF; rw [if_neg (by decide), if_pos (.inr (.inl h2))]]
    have b2 : decide (n < 0) = true := decide_eq_true h2
    go_enter Try.func19, Try.ntmps19
    go_wp2
    go_ret
    exact ⟨rfl, rfl⟩
  have b2 : decide (n < 0) = false := decide_eq_false h2
  have h1' : 0 ≤ p := by omega
  by_cases h3 : (s.size : Int) - p < n
  · rw [show ckF false s.size p n = 1 by unfold ckF; rw [if_neg (by decide), if_pos (.inr (.inr h3))]]
    have b3 : decide ((s.size : Int) - p < n) = true := decide_eq_true h3
    go_enter Try.func19, Try.ntmps19
    go_wp2
    go_ret
    exact ⟨rfl, rfl⟩
  · rw [show ckF false s.size p n = 0 by unfold ckF; rw [if_neg (by decide), if_neg (by omega)]]
    have b3 : decide ((s.size : Int) - p < n) = false := decide_eq_false h3
    go_enter Try.func19, Try.ntmps19
    go_wp2
    go_ret
    exact ⟨rfl, rfl⟩

set_option maxRecDepth 100000 in
set_option maxHeartbeats 1000000 in
theorem kspend_any {W : World} {db rb cap : Nat} {c : Dk} (h : KB W db rb cap c) (n : Int) (hn : 0 ≤ n) (hn2 : n ≤ 1000000) (hc : c.cut ≤ 9223372036854775807) :
    Calls Try.prog 20 #[.pointer (some ⟨db, 0, none⟩), .int .i64 n] W fun e w' => e = .returned (.int .i64 (spN c.cut n)) ∧ Mv (fun b => b = db) W w' ∧ KB w' db rb cap ⟨c.s, spC c.cut n, c.wr, c.off⟩ := by
  have HK : Hid (KB W db rb cap c) := h
  obtain ⟨y0, y1, y2, y3, z0, z1, z2, z3⟩ := h.cells
  clear h
  obtain ⟨s, cut, wr, off⟩ := c
  simp only at y0 y1 y2 y3 hc ⊢
  by_cases h1 : cut < 0
  · rw [show spN cut n = n from if_pos h1, show spC cut n = cut from if_pos h1]
    have b1 : decide (cut < 0) = true := decide_eq_true h1
    go_enter Try.func20, Try.ntmps20
    go_wp2
    go_ret
    exact ⟨rfl, Mv.refl _ _, HK.out⟩
  · have b1 : decide (cut < 0) = false := decide_eq_false h1
    rw [show spN cut n = min n cut from if_neg h1, show spC cut n = cut - min n cut from if_neg h1]
    have hm0 : 0 ≤ min n cut := by omega
    have hm1 : min n cut ≤ cut := by omega
    go_enter Try.func20, Try.ntmps20
    go_wp2
    go_ret
    exact ⟨rfl, Mv.setCell (S := fun b => b = db) (Mv.refl _ _) rfl _, HK.out.set1 _⟩

set_option maxRecDepth 100000 in
set_option maxHeartbeats 1000000 in
theorem kcut_any {W : World} {db rb cap : Nat} {c : Dk} (h : KB W db rb cap c) (n : Int) :
    Calls Try.prog 11 #[.pointer (some ⟨db, 0, none⟩), .int .i64 n] W fun e w' => e = .returned (kerrV (ctF c.off n)) ∧ Mv (fun b => b = db) W w' ∧ KB w' db rb cap (ctD c n) := by
  have HK : Hid (KB W db rb cap c) := h
  obtain ⟨y0, y1, y2, y3, z0, z1, z2, z3⟩ := h.cells
  clear h
  obtain ⟨s, cut, wr, off⟩ := c
  simp only at y0 y1 y2 y3 ⊢
  unfold ctD
  cases off
  rotate_left
  · rw [show ctF true n = 16 from if_pos rfl, if_neg (by decide)]
    go_enter Try.func11, Try.ntmps11
    go_wp2
    go_ret
    exact ⟨rfl, Mv.refl _ _, HK.out⟩
  by_cases h1 : n < 0
  · rw [show ctF false n = 1 by unfold ctF; rw [if_neg (by decide), if_pos h1], if_neg (by decide)]
    have b1 : decide (n < 0) = true := decide_eq_true h1
    go_enter Try.func11, Try.ntmps11
    go_wp2
    go_ret
    exact ⟨rfl, Mv.refl _ _, HK.out⟩
  · rw [show ctF false n = 0 by unfold ctF; rw [if_neg (by decide), if_neg h1], if_pos rfl]
    have b1 : decide (n < 0) = false := decide_eq_false h1
    go_enter Try.func11, Try.ntmps11
    go_wp2
    go_ret
    exact ⟨rfl, Mv.setCell (S := fun b => b = db) (Mv.refl _ _) rfl _, HK.out.set1 _⟩

set_option maxRecDepth 100000 in
set_option maxHeartbeats 1000000 in
theorem kon_any {W : World} {db rb cap : Nat} {c : Dk} (h : KB W db rb cap c) :
    Calls Try.prog 13 #[.pointer (some ⟨db, 0, none⟩)] W fun e w' => e = .returned (.tuple #[]) ∧ Mv (fun b => b = db) W w' ∧ KB w' db rb cap (onD c) := by
  have HK : Hid (KB W db rb cap c) := h
  obtain ⟨y0, y1, y2, y3, z0, z1, z2, z3⟩ := h.cells
  clear h
  go_enter Try.func13, Try.ntmps13
  go_wp2
  go_end0
  exact ⟨rfl, Mv.setCell (S := fun b => b = db) (Mv.setCell (S := fun b => b = db) (Mv.refl _ _) rfl _) rfl _, (HK.out.set3 false).set1 (-1)⟩

set_option maxRecDepth 100000 in
set_option maxHeartbeats 1000000 in
theorem kpower_any {W : World} {db rb cap : Nat} {c : Dk} (h : KB W db rb cap c) :
    Calls Try.prog 16 #[.pointer (some ⟨db, 0, none⟩)] W fun e w' => e = .returned (.bool (!c.off)) ∧ W = w' := by
  obtain ⟨y0, y1, y2, y3, z0, z1, z2, z3⟩ := h.cells
  clear h
  go_enter Try.func16, Try.ntmps16
  go_wp2
  go_ret
  exact ⟨rfl, rfl⟩
set_option maxRecDepth 100000 in
set_option maxHeartbeats 1000000 in
theorem kwritten_any {W : World} {db rb cap : Nat} {c : Dk} (h : KB W db rb cap c) :
    Calls Try.prog 17 #[.pointer (some ⟨db, 0, none⟩)] W fun e w' => e = .returned (.int .i64 c.wr) ∧ W = w' := by
  obtain ⟨y0, y1, y2, y3, z0, z1, z2, z3⟩ := h.cells
  clear h
  go_enter Try.func17, Try.ntmps17
  go_wp2
  go_ret
  exact ⟨rfl, rfl⟩
set_option maxRecDepth 100000 in
set_option maxHeartbeats 1000000 in
theorem kblocks_any {W : World} {db rb cap : Nat} {c : Dk} (h : KB W db rb cap c) (k : Nat) (hk : c.s.size = 64 * k) :
    Calls Try.prog 18 #[.pointer (some ⟨db, 0, none⟩)] W fun e w' => e = .returned (.int .i64 k) ∧ W = w' := by
  obtain ⟨y0, y1, y2, y3, z0, z1, z2, z3⟩ := h.cells
  have hle := h.le
  have hhi := h.hi
  clear h
  unfold maxLen at hhi
  rw [hk] at y0 hle
  clear hk
  go_enter Try.func18, Try.ntmps18
  go_wp2
  go_ret
  exact ⟨by congr 2, rfl⟩
set_option maxRecDepth 100000 in
set_option maxHeartbeats 1000000 in
theorem kbytes_any {W : World} {db rb cap : Nat} {c : Dk} (h : KB W db rb cap c) :
    Calls Try.prog 15 #[.pointer (some ⟨db, 0, none⟩)] W fun e w' => e = .returned (.string c.s) ∧ W = w' := by
  have hcv := Lib.run_convert_whole (P := Try.prog) W 31 5 9 Try.underlying31 Try.underlying5 Try.underlying9 rb 0 c.s h.bytes cap
  obtain ⟨y0, y1, y2, y3, z0, z1, z2, z3⟩ := h.cells
  clear h
  go_enter Try.func15, Try.ntmps15
  go_wp2
  go_ret
  exact ⟨rfl, rfl⟩
end Go.Proofs.Ytbjbhfemcemhfaa
