/-
  Names ANSWERS true: the walk.
-/
import Derived.Test.YtoadlnojcbkdgaaDoorWa
namespace Go.Proofs.YtoadlnojcbkdgaaDoor
open Go.RowKit

def nums : List Int := [65535, 65534, 4, 4, 12, 6, 200, 4, 20, 60, 3, 64, 64, 5, 5, 200, 2000, 60, 400, 15, 4095, 1, 2, 4, 8, 2048, 1024, 512, 1, 2, 4, 1, 2, 3, 1, 14]
def errs : Array Value := #[.iface 23 (.int .i64 1), .iface 23 (.int .i64 2), .iface 23 (.int .i64 3), .iface 23 (.int .i64 4), .iface 23 (.int .i64 5), .iface 23 (.int .i64 6), .iface 23 (.int .i64 7), .iface 23 (.int .i64 8), .iface 23 (.int .i64 9), .iface 23 (.int .i64 10), .iface 23 (.int .i64 11), .iface 23 (.int .i64 12), .iface 23 (.int .i64 13), .iface 23 (.int .i64 14), .iface 23 (.int .i64 15), .iface 23 (.int .i64 16), .iface 23 (.int .i64 17)]
/-- The world ahead of the loop. -/
def W0 (w : World) : World := ((w.alloc (.cells (nums.map (Value.int .i64)).toArray 3)).alloc (.cells (nums.map (Value.int .i64)).toArray 3)).alloc (.cells errs 27)

theorem row_at (w : World) (zs : List Int) : Row (w.alloc (.cells (zs.map (Value.int .i64)).toArray 3)) w.heap.size zs := by
  intro i hi
  rw [World.cell?_alloc_at _ _ _ _ rfl]
  simp [hi]
theorem Row.alloc {w : World} {b : Nat} {zs : List Int} (h : Row w b zs) (o : Obj) : Row (w.alloc o) b zs := fun i hi => by
  have := h i hi
  rw [World.cell?_alloc_lt _ _ _ (World.block_lt_of_cell? _ _ this)]; exact this
theorem errs_at (k : Nat) (hk : k < 17) : errs[k]? = some (.iface 23 (.int .i64 ((k : Int) + 1))) := by
  have : k = 0 ∨ k = 1 ∨ k = 2 ∨ k = 3 ∨ k = 4 ∨ k = 5 ∨ k = 6 ∨ k = 7 ∨ k = 8 ∨ k = 9 ∨ k = 10 ∨ k = 11 ∨ k = 12 ∨ k = 13 ∨ k = 14 ∨ k = 15 ∨ k = 16 := by omega
  rcases this with rfl | rfl | rfl | rfl | rfl | rfl | rfl | rfl | rfl | rfl | rfl | rfl | rfl | rfl | rfl | rfl | rfl <;> rfl
theorem size0 (w : World) : ((w.alloc (.cells (nums.map (Value.int .i64)).toArray 3)).alloc (.cells (nums.map (Value.int .i64)).toArray 3)).heap.size = w.heap.size + 1 + 1 := by simp
theorem facts0 (w : World) : Row (W0 w) w.heap.size nums ∧ Row (W0 w) (w.heap.size + 1) nums ∧ (∀ k : Nat, k < 17 → (W0 w).cell? ⟨w.heap.size + 1 + 1, k, none⟩ = some (.iface 23 (.int .i64 ((k : Int) + 1)))) ∧ Below w.heap.size w (W0 w) := by
  refine ⟨((row_at w nums).alloc _).alloc _, ?_, fun k hk => ?_, (((Below.refl _ _).alloc (Nat.le_refl _) _).alloc (by simp) _).alloc (by simp; omega) _⟩
  · have := row_at (w.alloc (.cells (nums.map (Value.int .i64)).toArray 3)) nums
    have e : (w.alloc (.cells (nums.map (Value.int .i64)).toArray 3)).heap.size = w.heap.size + 1 := by simp
    rw [e] at this
    exact this.alloc _
  · unfold W0
    rw [World.cell?_alloc_at _ _ _ _ (size0 w).symm]
    exact errs_at k hk

set_option maxRecDepth 100000 in
set_option maxHeartbeats 2000000 in
theorem names_walk (w : World) : Calls Tryd.prog 3 #[] w fun e w' => e = .returned (.bool true) ∧ Below w.heap.size w w' := by
  obtain ⟨f1, f2, f3, f4⟩ := facts0 w
  have F1 : Hid (Row (W0 w) w.heap.size nums) := f1
  have F2 : Hid (Row (W0 w) (w.heap.size + 1) nums) := f2
  have F3 : Hid (∀ k : Nat, k < 17 → (W0 w).cell? ⟨w.heap.size + 1 + 1, k, none⟩ = some (.iface 23 (.int .i64 ((k : Int) + 1)))) := f3
  clear f1 f2 f3
  go_enter Tryd.func3, Tryd.ntmps3
  go_wp2
  change Code.wp _ _ _ _ (W0 w)
  generalize W0 w = W at F1 F2 F3 f4 ⊢
  go_loop [4] (fun i => ∃ k : Nat, k ≤ 17 ∧ i = .int .i64 k) (fun i => 17 - (intOf i).toNat)
  case atStart => exact ⟨0, Nat.zero_le _, rfl⟩
  case round =>
    obtain ⟨k, hk, rfl⟩ := hrel
    by_cases hlt : k < 17
    · have hc := F3.out k hlt
      go_wp2_with (go_at_call 4; refine (same_err _ (by omega) _).mono ?_; rintro e w' ⟨rfl, rfl⟩)
      go_round
      case rel => exact ⟨k + 1, by omega, by go_num⟩
      case measure => simp [intOf]; omega
    · have hkk : k = 17 := by omega
      subst hkk
      go_wp2_with fail
      refine (sameNumbers_yes _ _ _ _ 36 nums _ rfl (by omega) F1.out F2.out).mono ?_
      rintro e w1 ⟨rfl, hb⟩
      go_wp2_with (go_at_call 6; refine (text_17 _).mono ?_; rintro e w' ⟨rfl, rfl⟩)
      go_ret
      exact ⟨rfl, f4.trans (hb.mono f4.size)⟩
end Go.Proofs.YtoadlnojcbkdgaaDoor
