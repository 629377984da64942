/-
  THE WALKS beneath Names: same, SameNumbers, the text of an error.
-/
import Derived.Test.YtoadlnojcbkdgaaDoorRows
import Derived.WalkKit
import Derived.WalkSpells
import Derived.WalkLawsBesides
import Derived.Deep.QuietTactic
import Derived.BigQuiet
namespace Go.Proofs.YtoadlnojcbkdgaaDoor
open Go.RowKit

theorem ret_bool {a b : Bool} (h : a = b) : Ending.returned (.bool a) = .returned (.bool b) := by rw [h]

theorem assert23 (W : World) (n : Int) : (Instr.typeAssert (.iface 23 (.int .i64 n)) 27 23 true).run Tryd.prog W = .ok (.tuple #[.int .i64 n, .bool true]) W := by kernel_rfl
set_option maxHeartbeats 400000 in
theorem same_err (n : Int) (hn : 0 < n) (w : World) : Calls Tryd.prog 4 #[.iface 23 (.int .i64 n), .int .i64 n] w fun e w' => e = .returned (.bool true) ∧ w = w' := by
  have ha := assert23
  go_enter Tryd.func4, Tryd.ntmps4
  go_wp2
  go_ret
  exact ⟨rfl, rfl⟩

/-- A row of ints in a block. -/
def Row (w : World) (b : Nat) (zs : List Int) : Prop := ∀ i, i < zs.length → w.cell? ⟨b, i, none⟩ = some (.int .i64 (zs.getD i 0))

set_option maxHeartbeats 400000 in
theorem sameNumbers_yes (a b c1 c2 n : Nat) (zs : List Int) (w : World) (hn : zs.length = n) (hl : n ≤ 100) (h : Row w a zs) (h' : Row w b zs) :
    Calls Tryd.prog 5 #[.slice (some ⟨a, 0, none⟩) n c1, .slice (some ⟨b, 0, none⟩) n c2] w fun e w' => e = .returned (.bool true) ∧ Below w.heap.size w w' := by
  have hne : ((n : Int) != (n : Int)) = false := by simp
  go_enter Tryd.func5, Tryd.ntmps5
  go_wp2
  go_loopw [5] (fun i wr => ∃ k : Nat, k ≤ n ∧ i = .int .i64 k ∧ Below w.heap.size w wr) (fun i _ => n - (intOf i).toNat)
  case atStart => exact ⟨0, Nat.zero_le _, rfl, Below.refl _ _⟩
  case round =>
    obtain ⟨k, hk, rfl, hb⟩ := hrel
    by_cases hlt : k < n
    · have hkz : k < zs.length := by omega
      have h1 := h k hkz
      have h2 := h' k hkz
      have q1 : wr.cell? ⟨a, k, none⟩ = some (.int .i64 zs[k]) := by
        rw [hb.cell (p := ⟨a, k, none⟩) (World.block_lt_of_cell? _ _ h1), h1]; simp [hkz]
      have q2 : wr.cell? ⟨b, k, none⟩ = some (.int .i64 zs[k]) := by
        rw [hb.cell (p := ⟨b, k, none⟩) (World.block_lt_of_cell? _ _ h2), h2]; simp [hkz]
      have hki : (k : Int) < (n : Int) := by omega
      have heb : (zs[k] != zs[k]) = false := by simp
      clear h1 h2 h h'
      go_wp2
      go_quiet (fail)
      go_wp2
      go_roundw
      case rel => exact ⟨k + 1, by omega, by go_num, below_drewN hb _⟩
      case measure => simp [intOf]; omega
    · go_wp2
      go_ret
      exact ⟨rfl, hb⟩

set_option maxRecDepth 100000 in
set_option maxHeartbeats 1000000 in
theorem text_17 (w : World) : Calls Tryd.prog 6 #[.int .i64 17] w fun e w' => e = .returned (.string ⟨#[105, 100, 115, 104, 105, 102, 116, 58, 32, 101, 114, 114, 111, 114, 32, 49, 55]⟩) ∧ w = w' := by
  go_enter Tryd.func6, Tryd.ntmps6
  go_wp2
  go_ret
  exact ⟨rfl, rfl⟩
end Go.Proofs.YtoadlnojcbkdgaaDoor
