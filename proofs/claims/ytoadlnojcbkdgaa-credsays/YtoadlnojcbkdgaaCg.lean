/-
  WHAT THE DOCUMENT's OWN FUNCTIONS OF CREDS DO: the walks of CredFault, Has, bit.
-/
import Derived.Test.YtoadlnojcbkdgaaCf
namespace Go.Proofs.Ytoadlnojcbkdgaa
open Go.RowKit

theorem ret_int {a b : Int} (h : a = b) : Ending.returned (.int .i64 a) = .returned (.int .i64 b) := by rw [h]

set_option maxHeartbeats 1000000 in
theorem credFault_any (u g c : Int) (a : Option Addr) (cap : Nat) (zs : List Int) (w : World) (hl : zs.length ≤ 8) (h : Ints w a zs) :
    Calls Try.prog 25 #[.agg #[.int .i64 u, .int .i64 g, .slice a zs.length cap, .int .i64 c]] w fun e w' =>
      e = .returned (.int .i64 (credF u g zs c)) ∧ Below w.heap.size w w' := by
  by_cases hu : idB u = false
  · have HM : Hid (credF u g zs c = 1) := credF_one (.inl hu)
    go_enter Try.func25, Try.ntmps25
    go_wp2_with (go_at_call 49; refine (isIDr_any _ _).mono ?_; rintro e w' ⟨rfl, rfl⟩)
    go_ret
    exact ⟨ret_int HM.out.symm, (Below.refl _ _).alloc (Nat.le_refl _) _⟩
  have hu' : idB u = true := by simpa using hu
  clear hu
  by_cases hg : idB g = false
  · have HM : Hid (credF u g zs c = 1) := credF_one (.inr (.inl hg))
    go_enter Try.func25, Try.ntmps25
    go_wp2_with (go_at_call 49; refine (isIDr_any _ _).mono ?_; rintro e w' ⟨rfl, rfl⟩)
    go_ret
    exact ⟨ret_int HM.out.symm, (Below.refl _ _).alloc (Nat.le_refl _) _⟩
  have hg' : idB g = true := by simpa using hg
  clear hg
  by_cases hc0 : c < 0
  · have HM : Hid (credF u g zs c = 1) := credF_one (.inr (.inr (.inl hc0)))
    go_enter Try.func25, Try.ntmps25
    go_wp2_with (go_at_call 49; refine (isIDr_any _ _).mono ?_; rintro e w' ⟨rfl, rfl⟩)
    go_ret
    exact ⟨ret_int HM.out.symm, (Below.refl _ _).alloc (Nat.le_refl _) _⟩
  have hd0 : decide (c < 0) = false := by simpa using hc0
  by_cases hc1 : 15 < c
  · have HM : Hid (credF u g zs c = 1) := credF_one (.inr (.inr (.inr hc1)))
    go_enter Try.func25, Try.ntmps25
    go_wp2_with (go_at_call 49; refine (isIDr_any _ _).mono ?_; rintro e w' ⟨rfl, rfl⟩)
    go_ret
    exact ⟨ret_int HM.out.symm, (Below.refl _ _).alloc (Nat.le_refl _) _⟩
  have hd1 : decide (15 < c) = false := by simpa using hc1
  by_cases hn : 4 < zs.length
  · have HM : Hid (credF u g zs c = 2) := credF_many hu' hg' hc0 hc1 hn
    go_enter Try.func25, Try.ntmps25
    go_wp2_with (go_at_call 49; refine (isIDr_any _ _).mono ?_; rintro e w' ⟨rfl, rfl⟩)
    go_ret
    exact ⟨ret_int HM.out.symm, (Below.refl _ _).alloc (Nat.le_refl _) _⟩
  have HF : Hid (credF u g zs c = gF zs 0 zs.length) := credF_len hu' hg' hc0 hc1 hn
  go_enter Try.func25, Try.ntmps25
  go_wp2_with (go_at_call 49; refine (isIDr_any _ _).mono ?_; rintro e w' ⟨rfl, rfl⟩)
  have hB0 : Below w.heap.size w (w.alloc (.cells #[.int .i64 u, .int .i64 g, .slice a zs.length cap, .int .i64 c] 40)) := (Below.refl _ _).alloc (Nat.le_refl _) _
  have hX0 := Box.new w u g (.slice a zs.length cap) c
  generalize w.alloc (.cells #[.int .i64 u, .int .i64 g, .slice a zs.length cap, .int .i64 c] 40) = W at hB0 hX0 ⊢
  go_loopw [3] (fun i wr => ∃ k : Nat, k ≤ zs.length ∧ i = .int .i64 k ∧ Hid (gF zs 0 zs.length = gF zs k (zs.length - k)) ∧ Below w.heap.size w wr ∧ Box wr w.heap.size u g (.slice a zs.length cap) c) (fun i _ => zs.length - (intOf i).toNat)
  case atStart => exact ⟨0, Nat.zero_le _, rfl, rfl, hB0, hX0⟩
  case round =>
    obtain ⟨k, hk, rfl, HR, hB, hX⟩ := hrel
    clear hB0 hX0
    obtain ⟨k0, k1, k2, k3, k4⟩ := id hX
    by_cases hlt : k < zs.length
    · rcases h with rfl | ⟨b, off, rfl, hc⟩
      · simp at hlt
      · have hck : wr.cell? ⟨b, off + k, none⟩ = some (.int .i64 (zs.getD k 0)) := (hB.cell (p := ⟨b, off + k, none⟩) (World.block_lt_of_cell? _ _ (hc k hlt))).trans (hc k hlt)
        have HS : Hid (gF zs k (zs.length - k) = gF zs k ((zs.length - (k + 1)) + 1)) := by show _ = _; congr 1; omega
        have hki : (k : Int) < (zs.length : Int) := by omega
        by_cases hi : idB (zs.getD k 0) = false
        · have hi2 : idB zs[k] = false := by simpa [hlt] using hi
          go_wp2_with (go_at_call 49; refine (isIDr_any _ _).mono ?_; rintro e w' ⟨rfl, rfl⟩)
          go_ret
          exact ⟨ret_int (by rw [HF.out, HR.out, HS.out, gF_bad (by rw [stepF_id hi]; decide), stepF_id hi] : credF u g zs c = 1).symm, hB⟩
        · have hi1 : idB (zs.getD k 0) = true := by simpa using hi
          have hi2 : idB zs[k] = true := by simpa [hlt] using hi1
          clear hi
          rcases k with _ | j
          · have HN : Hid (gF zs 0 (zs.length - 0) = gF zs 1 (zs.length - 1)) := HS.out.trans (gF_ok (stepF_ok0 hi1))
            have hck0 : wr.cell? ⟨b, off, none⟩ = some (.int .i64 (zs.getD 0 0)) := by simpa using hck
            clear hi1 HS hck
            go_wp2_with (go_at_call 49; refine (isIDr_any _ _).mono ?_; rintro e w' ⟨rfl, rfl⟩)
            go_quiet (fail)
            go_wp2
            go_roundw
            case rel => exact ⟨1, by omega, rfl, HR.out.trans HN.out, below_drewN hB _, hX⟩
            case measure => simp [intOf]; omega
          · have hcj : wr.cell? ⟨b, off + j, none⟩ = some (.int .i64 (zs.getD j 0)) := (hB.cell (p := ⟨b, off + j, none⟩) (World.block_lt_of_cell? _ _ (hc j (by omega)))).trans (hc j (by omega))
            have hjl : j < zs.length := by omega
            have hji : (0 : Int) < (j : Int) + 1 := by omega
            have hjk : (j : Int) < (zs.length : Int) := by omega
            by_cases hle : zs.getD (j + 1) 0 ≤ zs.getD j 0
            · have HN : Hid (gF zs (j + 1) (zs.length - (j + 1)) = 3) := HS.out.trans ((gF_bad (by rw [stepF_sh hi1 (by omega) hle]; decide)).trans (stepF_sh hi1 (by omega) hle))
              have hle2 : zs[j + 1] ≤ zs[j] := by simpa [hlt, hjl] using hle
              clear hi1 HS hle
              go_wp2_with (go_at_call 49; refine (isIDr_any _ _).mono ?_; rintro e w' ⟨rfl, rfl⟩)
              go_quiet (fail)
              go_wp2
              go_ret
              exact ⟨ret_int (by rw [HF.out, HR.out, HN.out] : credF u g zs c = 3).symm, below_drewN hB _⟩
            · have HN : Hid (gF zs (j + 1) (zs.length - (j + 1)) = gF zs (j + 2) (zs.length - (j + 2))) := HS.out.trans (gF_ok (stepF_ok hi1 hle))
              have hle2 : ¬ zs[j + 1] ≤ zs[j] := by simpa [hlt, hjl] using hle
              have hle3 : decide (zs[j + 1] ≤ zs[j]) = false := by simpa using hle2
              clear hi1 HS hle
              go_wp2_with (go_at_call 49; refine (isIDr_any _ _).mono ?_; rintro e w' ⟨rfl, rfl⟩)
              go_quiet (fail)
              go_wp2
              go_roundw
              case rel => exact ⟨j + 2, by omega, by go_num, HR.out.trans HN.out, below_drewN hB _, hX⟩
              case measure => simp [intOf]; omega
    · have e0 : zs.length - k = 0 := by omega
      go_wp2
      go_ret
      exact ⟨ret_int (by rw [HF.out, HR.out, e0]; rfl : credF u g zs c = 0).symm, hB⟩

theorem hasB_append (g x z : Int) (l : List Int) : hasB g (l ++ [z]) x = (hasB g l x || z == x) := by
  by_cases h : z = x
  · subst h; simp [hasB]
  · have h2 : ¬ x = z := fun e => h e.symm
    simp [hasB, h, h2]

set_option maxHeartbeats 400000 in
theorem hasr_any (u g x c : Int) (a : Option Addr) (cap : Nat) (zs : List Int) (w : World) (hl : zs.length ≤ 8) (h : Ints w a zs) :
    Calls Try.prog 27 #[.agg #[.int .i64 u, .int .i64 g, .slice a zs.length cap, .int .i64 c], .int .i64 x] w fun e w' =>
      e = .returned (.bool (hasB g zs x)) ∧ Below w.heap.size w w' := by
  go_enter Try.func27, Try.ntmps27
  go_wp2
  go_loop [5, 6] (fun t i => ∃ k : Nat, k ≤ zs.length ∧ i = .int .i64 k ∧ t = .bool (hasB g (zs.take k) x)) (fun _ i => zs.length - (intOf i).toNat)
  case atStart => exact ⟨0, Nat.zero_le _, rfl, by simp [hasB, BEq.comm]⟩
  case round =>
    obtain ⟨k, hk, rfl, rfl⟩ := hrel
    by_cases hlt : k < zs.length
    · rcases h with rfl | ⟨b, off, rfl, hc⟩
      · simp at hlt
      · have hck := hc k hlt
        have hbl : b < w.heap.size := World.block_lt_of_cell? _ _ hck
        have HT : Hid (hasB g (zs.take (k + 1)) x = (hasB g (zs.take k) x || zs[k] == x)) := by
          show _ = _
          rw [List.take_succ_eq_append_getElem hlt, hasB_append]
        obtain ⟨t, ht⟩ : ∃ t, hasB g (zs.take k) x = t := ⟨_, rfl⟩
        rw [ht] at HT ⊢
        cases t
        · go_wp2
          go_round
          case rel => exact ⟨k + 1, by omega, by go_num, by rw [HT.out]; simp⟩
          case measure => simp [intOf]; omega
        · go_wp2
          go_round
          case rel => exact ⟨k + 1, by omega, by go_num, by rw [HT.out]; simp⟩
          case measure => simp [intOf]; omega
    · go_wp2
      go_ret
      exact ⟨ret_bool (by rw [List.take_of_length_le (by omega)]), (Below.refl _ _).alloc (Nat.le_refl _) _⟩

/-- A bit of a number from 0 on. -/
def bitB (n b : Int) : Bool := (n / b) % 2 == 1
set_option maxHeartbeats 400000 in
theorem bit_any (n b : Int) (hn : 0 ≤ n) (hn2 : n ≤ 4095) (hb : 1 ≤ b) (hb2 : b ≤ 4095) (w : World) :
    Calls Try.prog 50 #[.int .i64 n, .int .i64 b] w fun e w' => e = .returned (.bool (bitB n b)) ∧ w = w' := by
  have h1 : 0 ≤ n / b := Int.ediv_nonneg hn (by omega)
  go_enter Try.func50, Try.ntmps50
  go_wp2
  go_ret
  exact ⟨rfl, rfl⟩
end Go.Proofs.Ytoadlnojcbkdgaa
