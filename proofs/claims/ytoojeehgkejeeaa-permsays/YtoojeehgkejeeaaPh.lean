/-
  WHAT THE DOCUMENT's OWN FUNCTIONS OF CREDS DO: the walks of CredFault, Has, bit.
-/
import Derived.Test.YtoojeehgkejeeaaPd
import Derived.Deep.QuietTactic
import Derived.BigQuiet
namespace Go.Proofs.Ytoojeehgkejeeaa
open Go.RowKit

/-- May a number be an id? -/
def idB (x : Int) : Bool := decide (0 ≤ x) && decide (x ≤ 65535)
set_option maxHeartbeats 400000 in
theorem isIDr_any (x : Int) (w : World) : Calls Try.prog 58 #[.int .i64 x] w fun e w' => e = .returned (.bool (idB x)) ∧ w = w' := by
  by_cases h : 0 ≤ x
  · go_enter Try.func58, Try.ntmps58
    go_wp2
    go_ret
    exact ⟨ret_bool (by simp [idB, h]), rfl⟩
  · have hd : decide (0 ≤ x) = false := by simpa using h
    go_enter Try.func58, Try.ntmps58
    go_wp2
    go_ret
    exact ⟨ret_bool (by simp [idB, hd]), rfl⟩

/-- Of the group at place k: 1: no id; 3: it doesn't rise. -/
def stepF (zs : List Int) (k : Nat) : Int := if idB (zs.getD k 0) = false then 1 else if 0 < k ∧ zs.getD k 0 ≤ zs.getD (k - 1) 0 then 3 else 0
/-- The first wrong group from place k on, of so many. -/
def gF (zs : List Int) : Nat → Nat → Int
  | _, 0 => 0
  | k, n + 1 => if stepF zs k = 0 then gF zs (k + 1) n else stepF zs k
/-- What is wrong with a cred (0: nothing). -/
def credF (u g : Int) (zs : List Int) (c : Int) : Int :=
  if idB u = false ∨ idB g = false ∨ c < 0 ∨ 15 < c then 1 else if 4 < zs.length then 2 else gF zs 0 zs.length
theorem gF_ok {zs : List Int} {k n : Nat} (h : stepF zs k = 0) : gF zs k (n + 1) = gF zs (k + 1) n := by simp [gF, h]
theorem gF_bad {zs : List Int} {k n : Nat} (h : ¬ stepF zs k = 0) : gF zs k (n + 1) = stepF zs k := by simp [gF, h]
theorem stepF_id {zs : List Int} {k : Nat} (h : idB (zs.getD k 0) = false) : stepF zs k = 1 := by unfold stepF; rw [if_pos h]
theorem stepF_sh {zs : List Int} {k : Nat} (h : idB (zs.getD k 0) = true) (hk : 0 < k) (hle : zs.getD k 0 ≤ zs.getD (k - 1) 0) : stepF zs k = 3 := by
  unfold stepF; rw [if_neg (by rw [h]; decide), if_pos ⟨hk, hle⟩]
theorem stepF_ok0 {zs : List Int} (h : idB (zs.getD 0 0) = true) : stepF zs 0 = 0 := by
  unfold stepF; rw [if_neg (by rw [h]; decide), if_neg (by omega)]
theorem stepF_ok {zs : List Int} {k : Nat} (h : idB (zs.getD k 0) = true) (hle : ¬ zs.getD k 0 ≤ zs.getD (k - 1) 0) : stepF zs k = 0 := by
  unfold stepF; rw [if_neg (by rw [h]; decide), if_neg (by intro hh; exact hle hh.2)]
theorem credF_len {u g c : Int} {zs : List Int} (h1 : idB u = true) (h2 : idB g = true) (h3 : ¬ c < 0) (h4 : ¬ 15 < c) (h5 : ¬ 4 < zs.length) : credF u g zs c = gF zs 0 zs.length := by
  unfold credF; rw [if_neg (by simp [h1, h2]; omega), if_neg h5]
theorem credF_many {u g c : Int} {zs : List Int} (h1 : idB u = true) (h2 : idB g = true) (h3 : ¬ c < 0) (h4 : ¬ 15 < c) (h5 : 4 < zs.length) : credF u g zs c = 2 := by
  unfold credF; rw [if_neg (by simp [h1, h2]; omega), if_pos h5]
theorem credF_one {u g c : Int} {zs : List Int} (h : idB u = false ∨ idB g = false ∨ c < 0 ∨ 15 < c) : credF u g zs c = 1 := by unfold credF; rw [if_pos h]

set_option maxHeartbeats 1000000 in
theorem credFault_any (u g c : Int) (a : Option Addr) (cap : Nat) (zs : List Int) (w : World) (hl : zs.length ≤ 9223372036854775807) (h : Ints w a zs) :
    Calls Try.prog 27 #[.agg #[.int .i64 u, .int .i64 g, .slice a zs.length cap, .int .i64 c]] w fun e w' =>
      e = .returned (.int .i64 (credF u g zs c)) ∧ Below w.heap.size w w' := by
  by_cases hu : idB u = false
  · have HM : Hid (credF u g zs c = 1) := credF_one (.inl hu)
    go_enter Try.func27, Try.ntmps27
    go_wp2_with (go_at_call 58; refine (isIDr_any _ _).mono ?_; rintro e w' ⟨rfl, rfl⟩)
    go_ret
    exact ⟨ret_int HM.out.symm, (Below.refl _ _).alloc (Nat.le_refl _) _⟩
  have hu' : idB u = true := by simpa using hu
  clear hu
  by_cases hg : idB g = false
  · have HM : Hid (credF u g zs c = 1) := credF_one (.inr (.inl hg))
    go_enter Try.func27, Try.ntmps27
    go_wp2_with (go_at_call 58; refine (isIDr_any _ _).mono ?_; rintro e w' ⟨rfl, rfl⟩)
    go_ret
    exact ⟨ret_int HM.out.symm, (Below.refl _ _).alloc (Nat.le_refl _) _⟩
  have hg' : idB g = true := by simpa using hg
  clear hg
  by_cases hc0 : c < 0
  · have HM : Hid (credF u g zs c = 1) := credF_one (.inr (.inr (.inl hc0)))
    go_enter Try.func27, Try.ntmps27
    go_wp2_with (go_at_call 58; refine (isIDr_any _ _).mono ?_; rintro e w' ⟨rfl, rfl⟩)
    go_ret
    exact ⟨ret_int HM.out.symm, (Below.refl _ _).alloc (Nat.le_refl _) _⟩
  have hd0 : decide (c < 0) = false := by simpa using hc0
  by_cases hc1 : 15 < c
  · have HM : Hid (credF u g zs c = 1) := credF_one (.inr (.inr (.inr hc1)))
    go_enter Try.func27, Try.ntmps27
    go_wp2_with (go_at_call 58; refine (isIDr_any _ _).mono ?_; rintro e w' ⟨rfl, rfl⟩)
    go_ret
    exact ⟨ret_int HM.out.symm, (Below.refl _ _).alloc (Nat.le_refl _) _⟩
  have hd1 : decide (15 < c) = false := by simpa using hc1
  by_cases hn : 4 < zs.length
  · have HM : Hid (credF u g zs c = 2) := credF_many hu' hg' hc0 hc1 hn
    go_enter Try.func27, Try.ntmps27
    go_wp2_with (go_at_call 58; refine (isIDr_any _ _).mono ?_; rintro e w' ⟨rfl, rfl⟩)
    go_ret
    exact ⟨ret_int HM.out.symm, (Below.refl _ _).alloc (Nat.le_refl _) _⟩
  have HF : Hid (credF u g zs c = gF zs 0 zs.length) := credF_len hu' hg' hc0 hc1 hn
  go_enter Try.func27, Try.ntmps27
  go_wp2_with (go_at_call 58; refine (isIDr_any _ _).mono ?_; rintro e w' ⟨rfl, rfl⟩)
  have hB0 : Below w.heap.size w (w.alloc (.cells #[.int .i64 u, .int .i64 g, .slice a zs.length cap, .int .i64 c] 40)) := (Below.refl _ _).alloc (Nat.le_refl _) _
  have hX0 := Box.new w u g (.slice a zs.length cap) c
  generalize w.alloc (.cells #[.int .i64 u, .int .i64 g, .slice a zs.length cap, .int .i64 c] 40) = W at hB0 hX0 ⊢
  go_loopw [3] (fun i wr => ∃ k : Nat, k ≤ zs.length ∧ i = .int .i64 k ∧ Hid (gF zs 0 zs.length = gF zs k (zs.length - k)) ∧ Below w.heap.size w wr ∧ Box wr w.heap.size u g (.slice a zs.length cap) c) (fun i _ => zs.length - (intOf i).toNat)
  case atStart => exact ⟨0, Nat.zero_le _, rfl, rfl, hB0, hX0⟩
  case round =>
    obtain ⟨k, hk, rfl, HR, hB, hX⟩ := hrel
    clear hB0 hX0
    obtain ⟨k0, k1, k2, k3, k4⟩ := id hX
    by_cases hlt : k < zs.length
    · rcases h with rfl | ⟨b, off, rfl, hc⟩
      · simp at hlt
      · have hck : wr.cell? ⟨b, off + k, none⟩ = some (.int .i64 (zs.getD k 0)) := (hB.cell (p := ⟨b, off + k, none⟩) (World.block_lt_of_cell? _ _ (hc k hlt))).trans (hc k hlt)
        have HS : Hid (gF zs k (zs.length - k) = gF zs k ((zs.length - (k + 1)) + 1)) := by show _ = _; congr 1; omega
        have hki : (k : Int) < (zs.length : Int) := by omega
        by_cases hi : idB (zs.getD k 0) = false
        · have hi2 : idB zs[k] = false := by simpa [hlt] using hi
          go_wp2_with (go_at_call 58; refine (isIDr_any _ _).mono ?_; rintro e w' ⟨rfl, rfl⟩)
          go_ret
          exact ⟨ret_int (by rw [HF.out, HR.out, HS.out, gF_bad (by rw [stepF_id hi]; decide), stepF_id hi] : credF u g zs c = 1).symm, hB⟩
        · have hi1 : idB (zs.getD k 0) = true := by simpa using hi
          have hi2 : idB zs[k] = true := by simpa [hlt] using hi1
          clear hi
          rcases k with _ | j
          · have HN : Hid (gF zs 0 (zs.length - 0) = gF zs 1 (zs.length - 1)) := HS.out.trans (gF_ok (stepF_ok0 hi1))
            have hck0 : wr.cell? ⟨b, off, none⟩ = some (.int .i64 (zs.getD 0 0)) := by simpa using hck
            clear hi1 HS hck
            go_wp2_with (go_at_call 58; refine (isIDr_any _ _).mono ?_; rintro e w' ⟨rfl, rfl⟩)
            go_quiet (fail)
            go_wp2
            go_roundw
            case rel => exact ⟨1, by omega, rfl, HR.out.trans HN.out, below_drewN hB _, hX⟩
            case measure => simp [intOf]; omega
          · have hcj : wr.cell? ⟨b, off + j, none⟩ = some (.int .i64 (zs.getD j 0)) := (hB.cell (p := ⟨b, off + j, none⟩) (World.block_lt_of_cell? _ _ (hc j (by omega)))).trans (hc j (by omega))
            have hjl : j < zs.length := by omega
            have hji : (0 : Int) < (j : Int) + 1 := by omega
            have hjk : (j : Int) < (zs.length : Int) := by omega
            by_cases hle : zs.getD (j + 1) 0 ≤ zs.getD j 0
            · have HN : Hid (gF zs (j + 1) (zs.length - (j + 1)) = 3) := HS.out.trans ((gF_bad (by rw [stepF_sh hi1 (by omega) hle]; decide)).trans (stepF_sh hi1 (by omega) hle))
              have hle2 : zs[j + 1] ≤ zs[j] := by simpa [hlt, hjl] using hle
              clear hi1 HS hle
              go_wp2_with (go_at_call 58; refine (isIDr_any _ _).mono ?_; rintro e w' ⟨rfl, rfl⟩)
              go_quiet (fail)
              go_wp2
              go_ret
              exact ⟨ret_int (by rw [HF.out, HR.out, HN.out] : credF u g zs c = 3).symm, below_drewN hB _⟩
            · have HN : Hid (gF zs (j + 1) (zs.length - (j + 1)) = gF zs (j + 2) (zs.length - (j + 2))) := HS.out.trans (gF_ok (stepF_ok hi1 hle))
              have hle2 : ¬ zs[j + 1] ≤ zs[j] := by simpa [hlt, hjl] using hle
              have hle3 : decide (zs[j + 1] ≤ zs[j]) = false := by simpa using hle2
              clear hi1 HS hle
              go_wp2_with (go_at_call 58; refine (isIDr_any _ _).mono ?_; rintro e w' ⟨rfl, rfl⟩)
              go_quiet (fail)
              go_wp2
              go_roundw
              case rel => exact ⟨j + 2, by omega, by go_num, HR.out.trans HN.out, below_drewN hB _, hX⟩
              case measure => simp [intOf]; omega
    · have e0 : zs.length - k = 0 := by omega
      go_wp2
      go_ret
      exact ⟨ret_int (by rw [HF.out, HR.out, e0]; rfl : credF u g zs c = 0).symm, hB⟩

theorem hasB_append (g x z : Int) (l : List Int) : hasB g (l ++ [z]) x = (hasB g l x || z == x) := by
  by_cases h : z = x
  · subst h; simp [hasB]
  · have h2 : ¬ x = z := fun e => h e.symm
    simp [hasB, h, h2]

set_option maxHeartbeats 400000 in
theorem hasr_any (u g x c : Int) (a : Option Addr) (cap : Nat) (zs : List Int) (w : World) (hl : zs.length ≤ 9223372036854775807) (h : Ints w a zs) :
    Calls Try.prog 29 #[.agg #[.int .i64 u, .int .i64 g, .slice a zs.length cap, .int .i64 c], .int .i64 x] w fun e w' =>
      e = .returned (.bool (hasB g zs x)) ∧ Below w.heap.size w w' := by
  go_enter Try.func29, Try.ntmps29
  go_wp2
  go_loop [5, 6] (fun t i => ∃ k : Nat, k ≤ zs.length ∧ i = .int .i64 k ∧ t = .bool (hasB g (zs.take k) x)) (fun _ i => zs.length - (intOf i).toNat)
  case atStart => exact ⟨0, Nat.zero_le _, rfl, by simp [hasB, BEq.comm]⟩
  case round =>
    obtain ⟨k, hk, rfl, rfl⟩ := hrel
    by_cases hlt : k < zs.length
    · rcases h with rfl | ⟨b, off, rfl, hc⟩
      · simp at hlt
      · have hck := hc k hlt
        have hbl : b < w.heap.size := World.block_lt_of_cell? _ _ hck
        have HT : Hid (hasB g (zs.take (k + 1)) x = (hasB g (zs.take k) x || zs[k] == x)) := by
          show _ = _
          rw [List.take_succ_eq_append_getElem hlt, hasB_append]
        obtain ⟨t, ht⟩ : ∃ t, hasB g (zs.take k) x = t := ⟨_, rfl⟩
        rw [ht] at HT ⊢
        cases t
        · go_wp2
          go_round
          case rel => exact ⟨k + 1, by omega, by go_num, by rw [HT.out]; simp⟩
          case measure => simp [intOf]; omega
        · go_wp2
          go_round
          case rel => exact ⟨k + 1, by omega, by go_num, by rw [HT.out]; simp⟩
          case measure => simp [intOf]; omega
    · go_wp2
      go_ret
      exact ⟨ret_bool (by rw [List.take_of_length_le (by omega)]), (Below.refl _ _).alloc (Nat.le_refl _) _⟩

/-- A bit of a number from 0 on. -/
def bitB (n b : Int) : Bool := (n / b) % 2 == 1
set_option maxHeartbeats 400000 in
theorem bit_any (n b : Int) (hn : 0 ≤ n) (hn2 : n ≤ 4095) (hb : 1 ≤ b) (hb2 : b ≤ 4095) (w : World) :
    Calls Try.prog 59 #[.int .i64 n, .int .i64 b] w fun e w' => e = .returned (.bool (bitB n b)) ∧ w = w' := by
  have h1 : 0 ≤ n / b := Int.ediv_nonneg hn (by omega)
  go_enter Try.func59, Try.ntmps59
  go_wp2
  go_ret
  exact ⟨rfl, rfl⟩
theorem stepF_nonneg (zs : List Int) (k : Nat) : 0 ≤ stepF zs k := by
  unfold stepF; split
  · omega
  · split <;> omega
theorem gF_nonneg (zs : List Int) : ∀ n k, 0 ≤ gF zs k n
  | 0, _ => by simp [gF]
  | n + 1, k => by
    unfold gF
    split
    · exact gF_nonneg zs n (k + 1)
    · exact stepF_nonneg zs k
theorem credF_nonneg (u g : Int) (zs : List Int) (c : Int) : 0 ≤ credF u g zs c := by
  unfold credF; split
  · omega
  · split
    · omega
    · exact gF_nonneg _ _ _
theorem credF_zero {u g c : Int} {zs : List Int} (h : credF u g zs c = 0) : idB u = true ∧ idB g = true ∧ 0 ≤ c ∧ c ≤ 15 ∧ zs.length ≤ 4 ∧ gF zs 0 zs.length = 0 := by
  unfold credF at h
  by_cases h1 : idB u = false ∨ idB g = false ∨ c < 0 ∨ 15 < c
  · rw [if_pos h1] at h; omega
  · rw [if_neg h1] at h
    by_cases h2 : 4 < zs.length
    · rw [if_pos h2] at h; omega
    · rw [if_neg h2] at h
      have a1 : ¬ idB u = false := fun e => h1 (.inl e)
      have a2 : ¬ idB g = false := fun e => h1 (.inr (.inl e))
      have a3 : ¬ c < 0 := fun e => h1 (.inr (.inr (.inl e)))
      have a4 : ¬ 15 < c := fun e => h1 (.inr (.inr (.inr e)))
      exact ⟨by simpa using a1, by simpa using a2, by omega, by omega, by omega, h⟩
end Go.Proofs.Ytoojeehgkejeeaa
