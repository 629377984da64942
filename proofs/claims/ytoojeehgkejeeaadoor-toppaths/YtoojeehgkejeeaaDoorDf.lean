/-
  WHAT path.Join AND THE DOCUMENT's OWN Join DO: the walks.
-/
import Derived.Test.YtoojeehgkejeeaaDoorDe
namespace Go.Proofs.YtoojeehgkejeeaaDoor
open Go.RowKit

theorem name_len {x : ByteArray} (h : nameB x = true) : x.data.toList.length ≤ 12 := by
  unfold nameB nameL at h
  simp only [Bool.and_eq_true, decide_eq_true_eq] at h
  exact h.1.1.1.2
theorem flat_len : ∀ (xs : List ByteArray), xs.all nameB = true → ((xs.map (fun x => 47 :: x.data.toList)).flatten).length ≤ xs.length * 13
  | [], _ => by simp
  | x :: l, h => by
    simp only [List.all_cons, Bool.and_eq_true] at h
    have ih := flat_len l h.2
    have := name_len h.1
    simp only [List.map_cons, List.flatten_cons, List.length_append, List.length_cons]
    omega
theorem chk_zero {xs : List ByteArray} (h : chkF xs = 0) : xs.all nameB = true ∧ xs.length ≤ 6 := by
  unfold chkF at h
  split at h
  · rename_i ha
    split at h
    · cases h
    · exact ⟨ha, by omega⟩
  · cases h
theorem join_map (xs : List ByteArray) (h : xs ≠ []) : 47 :: Lib.join (xs.map (·.data.toList)) [47] = (xs.map (fun x => 47 :: x.data.toList)).flatten := by
  rw [inter_slash _ (by simpa using h), List.map_map]; rfl

theorem app_mkB (x y : List UInt8) : mkB x ++ mkB y = mkB (x ++ y) := by
  apply ByteArray.ext
  show (mkB x ++ mkB y).data = (x ++ y).toArray
  rw [ByteArray.data_append]
  simp [mkB]
theorem size_mkB (x : List UInt8) : (mkB x).size = x.length := by rw [← len_data]; rfl
theorem slash_mkB (J : List UInt8) : (⟨#[47]⟩ : ByteArray) ++ (⟨J.toArray⟩ : ByteArray) = mkB (47 :: J) := app_mkB [47] J

set_option maxRecDepth 100000 in
set_option maxHeartbeats 1000000 in
theorem join_any (a : Option Addr) (cap : Nat) (xs : List ByteArray) (w : World) (hl : xs.length ≤ 100) (hcap : xs.length ≤ cap) (h : Strs w a xs) :
    Calls Tryd.prog 13 #[.slice a xs.length cap] w fun e w' => e = .returned (.tuple #[.string (mkB (jnL xs)), errV (chkF xs)]) ∧ Below w.heap.size w w' := by
  by_cases hc : chkF xs = 0
  rotate_left
  · have HJ : Hid (mkB (jnL xs) = ⟨#[]⟩) := by show _ = _; unfold jnL; rw [if_neg hc]; rfl
    have HE := errV_of (n := chkF xs) rfl hc
    go_enter Tryd.func13, Tryd.ntmps13
    go_wp2_with fail
    refine (check_any a cap xs _ (by omega) h).mono ?_
    rintro e w' ⟨rfl, rfl⟩
    rw [HE]
    go_wp2
    go_ret2
    rw [HJ.out, HE]
    exact ⟨rfl, Below.refl _ _⟩
  · obtain ⟨ha, h6⟩ := chk_zero hc
    by_cases hn : xs = []
    · subst hn
      have HJ : Hid (mkB (jnL []) = ⟨#[47]⟩) := by show _ = _; unfold jnL joinL; rw [if_pos hc]; rfl
      have HE := errV_nil hc
      go_enter Tryd.func13, Tryd.ntmps13
      go_wp2_with fail
      refine (check_any a cap [] _ (by simp) (.inl rfl)).mono ?_
      rintro e w' ⟨rfl, rfl⟩
      rw [HE]
      go_wp2_with fail
      refine (Tryd.strings_Join_none a cap ⟨#[47]⟩ _).mono ?_
      rintro e w' ⟨rfl, rfl⟩
      go_wp2
      go_ret2
      rw [HJ.out, HE]
      exact ⟨by rw [show (⟨#[47]⟩ : ByteArray) ++ (⟨#[]⟩ : ByteArray) = ⟨#[47]⟩ from slash_mkB []]; rfl, Below.refl _ _⟩
    · rcases h with rfl | ⟨b, off, rfl, hcs⟩
      · exact absurd rfl hn
      have HE := errV_nil hc
      have hb : b < w.heap.size := by
        cases xs with
        | nil => exact absurd rfl hn
        | cons x l => exact World.block_lt_of_cell? _ _ (hcs 0 x rfl)
      have hJ := join_map xs hn
      have hlen : (Lib.join (xs.map (·.data.toList)) [47]).length ≤ 78 := by
        have h1 := flat_len xs ha
        rw [← hJ] at h1
        simp at h1; omega
      have HJ : Hid (jnL xs = 47 :: Lib.join (xs.map (·.data.toList)) [47]) := by show _ = _; unfold jnL joinL; rw [if_pos hc, if_neg hn, hJ]
      clear hJ
      go_enter Tryd.func13, Tryd.ntmps13
      go_wp2_with fail
      refine (check_any _ cap xs _ (by omega) (.inr ⟨b, off, rfl, hcs⟩)).mono ?_
      rintro e w' ⟨rfl, rfl⟩
      rw [HE]
      go_wp2_with fail
      refine (Tryd.strings_Join b off cap xs ⟨#[47]⟩ _ hcs hb (by omega) hcap (Nat.le_trans hlen (by decide))).mono ?_
      rintro e w1 ⟨rfl, hB⟩
      have HJ2 : Hid (jnL xs = 47 :: Lib.join (xs.map (·.data.toList)) (⟨#[47]⟩ : ByteArray).data.toList) := HJ.out
      have hlen2 : (Lib.join (xs.map (·.data.toList)) (⟨#[47]⟩ : ByteArray).data.toList).length ≤ 78 := hlen
      generalize Lib.join (xs.map (·.data.toList)) (⟨#[47]⟩ : ByteArray).data.toList = J at HJ2 hlen2 ⊢
      clear HJ hlen
      go_wp2
      go_ret2
      rw [HJ2.out, HE]
      exact ⟨by rw [slash_mkB]; rfl, hB⟩

/-- What stands joined when k names are through. -/
def accL (xs : List ByteArray) (k : Nat) : List UInt8 := ((xs.take (min k 7)).map (fun x => 47 :: x.data.toList)).flatten
theorem accL_add {xs : List ByteArray} {k : Nat} {x : ByteArray} (hx : xs[k]? = some x) (h : k ≤ 6) : accL xs (k + 1) = accL xs k ++ 47 :: x.data.toList := by
  unfold accL
  rw [show min (k + 1) 7 = min k 7 + 1 by omega, show min k 7 = k by omega, List.take_add_one, hx]
  simp
theorem accL_past {xs : List ByteArray} {k : Nat} (h : ¬ k ≤ 6) : accL xs (k + 1) = accL xs k := by
  unfold accL
  rw [show min (k + 1) 7 = min k 7 by omega]
theorem accL_all {xs : List ByteArray} (h : xs.length ≤ 6) : accL xs xs.length = (xs.map (fun x => 47 :: x.data.toList)).flatten := by
  unfold accL
  rw [List.take_of_length_le (by omega)]
theorem accL_len {xs : List ByteArray} {k : Nat} (h : (xs.take k).all nameB = true) : (accL xs k).length ≤ 91 := by
  have h2 : (xs.take (min k 7)).all nameB = true := by
    rw [List.all_eq_true] at h ⊢
    intro x hx
    refine h x ?_
    rw [show min k 7 = min (min k 7) k by omega, ← List.take_take] at hx
    exact List.mem_of_mem_take hx
  have h3 := flat_len _ h2
  have h4 : (xs.take (min k 7)).length ≤ 7 := by simp; omega
  unfold accL
  omega

set_option maxRecDepth 100000 in
set_option maxHeartbeats 1000000 in
theorem joinr_any (a : Option Addr) (cap : Nat) (xs : List ByteArray) (w : World) (hl : xs.length ≤ 100) (hsz : ∀ x ∈ xs, x.size ≤ 9223372036854775807) (h : Strs w a xs) :
    Calls Tryd.prog 14 #[.slice a xs.length cap] w fun e w' => e = .returned (.tuple #[.string (mkB (jnL xs)), .int .i64 (chkF xs)]) ∧ w = w' := by
  go_enter Tryd.func14, Tryd.ntmps14
  go_wp2
  go_loop [4, 5] (fun s i => ∃ k : Nat, k ≤ xs.length ∧ i = .int .i64 k ∧ s = .string (mkB (accL xs k)) ∧ Hid ((xs.take k).all nameB = true)) (fun _ i => xs.length - (intOf i).toNat)
  case atStart => exact ⟨0, Nat.zero_le _, rfl, rfl, rfl⟩
  case round =>
    obtain ⟨k, hk, rfl, rfl, HA⟩ := hrel
    by_cases hlt : k < xs.length
    · rcases h with rfl | ⟨b, off, rfl, hc⟩
      · simp at hlt
      · obtain ⟨x, hx⟩ : ∃ x, xs[k]? = some x := ⟨xs[k], by simp [hlt]⟩
        have HX : Hid (xs[k]? = some x) := hx
        have hck := hc k x hx
        have hxs := hsz x (List.mem_of_getElem? hx)
        have hki : (k : Int) < (xs.length : Int) := by omega
        clear hx hc
        obtain ⟨t, ht⟩ : ∃ t, nameB x = t := ⟨_, rfl⟩
        have HT : Hid (nameB x = t) := ht
        clear ht
        have hal := accL_len HA.out
        go_wp2_with fail
        refine (namer_any _ _ hxs).mono ?_
        rintro e w' ⟨rfl, rfl⟩
        rw [HT.out]
        cases t
        · have HC : Hid (chkF xs = 4) := by show _ = _; unfold chkF; rw [if_neg (by rw [allS_bad HX.out HT.out]; decide)]
          have HJ : Hid (mkB (jnL xs) = ⟨#[]⟩) := by show _ = _; unfold jnL; rw [if_neg (by rw [HC.out]; decide)]; rfl
          go_wp2
          go_ret2
          rw [HC.out, HJ.out]
          exact ⟨rfl, rfl⟩
        · have hx12 := name_len HT.out
          rw [len_data] at hx12
          by_cases h6 : k ≤ 6
          · have d6 : decide ((k : Int) ≤ 6) = true := decide_eq_true (by omega)
            have HS : Hid (mkB (accL xs (k + 1)) = mkB (accL xs k) ++ (⟨#[47]⟩ : ByteArray) ++ x) := by
              show _ = _
              rw [accL_add HX.out h6, show (⟨#[47]⟩ : ByteArray) = mkB [47] from rfl, app_mkB]
              conv => rhs; rw [← data_mkB x, app_mkB]
              simp
            have hz := size_mkB (accL xs k)
            generalize mkB (accL xs k) = A at hz HS ⊢
            go_wp2
            go_round
            case rel => exact ⟨k + 1, by omega, by go_num, by rw [HS.out], allS_succ HX.out HA.out HT.out⟩
            case measure => simp [intOf]; omega
          · have d6 : decide ((k : Int) ≤ 6) = false := decide_eq_false (by omega)
            have HS : Hid (mkB (accL xs (k + 1)) = mkB (accL xs k)) := by show _ = _; rw [accL_past h6]
            go_wp2
            go_round
            case rel => exact ⟨k + 1, by omega, by go_num, by rw [HS.out], allS_succ HX.out HA.out HT.out⟩
            case measure => simp [intOf]; omega
    · have HL : Hid (xs.all nameB = true) := by
        show _ = _
        have := HA.out
        rw [List.take_of_length_le (by omega)] at this
        exact this
      have hkk : k = xs.length := by omega
      subst hkk
      by_cases h6 : 6 < xs.length
      · have d6 : decide (6 < (xs.length : Int)) = true := decide_eq_true (by omega)
        have HC : Hid (chkF xs = 2) := by show _ = _; unfold chkF; rw [if_pos HL.out, if_pos h6]
        have HJ : Hid (mkB (jnL xs) = ⟨#[]⟩) := by show _ = _; unfold jnL; rw [if_neg (by rw [HC.out]; decide)]; rfl
        go_wp2
        go_ret2
        rw [HC.out, HJ.out]
        exact ⟨rfl, rfl⟩
      · have d6 : decide (6 < (xs.length : Int)) = false := decide_eq_false (by omega)
        have HC : Hid (chkF xs = 0) := by show _ = _; unfold chkF; rw [if_pos HL.out, if_neg h6]
        by_cases hn : xs = []
        · subst hn
          have HJ : Hid (mkB (jnL []) = ⟨#[47]⟩) := by show _ = _; unfold jnL joinL; rw [if_pos HC.out]; rfl
          go_wp2
          go_ret2
          rw [HC.out, HJ.out]
          exact ⟨rfl, rfl⟩
        · have dn : ((xs.length : Int) == 0) = false := by
            cases xs with
            | nil => exact absurd rfl hn
            | cons x l => simp; omega
          have HJ : Hid (mkB (jnL xs) = mkB (accL xs xs.length)) := by show _ = _; unfold jnL joinL; rw [if_pos HC.out, if_neg hn, accL_all (by omega)]
          go_wp2
          go_ret2
          rw [HC.out, HJ.out]
          exact ⟨rfl, rfl⟩
end Go.Proofs.YtoojeehgkejeeaaDoor
