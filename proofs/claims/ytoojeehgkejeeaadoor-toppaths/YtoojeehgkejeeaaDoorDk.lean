/-
  TopPaths ANSWERS true: the walk.
-/
import Derived.Test.YtoojeehgkejeeaaDoorDj
namespace Go.Proofs.YtoojeehgkejeeaaDoor
open Go.RowKit

theorem cell1_below {w w' : World} {m : Int} (hm : w.cell? ⟨1, 0, none⟩ = some (.int .i64 m)) (hb : Below w.heap.size w w') : w'.cell? ⟨1, 0, none⟩ = some (.int .i64 m) :=
  (hb.cell (p := ⟨1, 0, none⟩) (World.block_lt_of_cell? _ _ hm)).trans hm
theorem under_n (a b : Option Addr) (c1 c2 n k : Nat) (xs ys : List ByteArray) (w : World) (hn : xs.length = n) (hk : ys.length = k) (hl1 : n ≤ 100) (hl2 : k ≤ 100) (h : Strs w a xs) (h' : Strs w b ys) (t : Bool) (ht : underB xs ys = t) :
    Calls Tryd.prog 18 #[.slice a n c1, .slice b k c2] w fun e w' => e = .returned (.bool t) ∧ w = w' := by
  subst hn hk ht
  exact under_any a b c1 c2 xs ys w hl1 hl2 h h'
theorem under_take (S : List ByteArray) (k : Nat) : underB (S.take k) S = true := by
  unfold underB
  refine decide_eq_true ?_
  rw [List.length_take]
  by_cases h : k ≤ S.length
  · rw [Nat.min_eq_left h]
  · rw [Nat.min_eq_right (by omega), List.take_of_length_le (by omega), List.take_of_length_le (Nat.le_refl _)]
theorem under_short (S : List ByteArray) (k : Nat) (h : k < S.length) : underB S (S.take k) = false := by
  unfold underB
  refine decide_eq_false fun e => ?_
  have := congrArg List.length e
  simp at this; omega

set_option maxRecDepth 100000 in
set_option maxHeartbeats 4000000 in
theorem topPaths_long (a : Option Addr) (c1 : Nat) (xs : List ByteArray) (s : ByteArray) (w : World) (h : 12 < xs.length ∨ xs.length ≤ 12 ∧ 300 < s.size) :
    Calls Tryd.prog 5 #[.slice a xs.length c1, .string s] w fun e w' => e = .returned (.bool true) ∧ Below w.heap.size w w' := by
  rcases h with h | ⟨h, h'⟩
  · have d1 : decide (12 < (xs.length : Int)) = true := decide_eq_true (by omega)
    go_enter Tryd.func5, Tryd.ntmps5
    go_wp2
    go_ret
    exact ⟨rfl, Below.refl _ _⟩
  · have d1 : decide (12 < (xs.length : Int)) = false := decide_eq_false (by omega)
    have d2 : decide (300 < (s.size : Int)) = true := decide_eq_true (by omega)
    go_enter Tryd.func5, Tryd.ntmps5
    go_wp2
    go_ret
    exact ⟨rfl, Below.refl _ _⟩

set_option maxRecDepth 100000 in
set_option maxHeartbeats 4000000 in
theorem topPaths_short (a : Option Addr) (c1 : Nat) (xs : List ByteArray) (s : ByteArray) (w : World) (m : Int) (hm : w.cell? ⟨1, 0, none⟩ = some (.int .i64 m)) (hc1 : xs.length ≤ c1) (h : Strs w a xs) (hx12 : xs.length ≤ 12) (h3 : s.size ≤ 300) :
    Calls Tryd.prog 5 #[.slice a xs.length c1, .string s] w fun e w' => e = .returned (.bool true) ∧ Below w.heap.size w w' := by
  have d1 : decide (12 < (xs.length : Int)) = false := decide_eq_false (by omega)
  have d2 : decide (300 < (s.size : Int)) = false := decide_eq_false (by omega)
  go_enter Tryd.func5, Tryd.ntmps5
  go_wp2
  go_loop [5] (fun i => ∃ k : Nat, k ≤ xs.length ∧ i = .int .i64 k) (fun i => xs.length - (intOf i).toNat)
  case atStart => exact ⟨0, Nat.zero_le _, rfl⟩
  case round =>
    obtain ⟨k, hk, rfl⟩ := hrel
    by_cases hlt : k < xs.length
    · rcases h with rfl | ⟨b, off, rfl, hc⟩
      · simp at hlt
      · obtain ⟨x, hx⟩ : ∃ x, xs[k]? = some x := ⟨xs[k], by simp [hlt]⟩
        have hck := hc k x hx
        have hki : (k : Int) < (xs.length : Int) := by omega
        clear hx hc
        by_cases h60 : 60 < x.size
        · have d60 : decide (60 < (x.size : Int)) = true := decide_eq_true (by omega)
          go_wp2
          go_ret
          exact ⟨rfl, Below.refl _ _⟩
        · have d60 : decide (60 < (x.size : Int)) = false := decide_eq_false (by omega)
          go_wp2
          go_round
          case rel => exact ⟨k + 1, by omega, by go_num⟩
          case measure => simp [intOf]; omega
    · have hkk : k = xs.length := by omega
      subst hkk
      go_wp2_with fail
      by_cases hc : chkF xs = 0
      · obtain ⟨hp0, hpL⟩ := names_path hc
        refine (join_any a c1 xs _ (by omega) hc1 h).mono ?_
        rintro e w1 ⟨rfl, hB1⟩
        rw [errV_nil hc]
        have HP0 : Hid (spF (mkB (jnL xs)).data.toList = 0) := hp0
        have HPL : Hid (spL (mkB (jnL xs)).data.toList = xs) := hpL
        clear hp0 hpL hc
        generalize mkB (jnL xs) = P at HP0 HPL ⊢
        go_wp2_with fail
        refine (split_any P _ m (cell1_below hm hB1)).mono ?_
        rintro e w2 ⟨⟨ao, cp, rfl, _, _, hR⟩, hb⟩
        have hB2 := hB1.trans (hb.mono hB1.size)
        rw [HPL.out] at hR
        rw [HP0.out, HPL.out, errV_nil rfl]
        clear hb hB1 HP0 HPL
        go_wp2_with fail
        refine (sameNames_any ao a cp c1 xs.length xs.length xs xs _ rfl rfl (by omega) (by omega) hR (h.below hB2)).mono ?_
        rintro e w3 ⟨rfl, hb⟩
        have hB := hB2.trans (hb.mono hB2.size)
        rw [show decide (xs = xs) = true from decide_eq_true rfl]
        clear hb hB2 hR
        go_wp2_with fail
        refine (split_any s _ m (cell1_below hm hB)).mono ?_
        rintro e w4 ⟨⟨ax, cx, rfl, hxc, hxm, hX⟩, hb⟩
        have hB4 := hB.trans (hb.mono hB.size)
        clear hb hB
        by_cases hs0 : spF s.data.toList = 0
        · obtain ⟨hq0, hq1⟩ := path_names hs0
          have HJ : Hid (mkB (jnL (spL s.data.toList)) = s) := by show _ = _; rw [hq1, data_mkB]
          have hS80 := spL_length s.data.toList
          rw [errV_nil hs0]
          clear hs0 hq1
          generalize spL s.data.toList = S at hxc hX HJ hS80 hq0 ⊢
          go_wp2_with fail
          refine (join_any ax cx S _ (by omega) hxc hX).mono ?_
          rintro e w5 ⟨rfl, hb⟩
          have hB5 := hB4.trans (hb.mono hB4.size)
          have hX5 := hX.below hb
          rw [HJ.out, errV_nil hq0]
          clear hb hB4 hX hq0 HJ
          have y1 : (s.toList == s.toList) = true := by simp
          go_wp2
          go_loop [13] (fun i => ∃ k : Nat, k ≤ S.length + 1 ∧ i = .int .i64 k) (fun i => S.length + 1 - (intOf i).toNat)
          case atStart => exact ⟨0, Nat.zero_le _, rfl⟩
          case round =>
            obtain ⟨j, hj, rfl⟩ := hrel
            by_cases hjl : j ≤ S.length
            · have dj : decide ((j : Int) ≤ (S.length : Int)) = true := decide_eq_true (by omega)
              go_wp2_with fail
              refine (under_n ax ax cx cx j S.length (S.take j) S _ (by simp; omega) rfl (by omega) (by omega) (hX5.take j) hX5 true (under_take S j)).mono ?_
              rintro e w' ⟨rfl, rfl⟩
              by_cases hjs : j < S.length
              · have dj2 : decide ((j : Int) < (S.length : Int)) = true := decide_eq_true (by omega)
                go_wp2_with fail
                refine (under_n ax ax cx cx S.length j S (S.take j) _ rfl (by simp; omega) (by omega) (by omega) hX5 (hX5.take j) false (under_short S j hjs)).mono ?_
                rintro e w' ⟨rfl, rfl⟩
                go_wp2
                go_round
                case rel => exact ⟨j + 1, by omega, by go_num⟩
                case measure => simp [intOf]; omega
              · have dj2 : decide ((j : Int) < (S.length : Int)) = false := decide_eq_false (by omega)
                go_wp2
                go_round
                case rel => exact ⟨j + 1, by omega, by go_num⟩
                case measure => simp [intOf]; omega
            · have dj : decide ((j : Int) ≤ (S.length : Int)) = false := decide_eq_false (by omega)
              go_wp2
              go_ret
              exact ⟨rfl, hB5⟩
        · have HL := spL_bad hs0
          rw [errV_of rfl hs0, HL]
          go_wp2
          go_ret
          exact ⟨rfl, hB4⟩
      · refine (join_any a c1 xs _ (by omega) hc1 h).mono ?_
        rintro e w1 ⟨rfl, hB⟩
        rw [errV_of rfl hc]
        go_wp2_with fail
        refine (split_any s _ m (cell1_below hm hB)).mono ?_
        rintro e w4 ⟨⟨ax, cx, rfl, hxc, hxm, hX⟩, hb⟩
        have hB4 := hB.trans (hb.mono hB.size)
        clear hb hB
        by_cases hs0 : spF s.data.toList = 0
        · obtain ⟨hq0, hq1⟩ := path_names hs0
          have HJ : Hid (mkB (jnL (spL s.data.toList)) = s) := by show _ = _; rw [hq1, data_mkB]
          have hS80 := spL_length s.data.toList
          rw [errV_nil hs0]
          clear hs0 hq1
          generalize spL s.data.toList = S at hxc hX HJ hS80 hq0 ⊢
          go_wp2_with fail
          refine (join_any ax cx S _ (by omega) hxc hX).mono ?_
          rintro e w5 ⟨rfl, hb⟩
          have hB5 := hB4.trans (hb.mono hB4.size)
          have hX5 := hX.below hb
          rw [HJ.out, errV_nil hq0]
          clear hb hB4 hX hq0 HJ
          have y1 : (s.toList == s.toList) = true := by simp
          go_wp2
          go_loop [13] (fun i => ∃ k : Nat, k ≤ S.length + 1 ∧ i = .int .i64 k) (fun i => S.length + 1 - (intOf i).toNat)
          case atStart => exact ⟨0, Nat.zero_le _, rfl⟩
          case round =>
            obtain ⟨j, hj, rfl⟩ := hrel
            by_cases hjl : j ≤ S.length
            · have dj : decide ((j : Int) ≤ (S.length : Int)) = true := decide_eq_true (by omega)
              go_wp2_with fail
              refine (under_n ax ax cx cx j S.length (S.take j) S _ (by simp; omega) rfl (by omega) (by omega) (hX5.take j) hX5 true (under_take S j)).mono ?_
              rintro e w' ⟨rfl, rfl⟩
              by_cases hjs : j < S.length
              · have dj2 : decide ((j : Int) < (S.length : Int)) = true := decide_eq_true (by omega)
                go_wp2_with fail
                refine (under_n ax ax cx cx S.length j S (S.take j) _ rfl (by simp; omega) (by omega) (by omega) hX5 (hX5.take j) false (under_short S j hjs)).mono ?_
                rintro e w' ⟨rfl, rfl⟩
                go_wp2
                go_round
                case rel => exact ⟨j + 1, by omega, by go_num⟩
                case measure => simp [intOf]; omega
              · have dj2 : decide ((j : Int) < (S.length : Int)) = false := decide_eq_false (by omega)
                go_wp2
                go_round
                case rel => exact ⟨j + 1, by omega, by go_num⟩
                case measure => simp [intOf]; omega
            · have dj : decide ((j : Int) ≤ (S.length : Int)) = false := decide_eq_false (by omega)
              go_wp2
              go_ret
              exact ⟨rfl, hB5⟩
        · have HL := spL_bad hs0
          rw [errV_of rfl hs0, HL]
          go_wp2
          go_ret
          exact ⟨rfl, hB4⟩
end Go.Proofs.YtoojeehgkejeeaaDoor
