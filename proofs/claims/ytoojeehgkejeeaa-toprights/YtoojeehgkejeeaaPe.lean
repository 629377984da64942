/-
  TopRights ANSWERS true: the walk.
-/
import Derived.Test.YtoojeehgkejeeaaPd
namespace Go.Proofs.Ytoojeehgkejeeaa
open Go.RowKit

theorem up_yes : mayB 5 0 [] 0 false 256 5 0 true 4 = true := by decide +kernel

set_option maxRecDepth 100000 in
set_option maxHeartbeats 4000000 in
theorem topRights_out (u g c : Int) (ad : Option Addr) (n cap : Nat) (d : Bool) (m tu tg : Int) (mp : Bool) (dd : Bool) (dm du dg : Int) (dmp : Bool) (a b more : Int) (w : World) (hout : a < 0 ∨ 7 < a ∨ b < 0 ∨ 7 < b ∨ m < 0 ∨ 4095 < m ∨ more < 0 ∨ 15 < more ∨ c < 0 ∨ 15 < c ∨ dm < 0 ∨ 4095 < dm) :
    Calls Try.prog 8 #[.agg #[.int .i64 u, .int .i64 g, .slice ad n cap, .int .i64 c], .agg #[.bool d, .int .i64 m, .int .i64 tu, .int .i64 tg, .bool mp], .agg #[.bool dd, .int .i64 dm, .int .i64 du, .int .i64 dg, .bool dmp], .int .i64 a, .int .i64 b, .int .i64 more] w fun e w' =>
      e = .returned (.bool true) ∧ Below w.heap.size w w' := by
  by_cases ha : a < 0
  · have dec_a : decide (a < 0) = true := by simpa using ha
    go_enter Try.func8, Try.ntmps8
    go_wp2_with fail
    refine (may_any 5 0 0 none 0 [] false 256 5 0 true 4 _ (by simp) (.inl rfl) (by decide) (by decide)).mono ?_
    rintro e w1 ⟨rfl, hb⟩
    rw [up_yes]
    obtain ⟨hX, hT, hD, hB⟩ := three_new w w1 u g _ c d m tu tg mp dd dm du dg dmp hb
    obtain ⟨k0, k1, k2, k3, k4⟩ := hX
    clear hb
    obtain ⟨j0, j1, j2, j3, j4⟩ := hT
    obtain ⟨l0, l1, l2, l3, l4⟩ := hD
    go_wp2
    go_ret
    exact ⟨rfl, hB⟩
  have dec_a : decide (a < 0) = false := by simpa using ha
  by_cases ha7 : 7 < a
  · have dec_a7 : decide (7 < a) = true := by simpa using ha7
    go_enter Try.func8, Try.ntmps8
    go_wp2_with fail
    refine (may_any 5 0 0 none 0 [] false 256 5 0 true 4 _ (by simp) (.inl rfl) (by decide) (by decide)).mono ?_
    rintro e w1 ⟨rfl, hb⟩
    rw [up_yes]
    obtain ⟨hX, hT, hD, hB⟩ := three_new w w1 u g _ c d m tu tg mp dd dm du dg dmp hb
    obtain ⟨k0, k1, k2, k3, k4⟩ := hX
    clear hb
    obtain ⟨j0, j1, j2, j3, j4⟩ := hT
    obtain ⟨l0, l1, l2, l3, l4⟩ := hD
    go_wp2
    go_ret
    exact ⟨rfl, hB⟩
  have dec_a7 : decide (7 < a) = false := by simpa using ha7
  by_cases hb : b < 0
  · have dec_b : decide (b < 0) = true := by simpa using hb
    go_enter Try.func8, Try.ntmps8
    go_wp2_with fail
    refine (may_any 5 0 0 none 0 [] false 256 5 0 true 4 _ (by simp) (.inl rfl) (by decide) (by decide)).mono ?_
    rintro e w1 ⟨rfl, hb⟩
    rw [up_yes]
    obtain ⟨hX, hT, hD, hB⟩ := three_new w w1 u g _ c d m tu tg mp dd dm du dg dmp hb
    obtain ⟨k0, k1, k2, k3, k4⟩ := hX
    clear hb
    obtain ⟨j0, j1, j2, j3, j4⟩ := hT
    obtain ⟨l0, l1, l2, l3, l4⟩ := hD
    go_wp2
    go_ret
    exact ⟨rfl, hB⟩
  have dec_b : decide (b < 0) = false := by simpa using hb
  by_cases hb7 : 7 < b
  · have dec_b7 : decide (7 < b) = true := by simpa using hb7
    go_enter Try.func8, Try.ntmps8
    go_wp2_with fail
    refine (may_any 5 0 0 none 0 [] false 256 5 0 true 4 _ (by simp) (.inl rfl) (by decide) (by decide)).mono ?_
    rintro e w1 ⟨rfl, hb⟩
    rw [up_yes]
    obtain ⟨hX, hT, hD, hB⟩ := three_new w w1 u g _ c d m tu tg mp dd dm du dg dmp hb
    obtain ⟨k0, k1, k2, k3, k4⟩ := hX
    clear hb
    obtain ⟨j0, j1, j2, j3, j4⟩ := hT
    obtain ⟨l0, l1, l2, l3, l4⟩ := hD
    go_wp2
    go_ret
    exact ⟨rfl, hB⟩
  have dec_b7 : decide (7 < b) = false := by simpa using hb7
  by_cases hm : m < 0
  · have dec_m : decide (m < 0) = true := by simpa using hm
    go_enter Try.func8, Try.ntmps8
    go_wp2_with fail
    refine (may_any 5 0 0 none 0 [] false 256 5 0 true 4 _ (by simp) (.inl rfl) (by decide) (by decide)).mono ?_
    rintro e w1 ⟨rfl, hb⟩
    rw [up_yes]
    obtain ⟨hX, hT, hD, hB⟩ := three_new w w1 u g _ c d m tu tg mp dd dm du dg dmp hb
    obtain ⟨k0, k1, k2, k3, k4⟩ := hX
    clear hb
    obtain ⟨j0, j1, j2, j3, j4⟩ := hT
    obtain ⟨l0, l1, l2, l3, l4⟩ := hD
    go_wp2
    go_ret
    exact ⟨rfl, hB⟩
  have dec_m : decide (m < 0) = false := by simpa using hm
  by_cases hm7 : 4095 < m
  · have dec_m7 : decide (4095 < m) = true := by simpa using hm7
    go_enter Try.func8, Try.ntmps8
    go_wp2_with fail
    refine (may_any 5 0 0 none 0 [] false 256 5 0 true 4 _ (by simp) (.inl rfl) (by decide) (by decide)).mono ?_
    rintro e w1 ⟨rfl, hb⟩
    rw [up_yes]
    obtain ⟨hX, hT, hD, hB⟩ := three_new w w1 u g _ c d m tu tg mp dd dm du dg dmp hb
    obtain ⟨k0, k1, k2, k3, k4⟩ := hX
    clear hb
    obtain ⟨j0, j1, j2, j3, j4⟩ := hT
    obtain ⟨l0, l1, l2, l3, l4⟩ := hD
    go_wp2
    go_ret
    exact ⟨rfl, hB⟩
  have dec_m7 : decide (4095 < m) = false := by simpa using hm7
  by_cases he : more < 0
  · have dec_e : decide (more < 0) = true := by simpa using he
    go_enter Try.func8, Try.ntmps8
    go_wp2_with fail
    refine (may_any 5 0 0 none 0 [] false 256 5 0 true 4 _ (by simp) (.inl rfl) (by decide) (by decide)).mono ?_
    rintro e w1 ⟨rfl, hb⟩
    rw [up_yes]
    obtain ⟨hX, hT, hD, hB⟩ := three_new w w1 u g _ c d m tu tg mp dd dm du dg dmp hb
    obtain ⟨k0, k1, k2, k3, k4⟩ := hX
    clear hb
    obtain ⟨j0, j1, j2, j3, j4⟩ := hT
    obtain ⟨l0, l1, l2, l3, l4⟩ := hD
    go_wp2
    go_ret
    exact ⟨rfl, hB⟩
  have dec_e : decide (more < 0) = false := by simpa using he
  by_cases he7 : 15 < more
  · have dec_e7 : decide (15 < more) = true := by simpa using he7
    go_enter Try.func8, Try.ntmps8
    go_wp2_with fail
    refine (may_any 5 0 0 none 0 [] false 256 5 0 true 4 _ (by simp) (.inl rfl) (by decide) (by decide)).mono ?_
    rintro e w1 ⟨rfl, hb⟩
    rw [up_yes]
    obtain ⟨hX, hT, hD, hB⟩ := three_new w w1 u g _ c d m tu tg mp dd dm du dg dmp hb
    obtain ⟨k0, k1, k2, k3, k4⟩ := hX
    clear hb
    obtain ⟨j0, j1, j2, j3, j4⟩ := hT
    obtain ⟨l0, l1, l2, l3, l4⟩ := hD
    go_wp2
    go_ret
    exact ⟨rfl, hB⟩
  have dec_e7 : decide (15 < more) = false := by simpa using he7
  by_cases hc : c < 0
  · have dec_c : decide (c < 0) = true := by simpa using hc
    go_enter Try.func8, Try.ntmps8
    go_wp2_with fail
    refine (may_any 5 0 0 none 0 [] false 256 5 0 true 4 _ (by simp) (.inl rfl) (by decide) (by decide)).mono ?_
    rintro e w1 ⟨rfl, hb⟩
    rw [up_yes]
    obtain ⟨hX, hT, hD, hB⟩ := three_new w w1 u g _ c d m tu tg mp dd dm du dg dmp hb
    obtain ⟨k0, k1, k2, k3, k4⟩ := hX
    clear hb
    obtain ⟨j0, j1, j2, j3, j4⟩ := hT
    obtain ⟨l0, l1, l2, l3, l4⟩ := hD
    go_wp2
    go_ret
    exact ⟨rfl, hB⟩
  have dec_c : decide (c < 0) = false := by simpa using hc
  by_cases hc7 : 15 < c
  · have dec_c7 : decide (15 < c) = true := by simpa using hc7
    go_enter Try.func8, Try.ntmps8
    go_wp2_with fail
    refine (may_any 5 0 0 none 0 [] false 256 5 0 true 4 _ (by simp) (.inl rfl) (by decide) (by decide)).mono ?_
    rintro e w1 ⟨rfl, hb⟩
    rw [up_yes]
    obtain ⟨hX, hT, hD, hB⟩ := three_new w w1 u g _ c d m tu tg mp dd dm du dg dmp hb
    obtain ⟨k0, k1, k2, k3, k4⟩ := hX
    clear hb
    obtain ⟨j0, j1, j2, j3, j4⟩ := hT
    obtain ⟨l0, l1, l2, l3, l4⟩ := hD
    go_wp2
    go_ret
    exact ⟨rfl, hB⟩
  have dec_c7 : decide (15 < c) = false := by simpa using hc7
  by_cases hq : dm < 0
  · have dec_q : decide (dm < 0) = true := by simpa using hq
    go_enter Try.func8, Try.ntmps8
    go_wp2_with fail
    refine (may_any 5 0 0 none 0 [] false 256 5 0 true 4 _ (by simp) (.inl rfl) (by decide) (by decide)).mono ?_
    rintro e w1 ⟨rfl, hb⟩
    rw [up_yes]
    obtain ⟨hX, hT, hD, hB⟩ := three_new w w1 u g _ c d m tu tg mp dd dm du dg dmp hb
    obtain ⟨k0, k1, k2, k3, k4⟩ := hX
    clear hb
    obtain ⟨j0, j1, j2, j3, j4⟩ := hT
    obtain ⟨l0, l1, l2, l3, l4⟩ := hD
    go_wp2
    go_ret
    exact ⟨rfl, hB⟩
  have dec_q : decide (dm < 0) = false := by simpa using hq
  by_cases hq7 : 4095 < dm
  · have dec_q7 : decide (4095 < dm) = true := by simpa using hq7
    go_enter Try.func8, Try.ntmps8
    go_wp2_with fail
    refine (may_any 5 0 0 none 0 [] false 256 5 0 true 4 _ (by simp) (.inl rfl) (by decide) (by decide)).mono ?_
    rintro e w1 ⟨rfl, hb⟩
    rw [up_yes]
    obtain ⟨hX, hT, hD, hB⟩ := three_new w w1 u g _ c d m tu tg mp dd dm du dg dmp hb
    obtain ⟨k0, k1, k2, k3, k4⟩ := hX
    clear hb
    obtain ⟨j0, j1, j2, j3, j4⟩ := hT
    obtain ⟨l0, l1, l2, l3, l4⟩ := hD
    go_wp2
    go_ret
    exact ⟨rfl, hB⟩
  have dec_q7 : decide (4095 < dm) = false := by simpa using hq7
  omega

end Go.Proofs.Ytoojeehgkejeeaa
