/-
  IdmapSays ANSWERS true, where the maps are too long, or the first one is wrong: the walk.
-/
import Derived.Test.YtoadlnojcbkdgaaIr
import Derived.Test.YtoadlnojcbkdgaaIo
namespace Go.Proofs.Ytoadlnojcbkdgaa
open Go.RowKit

set_option maxRecDepth 100000 in
set_option maxHeartbeats 2000000 in
theorem idmap_long (a b : Option Addr) (c1 c2 : Nat) (x : Int) (rs ss : List Rg) (w : World) (hl : 6 < rs.length ∨ rs.length ≤ 6 ∧ 6 < ss.length) :
    Calls Try.prog 3 #[.slice a rs.length c1, .slice b ss.length c2, .int .i64 x] w fun e w' => e = .returned (.bool true) ∧ Below w.heap.size w w' := by
  rcases hl with hl | ⟨hl, hl'⟩
  · have d1 : decide (6 < (rs.length : Int)) = true := by simp; omega
    go_enter Try.func3, Try.ntmps3
    go_wp2_with fail
    refine (shifts_any _).mono ?_
    rintro e w1 ⟨rfl, hB⟩
    go_wp2
    go_ret
    exact ⟨rfl, hB⟩
  · have d1 : decide (6 < (rs.length : Int)) = false := by simp; omega
    have d2 : decide (6 < (ss.length : Int)) = true := by simp; omega
    go_enter Try.func3, Try.ntmps3
    go_wp2_with fail
    refine (shifts_any _).mono ?_
    rintro e w1 ⟨rfl, hB⟩
    go_wp2
    go_ret
    exact ⟨rfl, hB⟩

set_option maxRecDepth 100000 in
set_option maxHeartbeats 4000000 in
theorem idmap_bad (a b : Option Addr) (c1 c2 : Nat) (x : Int) (rs ss : List Rg) (w : World) (hl1 : rs.length ≤ 6) (hl2 : ss.length ≤ 6) (_hc1 : rs.length ≤ c1) (_hc2 : ss.length ≤ c2) (hok : ∀ r ∈ rs, r.ok) (hok2 : ∀ r ∈ ss, r.ok) (hx : I64 x) (h : Rgs w a rs) (h2 : Rgs w b ss) (n m : Int) (HN : Hid (mapF rs = n)) (HG : Hid (mapF ss = m)) (hn0 : n ≠ 0) :
    Calls Try.prog 3 #[.slice a rs.length c1, .slice b ss.length c2, .int .i64 x] w fun e w' => e = .returned (.bool true) ∧ Below w.heap.size w w' := by
  have hn : 0 < n := by have := mapF_nonneg rs; rw [HN.out] at this; omega
  have d0 : decide (0 < n) = true := by simpa using hn
  have HT : Hid (mapF (rs.map turnR) = n) := by show _ = _; rw [turn_mapF]; exact HN.out
  have d1 : decide (6 < (rs.length : Int)) = false := by simp; omega
  have d2 : decide (6 < (ss.length : Int)) = false := by simp; omega
  have hL1 : rs.length ≤ 100 := by omega
  have hL2 : ss.length ≤ 100 := by omega
  clear hl1 hl2
  obtain ⟨ty, HTY⟩ : ∃ t, Hid (toM rs x = t) := ⟨_, rfl⟩
  obtain ⟨fz, HFZ⟩ : ∃ t, Hid (fromM rs x = t) := ⟨_, rfl⟩
  have y1 : (ty.getD 0 != ty.getD 0) = false := by simp
  have y2 : (ty.isSome != ty.isSome) = false := by simp
  have y3 : (fz.getD 0 != fz.getD 0) = false := by simp
  have y4 : (fz.isSome != fz.isSome) = false := by simp
  go_enter Try.func3, Try.ntmps3
  go_wp2_with fail
  refine (shifts_any _).mono ?_
  rintro e w1 ⟨rfl, hb1⟩
  have hB1 := hb1
  clear hb1
  go_wp2_with fail
  refine (ownMap_any a c1 rs _ hL1 (h.below hB1)).mono ?_
  rintro e w2 ⟨am, cm, rfl, hcm, Rm_2, hb2⟩
  have hB2 := hB1.trans (hb2.mono hB1.size)
  clear hB1 hb2
  go_wp2_with fail
  refine (ownMap_any b c2 ss _ hL2 (h2.below hB2)).mono ?_
  rintro e w3 ⟨an, cn, rfl, hcn, Rn_3, hb3⟩
  have hB3 := hB2.trans (hb3.mono hB2.size)
  have Rm_3 := Rm_2.below hb3
  clear Rm_2 hB2 hb3
  go_wp2_with fail
  refine (mapFault_any a c1 rs _ hL1 hok (h.below hB3)).mono ?_
  rintro e w4 ⟨rfl, hb4⟩
  have hB4 := hB3.trans (hb4.mono hB3.size)
  have Rm_4 := Rm_3.below hb4
  have Rn_4 := Rn_3.below hb4
  clear Rm_3 Rn_3 hB3 hb4
  rw [HN.out]
  go_wp2_with fail
  refine (mapFault_any b c2 ss _ hL2 hok2 (h2.below hB4)).mono ?_
  rintro e w5 ⟨rfl, hb5⟩
  have hB5 := hB4.trans (hb5.mono hB4.size)
  have Rm_5 := Rm_4.below hb5
  have Rn_5 := Rn_4.below hb5
  clear Rm_4 Rn_4 hB4 hb5
  rw [HG.out]
  go_wp2_with fail
  refine (toHost_any am cm rs x _ hL1 hcm hok hx Rm_5).mono ?_
  rintro e w6 ⟨rfl, hb6⟩
  have hB6 := hB5.trans (hb6.mono hB5.size)
  have Rm_6 := Rm_5.below hb6
  have Rn_6 := Rn_5.below hb6
  clear Rm_5 Rn_5 hB5 hb6
  rw [HTY.out]
  unfold optV
  go_wp2_with fail
  refine (fromHost_any am cm rs x _ hL1 hcm hok hx Rm_6).mono ?_
  rintro e w7 ⟨rfl, hb7⟩
  have hB7 := hB6.trans (hb7.mono hB6.size)
  have Rm_7 := Rm_6.below hb7
  have Rn_7 := Rn_6.below hb7
  clear Rm_6 Rn_6 hB6 hb7
  rw [HFZ.out]
  unfold optV
  go_wp2_with fail
  refine (rToHost_any a c1 rs x _ hL1 hok hx (h.below hB7) ty HTY).mono ?_
  rintro e w8 ⟨rfl, hb8⟩
  have hB8 := hB7.trans (hb8.mono hB7.size)
  have Rm_8 := Rm_7.below hb8
  have Rn_8 := Rn_7.below hb8
  clear Rm_7 Rn_7 hB7 hb8
  unfold optV
  go_wp2_with fail
  refine (rFromHost_any a c1 rs x _ hL1 hok hx (h.below hB8) fz HFZ).mono ?_
  rintro e w9 ⟨rfl, hb9⟩
  have hB9 := hB8.trans (hb9.mono hB8.size)
  have Rm_9 := Rm_8.below hb9
  have Rn_9 := Rn_8.below hb9
  clear Rm_8 Rn_8 hB8 hb9
  unfold optV
  go_wp2_with fail
  refine (checkM_any am cm rs _ hL1 hcm hok Rm_9).mono ?_
  rintro e w10 ⟨rfl, hb10⟩
  have hB10 := hB9.trans (hb10.mono hB9.size)
  have Rm_10 := Rm_9.below hb10
  have Rn_10 := Rn_9.below hb10
  clear Rm_9 Rn_9 hB9 hb10
  rw [errV_of HN.out hn0]
  go_wp2_with (go_at_call 14; refine (same_err n hn _).mono ?_; rintro e w' ⟨rfl, rfl⟩)
  refine (canon_bad am cm rs _ hL1 hcm hok Rm_10 n HN hn0).mono ?_
  rintro e w11 ⟨rfl, hb11⟩
  have hB11 := hB10.trans (hb11.mono hB10.size)
  have Rm_11 := Rm_10.below hb11
  have Rn_11 := Rn_10.below hb11
  clear Rm_10 Rn_10 hB10 hb11
  unfold errL
  rw [errV_of rfl hn0]
  clear y1 y2 y3 y4
  go_wp2_with fail
  refine (turn_any am cm rs _ hL1 hok Rm_11 n HT).mono ?_
  rintro e w12 ⟨hres, hb12⟩
  have hB12 := hB11.trans (hb12.mono hB11.size)
  have Rm_12 := Rm_11.below hb12
  have Rn_12 := Rn_11.below hb12
  clear Rm_11 Rn_11 hB11 hb12
  rcases hres with ⟨_, rfl⟩ | ⟨h0, _⟩
  rotate_left
  · exact absurd h0 hn0
  unfold errL
  rw [errV_of rfl hn0]
  go_wp2_with fail
  refine (then_bad1 am an cm cn rs ss _ hL1 hcm hok Rm_12 n HN hn0).mono ?_
  rintro e w13 ⟨rfl, hb13⟩
  have hB13 := hB12.trans (hb13.mono hB12.size)
  have Rm_13 := Rm_12.below hb13
  have Rn_13 := Rn_12.below hb13
  clear Rm_12 Rn_12 hB12 hb13
  unfold errL
  rw [errV_of rfl hn0]
  go_wp2_with fail
  refine (sameMap_yes am a cm c1 rs.length rs _ rfl hL1 Rm_13 (h.below hB13)).mono ?_
  rintro e w14 ⟨rfl, hb14⟩
  have hB14 := hB13.trans (hb14.mono hB13.size)
  have Rm_14 := Rm_13.below hb14
  have Rn_14 := Rn_13.below hb14
  clear Rm_13 Rn_13 hB13 hb14
  go_wp2_with fail
  refine (sameMap_yes an b cn c2 ss.length ss _ rfl hL2 Rn_14 (h2.below hB14)).mono ?_
  rintro e w15 ⟨rfl, hb15⟩
  have hB15 := hB14.trans (hb15.mono hB14.size)
  have Rm_15 := Rm_14.below hb15
  have Rn_15 := Rn_14.below hb15
  clear Rm_14 Rn_14 hB14 hb15
  clear Rm_15
  clear Rn_15
  go_wp2_with (go_at_call 14; refine (same_err n hn _).mono ?_; rintro e w' ⟨rfl, rfl⟩)
  go_ret
  exact ⟨rfl, hB15⟩
end Go.Proofs.Ytoadlnojcbkdgaa
