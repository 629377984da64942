/-
  TopIds ANSWERS true: the walk.
-/
import Derived.Test.YtoadlnojcbkdgaaIj
namespace Go.Proofs.Ytoadlnojcbkdgaa
open Go.RowKit

set_option maxHeartbeats 400000 in
theorem is_err (n : Int) (hn : 0 < n) (w : World) : Calls Try.prog 34 #[.iface 60 (.int .i64 n), .int .i64 n] w fun e w' => e = .returned (.bool true) ∧ w = w' := by
  have ha := assert60
  go_enter Try.func34, Try.ntmps34
  go_wp2
  go_ret
  exact ⟨rfl, rfl⟩
theorem rgs_one (w : World) (i o n : Int) : Rgs (w.alloc (.cells #[.int .i64 i, .int .i64 o, .int .i64 n] 53)) (some ⟨w.heap.size, 0, none⟩) [⟨i, o, n⟩] := by
  refine .inr ⟨_, _, rfl, fun k r hk => ?_⟩
  have hk0 : k = 0 := by have := (List.getElem?_eq_some_iff.1 hk).1; simpa using this
  subst hk0
  have e : r = ⟨i, o, n⟩ := by simpa using hk.symm
  subst e
  exact ⟨World.cell?_alloc_at _ _ _ _ rfl, World.cell?_alloc_at _ _ _ _ rfl, World.cell?_alloc_at _ _ _ _ rfl⟩
theorem one_ok : ∀ r ∈ [(⟨0, 1000, 10⟩ : Rg)], r.ok := by
  intro r hr
  have e : r = ⟨0, 1000, 10⟩ := by simpa using hr
  subst e; unfold Rg.ok I64; dsimp only; omega
theorem one_to : toM [⟨0, 1000, 10⟩] 5 = some 1005 := by decide +kernel

set_option maxRecDepth 100000 in
set_option maxHeartbeats 2000000 in
theorem topIds_long (a b : Option Addr) (c1 c2 : Nat) (x : Int) (rs ss : List Rg) (w : World) (hl : 6 < rs.length ∨ rs.length ≤ 6 ∧ 6 < ss.length) :
    Calls Try.prog 5 #[.slice a rs.length c1, .slice b ss.length c2, .int .i64 x] w fun e w' => e = .returned (.bool true) ∧ Below w.heap.size w w' := by
  rcases hl with hl | ⟨hl, hl'⟩
  · have d1 : decide (6 < (rs.length : Int)) = true := by simp; omega
    go_enter Try.func5, Try.ntmps5
    go_wp2_with fail
    refine (toHost_any _ 1 [⟨0, 1000, 10⟩] 5 _ (by simp) (by simp) one_ok ⟨by omega, by omega⟩ (rgs_one w 0 1000 10)).mono ?_
    rintro e w1 ⟨rfl, hB1⟩
    rw [one_to]
    have hB : Below w.heap.size w w1 := ((Below.refl _ _).alloc (Nat.le_refl _) _).trans (hB1.mono (by simp))
    clear hB1
    dsimp only [optV, Option.getD, Option.isSome]
    go_wp2
    go_ret
    exact ⟨rfl, hB⟩
  · have d1 : decide (6 < (rs.length : Int)) = false := by simp; omega
    have d2 : decide (6 < (ss.length : Int)) = true := by simp; omega
    go_enter Try.func5, Try.ntmps5
    go_wp2_with fail
    refine (toHost_any _ 1 [⟨0, 1000, 10⟩] 5 _ (by simp) (by simp) one_ok ⟨by omega, by omega⟩ (rgs_one w 0 1000 10)).mono ?_
    rintro e w1 ⟨rfl, hB1⟩
    rw [one_to]
    have hB : Below w.heap.size w w1 := ((Below.refl _ _).alloc (Nat.le_refl _) _).trans (hB1.mono (by simp))
    clear hB1
    dsimp only [optV, Option.getD, Option.isSome]
    go_wp2
    go_ret
    exact ⟨rfl, hB⟩

set_option maxRecDepth 100000 in
set_option maxHeartbeats 2000000 in
theorem topIds_bad (a b : Option Addr) (c1 c2 : Nat) (x : Int) (rs ss : List Rg) (w : World) (hl1 : rs.length ≤ 6) (hl2 : ss.length ≤ 6) (hc1 : rs.length ≤ c1) (_hc2 : ss.length ≤ c2) (hok : ∀ r ∈ rs, r.ok) (_hok2 : ∀ r ∈ ss, r.ok) (hx : I64 x) (h : Rgs w a rs) (_h2 : Rgs w b ss) (n : Int) (HN : Hid (mapF rs = n)) (hn0 : n ≠ 0) :
    Calls Try.prog 5 #[.slice a rs.length c1, .slice b ss.length c2, .int .i64 x] w fun e w' => e = .returned (.bool true) ∧ Below w.heap.size w w' := by
  have d1 : decide (6 < (rs.length : Int)) = false := by simp; omega
  have d2 : decide (6 < (ss.length : Int)) = false := by simp; omega
  have HO : Hid (toM rs x = none) := by show _ = _; unfold toM; rw [if_neg (by rw [HN.out]; exact hn0)]
  go_enter Try.func5, Try.ntmps5
  go_wp2_with fail
  refine (toHost_any _ 1 [⟨0, 1000, 10⟩] 5 _ (by simp) (by simp) one_ok ⟨by omega, by omega⟩ (rgs_one w 0 1000 10)).mono ?_
  rintro e w1 ⟨rfl, hB1⟩
  rw [one_to]
  have hB : Below w.heap.size w w1 := ((Below.refl _ _).alloc (Nat.le_refl _) _).trans (hB1.mono (by simp))
  clear hB1
  dsimp only [optV, Option.getD, Option.isSome]
  go_wp2_with fail
  refine (toHost_any a c1 rs x _ (by omega) hc1 hok hx (h.below hB)).mono ?_
  rintro e w2 ⟨rfl, hB2⟩
  rw [HO.out]
  dsimp only [optV, Option.getD, Option.isSome]
  have hB3 := hB.trans (hB2.mono hB.size)
  clear hB hB2
  go_wp2_with fail
  refine (checkM_any a c1 rs _ (by omega) hc1 hok (h.below hB3)).mono ?_
  rintro e w3 ⟨rfl, hB4⟩
  rw [errV_of HN.out hn0]
  go_wp2
  go_ret
  exact ⟨rfl, hB3.trans (hB4.mono hB3.size)⟩

set_option maxRecDepth 100000 in
set_option maxHeartbeats 2000000 in
theorem topIds_some (a b : Option Addr) (c1 c2 : Nat) (x : Int) (rs ss : List Rg) (w : World) (hl1 : rs.length ≤ 6) (hl2 : ss.length ≤ 6) (hc1 : rs.length ≤ c1) (hc2 : ss.length ≤ c2) (hok : ∀ r ∈ rs, r.ok) (hok2 : ∀ r ∈ ss, r.ok) (hx : I64 x) (h : Rgs w a rs) (h2 : Rgs w b ss) (HM0 : Hid (mapF rs = 0)) (y : Int) (HO : Hid (toM rs x = some y)) :
    Calls Try.prog 5 #[.slice a rs.length c1, .slice b ss.length c2, .int .i64 x] w fun e w' => e = .returned (.bool true) ∧ Below w.heap.size w w' := by
  have d1 : decide (6 < (rs.length : Int)) = false := by simp; omega
  have d2 : decide (6 < (ss.length : Int)) = false := by simp; omega
  have hl1 : rs.length ≤ 100 := by omega
  have hl2 : ss.length ≤ 100 := by omega
  obtain ⟨hC0, hC1, hC2, hCg, _, _⟩ := canon_facts HM0.out
  have HT0 : Hid (mapF (rs.map turnR) = 0) := by show _ = _; rw [turn_mapF]; exact HM0.out
  obtain ⟨_, _, _, hTg, _, _⟩ := canon_facts HT0.out
  have hCl : (canonL rs).length ≤ 100 := Nat.le_trans (joinL_length _) (by rw [sortL_length]; exact hl1)
  have hTl : (canonL (rs.map turnR)).length ≤ 100 := Nat.le_trans (joinL_length _) (by rw [sortL_length]; simpa using hl1)
  have hCok := good_ok hCg
  have hTok := good_ok hTg
  have HC0 : Hid (mapF (canonL rs) = 0) := hC0
  have HC1 : Hid (toM (canonL rs) x = toM rs x) := canon_to HM0.out x
  have HC2 : Hid (canonL (canonL rs) = canonL rs) := hC2
  have HT1 : Hid (toM (canonL (rs.map turnR)) x = fromM rs x) := turn_to HM0.out x
  clear hC0 hC1 hC2 hCg hTg
  obtain ⟨C, HCL⟩ : ∃ C, Hid (canonL rs = C) := ⟨_, rfl⟩
  obtain ⟨T, HTL⟩ : ∃ T, Hid (canonL (rs.map turnR) = T) := ⟨_, rfl⟩
  rw [HCL.out] at hCl hCok HC0 HC1 HC2
  rw [HTL.out] at hTl hTok HT1
  obtain ⟨hfb, hy0, hy1⟩ := there_back HM0.out HO.out
  have HFB : Hid (fromM rs y = some x) := hfb
  have hy64 : I64 y := ⟨by omega, by omega⟩
  rw [HO.out] at HC1
  have dy0 : decide (y < 0) = false := by simp; omega
  have dy1 : decide (65535 < y) = false := by simp; omega
  have dx : (x != x) = false := by simp
  clear hfb
  go_enter Try.func5, Try.ntmps5
  go_wp2_with fail
  refine (toHost_any _ 1 [⟨0, 1000, 10⟩] 5 _ (by simp) (by simp) one_ok ⟨by omega, by omega⟩ (rgs_one w 0 1000 10)).mono ?_
  rintro e w1 ⟨rfl, hB1⟩
  rw [one_to]
  have hB : Below w.heap.size w w1 := ((Below.refl _ _).alloc (Nat.le_refl _) _).trans (hB1.mono (by simp))
  clear hB1
  dsimp only [optV, Option.getD, Option.isSome]
  go_wp2_with fail
  refine (toHost_any a c1 rs x _ (by omega) hc1 hok hx (h.below hB)).mono ?_
  rintro e w2 ⟨rfl, hB2⟩
  rw [HO.out]
  dsimp only [optV, Option.getD, Option.isSome]
  have hB3 := hB.trans (hB2.mono hB.size)
  clear hB hB2
  go_wp2_with fail
  refine (checkM_any a c1 rs _ (by omega) hc1 hok (h.below hB3)).mono ?_
  rintro e w3 ⟨rfl, hB4⟩
  rw [errV_nil HM0.out]
  have hB5 := hB3.trans (hB4.mono hB3.size)
  clear hB3 hB4
  go_wp2_with fail
  refine (fromHost_any a c1 rs y _ hl1 hc1 hok hy64 (h.below hB5)).mono ?_
  rintro e w4 ⟨rfl, hB6⟩
  rw [HFB.out]
  dsimp only [optV, Option.getD, Option.isSome]
  have hB := hB5.trans (hB6.mono hB5.size)
  clear hB5 hB6
  go_wp2_with fail
  -- canon
  refine (canon_good a c1 rs _ hl1 hc1 hok (h.below hB) HM0).mono ?_
  rintro e wc ⟨vc, rfl, hownc, hBc⟩
  obtain ⟨ac, cc, hvc, hcc, _, Rc⟩ := rgs_of_owns0 hownc
  subst hvc
  have hB2 := hB.trans (hBc.mono hB.size)
  clear hownc hB hBc
  go_wp2_with fail
  refine (turn_any a c1 rs _ hl1 hok (h.below hB2) 0 HT0).mono ?_
  rintro e wt ⟨hres, hBt⟩
  rcases hres with ⟨h0, _⟩ | ⟨_, vt, rfl, hownt⟩
  · exact absurd rfl h0
  obtain ⟨at', ct, hvt, hct, _, Rt⟩ := rgs_of_owns0 hownt
  subst hvt
  have hB3 := hB2.trans (hBt.mono hB2.size)
  have Rc3 := Rc.below hBt
  clear hownt hB2 hBt Rc
  rw [HCL.out] at hcc Rc3 ⊢
  rw [HTL.out] at hct Rt ⊢
  go_wp2_with (go_at_call 34; refine (is_nil _).mono ?_; rintro e w' ⟨rfl, rfl⟩)
  refine (toHost_any ac cc C x _ hCl hcc hCok hx Rc3).mono ?_
  rintro e w4 ⟨rfl, hB4⟩
  rw [HC1.out]
  unfold optV
  have hB5 := hB3.trans (hB4.mono hB3.size)
  have Rc5 := Rc3.below hB4
  have Rt5 := Rt.below hB4
  clear hB3 hB4 Rc3 Rt
  go_wp2_with fail
  refine (fromHost_any a c1 rs x _ hl1 hc1 hok hx (h.below hB5)).mono ?_
  rintro e w6 ⟨rfl, hB6⟩
  obtain ⟨f, HF⟩ : ∃ f, Hid (fromM rs x = f) := ⟨_, rfl⟩
  rw [HF.out]
  unfold optV
  have hB7 := hB5.trans (hB6.mono hB5.size)
  have Rc7 := Rc5.below hB6
  have Rt7 := Rt5.below hB6
  clear hB5 hB6 Rc5 Rt5
  go_wp2_with fail
  refine (toHost_any at' ct T x _ hTl hct hTok hx Rt7).mono ?_
  rintro e w8 ⟨rfl, hB8⟩
  rw [HT1.out, HF.out]
  unfold optV
  have hB9 := hB7.trans (hB8.mono hB7.size)
  have Rc9 := Rc7.below hB8
  clear hB7 hB8 Rc7 Rt7
  go_wp2_with fail
  refine (canon_good ac cc C _ hCl hcc hCok Rc9 HC0).mono ?_
  rintro e wa ⟨va, rfl, howna, hBa⟩
  rw [HC2.out] at howna
  obtain ⟨aa, ca, hva, hca, _, Ra⟩ := rgs_of_owns0 howna
  subst hva
  have hB10 := hB9.trans (hBa.mono hB9.size)
  have Rc10 := Rc9.below hBa
  clear howna hB9 hBa Rc9
  have y1 : ((y : Int) != y) = false := by simp
  have y2 : (f.getD 0 != f.getD 0) = false := by simp
  have y3 : (f.isSome != f.isSome) = false := by simp
  have y4 : (true != true) = false := rfl
  go_wp2_with (go_at_call 34; refine (is_nil _).mono ?_; rintro e w' ⟨rfl, rfl⟩)
  refine (sameMap_yes aa ac ca cc C.length C _ rfl hCl Ra Rc10).mono ?_
  rintro e wb ⟨rfl, hBb⟩
  have hB11 := hB10.trans (hBb.mono hB10.size)
  clear hB10 hBb Rc10 Ra y1 y2 y3 y4
  go_wp2_with fail
  -- then
  by_cases hs0 : mapF ss = 0
  · refine (then_good a b c1 c2 rs ss _ hc1 (h.below hB11) HM0 hok hc2 (h2.below hB11) hs0 hok2).mono ?_
    rintro e wd ⟨hres, hBd⟩
    have hB12 := hB11.trans (hBd.mono hB11.size)
    have HS0 : Hid (mapF ss = 0) := hs0
    clear hs0
    rcases hres with ⟨h4, rfl⟩ | ⟨h4, vd, rfl, hownd⟩
    · clear hB11 hBd h4
      unfold errL
      rw [errV_of rfl (by decide)]
      go_wp2_with fail
      refine (checkM_any b c2 ss _ hl2 hc2 hok2 (h2.below hB12)).mono ?_
      rintro e we ⟨rfl, hBe⟩
      rw [errV_nil HS0.out]
      go_wp2_with (go_at_call 34; refine (is_err 2 (by decide) _).mono ?_; rintro e w' ⟨rfl, rfl⟩)
      go_ret
      exact ⟨rfl, hB12.trans (hBe.mono hB12.size)⟩
    · obtain ⟨hd0, hd1⟩ := then_to HM0.out HS0.out h4 x
      obtain ⟨ad, cd, hvd, hcd, _, Rd⟩ := rgs_of_owns0 hownd
      subst hvd
      have hdok : ∀ r ∈ thenL rs ss, r.ok := good_ok (good_of_mapF hd0)
      obtain ⟨z, HZ⟩ : ∃ z, Hid (toM (thenL rs ss) x = z) := ⟨_, rfl⟩
      have HD1 : Hid (z = (toM rs x).bind (toM ss)) := HZ.out.symm.trans hd1
      clear hownd hd0 hd1 hB11 hBd
      have hdl : (thenL rs ss).length ≤ 100 := by omega
      have HD : Hid (toM (thenL rs ss) x = z) := HZ.out
      clear HZ h4
      generalize thenL rs ss = D at HD Rd hcd hdok hdl
      go_wp2_with fail
      refine (toHost_any ad cd D x _ hdl hcd hdok hx Rd).mono ?_
      rintro e we ⟨rfl, hBe⟩
      rw [HD.out]
      unfold optV
      have hB13 := hB12.trans (hBe.mono hB12.size)
      clear hB12 hBe Rd hcd hdok
      go_wp2_with fail
      refine (toHost_any b c2 ss y _ hl2 hc2 hok2 hy64 (h2.below hB13)).mono ?_
      rintro e wf ⟨rfl, hBf⟩
      have HZ2 : Hid (toM ss y = z) := by
        show _ = _; rw [HD1.out, HO.out]; rfl
      rw [HZ2.out]
      unfold optV
      have hB14 := hB13.trans (hBf.mono hB13.size)
      have z1 : (z.getD 0 == z.getD 0) = true := by simp
      have z2 : (z.isSome == z.isSome) = true := by simp
      go_wp2
      go_ret
      exact ⟨rfl, hB14⟩
  · obtain ⟨n, HSn⟩ : ∃ n, Hid (mapF ss = n) := ⟨_, rfl⟩
    have hn0 : n ≠ 0 := by rw [← HSn.out]; exact hs0
    clear hs0
    refine (then_bad2 a b c1 c2 rs ss _ hl1 hc1 hok (h.below hB11) HM0 hl2 hc2 hok2 (h2.below hB11) n HSn hn0).mono ?_
    rintro e wd ⟨rfl, hBd⟩
    have hB12 := hB11.trans (hBd.mono hB11.size)
    clear hB11 hBd
    unfold errL
    rw [errV_of rfl hn0]
    go_wp2_with fail
    refine (checkM_any b c2 ss _ hl2 hc2 hok2 (h2.below hB12)).mono ?_
    rintro e we ⟨rfl, hBe⟩
    rw [errV_of HSn.out hn0]
    go_wp2
    go_ret
    exact ⟨rfl, hB12.trans (hBe.mono hB12.size)⟩

set_option maxRecDepth 100000 in
set_option maxHeartbeats 2000000 in
theorem topIds_none (a b : Option Addr) (c1 c2 : Nat) (x : Int) (rs ss : List Rg) (w : World) (hl1 : rs.length ≤ 6) (hl2 : ss.length ≤ 6) (hc1 : rs.length ≤ c1) (hc2 : ss.length ≤ c2) (hok : ∀ r ∈ rs, r.ok) (hok2 : ∀ r ∈ ss, r.ok) (hx : I64 x) (h : Rgs w a rs) (h2 : Rgs w b ss) (HM0 : Hid (mapF rs = 0)) (HO : Hid (toM rs x = none)) :
    Calls Try.prog 5 #[.slice a rs.length c1, .slice b ss.length c2, .int .i64 x] w fun e w' => e = .returned (.bool true) ∧ Below w.heap.size w w' := by
  have d1 : decide (6 < (rs.length : Int)) = false := by simp; omega
  have d2 : decide (6 < (ss.length : Int)) = false := by simp; omega
  have hl1 : rs.length ≤ 100 := by omega
  have hl2 : ss.length ≤ 100 := by omega
  obtain ⟨hC0, hC1, hC2, hCg, _, _⟩ := canon_facts HM0.out
  have HT0 : Hid (mapF (rs.map turnR) = 0) := by show _ = _; rw [turn_mapF]; exact HM0.out
  obtain ⟨_, _, _, hTg, _, _⟩ := canon_facts HT0.out
  have hCl : (canonL rs).length ≤ 100 := Nat.le_trans (joinL_length _) (by rw [sortL_length]; exact hl1)
  have hTl : (canonL (rs.map turnR)).length ≤ 100 := Nat.le_trans (joinL_length _) (by rw [sortL_length]; simpa using hl1)
  have hCok := good_ok hCg
  have hTok := good_ok hTg
  have HC0 : Hid (mapF (canonL rs) = 0) := hC0
  have HC1 : Hid (toM (canonL rs) x = toM rs x) := canon_to HM0.out x
  have HC2 : Hid (canonL (canonL rs) = canonL rs) := hC2
  have HT1 : Hid (toM (canonL (rs.map turnR)) x = fromM rs x) := turn_to HM0.out x
  clear hC0 hC1 hC2 hCg hTg
  obtain ⟨C, HCL⟩ : ∃ C, Hid (canonL rs = C) := ⟨_, rfl⟩
  obtain ⟨T, HTL⟩ : ∃ T, Hid (canonL (rs.map turnR) = T) := ⟨_, rfl⟩
  rw [HCL.out] at hCl hCok HC0 HC1 HC2
  rw [HTL.out] at hTl hTok HT1
  rw [HO.out] at HC1
  go_enter Try.func5, Try.ntmps5
  go_wp2_with fail
  refine (toHost_any _ 1 [⟨0, 1000, 10⟩] 5 _ (by simp) (by simp) one_ok ⟨by omega, by omega⟩ (rgs_one w 0 1000 10)).mono ?_
  rintro e w1 ⟨rfl, hB1⟩
  rw [one_to]
  have hB : Below w.heap.size w w1 := ((Below.refl _ _).alloc (Nat.le_refl _) _).trans (hB1.mono (by simp))
  clear hB1
  dsimp only [optV, Option.getD, Option.isSome]
  go_wp2_with fail
  refine (toHost_any a c1 rs x _ (by omega) hc1 hok hx (h.below hB)).mono ?_
  rintro e w2 ⟨rfl, hB2⟩
  rw [HO.out]
  dsimp only [optV, Option.getD, Option.isSome]
  have hB3 := hB.trans (hB2.mono hB.size)
  clear hB hB2
  go_wp2_with fail
  refine (checkM_any a c1 rs _ (by omega) hc1 hok (h.below hB3)).mono ?_
  rintro e w3 ⟨rfl, hB4⟩
  rw [errV_nil HM0.out]
  have hB := hB3.trans (hB4.mono hB3.size)
  clear hB3 hB4
  go_wp2_with fail
  -- canon
  refine (canon_good a c1 rs _ hl1 hc1 hok (h.below hB) HM0).mono ?_
  rintro e wc ⟨vc, rfl, hownc, hBc⟩
  obtain ⟨ac, cc, hvc, hcc, _, Rc⟩ := rgs_of_owns0 hownc
  subst hvc
  have hB2 := hB.trans (hBc.mono hB.size)
  clear hownc hB hBc
  go_wp2_with fail
  refine (turn_any a c1 rs _ hl1 hok (h.below hB2) 0 HT0).mono ?_
  rintro e wt ⟨hres, hBt⟩
  rcases hres with ⟨h0, _⟩ | ⟨_, vt, rfl, hownt⟩
  · exact absurd rfl h0
  obtain ⟨at', ct, hvt, hct, _, Rt⟩ := rgs_of_owns0 hownt
  subst hvt
  have hB3 := hB2.trans (hBt.mono hB2.size)
  have Rc3 := Rc.below hBt
  clear hownt hB2 hBt Rc
  rw [HCL.out] at hcc Rc3 ⊢
  rw [HTL.out] at hct Rt ⊢
  go_wp2_with (go_at_call 34; refine (is_nil _).mono ?_; rintro e w' ⟨rfl, rfl⟩)
  refine (toHost_any ac cc C x _ hCl hcc hCok hx Rc3).mono ?_
  rintro e w4 ⟨rfl, hB4⟩
  rw [HC1.out]
  unfold optV
  have hB5 := hB3.trans (hB4.mono hB3.size)
  have Rc5 := Rc3.below hB4
  have Rt5 := Rt.below hB4
  clear hB3 hB4 Rc3 Rt
  go_wp2_with fail
  refine (fromHost_any a c1 rs x _ hl1 hc1 hok hx (h.below hB5)).mono ?_
  rintro e w6 ⟨rfl, hB6⟩
  obtain ⟨f, HF⟩ : ∃ f, Hid (fromM rs x = f) := ⟨_, rfl⟩
  rw [HF.out]
  unfold optV
  have hB7 := hB5.trans (hB6.mono hB5.size)
  have Rc7 := Rc5.below hB6
  have Rt7 := Rt5.below hB6
  clear hB5 hB6 Rc5 Rt5
  go_wp2_with fail
  refine (toHost_any at' ct T x _ hTl hct hTok hx Rt7).mono ?_
  rintro e w8 ⟨rfl, hB8⟩
  rw [HT1.out, HF.out]
  unfold optV
  have hB9 := hB7.trans (hB8.mono hB7.size)
  have Rc9 := Rc7.below hB8
  clear hB7 hB8 Rc7 Rt7
  go_wp2_with fail
  refine (canon_good ac cc C _ hCl hcc hCok Rc9 HC0).mono ?_
  rintro e wa ⟨va, rfl, howna, hBa⟩
  rw [HC2.out] at howna
  obtain ⟨aa, ca, hva, hca, _, Ra⟩ := rgs_of_owns0 howna
  subst hva
  have hB10 := hB9.trans (hBa.mono hB9.size)
  have Rc10 := Rc9.below hBa
  clear howna hB9 hBa Rc9
  have y1 : ((0 : Int) != 0) = false := by simp
  have y2 : (f.getD 0 != f.getD 0) = false := by simp
  have y3 : (f.isSome != f.isSome) = false := by simp
  have y4 : (false != false) = false := rfl
  go_wp2_with (go_at_call 34; refine (is_nil _).mono ?_; rintro e w' ⟨rfl, rfl⟩)
  refine (sameMap_yes aa ac ca cc C.length C _ rfl hCl Ra Rc10).mono ?_
  rintro e wb ⟨rfl, hBb⟩
  have hB11 := hB10.trans (hBb.mono hB10.size)
  clear hB10 hBb Rc10 Ra y1 y2 y3 y4
  go_wp2_with fail
  -- then
  by_cases hs0 : mapF ss = 0
  · refine (then_good a b c1 c2 rs ss _ hc1 (h.below hB11) HM0 hok hc2 (h2.below hB11) hs0 hok2).mono ?_
    rintro e wd ⟨hres, hBd⟩
    have hB12 := hB11.trans (hBd.mono hB11.size)
    have HS0 : Hid (mapF ss = 0) := hs0
    clear hs0
    rcases hres with ⟨h4, rfl⟩ | ⟨h4, vd, rfl, hownd⟩
    · clear hB11 hBd h4
      unfold errL
      rw [errV_of rfl (by decide)]
      go_wp2_with fail
      refine (checkM_any b c2 ss _ hl2 hc2 hok2 (h2.below hB12)).mono ?_
      rintro e we ⟨rfl, hBe⟩
      rw [errV_nil HS0.out]
      go_wp2_with (go_at_call 34; refine (is_err 2 (by decide) _).mono ?_; rintro e w' ⟨rfl, rfl⟩)
      go_ret
      exact ⟨rfl, hB12.trans (hBe.mono hB12.size)⟩
    · obtain ⟨hd0, hd1⟩ := then_to HM0.out HS0.out h4 x
      obtain ⟨ad, cd, hvd, hcd, _, Rd⟩ := rgs_of_owns0 hownd
      subst hvd
      have hdok : ∀ r ∈ thenL rs ss, r.ok := good_ok (good_of_mapF hd0)
      obtain ⟨z, HZ⟩ : ∃ z, Hid (toM (thenL rs ss) x = z) := ⟨_, rfl⟩
      have HD1 : Hid (z = (toM rs x).bind (toM ss)) := HZ.out.symm.trans hd1
      clear hownd hd0 hd1 hB11 hBd
      have hdl : (thenL rs ss).length ≤ 100 := by omega
      have HD : Hid (toM (thenL rs ss) x = z) := HZ.out
      clear HZ h4
      generalize thenL rs ss = D at HD Rd hcd hdok hdl
      go_wp2_with fail
      refine (toHost_any ad cd D x _ hdl hcd hdok hx Rd).mono ?_
      rintro e we ⟨rfl, hBe⟩
      rw [HD.out]
      unfold optV
      have hB13 := hB12.trans (hBe.mono hB12.size)
      clear hB12 hBe Rd hcd hdok
      have HZ2 : z = none := by rw [HD1.out, HO.out]; rfl
      subst HZ2
      go_wp2
      go_ret
      exact ⟨rfl, hB13⟩
  · obtain ⟨n, HSn⟩ : ∃ n, Hid (mapF ss = n) := ⟨_, rfl⟩
    have hn0 : n ≠ 0 := by rw [← HSn.out]; exact hs0
    clear hs0
    refine (then_bad2 a b c1 c2 rs ss _ hl1 hc1 hok (h.below hB11) HM0 hl2 hc2 hok2 (h2.below hB11) n HSn hn0).mono ?_
    rintro e wd ⟨rfl, hBd⟩
    have hB12 := hB11.trans (hBd.mono hB11.size)
    clear hB11 hBd
    unfold errL
    rw [errV_of rfl hn0]
    go_wp2_with fail
    refine (checkM_any b c2 ss _ hl2 hc2 hok2 (h2.below hB12)).mono ?_
    rintro e we ⟨rfl, hBe⟩
    rw [errV_of HSn.out hn0]
    go_wp2
    go_ret
    exact ⟨rfl, hB12.trans (hBe.mono hB12.size)⟩
end Go.Proofs.Ytoadlnojcbkdgaa
