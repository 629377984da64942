/-
  IdmapSays ANSWERS true, where the first map is right and the second one, too: the walk.
-/
import Derived.Test.YtoadlnojcbkdgaaIr
import Derived.Test.YtoadlnojcbkdgaaIo
import Derived.Test.YtoadlnojcbkdgaaIqA
import Derived.Test.YtoadlnojcbkdgaaIqB
import Derived.Test.YtoadlnojcbkdgaaIqC
namespace Go.Proofs.Ytoadlnojcbkdgaa
open Go.RowKit

set_option maxRecDepth 100000 in
set_option maxHeartbeats 4000000 in
theorem idmap_good (a b : Option Addr) (c1 c2 : Nat) (x : Int) (rs ss : List Rg) (w : World) (hl1 : rs.length ≤ 6) (hl2 : ss.length ≤ 6) (_hc1 : rs.length ≤ c1) (_hc2 : ss.length ≤ c2) (hok : ∀ r ∈ rs, r.ok) (hok2 : ∀ r ∈ ss, r.ok) (hx : I64 x) (h : Rgs w a rs) (h2 : Rgs w b ss) (HM0 : Hid (mapF rs = 0)) (HG : Hid (mapF ss = 0)) :
    Calls Try.prog 3 #[.slice a rs.length c1, .slice b ss.length c2, .int .i64 x] w fun e w' => e = .returned (.bool true) ∧ Below w.heap.size w w' := by
  have HT0 : Hid (mapF (rs.map turnR) = 0) := by show _ = _; rw [turn_mapF]; exact HM0.out
  have hbd := mapF_bd HM0.out
  have hCl : (canonL rs).length ≤ 100 := Nat.le_trans (joinL_length _) (by rw [sortL_length]; omega)
  have hTl : (canonL (rs.map turnR)).length ≤ 100 := Nat.le_trans (joinL_length _) (by rw [sortL_length, List.length_map]; omega)
  obtain ⟨f1, HF1, HC1⟩ : ∃ f : Int → Option Int, Hid (∀ x, f x = walkM (·.i) (·.o) rs x) ∧ Hid (canonR f 65536 = canonL rs) := ⟨walkM (·.i) (·.o) rs, fun _ => rfl, canonR_one HM0.out⟩
  obtain ⟨f2, HF2, HC2⟩ : ∃ f : Int → Option Int, Hid (∀ x, f x = walkM (·.o) (·.i) rs x) ∧ Hid (canonR f 65536 = canonL (rs.map turnR)) := ⟨walkM (·.o) (·.i) rs, fun _ => rfl, canonR_turn HM0.out⟩
  have hf1 : ∀ x y, f1 x = some y → 0 ≤ y ∧ y ≤ 65535 := fun x y e => (walk_ids HM0.out).1 ((HF1.out x).symm.trans e)
  have hf2 : ∀ x y, f2 x = some y → 0 ≤ y ∧ y ≤ 65535 := fun x y e => (walk_ids HM0.out).2 ((HF2.out x).symm.trans e)
  have hbd2 := mapF_bd HG.out
  obtain ⟨f3, HF3, HC3⟩ : ∃ f : Int → Option Int, Hid (∀ x, f x = (walkM (·.i) (·.o) rs x).bind (walkM (·.i) (·.o) ss)) ∧ Hid (canonR f 65536 = thenL rs ss) := ⟨fun x => (walkM (·.i) (·.o) rs x).bind (walkM (·.i) (·.o) ss), fun _ => rfl, canonR_then HM0.out HG.out⟩
  have hmid : ∀ x y, walkM (·.i) (·.o) rs x = some y → 0 ≤ y ∧ y ≤ 65535 := fun x y e => (walk_ids HM0.out).1 e
  have hf3 : ∀ x y, f3 x = some y → 0 ≤ y ∧ y ≤ 65535 := by
    intro x y e
    rw [HF3.out] at e
    cases hz : walkM (·.i) (·.o) rs x with
    | none => rw [hz] at e; cases e
    | some z => rw [hz] at e; exact (walk_ids HG.out).1 e
  have d1 : decide (6 < (rs.length : Int)) = false := by simp; omega
  have d2 : decide (6 < (ss.length : Int)) = false := by simp; omega
  have hL1 : rs.length ≤ 100 := by omega
  have hL2 : ss.length ≤ 100 := by omega
  clear hl1 hl2
  obtain ⟨ty, HTY⟩ : ∃ t, Hid (toM rs x = t) := ⟨_, rfl⟩
  obtain ⟨fz, HFZ⟩ : ∃ t, Hid (fromM rs x = t) := ⟨_, rfl⟩
  have y1 : (ty.getD 0 != ty.getD 0) = false := by simp
  have y2 : (ty.isSome != ty.isSome) = false := by simp
  have y3 : (fz.getD 0 != fz.getD 0) = false := by simp
  have y4 : (fz.isSome != fz.isSome) = false := by simp
  go_enter Try.func3, Try.ntmps3
  go_wp2_with fail
  refine (shifts_any _).mono ?_
  rintro e w1 ⟨rfl, hb1⟩
  have hB1 := hb1
  clear hb1
  go_wp2_with fail
  refine (ownMap_any a c1 rs _ hL1 (h.below hB1)).mono ?_
  rintro e w2 ⟨am, cm, rfl, hcm, Rm_2, hb2⟩
  have hB2 := hB1.trans (hb2.mono hB1.size)
  clear hB1 hb2
  go_wp2_with fail
  refine (ownMap_any b c2 ss _ hL2 (h2.below hB2)).mono ?_
  rintro e w3 ⟨an, cn, rfl, hcn, Rn_3, hb3⟩
  have hB3 := hB2.trans (hb3.mono hB2.size)
  have Rm_3 := Rm_2.below hb3
  clear Rm_2 hB2 hb3
  go_wp2_with fail
  refine (mapFault_any a c1 rs _ hL1 hok (h.below hB3)).mono ?_
  rintro e w4 ⟨rfl, hb4⟩
  have hB4 := hB3.trans (hb4.mono hB3.size)
  have Rm_4 := Rm_3.below hb4
  have Rn_4 := Rn_3.below hb4
  clear Rm_3 Rn_3 hB3 hb4
  rw [HM0.out]
  go_wp2_with fail
  refine (mapFault_any b c2 ss _ hL2 hok2 (h2.below hB4)).mono ?_
  rintro e w5 ⟨rfl, hb5⟩
  have hB5 := hB4.trans (hb5.mono hB4.size)
  have Rm_5 := Rm_4.below hb5
  have Rn_5 := Rn_4.below hb5
  clear Rm_4 Rn_4 hB4 hb5
  rw [HG.out]
  go_wp2_with fail
  refine (toHost_any am cm rs x _ hL1 hcm hok hx Rm_5).mono ?_
  rintro e w6 ⟨rfl, hb6⟩
  have hB6 := hB5.trans (hb6.mono hB5.size)
  have Rm_6 := Rm_5.below hb6
  have Rn_6 := Rn_5.below hb6
  clear Rm_5 Rn_5 hB5 hb6
  rw [HTY.out]
  unfold optV
  go_wp2_with fail
  refine (fromHost_any am cm rs x _ hL1 hcm hok hx Rm_6).mono ?_
  rintro e w7 ⟨rfl, hb7⟩
  have hB7 := hB6.trans (hb7.mono hB6.size)
  have Rm_7 := Rm_6.below hb7
  have Rn_7 := Rn_6.below hb7
  clear Rm_6 Rn_6 hB6 hb7
  rw [HFZ.out]
  unfold optV
  go_wp2_with fail
  refine (rToHost_any a c1 rs x _ hL1 hok hx (h.below hB7) ty HTY).mono ?_
  rintro e w8 ⟨rfl, hb8⟩
  have hB8 := hB7.trans (hb8.mono hB7.size)
  have Rm_8 := Rm_7.below hb8
  have Rn_8 := Rn_7.below hb8
  clear Rm_7 Rn_7 hB7 hb8
  unfold optV
  go_wp2_with fail
  refine (rFromHost_any a c1 rs x _ hL1 hok hx (h.below hB8) fz HFZ).mono ?_
  rintro e w9 ⟨rfl, hb9⟩
  have hB9 := hB8.trans (hb9.mono hB8.size)
  have Rm_9 := Rm_8.below hb9
  have Rn_9 := Rn_8.below hb9
  clear Rm_8 Rn_8 hB8 hb9
  unfold optV
  go_wp2_with fail
  refine (checkM_any am cm rs _ hL1 hcm hok Rm_9).mono ?_
  rintro e w10 ⟨rfl, hb10⟩
  have hB10 := hB9.trans (hb10.mono hB9.size)
  have Rm_10 := Rm_9.below hb10
  have Rn_10 := Rn_9.below hb10
  clear Rm_9 Rn_9 hB9 hb10
  rw [errV_nil HM0.out]
  go_wp2_with (go_at_call 14; refine (same_nil _).mono ?_; rintro e w' ⟨rfl, rfl⟩)
  refine (canon_good am cm rs _ hL1 hcm hok Rm_10 HM0).mono ?_
  rintro e w11 ⟨vC, rfl, hoC, hb11⟩
  have hB11 := hB10.trans (hb11.mono hB10.size)
  have Rm_11 := Rm_10.below hb11
  have Rn_11 := Rn_10.below hb11
  clear Rm_10 Rn_10 hB10 hb11
  obtain ⟨aC, cC, hvC, _, _, RC_11⟩ := rgs_of_owns0 hoC
  subst hvC
  clear hoC
  clear y1 y2 y3 y4
  go_wp2_with fail
  refine (turn_any am cm rs _ hL1 hok Rm_11 0 HT0).mono ?_
  rintro e w12 ⟨hres, hb12⟩
  have hB12 := hB11.trans (hb12.mono hB11.size)
  have Rm_12 := Rm_11.below hb12
  have Rn_12 := Rn_11.below hb12
  have RC_12 := RC_11.below hb12
  clear Rm_11 Rn_11 RC_11 hB11 hb12
  rcases hres with ⟨h0, _⟩ | ⟨_, vT, rfl, hoT⟩
  · exact absurd rfl h0
  obtain ⟨aT, cT, hvT, _, _, RT_12⟩ := rgs_of_owns0 hoT
  subst hvT
  clear hoT
  obtain ⟨C, HCL⟩ : ∃ C, Hid (canonL rs = C) := ⟨_, rfl⟩
  obtain ⟨T, HTL⟩ : ∃ T, Hid (canonL (rs.map turnR) = T) := ⟨_, rfl⟩
  rw [HCL.out] at hCl HC1 RC_12 ⊢
  rw [HTL.out] at hTl HC2 RT_12 ⊢
  go_wp2_with fail
  refine (then_good am an cm cn rs ss _ hcm Rm_12 HM0 hok hcn Rn_12 HG hok2).mono ?_
  rintro e w13 ⟨hres, hb13⟩
  have hB13 := hB12.trans (hb13.mono hB12.size)
  have Rm_13 := Rm_12.below hb13
  have Rn_13 := Rn_12.below hb13
  have RC_13 := RC_12.below hb13
  have RT_13 := RT_12.below hb13
  clear Rm_12 Rn_12 RC_12 RT_12 hB12 hb13
  obtain ⟨D, HDL⟩ : ∃ D, Hid (thenL rs ss = D) := ⟨_, rfl⟩
  rw [HDL.out] at HC3 hres
  rcases hres with ⟨h4, rfl⟩ | ⟨h4, vD, rfl, hoD⟩
  · unfold errL
    rw [errV_of rfl (by decide)]
    have d4 : decide (4 < (D.length : Int)) = true := by simp; omega
    go_wp2_with fail
    refine (sameMap_yes am a cm c1 rs.length rs _ rfl hL1 Rm_13 (h.below hB13)).mono ?_
    rintro e w14 ⟨rfl, hb14⟩
    have hB14 := hB13.trans (hb14.mono hB13.size)
    have Rm_14 := Rm_13.below hb14
    have Rn_14 := Rn_13.below hb14
    have RC_14 := RC_13.below hb14
    have RT_14 := RT_13.below hb14
    clear Rm_13 Rn_13 RC_13 RT_13 hB13 hb14
    go_wp2_with fail
    refine (sameMap_yes an b cn c2 ss.length ss _ rfl hL2 Rn_14 (h2.below hB14)).mono ?_
    rintro e w15 ⟨rfl, hb15⟩
    have hB15 := hB14.trans (hb15.mono hB14.size)
    have Rm_15 := Rm_14.below hb15
    have Rn_15 := Rn_14.below hb15
    have RC_15 := RC_14.below hb15
    have RT_15 := RT_14.below hb15
    clear Rm_14 Rn_14 RC_14 RT_14 hB14 hb15
    clear Rm_15
    clear Rn_15
    go_wp2_with (go_at_call 14; refine (same_nil _).mono ?_; rintro e w' ⟨rfl, rfl⟩)
    refine (canonA_any a c1 rs _ hL1 hbd (h.below hB15) f1 HF1 hf1).mono ?_
    rintro e w16 ⟨v1, rfl, ho1, hb16⟩
    have hB16 := hB15.trans (hb16.mono hB15.size)
    have RC_16 := RC_15.below hb16
    have RT_16 := RT_15.below hb16
    clear RC_15 RT_15 hB15 hb16
    rw [HC1.out] at ho1
    obtain ⟨a1, c1_, hv1, _, _, R1_16⟩ := rgs_of_owns0 ho1
    subst hv1
    clear ho1
    go_wp2_with fail
    refine (sameMap_yes aC a1 cC c1_ C.length C _ rfl hCl RC_16 R1_16).mono ?_
    rintro e w17 ⟨rfl, hb17⟩
    have hB17 := hB16.trans (hb17.mono hB16.size)
    have RC_17 := RC_16.below hb17
    have RT_17 := RT_16.below hb17
    have R1_17 := R1_16.below hb17
    clear RC_16 RT_16 R1_16 hB16 hb17
    clear RC_17
    clear R1_17
    go_wp2_with fail
    refine (canonB_any a c1 rs _ hL1 hbd (h.below hB17) f2 HF2 hf2).mono ?_
    rintro e w18 ⟨v2, rfl, ho2, hb18⟩
    have hB18 := hB17.trans (hb18.mono hB17.size)
    have RT_18 := RT_17.below hb18
    clear RT_17 hB17 hb18
    rw [HC2.out] at ho2
    obtain ⟨a2, c2_, hv2, _, _, R2_18⟩ := rgs_of_owns0 ho2
    subst hv2
    clear ho2
    go_wp2_with fail
    refine (sameMap_yes aT a2 cT c2_ T.length T _ rfl hTl RT_18 R2_18).mono ?_
    rintro e w19 ⟨rfl, hb19⟩
    have hB19 := hB18.trans (hb19.mono hB18.size)
    have RT_19 := RT_18.below hb19
    have R2_19 := R2_18.below hb19
    clear RT_18 R2_18 hB18 hb19
    clear RT_19
    clear R2_19
    go_wp2_with fail
    refine (canonC_any a b c1 c2 rs ss _ hL1 hL2 hbd hbd2 (h.below hB19) (h2.below hB19) f3 HF3 hmid hf3).mono ?_
    rintro e w20 ⟨v3, rfl, ho3, hb20⟩
    have hB20 := hB19.trans (hb20.mono hB19.size)
    clear hB19 hb20
    rw [HC3.out] at ho3
    obtain ⟨a3, c3_, hv3, _, _, R3_20⟩ := rgs_of_owns0 ho3
    subst hv3
    clear ho3
    go_wp2_with (go_at_call 14; refine (same_err 2 (by decide) _).mono ?_; rintro e w' ⟨rfl, rfl⟩)
    go_ret
    exact ⟨rfl, hB20⟩
  · obtain ⟨aD, cD, hvD, _, _, RD_13⟩ := rgs_of_owns0 hoD
    subst hvD
    clear hoD
    have d4 : decide (4 < (D.length : Int)) = false := by simp; omega
    have hDl : D.length ≤ 100 := by omega
    go_wp2_with fail
    refine (sameMap_yes am a cm c1 rs.length rs _ rfl hL1 Rm_13 (h.below hB13)).mono ?_
    rintro e w14 ⟨rfl, hb14⟩
    have hB14 := hB13.trans (hb14.mono hB13.size)
    have Rm_14 := Rm_13.below hb14
    have Rn_14 := Rn_13.below hb14
    have RC_14 := RC_13.below hb14
    have RT_14 := RT_13.below hb14
    have RD_14 := RD_13.below hb14
    clear Rm_13 Rn_13 RC_13 RT_13 RD_13 hB13 hb14
    go_wp2_with fail
    refine (sameMap_yes an b cn c2 ss.length ss _ rfl hL2 Rn_14 (h2.below hB14)).mono ?_
    rintro e w15 ⟨rfl, hb15⟩
    have hB15 := hB14.trans (hb15.mono hB14.size)
    have Rm_15 := Rm_14.below hb15
    have Rn_15 := Rn_14.below hb15
    have RC_15 := RC_14.below hb15
    have RT_15 := RT_14.below hb15
    have RD_15 := RD_14.below hb15
    clear Rm_14 Rn_14 RC_14 RT_14 RD_14 hB14 hb15
    clear Rm_15
    clear Rn_15
    go_wp2_with (go_at_call 14; refine (same_nil _).mono ?_; rintro e w' ⟨rfl, rfl⟩)
    refine (canonA_any a c1 rs _ hL1 hbd (h.below hB15) f1 HF1 hf1).mono ?_
    rintro e w16 ⟨v1, rfl, ho1, hb16⟩
    have hB16 := hB15.trans (hb16.mono hB15.size)
    have RC_16 := RC_15.below hb16
    have RT_16 := RT_15.below hb16
    have RD_16 := RD_15.below hb16
    clear RC_15 RT_15 RD_15 hB15 hb16
    rw [HC1.out] at ho1
    obtain ⟨a1, c1_, hv1, _, _, R1_16⟩ := rgs_of_owns0 ho1
    subst hv1
    clear ho1
    go_wp2_with fail
    refine (sameMap_yes aC a1 cC c1_ C.length C _ rfl hCl RC_16 R1_16).mono ?_
    rintro e w17 ⟨rfl, hb17⟩
    have hB17 := hB16.trans (hb17.mono hB16.size)
    have RC_17 := RC_16.below hb17
    have RT_17 := RT_16.below hb17
    have RD_17 := RD_16.below hb17
    have R1_17 := R1_16.below hb17
    clear RC_16 RT_16 RD_16 R1_16 hB16 hb17
    clear RC_17
    clear R1_17
    go_wp2_with fail
    refine (canonB_any a c1 rs _ hL1 hbd (h.below hB17) f2 HF2 hf2).mono ?_
    rintro e w18 ⟨v2, rfl, ho2, hb18⟩
    have hB18 := hB17.trans (hb18.mono hB17.size)
    have RT_18 := RT_17.below hb18
    have RD_18 := RD_17.below hb18
    clear RT_17 RD_17 hB17 hb18
    rw [HC2.out] at ho2
    obtain ⟨a2, c2_, hv2, _, _, R2_18⟩ := rgs_of_owns0 ho2
    subst hv2
    clear ho2
    go_wp2_with fail
    refine (sameMap_yes aT a2 cT c2_ T.length T _ rfl hTl RT_18 R2_18).mono ?_
    rintro e w19 ⟨rfl, hb19⟩
    have hB19 := hB18.trans (hb19.mono hB18.size)
    have RT_19 := RT_18.below hb19
    have RD_19 := RD_18.below hb19
    have R2_19 := R2_18.below hb19
    clear RT_18 RD_18 R2_18 hB18 hb19
    clear RT_19
    clear R2_19
    go_wp2_with fail
    refine (canonC_any a b c1 c2 rs ss _ hL1 hL2 hbd hbd2 (h.below hB19) (h2.below hB19) f3 HF3 hmid hf3).mono ?_
    rintro e w20 ⟨v3, rfl, ho3, hb20⟩
    have hB20 := hB19.trans (hb20.mono hB19.size)
    have RD_20 := RD_19.below hb20
    clear RD_19 hB19 hb20
    rw [HC3.out] at ho3
    obtain ⟨a3, c3_, hv3, _, _, R3_20⟩ := rgs_of_owns0 ho3
    subst hv3
    clear ho3
    go_wp2_with (go_at_call 14; refine (same_nil _).mono ?_; rintro e w' ⟨rfl, rfl⟩)
    refine (sameMap_yes aD a3 cD c3_ D.length D _ rfl hDl RD_20 R3_20).mono ?_
    rintro e w21 ⟨rfl, hb21⟩
    have hB21 := hB20.trans (hb21.mono hB20.size)
    have RD_21 := RD_20.below hb21
    have R3_21 := R3_20.below hb21
    clear RD_20 R3_20 hB20 hb21
    go_wp2
    go_ret
    exact ⟨rfl, hB21⟩
end Go.Proofs.Ytoadlnojcbkdgaa
