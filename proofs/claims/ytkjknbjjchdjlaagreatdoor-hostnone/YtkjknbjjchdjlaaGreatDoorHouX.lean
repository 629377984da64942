/-
  A BOX IS ADDED: AddBox: the walk.
  A HOST KEEPS A BOX: Plain, keeps; a disk that was never formatted: Open; the walks.
-/
import Derived.Test.YtkjknbjjchdjlaaGreatDoorHosX
namespace Go.Proofs.YtkjknbjjchdjlaaGreatDoor
open Go.RowKit
abbrev rgL1 : List Rg := [⟨0, 1000, 100⟩]
theorem gd_plain : GdOk rgL1 rgL1 [] 0 0 15 4 [] := ⟨⟨by decide, by decide, by decide, by decide, by decide⟩, rfl, by decide⟩
theorem rg_ok1 : ∀ r ∈ rgL1, r.ok := fun r hr => by
  simp [rgL1] at hr
  subst hr
  exact ⟨by unfold I64; decide, by unfold I64; decide, by unfold I64; decide⟩
theorem rgs_one {w : World} {rg : Nat} (hr : w.cell? ⟨rg, 0, none⟩ = some (.int .i64 0) ∧ w.cell? ⟨rg, 1, none⟩ = some (.int .i64 1000) ∧ w.cell? ⟨rg, 2, none⟩ = some (.int .i64 100)) : Rgs w (some ⟨rg, 0, none⟩) rgL1 := .inr ⟨rg, 0, rfl, fun k r hk => by
  match k with
  | 0 => cases hk; exact hr
  | k + 1 => simp at hk⟩
def CfC (w : World) (cb rg : Nat) : Prop := w.cell? ⟨cb, 0, none⟩ = some (.slice (some ⟨rg, 0, none⟩) 1 1) ∧ w.cell? ⟨cb, 1, none⟩ = some (.slice (some ⟨rg, 0, none⟩) 1 1) ∧ w.cell? ⟨cb, 2, none⟩ = some (.int .i64 0) ∧ w.cell? ⟨cb, 3, none⟩ = some (.int .i64 0) ∧ w.cell? ⟨cb, 4, none⟩ = some (.slice none 0 0) ∧ w.cell? ⟨cb, 5, none⟩ = some (.int .i64 15) ∧ w.cell? ⟨cb, 6, none⟩ = some (.int .i64 4) ∧ w.cell? ⟨cb, 7, none⟩ = some (.slice none 0 0)
theorem CfC.below {w w' : World} {cb rg : Nat} (h : CfC w cb rg) (hb : Below w.heap.size w w') : CfC w' cb rg := by
  obtain ⟨h0, h1, h2, h3, h4, h5, h6, h7⟩ := h
  exact ⟨blwV hb h0, blwV hb h1, blwV hb h2, blwV hb h3, blwV hb h4, blwV hb h5, blwV hb h6, blwV hb h7⟩
set_option maxRecDepth 100000 in
set_option maxHeartbeats 4000000 in
theorem addbox_any {w : World} {hb db rb cp rg : Nat} (h : HK w hb db rb cp 300 1 69 (.pointer none)) (hr : w.cell? ⟨rg, 0, none⟩ = some (.int .i64 0) ∧ w.cell? ⟨rg, 1, none⟩ = some (.int .i64 1000) ∧ w.cell? ⟨rg, 2, none⟩ = some (.int .i64 100)) :
    Calls Tryz.prog 10 #[.pointer (some ⟨hb, 0, none⟩), .agg #[.slice (some ⟨rg, 0, none⟩) 1 1, .slice (some ⟨rg, 0, none⟩) 1 1, .int .i64 0, .int .i64 0, .slice none 0 0, .int .i64 15, .int .i64 4, .slice none 0 0]] w fun e w' => e = .returned (.tuple #[.int .i64 0, .nilIface]) ∧ ∃ gb zb zo cap, HK w' hb db rb cp 300 0 (69 + 75 + 16 + 68) (.pointer (some ⟨gb, 0, none⟩)) ∧ (w'.cell? ⟨gb, 0, none⟩ = some (.slice (some ⟨zb, zo, none⟩) 10 cap) ∧ w'.cell? ⟨gb, 1, none⟩ = some (.int .i64 0) ∧ w'.cell? ⟨gb, 2, none⟩ = some (.int .i64 16)) ∧ Ints w' (some ⟨zb, zo, none⟩) (upL 10) ∧ Mv (fun b => b = hb ∨ b = db ∨ b = rb) w w' := by
  have hB : Below w.heap.size w (w.alloc (.cells #[.slice (some ⟨rg, 0, none⟩) 1 1, .slice (some ⟨rg, 0, none⟩) 1 1, .int .i64 0, .int .i64 0, .slice none 0 0, .int .i64 15, .int .i64 4, .slice none 0 0] 45)) := (Below.refl _ _).alloc (Nat.le_refl _) _
  have hlt := h.lt
  have T : CfC (w.alloc (.cells #[.slice (some ⟨rg, 0, none⟩) 1 1, .slice (some ⟨rg, 0, none⟩) 1 1, .int .i64 0, .int .i64 0, .slice none 0 0, .int .i64 15, .int .i64 4, .slice none 0 0] 45)) w.heap.size rg := ⟨World.cell?_alloc_at _ _ _ _ rfl, World.cell?_alloc_at _ _ _ _ rfl, World.cell?_alloc_at _ _ _ _ rfl, World.cell?_alloc_at _ _ _ _ rfl, World.cell?_alloc_at _ _ _ _ rfl, World.cell?_alloc_at _ _ _ _ rfl, World.cell?_alloc_at _ _ _ _ rfl, World.cell?_alloc_at _ _ _ _ rfl⟩
  go_enter Tryz.func10, Tryz.ntmps10
  go_upto_region 1 with fail
  have s1 : w.heap.size < (w.alloc (.cells #[.slice (some ⟨rg, 0, none⟩) 1 1, .slice (some ⟨rg, 0, none⟩) 1 1, .int .i64 0, .int .i64 0, .slice none 0 0, .int .i64 15, .int .i64 4, .slice none 0 0] 45)).heap.size := by rw [World.size_alloc]; omega
  have K1 : HK (w.alloc (.cells #[.slice (some ⟨rg, 0, none⟩) 1 1, .slice (some ⟨rg, 0, none⟩) 1 1, .int .i64 0, .int .i64 0, .slice none 0 0, .int .i64 15, .int .i64 4, .slice none 0 0] 45)) hb db rb cp 300 1 69 (.pointer none) := h.below hB
  have hR1 : (w.alloc (.cells #[.slice (some ⟨rg, 0, none⟩) 1 1, .slice (some ⟨rg, 0, none⟩) 1 1, .int .i64 0, .int .i64 0, .slice none 0 0, .int .i64 15, .int .i64 4, .slice none 0 0] 45)).cell? ⟨rg, 0, none⟩ = some (.int .i64 0) ∧ (w.alloc (.cells #[.slice (some ⟨rg, 0, none⟩) 1 1, .slice (some ⟨rg, 0, none⟩) 1 1, .int .i64 0, .int .i64 0, .slice none 0 0, .int .i64 15, .int .i64 4, .slice none 0 0] 45)).cell? ⟨rg, 1, none⟩ = some (.int .i64 1000) ∧ (w.alloc (.cells #[.slice (some ⟨rg, 0, none⟩) 1 1, .slice (some ⟨rg, 0, none⟩) 1 1, .int .i64 0, .int .i64 0, .slice none 0 0, .int .i64 15, .int .i64 4, .slice none 0 0] 45)).cell? ⟨rg, 2, none⟩ = some (.int .i64 100) := ⟨blwV hB hr.1, blwV hB hr.2.1, blwV hB hr.2.2⟩
  generalize (w.alloc (.cells #[.slice (some ⟨rg, 0, none⟩) 1 1, .slice (some ⟨rg, 0, none⟩) 1 1, .int .i64 0, .int .i64 0, .slice none 0 0, .int .i64 15, .int .i64 4, .slice none 0 0] 45)) = w1 at hB T s1 K1 hR1 ⊢
  obtain ⟨cb, hcb⟩ : ∃ cb, w.heap.size = cb := ⟨_, rfl⟩
  rw [hcb] at T s1 hlt ⊢
  have HM1 : Hid (Mv (fun _ => False) w w1) := Mv.of hB
  clear h hr hB hcb
  have C1 := hoff_any K1
  have HT1 : Hid (CfC w1 cb rg) := T
  have HK1 : Hid (HK w1 hb db rb cp 300 1 69 (.pointer none)) := K1
  have HR1 : Hid (w1.cell? ⟨rg, 0, none⟩ = some (.int .i64 0) ∧ w1.cell? ⟨rg, 1, none⟩ = some (.int .i64 1000) ∧ w1.cell? ⟨rg, 2, none⟩ = some (.int .i64 100)) := hR1
  obtain ⟨d0, d1, d2, d3, d4, d5, d6, d7⟩ := T
  have C2 : Hid (Calls Tryz.prog 20 #[.agg #[.slice (some ⟨rg, 0, none⟩) 1 1, .slice (some ⟨rg, 0, none⟩) 1 1, .int .i64 0, .int .i64 0, .slice none 0 0, .int .i64 15, .int .i64 4, .slice none 0 0], .slice none 0 0] w1 fun e w' => NwG w1 w' [] e ∧ Below w1.heap.size w1 w') := bnew2_any (ua := some ⟨rg, 0, none⟩) (ga := some ⟨rg, 0, none⟩) (us := rgL1) (gs := rgL1) (cs := []) (xs := []) (ca := none) (a := none) (rgs_one hR1) (rgs_one hR1) (by decide) (by decide) (by decide) (by decide) rg_ok1 rg_ok1 (.inl rfl) (by decide) ⟨by unfold I64; omega, by unfold I64; omega⟩ (.inl rfl) gd_plain
  clear K1 hR1
  go_wp2_with fail
  refine Calls.mono C1 ?_
  rintro e w' ⟨rfl, rfl⟩
  go_wp2_with fail
  refine Calls.mono (hstack_nil _ _) ?_
  rintro e w' ⟨rfl, rfl⟩
  go_wp2_with fail
  refine Calls.mono C2.out ?_
  rintro e w2 ⟨⟨bb, B, ux, gx, rfl, hbb, hV, hXS, hCS, hux, hgx⟩, q2⟩
  have HM2 : Hid (Mv (fun _ => False) w w2) := HM1.out.trans (Mv.of q2)
  have HT2 : Hid (CfC w2 cb rg) := HT1.out.below q2
  have HK2 : Hid (HK w2 hb db rb cp 300 1 69 (.pointer none)) := HK1.out.below q2
  have HR2 : Hid (w2.cell? ⟨rg, 0, none⟩ = some (.int .i64 0) ∧ w2.cell? ⟨rg, 1, none⟩ = some (.int .i64 1000) ∧ w2.cell? ⟨rg, 2, none⟩ = some (.int .i64 100)) := ⟨blwV q2 HR1.out.1, blwV q2 HR1.out.2.1, blwV q2 HR1.out.2.2⟩
  have HV2 : Hid (BxV w2 bb B ∧ B.xs = [.mk 2 493 ux gx false [] ⟨#[]⟩ []] ∧ B.cs = [] ∧ idB ux = true ∧ idB gx = true) := ⟨hV, hXS, hCS, hux, hgx⟩
  have hs12 := q2.size
  clear d0 d1 d2 d3 d4 d5 d6 d7 C1 C2 HT1 HK1 HR1 q2 hV hXS hCS hux hgx
  have C3 := indexG_nil (w := w2) (b := hb) (o := 8) (cell_of_heap HK2.out.box rfl)
  have d6 := HT2.out.2.2.2.2.2.2.1
  have C4 := reserve_any HK2.out
  go_wp2_with fail
  refine Calls.mono C3 ?_
  rintro e w' ⟨rfl, rfl⟩
  go_wp2_with fail
  refine Calls.mono (boxBl_any _) ?_
  rintro e w' ⟨rfl, rfl⟩
  go_wp2_with fail
  refine Calls.mono C4 ?_
  rintro e w3 ⟨⟨za, cap, rfl, hcap, hI3, hza⟩, q3⟩
  obtain ⟨zb, zo, rfl, hzc⟩ : ∃ zb zo, za = some ⟨zb, zo, none⟩ ∧ ∀ i : Nat, i < 10 → w3.cell? ⟨zb, zo + i, none⟩ = some (.int .i64 (200 + (i : Int))) := by
    rcases hI3 with e | ⟨b, o, e, hc⟩
    · exact absurd e (by decide)
    · refine ⟨b, o, e, fun i hi => (hc i (by rw [upL_len]; exact hi)).trans ?_⟩
      have : i = 0 ∨ i = 1 ∨ i = 2 ∨ i = 3 ∨ i = 4 ∨ i = 5 ∨ i = 6 ∨ i = 7 ∨ i = 8 ∨ i = 9 := by omega
      rcases this with rfl | rfl | rfl | rfl | rfl | rfl | rfl | rfl | rfl | rfl <;> rfl
  have hzb : w2.heap.size ≤ zb := hza _ rfl
  have HZ3 : Hid (∀ i : Nat, i < 10 → w3.cell? ⟨zb, zo + i, none⟩ = some (.int .i64 (200 + (i : Int)))) := hzc
  have HM3 : Hid (Mv (fun _ => False) w w3) := HM2.out.trans (Mv.of q3)
  have HT3 : Hid (CfC w3 cb rg) := HT2.out.below q3
  have HK3 : Hid (HK w3 hb db rb cp 300 1 69 (.pointer none)) := HK2.out.below q3
  have HR3 : Hid (w3.cell? ⟨rg, 0, none⟩ = some (.int .i64 0) ∧ w3.cell? ⟨rg, 1, none⟩ = some (.int .i64 1000) ∧ w3.cell? ⟨rg, 2, none⟩ = some (.int .i64 100)) := ⟨blwV q3 HR2.out.1, blwV q3 HR2.out.2.1, blwV q3 HR2.out.2.2⟩
  have hs23 := q3.size
  have C5 := bbytes_any (HV2.out.1.below q3) HV2.out.2.1 HV2.out.2.2.1 HV2.out.2.2.2.1 HV2.out.2.2.2.2
  clear C3 C4 d6 HT2 HK2 HR2 HV2 q3 hI3 hza hzc
  go_wp2_with fail
  refine Calls.mono C5 ?_
  rintro e w4 ⟨⟨s, rfl, hs⟩, q4⟩
  have HZ4 : Hid (∀ i : Nat, i < 10 → w4.cell? ⟨zb, zo + i, none⟩ = some (.int .i64 (200 + (i : Int)))) := fun i hi => blwV q4 (HZ3.out i hi)
  have HM4 : Hid (Mv (fun _ => False) w w4) := HM3.out.trans (Mv.of q4)
  have HT4 : Hid (CfC w4 cb rg) := HT3.out.below q4
  have HK4 : Hid (HK w4 hb db rb cp 300 1 69 (.pointer none)) := HK3.out.below q4
  have HR4 : Hid (w4.cell? ⟨rg, 0, none⟩ = some (.int .i64 0) ∧ w4.cell? ⟨rg, 1, none⟩ = some (.int .i64 1000) ∧ w4.cell? ⟨rg, 2, none⟩ = some (.int .i64 100)) := ⟨blwV q4 HR3.out.1, blwV q4 HR3.out.2.1, blwV q4 HR3.out.2.2⟩
  have hs34 := q4.size
  have d7 := HT4.out.2.2.2.2.2.2.2
  have C6 := cloneIt_any (w := w4) (a := none) 0 (zs := []) (.inl rfl) (by simp)
  clear C5 HZ3 HT3 HK3 HR3 q4
  go_wp2_with fail
  refine Calls.mono C6 ?_
  rintro e w5 ⟨⟨ao, c5, rfl, _, _, _⟩, q5⟩
  have HZ5 : Hid (∀ i : Nat, i < 10 → w5.cell? ⟨zb, zo + i, none⟩ = some (.int .i64 (200 + (i : Int)))) := fun i hi => blwV q5 (HZ4.out i hi)
  have HM5 : Hid (Mv (fun _ => False) w w5) := HM4.out.trans (Mv.of q5)
  have HT5 : Hid (CfC w5 cb rg) := HT4.out.below q5
  have HK5 : Hid (HK w5 hb db rb cp 300 1 69 (.pointer none)) := HK4.out.below q5
  have HR5 : Hid (w5.cell? ⟨rg, 0, none⟩ = some (.int .i64 0) ∧ w5.cell? ⟨rg, 1, none⟩ = some (.int .i64 1000) ∧ w5.cell? ⟨rg, 2, none⟩ = some (.int .i64 100)) := ⟨blwV q5 HR4.out.1, blwV q5 HR4.out.2.1, blwV q5 HR4.out.2.2⟩
  have hs45 := q5.size
  clear C6 HZ4 HT4 HK4 HR4 q5 d7
  go_upto_region 17 with fail
  obtain ⟨gb, hgb⟩ : ∃ gb, w5.heap.size = gb := ⟨_, rfl⟩
  have hB6 : Below w5.heap.size w5 (w5.alloc (.cells #[.slice (some ⟨zb, zo, none⟩) 10 cap, .int .i64 0, .int .i64 16, .slice ao 0 c5, .pointer (some ⟨bb, 0, none⟩)] 78)) := (Below.refl _ _).alloc (Nat.le_refl _) _
  have hs6 : (w5.alloc (.cells #[.slice (some ⟨zb, zo, none⟩) 10 cap, .int .i64 0, .int .i64 16, .slice ao 0 c5, .pointer (some ⟨bb, 0, none⟩)] 78)).heap.size = gb + 1 := by rw [World.size_alloc, hgb]
  have hG6 : (w5.alloc (.cells #[.slice (some ⟨zb, zo, none⟩) 10 cap, .int .i64 0, .int .i64 16, .slice ao 0 c5, .pointer (some ⟨bb, 0, none⟩)] 78)).cell? ⟨gb, 0, none⟩ = some (.slice (some ⟨zb, zo, none⟩) 10 cap) ∧ (w5.alloc (.cells #[.slice (some ⟨zb, zo, none⟩) 10 cap, .int .i64 0, .int .i64 16, .slice ao 0 c5, .pointer (some ⟨bb, 0, none⟩)] 78)).cell? ⟨gb, 1, none⟩ = some (.int .i64 0) ∧ (w5.alloc (.cells #[.slice (some ⟨zb, zo, none⟩) 10 cap, .int .i64 0, .int .i64 16, .slice ao 0 c5, .pointer (some ⟨bb, 0, none⟩)] 78)).cell? ⟨gb, 2, none⟩ = some (.int .i64 16) := by rw [← hgb]; exact ⟨World.cell?_alloc_at _ _ _ _ rfl, World.cell?_alloc_at _ _ _ _ rfl, World.cell?_alloc_at _ _ _ _ rfl⟩
  rw [hgb]
  generalize w5.alloc (.cells #[.slice (some ⟨zb, zo, none⟩) 10 cap, .int .i64 0, .int .i64 16, .slice ao 0 c5, .pointer (some ⟨bb, 0, none⟩)] 78) = w6 at hB6 hs6 hG6 ⊢
  have HZ6 : Hid (∀ i : Nat, i < 10 → w6.cell? ⟨zb, zo + i, none⟩ = some (.int .i64 (200 + (i : Int)))) := fun i hi => blwV hB6 (HZ5.out i hi)
  have HM6 : Hid (Mv (fun _ => False) w w6) := HM5.out.trans (Mv.of hB6)
  have HT6 : Hid (CfC w6 cb rg) := HT5.out.below hB6
  have HK6 : Hid (HK w6 hb db rb cp 300 1 69 (.pointer none)) := HK5.out.below hB6
  have HR6 : Hid (w6.cell? ⟨rg, 0, none⟩ = some (.int .i64 0) ∧ w6.cell? ⟨rg, 1, none⟩ = some (.int .i64 1000) ∧ w6.cell? ⟨rg, 2, none⟩ = some (.int .i64 100)) := ⟨blwV hB6 HR5.out.1, blwV hB6 HR5.out.2.1, blwV hB6 HR5.out.2.2⟩
  have HG6 : Hid (w6.cell? ⟨gb, 0, none⟩ = some (.slice (some ⟨zb, zo, none⟩) 10 cap) ∧ w6.cell? ⟨gb, 1, none⟩ = some (.int .i64 0) ∧ w6.cell? ⟨gb, 2, none⟩ = some (.int .i64 16)) := hG6
  obtain ⟨x0, x1, x2, x3, x4, x5, x6, x7, x8, x9, x10, x11, x12⟩ := ho_cells HK6.out.box
  clear hB6 hG6 HZ5 HT5 HK5 HR5
  go_upto_region 19 with fail
  have hB7 : Below w6.heap.size w6 (w6.alloc (.cells #[.pointer (some ⟨db, 0, none⟩), .bool false, .int .i64 1, .pointer none, .pointer none, .pointer none, .pointer none, .pointer none, .pointer (some ⟨gb, 0, none⟩), .pointer none, .pointer none, .pointer none, .pointer none] 60)) := (Below.refl _ _).alloc (Nat.le_refl _) _
  obtain ⟨nb, hnb⟩ : ∃ nb, w6.heap.size = nb := ⟨_, rfl⟩
  have hn7 : ∀ i v, (#[.pointer (some ⟨db, 0, none⟩), .bool false, .int .i64 1, .pointer none, .pointer none, .pointer none, .pointer none, .pointer none, .pointer (some ⟨gb, 0, none⟩), .pointer none, .pointer none, .pointer none, .pointer none] : Array Value)[i]? = some v → (w6.alloc (.cells #[.pointer (some ⟨db, 0, none⟩), .bool false, .int .i64 1, .pointer none, .pointer none, .pointer none, .pointer none, .pointer none, .pointer (some ⟨gb, 0, none⟩), .pointer none, .pointer none, .pointer none, .pointer none] 60)).cell? ⟨nb, i, none⟩ = some v := fun i v q => by
    rw [← hnb]
    exact (World.cell?_alloc_at _ _ _ _ rfl).trans q
  have hnbe : nb = gb + 1 := hnb.symm.trans hs6
  rw [← hnbe]
  generalize w6.alloc (.cells #[.pointer (some ⟨db, 0, none⟩), .bool false, .int .i64 1, .pointer none, .pointer none, .pointer none, .pointer none, .pointer none, .pointer (some ⟨gb, 0, none⟩), .pointer none, .pointer none, .pointer none, .pointer none] 60) = w7 at hB7 hn7 ⊢
  have HZ7 : Hid (∀ i : Nat, i < 10 → w7.cell? ⟨zb, zo + i, none⟩ = some (.int .i64 (200 + (i : Int)))) := fun i hi => blwV hB7 (HZ6.out i hi)
  have HM7 : Hid (Mv (fun _ => False) w w7) := HM6.out.trans (Mv.of hB7)
  have HK7 : Hid (HK w7 hb db rb cp 300 1 69 (.pointer none)) := HK6.out.below hB7
  have HR7 : Hid (w7.cell? ⟨rg, 0, none⟩ = some (.int .i64 0) ∧ w7.cell? ⟨rg, 1, none⟩ = some (.int .i64 1000) ∧ w7.cell? ⟨rg, 2, none⟩ = some (.int .i64 100)) := ⟨blwV hB7 HR6.out.1, blwV hB7 HR6.out.2.1, blwV hB7 HR6.out.2.2⟩
  have HL7 : Hid (w7.heap.size ≥ w6.heap.size) := hB7.size
  have T : w7.drew.cell? ⟨cb, 0, none⟩ = some (.slice (some ⟨rg, 0, none⟩) 1 1) ∧ w7.drew.cell? ⟨cb, 1, none⟩ = some (.slice (some ⟨rg, 0, none⟩) 1 1) ∧ w7.drew.cell? ⟨cb, 2, none⟩ = some (.int .i64 0) ∧ w7.drew.cell? ⟨cb, 3, none⟩ = some (.int .i64 0) ∧ w7.drew.cell? ⟨cb, 4, none⟩ = some (.slice none 0 0) ∧ w7.drew.cell? ⟨cb, 5, none⟩ = some (.int .i64 15) ∧ w7.drew.cell? ⟨cb, 6, none⟩ = some (.int .i64 4) ∧ w7.drew.cell? ⟨cb, 7, none⟩ = some (.slice none 0 0) ∧ w7.drew.cell? ⟨gb, 0, none⟩ = some (.slice (some ⟨zb, zo, none⟩) 10 cap) ∧ w7.drew.cell? ⟨gb, 1, none⟩ = some (.int .i64 0) ∧ w7.drew.cell? ⟨gb, 2, none⟩ = some (.int .i64 16) ∧ w7.drew.cell? ⟨nb, 0, none⟩ = some (.pointer (some ⟨db, 0, none⟩)) ∧ w7.drew.cell? ⟨nb, 1, none⟩ = some (.bool false) ∧ w7.drew.cell? ⟨nb, 2, none⟩ = some (.int .i64 1) ∧ w7.drew.cell? ⟨nb, 3, none⟩ = some (.pointer none) ∧ w7.drew.cell? ⟨nb, 4, none⟩ = some (.pointer none) ∧ w7.drew.cell? ⟨nb, 5, none⟩ = some (.pointer none) ∧ w7.drew.cell? ⟨nb, 6, none⟩ = some (.pointer none) ∧ w7.drew.cell? ⟨nb, 7, none⟩ = some (.pointer none) ∧ w7.drew.cell? ⟨nb, 8, none⟩ = some (.pointer (some ⟨gb, 0, none⟩)) ∧ w7.drew.cell? ⟨nb, 9, none⟩ = some (.pointer none) ∧ w7.drew.cell? ⟨nb, 10, none⟩ = some (.pointer none) ∧ w7.drew.cell? ⟨nb, 11, none⟩ = some (.pointer none) ∧ w7.drew.cell? ⟨nb, 12, none⟩ = some (.pointer none) := ⟨blwV hB7 HT6.out.1, blwV hB7 HT6.out.2.1, blwV hB7 HT6.out.2.2.1, blwV hB7 HT6.out.2.2.2.1, blwV hB7 HT6.out.2.2.2.2.1, blwV hB7 HT6.out.2.2.2.2.2.1, blwV hB7 HT6.out.2.2.2.2.2.2.1, blwV hB7 HT6.out.2.2.2.2.2.2.2, blwV hB7 HG6.out.1, blwV hB7 HG6.out.2.1, blwV hB7 HG6.out.2.2, hn7 0 _ rfl, hn7 1 _ rfl, hn7 2 _ rfl, hn7 3 _ rfl, hn7 4 _ rfl, hn7 5 _ rfl, hn7 6 _ rfl, hn7 7 _ rfl, hn7 8 _ rfl, hn7 9 _ rfl, hn7 10 _ rfl, hn7 11 _ rfl, hn7 12 _ rfl⟩
  have C7 : Hid (Calls Tryz.prog 28 #[.agg #[.slice (some ⟨rg, 0, none⟩) 1 1, .slice (some ⟨rg, 0, none⟩) 1 1, .int .i64 0, .int .i64 0, .slice none 0 0, .int .i64 15, .int .i64 4, .slice none 0 0]] w7.drew fun e w' => (∃ aa ca, e = .returned (.slice aa 14 ca) ∧ ∃ L : List Int, L.length = 14 ∧ Ints w' aa L) ∧ Below w7.drew.heap.size w7.drew w') := about_any (w := w7.drew) HR7.out
  have hhb := HK7.out.lt
  have hnn := HK7.out.ne
  have HNE : Hid ((zb ≠ hb ∧ zb ≠ db ∧ zb ≠ rb) ∧ gb ≠ hb ∧ gb ≠ db ∧ gb ≠ rb) := ⟨⟨by omega, by omega, by omega⟩, by omega, by omega, by omega⟩
  have HNF : Hid ((cb ≠ hb ∧ cb ≠ db ∧ cb ≠ rb) ∧ nb ≠ hb ∧ nb ≠ db ∧ nb ≠ rb) := ⟨⟨by omega, by omega, by omega⟩, by omega, by omega, by omega⟩
  have HGL : Hid (gb < w7.heap.size ∧ zb < w7.heap.size) := ⟨World.block_lt_of_cell? w7 ⟨gb, 0, none⟩ T.2.2.2.2.2.2.2.2.1, World.block_lt_of_cell? w7 ⟨zb, zo + 0, none⟩ (HZ7.out 0 (by omega))⟩
  have HC8 : Hid (∀ (w8 : World) (aa : Option Addr) (ca : Nat) (LA : List Int), Below w7.drew.heap.size w7.drew w8 → LA.length = 14 → Ints w8 aa LA → (w8.cell? ⟨cb, 0, none⟩ = some (.slice (some ⟨rg, 0, none⟩) 1 1) ∧ w8.cell? ⟨cb, 1, none⟩ = some (.slice (some ⟨rg, 0, none⟩) 1 1) ∧ w8.cell? ⟨cb, 2, none⟩ = some (.int .i64 0) ∧ w8.cell? ⟨cb, 3, none⟩ = some (.int .i64 0) ∧ w8.cell? ⟨cb, 4, none⟩ = some (.slice none 0 0) ∧ w8.cell? ⟨cb, 5, none⟩ = some (.int .i64 15) ∧ w8.cell? ⟨cb, 6, none⟩ = some (.int .i64 4) ∧ w8.cell? ⟨cb, 7, none⟩ = some (.slice none 0 0) ∧ w8.cell? ⟨gb, 0, none⟩ = some (.slice (some ⟨zb, zo, none⟩) 10 cap) ∧ w8.cell? ⟨gb, 1, none⟩ = some (.int .i64 0) ∧ w8.cell? ⟨gb, 2, none⟩ = some (.int .i64 16) ∧ w8.cell? ⟨nb, 0, none⟩ = some (.pointer (some ⟨db, 0, none⟩)) ∧ w8.cell? ⟨nb, 1, none⟩ = some (.bool false) ∧ w8.cell? ⟨nb, 2, none⟩ = some (.int .i64 1) ∧ w8.cell? ⟨nb, 3, none⟩ = some (.pointer none) ∧ w8.cell? ⟨nb, 4, none⟩ = some (.pointer none) ∧ w8.cell? ⟨nb, 5, none⟩ = some (.pointer none) ∧ w8.cell? ⟨nb, 6, none⟩ = some (.pointer none) ∧ w8.cell? ⟨nb, 7, none⟩ = some (.pointer none) ∧ w8.cell? ⟨nb, 8, none⟩ = some (.pointer (some ⟨gb, 0, none⟩)) ∧ w8.cell? ⟨nb, 9, none⟩ = some (.pointer none) ∧ w8.cell? ⟨nb, 10, none⟩ = some (.pointer none) ∧ w8.cell? ⟨nb, 11, none⟩ = some (.pointer none) ∧ w8.cell? ⟨nb, 12, none⟩ = some (.pointer none)) → Hid (Calls Tryz.prog 26 #[.pointer (some ⟨hb, 0, none⟩), .int .i64 6272, .slice aa 14 ca, .agg #[.slice (some ⟨zb, zo, none⟩) 10 cap, .int .i64 0, .int .i64 16], .string s, .agg #[.pointer (some ⟨db, 0, none⟩), .bool false, .int .i64 1, .pointer none, .pointer none, .pointer none, .pointer none, .pointer none, .pointer (some ⟨gb, 0, none⟩), .pointer none, .pointer none, .pointer none, .pointer none]] w8 fun e w' => e = .returned .nilIface ∧ HK w' hb db rb cp 300 (1 - 1) (69 + 75 + 16 + 68) (.pointer (some ⟨gb, 0, none⟩)) ∧ Mv (fun b => b = hb ∨ b = db ∨ b = rb) w8 w')) := fun w8 aa ca LA q8 hLA hIA T8 => enter_any (side := 1) ((HK7.out.mv (S := fun _ => False) (Mv.refl _ w7).drew id id id).below q8) (fun i hi => blwV q8 (HZ7.out i hi)) ⟨HNE.out.1.2.1, HNE.out.1.2.2⟩ hcap (by decide) hs hIA hLA T8.2.2.2.2.2.2.2.2.1 T8.2.2.2.2.2.2.2.2.2.1 T8.2.2.2.2.2.2.2.2.2.2.1 ⟨HNE.out.2.2.1, HNE.out.2.2.2⟩
  clear hB7 hn7 hnbe hnb hs6 x0 x1 x2 x3 x4 x5 x6 x7 x8 x9 x10 x11 x12 HZ6 HT6 HK6 HR6 HG6 hhb hnn hs12 hs23 hs34 hs45 hbb hzb hgb s1 hlt HL7
  go_region_held3 (fun w' => w'.cell? ⟨cb, 0, none⟩ = some (.slice (some ⟨rg, 0, none⟩) 1 1) ∧ w'.cell? ⟨cb, 1, none⟩ = some (.slice (some ⟨rg, 0, none⟩) 1 1) ∧ w'.cell? ⟨cb, 2, none⟩ = some (.int .i64 0) ∧ w'.cell? ⟨cb, 3, none⟩ = some (.int .i64 0) ∧ w'.cell? ⟨cb, 4, none⟩ = some (.slice none 0 0) ∧ w'.cell? ⟨cb, 5, none⟩ = some (.int .i64 15) ∧ w'.cell? ⟨cb, 6, none⟩ = some (.int .i64 4) ∧ w'.cell? ⟨cb, 7, none⟩ = some (.slice none 0 0) ∧ w'.cell? ⟨gb, 0, none⟩ = some (.slice (some ⟨zb, zo, none⟩) 10 cap) ∧ w'.cell? ⟨gb, 1, none⟩ = some (.int .i64 0) ∧ w'.cell? ⟨gb, 2, none⟩ = some (.int .i64 16) ∧ w'.cell? ⟨nb, 0, none⟩ = some (.pointer (some ⟨db, 0, none⟩)) ∧ w'.cell? ⟨nb, 1, none⟩ = some (.bool false) ∧ w'.cell? ⟨nb, 2, none⟩ = some (.int .i64 1) ∧ w'.cell? ⟨nb, 3, none⟩ = some (.pointer none) ∧ w'.cell? ⟨nb, 4, none⟩ = some (.pointer none) ∧ w'.cell? ⟨nb, 5, none⟩ = some (.pointer none) ∧ w'.cell? ⟨nb, 6, none⟩ = some (.pointer none) ∧ w'.cell? ⟨nb, 7, none⟩ = some (.pointer none) ∧ w'.cell? ⟨nb, 8, none⟩ = some (.pointer (some ⟨gb, 0, none⟩)) ∧ w'.cell? ⟨nb, 9, none⟩ = some (.pointer none) ∧ w'.cell? ⟨nb, 10, none⟩ = some (.pointer none) ∧ w'.cell? ⟨nb, 11, none⟩ = some (.pointer none) ∧ w'.cell? ⟨nb, 12, none⟩ = some (.pointer none)) (first | with_reducible exact T | with_reducible exact T8 | with_reducible exact T9) (first | (go_at_call 27; refine Calls.mono (boxRec_any _) ?_; rintro e wx ⟨rfl, rfl⟩) | (go_at_call 28; (with_reducible refine Calls.mono C7.out ?_); rintro e w8 ⟨⟨aa, ca, rfl, LA, hLA, hIA⟩, q8⟩; have T8 : w8.cell? ⟨cb, 0, none⟩ = some (.slice (some ⟨rg, 0, none⟩) 1 1) ∧ w8.cell? ⟨cb, 1, none⟩ = some (.slice (some ⟨rg, 0, none⟩) 1 1) ∧ w8.cell? ⟨cb, 2, none⟩ = some (.int .i64 0) ∧ w8.cell? ⟨cb, 3, none⟩ = some (.int .i64 0) ∧ w8.cell? ⟨cb, 4, none⟩ = some (.slice none 0 0) ∧ w8.cell? ⟨cb, 5, none⟩ = some (.int .i64 15) ∧ w8.cell? ⟨cb, 6, none⟩ = some (.int .i64 4) ∧ w8.cell? ⟨cb, 7, none⟩ = some (.slice none 0 0) ∧ w8.cell? ⟨gb, 0, none⟩ = some (.slice (some ⟨zb, zo, none⟩) 10 cap) ∧ w8.cell? ⟨gb, 1, none⟩ = some (.int .i64 0) ∧ w8.cell? ⟨gb, 2, none⟩ = some (.int .i64 16) ∧ w8.cell? ⟨nb, 0, none⟩ = some (.pointer (some ⟨db, 0, none⟩)) ∧ w8.cell? ⟨nb, 1, none⟩ = some (.bool false) ∧ w8.cell? ⟨nb, 2, none⟩ = some (.int .i64 1) ∧ w8.cell? ⟨nb, 3, none⟩ = some (.pointer none) ∧ w8.cell? ⟨nb, 4, none⟩ = some (.pointer none) ∧ w8.cell? ⟨nb, 5, none⟩ = some (.pointer none) ∧ w8.cell? ⟨nb, 6, none⟩ = some (.pointer none) ∧ w8.cell? ⟨nb, 7, none⟩ = some (.pointer none) ∧ w8.cell? ⟨nb, 8, none⟩ = some (.pointer (some ⟨gb, 0, none⟩)) ∧ w8.cell? ⟨nb, 9, none⟩ = some (.pointer none) ∧ w8.cell? ⟨nb, 10, none⟩ = some (.pointer none) ∧ w8.cell? ⟨nb, 11, none⟩ = some (.pointer none) ∧ w8.cell? ⟨nb, 12, none⟩ = some (.pointer none) := ⟨blwV q8 T.1, blwV q8 T.2.1, blwV q8 T.2.2.1, blwV q8 T.2.2.2.1, blwV q8 T.2.2.2.2.1, blwV q8 T.2.2.2.2.2.1, blwV q8 T.2.2.2.2.2.2.1, blwV q8 T.2.2.2.2.2.2.2.1, blwV q8 T.2.2.2.2.2.2.2.2.1, blwV q8 T.2.2.2.2.2.2.2.2.2.1, blwV q8 T.2.2.2.2.2.2.2.2.2.2.1, blwV q8 T.2.2.2.2.2.2.2.2.2.2.2.1, blwV q8 T.2.2.2.2.2.2.2.2.2.2.2.2.1, blwV q8 T.2.2.2.2.2.2.2.2.2.2.2.2.2.1, blwV q8 T.2.2.2.2.2.2.2.2.2.2.2.2.2.2.1, blwV q8 T.2.2.2.2.2.2.2.2.2.2.2.2.2.2.2.1, blwV q8 T.2.2.2.2.2.2.2.2.2.2.2.2.2.2.2.2.1, blwV q8 T.2.2.2.2.2.2.2.2.2.2.2.2.2.2.2.2.2.1, blwV q8 T.2.2.2.2.2.2.2.2.2.2.2.2.2.2.2.2.2.2.1, blwV q8 T.2.2.2.2.2.2.2.2.2.2.2.2.2.2.2.2.2.2.2.1, blwV q8 T.2.2.2.2.2.2.2.2.2.2.2.2.2.2.2.2.2.2.2.2.1, blwV q8 T.2.2.2.2.2.2.2.2.2.2.2.2.2.2.2.2.2.2.2.2.2.1, blwV q8 T.2.2.2.2.2.2.2.2.2.2.2.2.2.2.2.2.2.2.2.2.2.2.1, blwV q8 T.2.2.2.2.2.2.2.2.2.2.2.2.2.2.2.2.2.2.2.2.2.2.2⟩; have HZ8 : Hid (∀ i : Nat, i < 10 → w8.cell? ⟨zb, zo + i, none⟩ = some (.int .i64 (200 + (i : Int)))) := (fun i hi => blwV q8 (HZ7.out i hi)); have C8 := HC8.out w8 aa ca LA q8 hLA hIA T8) | (go_at_call 26; (with_reducible refine Calls.mono C8.out ?_); rintro e w9 ⟨rfl, K9, m9⟩; have t9 : ∀ b i v, b ≠ hb ∧ b ≠ db ∧ b ≠ rb → w8.cell? ⟨b, i, none⟩ = some v → w9.cell? ⟨b, i, none⟩ = some v := (fun b i v h1 q => (m9.cell (p := ⟨b, i, none⟩) (World.block_lt_of_cell? w8 ⟨b, i, none⟩ q) (by show ¬ (b = hb ∨ b = db ∨ b = rb); omega)).trans q); have T9 : w9.cell? ⟨cb, 0, none⟩ = some (.slice (some ⟨rg, 0, none⟩) 1 1) ∧ w9.cell? ⟨cb, 1, none⟩ = some (.slice (some ⟨rg, 0, none⟩) 1 1) ∧ w9.cell? ⟨cb, 2, none⟩ = some (.int .i64 0) ∧ w9.cell? ⟨cb, 3, none⟩ = some (.int .i64 0) ∧ w9.cell? ⟨cb, 4, none⟩ = some (.slice none 0 0) ∧ w9.cell? ⟨cb, 5, none⟩ = some (.int .i64 15) ∧ w9.cell? ⟨cb, 6, none⟩ = some (.int .i64 4) ∧ w9.cell? ⟨cb, 7, none⟩ = some (.slice none 0 0) ∧ w9.cell? ⟨gb, 0, none⟩ = some (.slice (some ⟨zb, zo, none⟩) 10 cap) ∧ w9.cell? ⟨gb, 1, none⟩ = some (.int .i64 0) ∧ w9.cell? ⟨gb, 2, none⟩ = some (.int .i64 16) ∧ w9.cell? ⟨nb, 0, none⟩ = some (.pointer (some ⟨db, 0, none⟩)) ∧ w9.cell? ⟨nb, 1, none⟩ = some (.bool false) ∧ w9.cell? ⟨nb, 2, none⟩ = some (.int .i64 1) ∧ w9.cell? ⟨nb, 3, none⟩ = some (.pointer none) ∧ w9.cell? ⟨nb, 4, none⟩ = some (.pointer none) ∧ w9.cell? ⟨nb, 5, none⟩ = some (.pointer none) ∧ w9.cell? ⟨nb, 6, none⟩ = some (.pointer none) ∧ w9.cell? ⟨nb, 7, none⟩ = some (.pointer none) ∧ w9.cell? ⟨nb, 8, none⟩ = some (.pointer (some ⟨gb, 0, none⟩)) ∧ w9.cell? ⟨nb, 9, none⟩ = some (.pointer none) ∧ w9.cell? ⟨nb, 10, none⟩ = some (.pointer none) ∧ w9.cell? ⟨nb, 11, none⟩ = some (.pointer none) ∧ w9.cell? ⟨nb, 12, none⟩ = some (.pointer none) := ⟨t9 _ _ _ HNF.out.1 T8.1, t9 _ _ _ HNF.out.1 T8.2.1, t9 _ _ _ HNF.out.1 T8.2.2.1, t9 _ _ _ HNF.out.1 T8.2.2.2.1, t9 _ _ _ HNF.out.1 T8.2.2.2.2.1, t9 _ _ _ HNF.out.1 T8.2.2.2.2.2.1, t9 _ _ _ HNF.out.1 T8.2.2.2.2.2.2.1, t9 _ _ _ HNF.out.1 T8.2.2.2.2.2.2.2.1, t9 _ _ _ HNE.out.2 T8.2.2.2.2.2.2.2.2.1, t9 _ _ _ HNE.out.2 T8.2.2.2.2.2.2.2.2.2.1, t9 _ _ _ HNE.out.2 T8.2.2.2.2.2.2.2.2.2.2.1, t9 _ _ _ HNF.out.2 T8.2.2.2.2.2.2.2.2.2.2.2.1, t9 _ _ _ HNF.out.2 T8.2.2.2.2.2.2.2.2.2.2.2.2.1, t9 _ _ _ HNF.out.2 T8.2.2.2.2.2.2.2.2.2.2.2.2.2.1, t9 _ _ _ HNF.out.2 T8.2.2.2.2.2.2.2.2.2.2.2.2.2.2.1, t9 _ _ _ HNF.out.2 T8.2.2.2.2.2.2.2.2.2.2.2.2.2.2.2.1, t9 _ _ _ HNF.out.2 T8.2.2.2.2.2.2.2.2.2.2.2.2.2.2.2.2.1, t9 _ _ _ HNF.out.2 T8.2.2.2.2.2.2.2.2.2.2.2.2.2.2.2.2.2.1, t9 _ _ _ HNF.out.2 T8.2.2.2.2.2.2.2.2.2.2.2.2.2.2.2.2.2.2.1, t9 _ _ _ HNF.out.2 T8.2.2.2.2.2.2.2.2.2.2.2.2.2.2.2.2.2.2.2.1, t9 _ _ _ HNF.out.2 T8.2.2.2.2.2.2.2.2.2.2.2.2.2.2.2.2.2.2.2.2.1, t9 _ _ _ HNF.out.2 T8.2.2.2.2.2.2.2.2.2.2.2.2.2.2.2.2.2.2.2.2.2.1, t9 _ _ _ HNF.out.2 T8.2.2.2.2.2.2.2.2.2.2.2.2.2.2.2.2.2.2.2.2.2.2.1, t9 _ _ _ HNF.out.2 T8.2.2.2.2.2.2.2.2.2.2.2.2.2.2.2.2.2.2.2.2.2.2.2⟩))
  have HF : Hid (HK w9 hb db rb cp 300 0 (69 + 75 + 16 + 68) (.pointer (some ⟨gb, 0, none⟩)) ∧ (w9.cell? ⟨gb, 0, none⟩ = some (.slice (some ⟨zb, zo, none⟩) 10 cap) ∧ w9.cell? ⟨gb, 1, none⟩ = some (.int .i64 0) ∧ w9.cell? ⟨gb, 2, none⟩ = some (.int .i64 16)) ∧ Ints w9 (some ⟨zb, zo, none⟩) (upL 10) ∧ Mv (fun b => b = hb ∨ b = db ∨ b = rb) w w9) := ⟨K9, ⟨T9.2.2.2.2.2.2.2.2.1, T9.2.2.2.2.2.2.2.2.2.1, T9.2.2.2.2.2.2.2.2.2.2.1⟩, ints_upL (fun i hi => t9 _ _ _ HNE.out.1 (HZ8.out i hi)), ((HM7.out.drew.trans (Mv.of q8)).mono (fun _ e => e.elim)).trans m9⟩
  clear T T8 T9 C7 C8 HC8 q8 hIA K9 m9 t9
  go_wp2
  go_ret2
  exact ⟨rfl, gb, zb, zo, cap, HF.out⟩
end Go.Proofs.YtkjknbjjchdjlaaGreatDoor
namespace Go.Proofs.YtkjknbjjchdjlaaGreatDoor
open Go.RowKit Go.Maps
theorem cell_new2 {w : World} {n : Nat} (hn : w.heap.size = n) {cs : Array Value} {t : TypeId} {i : Nat} {v : Value} (h : cs[i]? = some v) : (w.alloc (.cells cs t)).cell? ⟨n, i, none⟩ = some v := by
  subst hn
  exact (World.cell?_alloc_at _ _ _ _ rfl).trans h
set_option maxRecDepth 100000 in
set_option maxHeartbeats 1000000 in
theorem plain_any (w : World) : Calls Tryz.prog 11 #[.int .i64 4] w fun e w' => (∃ rg, e = .returned (.agg #[.slice (some ⟨rg, 0, none⟩) 1 1, .slice (some ⟨rg, 0, none⟩) 1 1, .int .i64 0, .int .i64 0, .slice none 0 0, .int .i64 15, .int .i64 4, .slice none 0 0]) ∧ w'.cell? ⟨rg, 0, none⟩ = some (.int .i64 0) ∧ w'.cell? ⟨rg, 1, none⟩ = some (.int .i64 1000) ∧ w'.cell? ⟨rg, 2, none⟩ = some (.int .i64 100)) ∧ Below w.heap.size w w' := by
  go_enter Tryz.func11, Tryz.ntmps11
  have s1 : (w.alloc (.cells #[.slice (some ⟨w.heap.size + 1, 0, none⟩) 1 1, .slice (some ⟨w.heap.size + 1, 0, none⟩) 1 1, .int .i64 0, .int .i64 0, .slice none 0 0, .int .i64 15, .int .i64 4, .slice none 0 0] 45)).heap.size = w.heap.size + 1 := World.size_alloc _ _
  have hB : Below w.heap.size w ((w.alloc (.cells #[.slice (some ⟨w.heap.size + 1, 0, none⟩) 1 1, .slice (some ⟨w.heap.size + 1, 0, none⟩) 1 1, .int .i64 0, .int .i64 0, .slice none 0 0, .int .i64 15, .int .i64 4, .slice none 0 0] 45)).alloc (.cells #[.int .i64 0, .int .i64 1000, .int .i64 100] 83)) := ((Below.refl _ _).alloc (Nat.le_refl _) _).alloc (by omega) _
  have r0 : ((w.alloc (.cells #[.slice (some ⟨w.heap.size + 1, 0, none⟩) 1 1, .slice (some ⟨w.heap.size + 1, 0, none⟩) 1 1, .int .i64 0, .int .i64 0, .slice none 0 0, .int .i64 15, .int .i64 4, .slice none 0 0] 45)).alloc (.cells #[.int .i64 0, .int .i64 1000, .int .i64 100] 83)).cell? ⟨w.heap.size + 1, 0, none⟩ = some (.int .i64 0) := cell_new2 s1 rfl
  have r1 : ((w.alloc (.cells #[.slice (some ⟨w.heap.size + 1, 0, none⟩) 1 1, .slice (some ⟨w.heap.size + 1, 0, none⟩) 1 1, .int .i64 0, .int .i64 0, .slice none 0 0, .int .i64 15, .int .i64 4, .slice none 0 0] 45)).alloc (.cells #[.int .i64 0, .int .i64 1000, .int .i64 100] 83)).cell? ⟨w.heap.size + 1, 1, none⟩ = some (.int .i64 1000) := cell_new2 s1 rfl
  have r2 : ((w.alloc (.cells #[.slice (some ⟨w.heap.size + 1, 0, none⟩) 1 1, .slice (some ⟨w.heap.size + 1, 0, none⟩) 1 1, .int .i64 0, .int .i64 0, .slice none 0 0, .int .i64 15, .int .i64 4, .slice none 0 0] 45)).alloc (.cells #[.int .i64 0, .int .i64 1000, .int .i64 100] 83)).cell? ⟨w.heap.size + 1, 2, none⟩ = some (.int .i64 100) := cell_new2 s1 rfl
  have k : ∀ i v, (w.alloc (.cells #[.slice (some ⟨w.heap.size + 1, 0, none⟩) 1 1, .slice (some ⟨w.heap.size + 1, 0, none⟩) 1 1, .int .i64 0, .int .i64 0, .slice none 0 0, .int .i64 15, .int .i64 4, .slice none 0 0] 45)).cell? ⟨w.heap.size, i, none⟩ = some v → ((w.alloc (.cells #[.slice (some ⟨w.heap.size + 1, 0, none⟩) 1 1, .slice (some ⟨w.heap.size + 1, 0, none⟩) 1 1, .int .i64 0, .int .i64 0, .slice none 0 0, .int .i64 15, .int .i64 4, .slice none 0 0] 45)).alloc (.cells #[.int .i64 0, .int .i64 1000, .int .i64 100] 83)).cell? ⟨w.heap.size, i, none⟩ = some v := fun i v q => alc q
  have k0 := k 0 _ (World.cell?_alloc_at _ _ _ _ rfl)
  have k1 := k 1 _ (World.cell?_alloc_at _ _ _ _ rfl)
  have k2 := k 2 _ (World.cell?_alloc_at _ _ _ _ rfl)
  have k3 := k 3 _ (World.cell?_alloc_at _ _ _ _ rfl)
  have k4 := k 4 _ (World.cell?_alloc_at _ _ _ _ rfl)
  have k5 := k 5 _ (World.cell?_alloc_at _ _ _ _ rfl)
  have k6 := k 6 _ (World.cell?_alloc_at _ _ _ _ rfl)
  have k7 := k 7 _ (World.cell?_alloc_at _ _ _ _ rfl)
  have HF : Hid (Below w.heap.size w ((w.alloc (.cells #[.slice (some ⟨w.heap.size + 1, 0, none⟩) 1 1, .slice (some ⟨w.heap.size + 1, 0, none⟩) 1 1, .int .i64 0, .int .i64 0, .slice none 0 0, .int .i64 15, .int .i64 4, .slice none 0 0] 45)).alloc (.cells #[.int .i64 0, .int .i64 1000, .int .i64 100] 83)) ∧ ((w.alloc (.cells #[.slice (some ⟨w.heap.size + 1, 0, none⟩) 1 1, .slice (some ⟨w.heap.size + 1, 0, none⟩) 1 1, .int .i64 0, .int .i64 0, .slice none 0 0, .int .i64 15, .int .i64 4, .slice none 0 0] 45)).alloc (.cells #[.int .i64 0, .int .i64 1000, .int .i64 100] 83)).cell? ⟨w.heap.size + 1, 0, none⟩ = some (.int .i64 0) ∧ ((w.alloc (.cells #[.slice (some ⟨w.heap.size + 1, 0, none⟩) 1 1, .slice (some ⟨w.heap.size + 1, 0, none⟩) 1 1, .int .i64 0, .int .i64 0, .slice none 0 0, .int .i64 15, .int .i64 4, .slice none 0 0] 45)).alloc (.cells #[.int .i64 0, .int .i64 1000, .int .i64 100] 83)).cell? ⟨w.heap.size + 1, 1, none⟩ = some (.int .i64 1000) ∧ ((w.alloc (.cells #[.slice (some ⟨w.heap.size + 1, 0, none⟩) 1 1, .slice (some ⟨w.heap.size + 1, 0, none⟩) 1 1, .int .i64 0, .int .i64 0, .slice none 0 0, .int .i64 15, .int .i64 4, .slice none 0 0] 45)).alloc (.cells #[.int .i64 0, .int .i64 1000, .int .i64 100] 83)).cell? ⟨w.heap.size + 1, 2, none⟩ = some (.int .i64 100)) := ⟨hB, r0, r1, r2⟩
  clear k s1 hB r0 r1 r2
  go_wp2
  generalize ((w.alloc (.cells #[.slice (some ⟨w.heap.size + 1, 0, none⟩) 1 1, .slice (some ⟨w.heap.size + 1, 0, none⟩) 1 1, .int .i64 0, .int .i64 0, .slice none 0 0, .int .i64 15, .int .i64 4, .slice none 0 0] 45)).alloc (.cells #[.int .i64 0, .int .i64 1000, .int .i64 100] 83)) = w2 at k0 k1 k2 k3 k4 k5 k6 k7 HF ⊢
  refine bodyPost_ret (v := .agg #[.slice (some ⟨w.heap.size + 1, 0, none⟩) 1 1, .slice (some ⟨w.heap.size + 1, 0, none⟩) 1 1, .int .i64 0, .int .i64 0, .slice none 0 0, .int .i64 15, .int .i64 4, .slice none 0 0]) (by simp [results, Tryz.results11, go_sem, k0, k1, k2, k3, k4, k5, k6, k7]) rfl ⟨⟨w.heap.size + 1, rfl, HF.out.2⟩, HF.out.1⟩
theorem size_ten : size (putL (.map []) (upL 10)) = 10 := by decide
set_option maxRecDepth 100000 in
set_option maxHeartbeats 1000000 in
theorem open_zero {w : World} {db rb cap n : Nat} (h : KB w db rb cap ⟨zeroS (64 * n), -1, 0, false⟩) (h0 : 200 ≤ n) (h1 : n ≤ 2000) : Calls Tryz.prog 6 #[.pointer (some ⟨db, 0, none⟩)] w fun e w' => e = .returned (.tuple #[.pointer none, .iface 47 (.int .i64 17)]) ∧ w = w' := by
  have hsz : (zeroS (64 * n)).size = 64 * n := zeroS_size _
  have C1 := usable_any (n := n) h hsz rfl (by omega)
  have C2 := kbytes_any h
  have C3 := standing_zero (64 * n) (by omega) (by omega) w
  clear h hsz
  go_enter Tryz.func6, Tryz.ntmps6
  go_wp2_with fail
  refine Calls.mono C1 ?_
  rintro e w' ⟨rfl, rfl⟩
  go_wp2_with fail
  refine Calls.mono C2 ?_
  rintro e w' ⟨rfl, rfl⟩
  go_wp2_with fail
  refine Calls.mono C3 ?_
  rintro e w' ⟨rfl, rfl⟩
  go_wp2
  go_ret2
  exact ⟨rfl, rfl⟩
set_option maxRecDepth 100000 in
set_option maxHeartbeats 2000000 in
theorem keeps_any (w : World) : Calls Tryz.prog 4 #[] w fun e w' => e = .returned (.bool true) ∧ Below w.heap.size w w' := by
  have C1 := fresh_any w
  go_enter Tryz.func4, Tryz.ntmps4
  go_wp2_with fail
  refine Calls.mono C1 ?_
  rintro e w1 ⟨⟨hb, db, rb, cp, rfl, K1, l1, l2, l3⟩, q1⟩
  have HK1 : Hid (HK w1 hb db rb cp 300 1 69 (.pointer none)) := K1
  have HQ1 : Hid (Below w.heap.size w w1) := q1
  clear K1 q1 C1
  go_wp2_with fail
  refine Calls.mono (plain_any _) ?_
  rintro e w2 ⟨⟨rg, rfl, hr⟩, q2⟩
  have C3 := addbox_any (HK1.out.below q2) hr
  have HQ2 : Hid (Below w1.heap.size w1 w2) := q2
  clear hr q2
  go_wp2_with fail
  refine Calls.mono C3 ?_
  rintro e w3 ⟨rfl, gb, zb, zo, cap, K3, ⟨g0, g1, g2⟩, hI3, m3⟩
  have C4 := left_any (zs := upL 10) K3 g0 g1 g2 hI3 (by decide) (by decide) (by decide)
  have HQ3 : Hid (Below w.heap.size w w3) := (HQ1.out.trans (HQ2.out.mono HQ1.out.size)).trans (m3.below (by have := HQ1.out.size; have := HQ2.out.size; omega) (fun k e => by omega))
  rw [size_ten] at C4
  have C4 : Hid (Calls Tryz.prog 12 #[.pointer (some ⟨hb, 0, none⟩)] w3 fun e w' => e = .returned (.int .i64 90) ∧ Below w3.heap.size w3 w') := C4
  clear C3 K3 g0 g1 g2 hI3 m3
  go_wp2_with fail
  refine Calls.mono (ksame_nil _) ?_
  rintro e w' ⟨rfl, rfl⟩
  go_wp2_with fail
  refine Calls.mono C4.out ?_
  rintro e w4 ⟨rfl, q4⟩
  have HQ4 : Hid (Below w.heap.size w w4) := HQ3.out.trans (q4.mono HQ3.out.size)
  clear C4 q4
  go_wp2
  go_ret
  exact ⟨rfl, HQ4.out⟩
set_option maxRecDepth 100000 in
set_option maxHeartbeats 2000000 in
theorem hostnone_any (n : Int) (w : World) : Calls Tryz.prog 3 #[.int .i64 n] w fun e w' => e = .returned (.bool true) ∧ Below w.heap.size w w' := by
  by_cases h0 : n < 200
  · have d1 : decide (n < 200) = true := decide_eq_true h0
    go_enter Tryz.func3, Tryz.ntmps3
    go_wp2_with fail
    refine Calls.mono (keeps_any w) ?_
    rintro e w1 ⟨rfl, q1⟩
    go_wp2
    go_ret
    exact ⟨rfl, q1⟩
  · have d1 : decide (n < 200) = false := decide_eq_false h0
    by_cases h1 : 2000 < n
    · have d2 : decide (2000 < n) = true := decide_eq_true h1
      go_enter Tryz.func3, Tryz.ntmps3
      go_wp2_with fail
      refine Calls.mono (keeps_any w) ?_
      rintro e w1 ⟨rfl, q1⟩
      go_wp2
      go_ret
      exact ⟨rfl, q1⟩
    · have d2 : decide (2000 < n) = false := decide_eq_false h1
      obtain ⟨k, rfl⟩ : ∃ k : Nat, n = (k : Int) := ⟨n.toNat, by omega⟩
      have hk0 : 200 ≤ k := by omega
      have hk1 : k ≤ 2000 := by omega
      clear h0 h1
      go_enter Tryz.func3, Tryz.ntmps3
      go_wp2_with fail
      refine Calls.mono (keeps_any w) ?_
      rintro e w1 ⟨rfl, q1⟩
      go_wp2_with fail
      refine Calls.mono (knew_any k w1 hk1) ?_
      rintro e w2 ⟨db, rb, cap, rfl, K2, _, _, q2⟩
      have C3 := open_zero K2 hk0 hk1
      have C4 := kwritten_any K2
      have HQ : Hid (Below w.heap.size w w2) := q1.trans (q2.mono q1.size)
      clear K2 q1 q2
      go_wp2_with fail
      refine Calls.mono C3 ?_
      rintro e w' ⟨rfl, rfl⟩
      go_wp2_with fail
      refine Calls.mono (ksame_err 17 (by decide) _) ?_
      rintro e w' ⟨rfl, rfl⟩
      go_wp2_with fail
      refine Calls.mono C4 ?_
      rintro e w' ⟨rfl, rfl⟩
      go_wp2
      go_ret
      exact ⟨rfl, HQ.out⟩
end Go.Proofs.YtkjknbjjchdjlaaGreatDoor
