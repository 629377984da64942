/-
  CredSays ANSWERS true: the walk.
-/
import Derived.Test.YtoadlnojcbkdgaaCl
import Derived.Deep.DeepCutAuto
namespace Go.Proofs.Ytoadlnojcbkdgaa
open Go.RowKit

set_option maxHeartbeats 400000 in
theorem credSays_long (u g c user group what mode : Int) (a : Option Addr) (n cap : Nat) (w : World) (hl : 8 < n) :
    Calls Try.prog 4 #[.agg #[.int .i64 u, .int .i64 g, .slice a n cap, .int .i64 c], .int .i64 user, .int .i64 group, .int .i64 what, .int .i64 mode] w fun e w' =>
      e = .returned (.bool true) ∧ Below w.heap.size w w' := by
  have hd : decide (8 < (n : Int)) = true := by simp; omega
  go_enter Try.func4, Try.ntmps4
  go_wp2_with fail
  refine (asks_any _).mono ?_
  rintro e w1 ⟨rfl, hb⟩
  have hbx := (Box.new w u g (.slice a n cap) c).below hb
  obtain ⟨k0, k1, k2, k3, k4⟩ := id hbx
  go_wp2
  go_ret
  exact ⟨rfl, ((Below.refl _ _).alloc (Nat.le_refl _) _).trans (hb.mono (by simp))⟩

set_option maxRecDepth 100000 in
set_option maxHeartbeats 2000000 in
theorem credSays_short (u g c user group what mode : Int) (a : Option Addr) (cap : Nat) (zs : List Int) (w : World) (hl : zs.length ≤ 8) (h : Ints w a zs) :
    Calls Try.prog 4 #[.agg #[.int .i64 u, .int .i64 g, .slice a zs.length cap, .int .i64 c], .int .i64 user, .int .i64 group, .int .i64 what, .int .i64 mode] w fun e w' =>
      e = .returned (.bool true) ∧ Below w.heap.size w w' := by
  have hd : decide (8 < (zs.length : Int)) = false := by simp; omega
  go_enter Try.func4, Try.ntmps4
  go_wp2_with fail
  refine (asks_any _).mono ?_
  rintro e w1 ⟨rfl, hb⟩
  have hbx := (Box.new w u g (.slice a zs.length cap) c).below hb
  have hb0 := ((Below.refl _ _).alloc (Nat.le_refl _) _).trans (hb.mono (by simp))
  clear hb
  obtain ⟨k0, k1, k2, k3, k4⟩ := id hbx
  obtain ⟨i0, hi0, hz0, hz1, hz2⟩ := info_parts Try.info3
  have l1 := hbx.lt
  go_wp2_with fail
  have hbo := Box.new w1 u g (.slice a zs.length cap) c
  have hbx1 := hbx.alloc (.cells #[.int .i64 u, .int .i64 g, .slice a zs.length cap, .int .i64 c] 40)
  have hb1 := hb0.alloc (Nat.le_of_lt l1) (.cells #[.int .i64 u, .int .i64 g, .slice a zs.length cap, .int .i64 c] 40)
  have l2 : w.heap.size < w1.heap.size := l1
  clear k0 k1 k2 k3 k4 hbx hb0
  generalize w1.alloc (.cells #[.int .i64 u, .int .i64 g, .slice a zs.length cap, .int .i64 c] 40) = w2 at hbo hbx1 hb1 ⊢
  generalize w1.heap.size = ob at hbo l2 ⊢
  have s2 := hbx1.2.2.1
  have lw2 : w.heap.size < w2.heap.size := hbx1.lt
  have lo2 : ob < w2.heap.size := hbo.lt
  have nob : ¬ ob = w.heap.size := by omega
  have nob' : ¬ w.heap.size = ob := by omega
  have hbo1 : ∀ u ∈ [Value.int .i64 77], u.oneCell' = true := by intro u hu; simp at hu; subst hu; rfl
  go_cut [30] (fun _ w5 => ∃ gb cp : Nat, Box w5 ob u g (.slice (some ⟨gb, 0, none⟩) zs.length cp) c ∧ Box w5 w.heap.size u g (.slice a zs.length cap) c ∧ Ints w5 (some ⟨gb, 0, none⟩) zs ∧ Below w.heap.size w w5)
  case first =>
    go_region_held3 (fun w' => w'.cell? ⟨w.heap.size, 2, none⟩ = some (.slice a zs.length cap)) (first | go_keep | (simp [*]; done))
      (first
        | (refine step_append_src w2.drew (by rfl) (.const (.slice none 0 0)) (.tmp 29) 38 (by rfl) w2.heap.size 3 i0 (.int .i64 0) 1 8 Try.underlying38 hi0 hz0 hz1 hz2 rfl (by decide) (.slice none 0 0) 0 [] (by rfl) (World.ownsRow_nil _ _ _ _) a zs.length cap (zs.map (Value.int .i64)) (by rfl) (by simp) (src_of_ints (h.below hb1.drew)) (one_ints zs) (by unfold maxLen; omega) (by omega) (by simp) ?_; intro v1 w3 hown1 hgrow1 hat1; simp only [Nat.zero_add, List.nil_append] at hown1; have hbb3 : Below w2.heap.size w2 w3 := Below.grown (Below.refl _ _).drew hgrow1 (by simp) (fun k e => by cases e); have s3 := (hbx1.below hbb3).2.2.1; have z3 := hbb3.size)
        | (refine step_append_src (w2.alloc (.cells #[.int .i64 77] 3)).drew (by rfl) (.const (.slice none 0 0)) (.tmp 29) 38 (by rfl) w2.heap.size 3 i0 (.int .i64 0) 1 8 Try.underlying38 hi0 hz0 hz1 hz2 rfl (by decide) (.slice none 0 0) 0 [] (by rfl) (World.ownsRow_nil _ _ _ _) a zs.length cap (zs.map (Value.int .i64)) (by rfl) (by simp) (src_of_ints (h.below (hb1.alloc (Nat.le_of_lt lw2) _).drew)) (one_ints zs) (by unfold maxLen; omega) (by omega) (by simp) ?_; intro v1 w3 hown1 hgrow1 hat1; simp only [Nat.zero_add, List.nil_append] at hown1; have hbb3 : Below w2.heap.size w2 w3 := Below.grown ((Below.refl _ _).alloc (Nat.le_refl _) _).drew hgrow1 (by simp) (fun k e => by cases e); have s3 := (hbx1.below hbb3).2.2.1; have z3 := hbb3.size; have h77 := far77 hgrow1)
        | (refine step_append_src _ (by rfl) (.tmp 30) (.tmp 31) 38 (by rfl) w2.heap.size 3 i0 (.int .i64 0) 1 8 Try.underlying38 hi0 hz0 hz1 hz2 rfl (by decide) v1 zs.length (zs.map (Value.int .i64)) (by rfl) (hown1.alloc _) (some ⟨w3.heap.size, 0, none⟩) 1 1 [.int .i64 77] (by rfl) (by rfl) (.inr ⟨_, rfl, cell_one_new _ _ _⟩) hbo1 (by unfold maxLen; omega) (by omega) (Nat.le_trans z3 (by simp)) ?_; intro v2 w4 hown2 hgrow2 hat2; have hbb4 : Below w2.heap.size w2 w4 := Below.grown (hbb3.alloc z3 _) hgrow2 (Nat.le_trans z3 (by simp)) (fun k e => (hown1.lt k e).1); obtain ⟨ao, cp, hv, hlc, _, hform⟩ := ownsRow_form hown2; obtain ⟨gb, cp', hv', hbg, hgl⟩ := hown2.form (by omega); rw [hv]; rw [hv] at hv' hown2; obtain ⟨rfl, rfl⟩ : ao = some ⟨gb, 0, none⟩ ∧ cp = cp' := (by simpa using hv'); clear hv' hv; have hcp : (zs.length : Int) ≤ (cp : Int) := (by omega); have hcp0 : (0 : Int) ≤ (zs.length : Int) := (by omega); have hbo4 := hbo.below hbb4; obtain ⟨o0, o1, o2, o3, o4⟩ := id hbo4; have s4 := (hbx1.below hbb4).2.2.1)
        | (refine step_append_src _ (by rfl) (.tmp 30) (.tmp 31) 38 (by rfl) w2.heap.size 3 i0 (.int .i64 0) 1 8 Try.underlying38 hi0 hz0 hz1 hz2 rfl (by decide) v1 zs.length (zs.map (Value.int .i64)) (by rfl) hown1 (some ⟨w2.heap.size, 0, none⟩) 1 1 [.int .i64 77] (by rfl) (by rfl) (.inr ⟨_, rfl, one77 h77⟩) hbo1 (by unfold maxLen; omega) (by omega) (by omega) ?_; intro v2 w4 hown2 hgrow2 hat2; have hbb4 : Below w2.heap.size w2 w4 := Below.grown hbb3 hgrow2 z3 (fun k e => (hown1.lt k e).1); obtain ⟨ao, cp, hv, hlc, _, hform⟩ := ownsRow_form hown2; obtain ⟨gb, cp', hv', hbg, hgl⟩ := hown2.form (by omega); rw [hv]; rw [hv] at hv' hown2; obtain ⟨rfl, rfl⟩ : ao = some ⟨gb, 0, none⟩ ∧ cp = cp' := (by simpa using hv'); clear hv' hv; have hcp : (zs.length : Int) ≤ (cp : Int) := (by omega); have hcp0 : (0 : Int) ≤ (zs.length : Int) := (by omega); have hbo4 := hbo.below hbb4; obtain ⟨o0, o1, o2, o3, o4⟩ := id hbo4; have s4 := (hbx1.below hbb4).2.2.1))
    all_goals
      have hIO := ints_of_ownsRow hown2
      have hres : Box (w4.setCell ⟨ob, 2, none⟩ (.slice (some ⟨gb, 0, none⟩) zs.length cp)) ob u g (.slice (some ⟨gb, 0, none⟩) zs.length cp) c ∧ Box (w4.setCell ⟨ob, 2, none⟩ (.slice (some ⟨gb, 0, none⟩) zs.length cp)) w.heap.size u g (.slice a zs.length cap) c ∧ Ints (w4.setCell ⟨ob, 2, none⟩ (.slice (some ⟨gb, 0, none⟩) zs.length cp)) (some ⟨gb, 0, none⟩) zs ∧ Below w.heap.size w (w4.setCell ⟨ob, 2, none⟩ (.slice (some ⟨gb, 0, none⟩) zs.length cp)) :=
        ⟨hbo4.set2 _, (hbx1.below hbb4).other (by simpa using nob) _, hIO.other (by simp; omega) _, (hb1.trans (hbb4.mono (Nat.le_of_lt lw2))).setCell (by simp; omega) _⟩
      clear hbo4 hbb4 hown2 hgrow2 hform hIO hbb3 hown1 hgrow1 o0 o1 o2 o3 o4 s4 s3 s2
      generalize w4.setCell ⟨ob, 2, none⟩ (.slice (some ⟨gb, 0, none⟩) zs.length cp) = w5 at hres ⊢
      go_wp2_with fail
      go_meet
      case rel => exact ⟨gb, cp, hres⟩
  case rest =>
    obtain ⟨gb, cp, BO, BX, IO, L5⟩ := hcut
    clear hbx1 hb1 hbo lw2 lo2 hbo1 s2 hi0 hz0 hz1 hz2 hd nob
    obtain ⟨F, HF⟩ : ∃ F, Hid (becF u g zs c user group = F) := ⟨_, rfl⟩
    obtain ⟨X0, H0⟩ : ∃ X, Hid (onlyOk F user = X) := ⟨_, rfl⟩
    obtain ⟨X1, H1⟩ : ∃ X, Hid (onlyOk F group = X) := ⟨_, rfl⟩
    obtain ⟨X3, H3⟩ : ∃ X, Hid (onlyOk F (becC u c user) = X) := ⟨_, rfl⟩
    obtain ⟨xs, HX⟩ : ∃ X, Hid (onlyOkL F zs = X) := ⟨_, rfl⟩
    have hF0 : 0 ≤ F := by rw [← HF.out]; exact becF_nonneg _ _ _ _ _ _
    have hxl : xs.length ≤ 8 := by
      rw [← HX.out]; unfold onlyOkL
      split
      · exact hl
      · simp
    obtain ⟨k0, k1, k2, k3, k4⟩ := id BO
    go_wp2_with fail
    refine (become_one u g c user group _ cp zs _ hl IO F X0 X1 X3 xs HF.out H0.out H1.out H3.out HX.out).mono ?_
    rintro e w6 ⟨⟨ax, cx, rfl, IX⟩, hb6⟩
    have BO6 := BO.below hb6
    have BX6 := BX.below hb6
    have IO6 := IO.below hb6
    have L6 := L5.trans (hb6.mono L5.size)
    clear k0 k1 k2 k3 k4 BO BX IO hb6 L5
    obtain ⟨k0, k1, k2, k3, k4⟩ := id BX6
    have l6 := BX6.lt
    go_wp2_with fail
    have BX7 := BX6.alloc (.cells #[.int .i64 X0, .int .i64 X1, .slice ax xs.length cx, .int .i64 X3] 40)
    have BO7 := BO6.alloc (.cells #[.int .i64 X0, .int .i64 X1, .slice ax xs.length cx, .int .i64 X3] 40)
    have BN7 := Box.new w6 X0 X1 (.slice ax xs.length cx) X3
    have L7 := L6.alloc (Nat.le_of_lt l6) (.cells #[.int .i64 X0, .int .i64 X1, .slice ax xs.length cx, .int .i64 X3] 40)
    have hb7 := (Below.refl w6.heap.size w6).alloc (Nat.le_refl _) (.cells #[.int .i64 X0, .int .i64 X1, .slice ax xs.length cx, .int .i64 X3] 40)
    refine (becomer_one u g c user group a cap zs _ hl (h.below L7) F X0 X1 X3 xs HF.out H0.out H1.out H3.out HX.out).mono ?_
    rintro e w8 ⟨⟨ay, cy, rfl, IY⟩, hb8⟩
    have q8 : Four w (w8.alloc (.cells #[.int .i64 X0, .int .i64 X1, .slice ay xs.length cy, .int .i64 X3] 40)) ob w.heap.size w6.heap.size w8.heap.size u g c X0 X1 X3 a (some ⟨gb, 0, none⟩) ax ay cap cp cx cy zs xs :=
      ⟨(BO7.below hb8).alloc _, (BX7.below hb8).alloc _, (BN7.below hb8).alloc _, Box.new _ _ _ _ _, ((IO6.below hb7).below hb8).below ((Below.refl _ _).alloc (Nat.le_refl _) _), (((h.below L7).below hb8).below ((Below.refl _ _).alloc (Nat.le_refl _) _)), ((IX.below hb7).below hb8).below ((Below.refl _ _).alloc (Nat.le_refl _) _), IY.below ((Below.refl _ _).alloc (Nat.le_refl _) _), (L7.trans (hb8.mono L7.size)).alloc (Nat.le_of_lt (BX7.below hb8).lt) _⟩
    clear k0 k1 k2 k3 k4 BX6 BO6 IO6 L6 BX7 BO7 BN7 L7 hb7 hb8 IX IY l6
    go_wp2_with fail
    generalize w8.alloc (.cells #[.int .i64 X0, .int .i64 X1, .slice ay xs.length cy, .int .i64 X3] 40) = w9 at q8 ⊢
    generalize w8.heap.size = yb at q8 ⊢
    generalize w6.heap.size = xb at q8 ⊢
    go_cut [96] (fun s wz => s = .bool false ∧ Four w wz ob w.heap.size xb yb u g c X0 X1 X3 a (some ⟨gb, 0, none⟩) ax ay cap cp cx cy zs xs)
    case first =>
      have hh1 : (hasB g zs group != hasB g zs group) = false := by simp
      have hh2 : ((bits .and .i64 c what == what) != (bits .and .i64 c what == what)) = false := by simp
      have q9 := q8.drew
      clear nob' l2
      go_region_held3 (fun w' => (w'.cell? ⟨ob, 0, none⟩ = some (.int .i64 u) ∧ w'.cell? ⟨ob, 1, none⟩ = some (.int .i64 g) ∧ w'.cell? ⟨ob, 2, none⟩ = some (.slice (some ⟨gb, 0, none⟩) zs.length cp) ∧ w'.cell? ⟨ob, 3, none⟩ = some (.int .i64 c)) ∧ (w'.cell? ⟨w.heap.size, 0, none⟩ = some (.int .i64 u) ∧ w'.cell? ⟨w.heap.size, 1, none⟩ = some (.int .i64 g) ∧ w'.cell? ⟨w.heap.size, 2, none⟩ = some (.slice a zs.length cap) ∧ w'.cell? ⟨w.heap.size, 3, none⟩ = some (.int .i64 c)) ∧ (w'.cell? ⟨xb, 0, none⟩ = some (.int .i64 X0) ∧ w'.cell? ⟨xb, 1, none⟩ = some (.int .i64 X1) ∧ w'.cell? ⟨xb, 2, none⟩ = some (.slice ax xs.length cx) ∧ w'.cell? ⟨xb, 3, none⟩ = some (.int .i64 X3)) ∧ (w'.cell? ⟨yb, 0, none⟩ = some (.int .i64 X0) ∧ w'.cell? ⟨yb, 1, none⟩ = some (.int .i64 X1) ∧ w'.cell? ⟨yb, 2, none⟩ = some (.slice ay xs.length cy) ∧ w'.cell? ⟨yb, 3, none⟩ = some (.int .i64 X3))) (first | exact q9.cells | exact qa.cells | exact qb.cells | exact qc.cells | exact qd.cells | exact qe.cells | exact qf.cells | exact qg.cells)
        (first
          | (go_at_call 24; refine (check_any u g c _ cp zs _ hl q9.io).mono ?_; rintro e wa ⟨rfl, hba⟩; have qa := q9.below hba)
          | (go_at_call 25; refine (credFault_any u g c a cap zs _ hl qa.ic).mono ?_; rintro e wb ⟨rfl, hbb⟩; have qb := qa.below hbb)
          | (go_at_call_of 14 (errV (credF u g zs c)); refine (same_errV (credF u g zs c) (credF_nonneg _ _ _ _) _).mono ?_; rintro e w' ⟨rfl, rfl⟩)
          | (go_at_call_of 14 (errV F); refine (same_errV F hF0 _).mono ?_; rintro e w' ⟨rfl, rfl⟩)
          | (go_at_call 26; refine (has_any u g group c _ cp zs _ hl qb.io).mono ?_; rintro e wc' ⟨rfl, hbc⟩; have qc := qb.below hbc)
          | (go_at_call 27; refine (hasr_any u g group c a cap zs _ hl qc.ic).mono ?_; rintro e wd ⟨rfl, hbd⟩; have qd := qc.below hbd)
          | (go_at_call 28; refine (can_any u g c what _ _).mono ?_; rintro e we ⟨rfl, hbe⟩; have qe := qd.below hbe)
          | (go_at_call_of 29 (Value.slice ax xs.length cx); refine (sameCred_yes X0 X1 X3 _ _ _ _ xs.length xs _ rfl hxl qe.ix qe.it).mono ?_; rintro e wf ⟨rfl, hbf⟩; have qf := qe.below hbf)
          | (go_at_call_of 29 (Value.slice a zs.length cap); refine (sameCred_yes u g c _ _ _ _ zs.length zs _ rfl hl qf.io qf.ic).mono ?_; rintro e wg ⟨rfl, hbg⟩; have qg := qf.below hbg))
      all_goals
        clear hh1 hh2 hba hbb hbc hbd hbe hbf hbg q9 qa qb qc qd qe qf
        go_wp2_with fail
        go_meet
        case rel => exact ⟨rfl, qg⟩
    case rest =>
      obtain ⟨rfl, q⟩ := hcut
      clear q8 nob' l2 HF H0 H1 H3 HX
      by_cases m1 : mode < 0
      · go_wp2
        go_ret
        exact ⟨rfl, q.bl⟩
      have d1 : decide (mode < 0) = false := by simpa using m1
      by_cases m2 : 4095 < mode
      · go_wp2
        go_ret
        exact ⟨rfl, q.bl⟩
      have d2 : decide (4095 < mode) = false := by simpa using m2
      obtain ⟨k0, k1, k2, k3, k4⟩ := id q.bc
      go_wp2_with fail
      refine (credFault_any u g c a cap zs _ hl q.ic).mono ?_
      rintro e wd ⟨rfl, hbd⟩
      have q2 := q.below hbd
      clear k0 k1 k2 k3 k4 q hbd
      obtain ⟨f, HFc⟩ : ∃ f, Hid (credF u g zs c = f) := ⟨_, rfl⟩
      rw [HFc.out]
      by_cases hf : 0 < f
      · go_wp2
        go_ret
        exact ⟨rfl, q2.bl⟩
      · have hf0 : credF u g zs c = 0 := by have := credF_nonneg u g zs c; have := HFc.out; omega
        obtain ⟨_, _, hc0, hc1, _, _⟩ := credF_zero hf0
        have hdf : decide (0 < f) = false := by simpa using hf
        have hk1 : (keepF g zs c mode group == keepF g zs c mode group) = true := by simp
        have hk2 : (wipeF c mode == wipeF c mode) = true := by simp
        have q9 := q2.drew
        have hm0 : 0 ≤ mode := by omega
        have hm1 : mode ≤ 4095 := by omega
        clear hf0 m1 m2
        go_wp2_with fail
        go_region_held3 (fun w' => (w'.cell? ⟨ob, 0, none⟩ = some (.int .i64 u) ∧ w'.cell? ⟨ob, 1, none⟩ = some (.int .i64 g) ∧ w'.cell? ⟨ob, 2, none⟩ = some (.slice (some ⟨gb, 0, none⟩) zs.length cp) ∧ w'.cell? ⟨ob, 3, none⟩ = some (.int .i64 c)) ∧ (w'.cell? ⟨w.heap.size, 0, none⟩ = some (.int .i64 u) ∧ w'.cell? ⟨w.heap.size, 1, none⟩ = some (.int .i64 g) ∧ w'.cell? ⟨w.heap.size, 2, none⟩ = some (.slice a zs.length cap) ∧ w'.cell? ⟨w.heap.size, 3, none⟩ = some (.int .i64 c)) ∧ (w'.cell? ⟨xb, 0, none⟩ = some (.int .i64 X0) ∧ w'.cell? ⟨xb, 1, none⟩ = some (.int .i64 X1) ∧ w'.cell? ⟨xb, 2, none⟩ = some (.slice ax xs.length cx) ∧ w'.cell? ⟨xb, 3, none⟩ = some (.int .i64 X3)) ∧ (w'.cell? ⟨yb, 0, none⟩ = some (.int .i64 X0) ∧ w'.cell? ⟨yb, 1, none⟩ = some (.int .i64 X1) ∧ w'.cell? ⟨yb, 2, none⟩ = some (.slice ay xs.length cy) ∧ w'.cell? ⟨yb, 3, none⟩ = some (.int .i64 X3))) (first | exact q9.cells | exact qa.cells | exact qb.cells | exact qc.cells | exact qd.cells)
          (first
            | (go_at_call 30; refine (keep_any u g c mode group _ cp zs _ hl q9.io hc0 hc1 hm0 hm1).mono ?_; rintro e wa ⟨rfl, hba⟩; have qa := q9.below hba)
            | (go_at_call 31; refine (keepr_any u g c mode group a cap zs _ hl qa.ic hc0 hc1 hm0 hm1).mono ?_; rintro e wb ⟨rfl, hbb⟩; have qb := qa.below hbb)
            | (go_at_call 32; refine (wipe_any u g c mode _ _ hc0 hc1 hm0 hm1).mono ?_; rintro e wc' ⟨rfl, hbc⟩; have qc := qb.below hbc)
            | (go_at_call 33; refine (wiper_any u g c mode _ _ hc0 hc1 hm0 hm1).mono ?_; rintro e wd' ⟨rfl, hbd'⟩; have qd := qc.below hbd'))
        go_wp2
        go_ret
        exact ⟨rfl, qd.bl⟩
end Go.Proofs.Ytoadlnojcbkdgaa
