/-
  WHAT bounds DOES: the walk.
-/
import Derived.Test.YtkkhfnkmfkdhiabWe
namespace Go.Proofs.Ytkkhfnkmfkdhiab
open Go.RowKit

theorem beyond_id (u : Int) : (decide (u < 0) || decide (65535 < u)) = !idB u := by
  unfold idB
  rw [Bool.eq_iff_iff]; simp
set_option maxRecDepth 100000 in
set_option maxHeartbeats 2000000 in
theorem bounds_any (k m u g : Int) (o : Bool) (at_ : List Kv) (d : ByteArray) (ks : Kds) (h : Hd) (W : World) (hla : at_.length ≤ 1000) (hlow : Low at_) (ha : Kvm W.cell? h.aa at_) :
    Calls Try.prog 103 #[ndV (.mk k m u g o at_ d ks) h] W fun e W' => e = .returned (errV (bdF (.mk k m u g o at_ d ks))) ∧ Below W.heap.size W W' := by
  have HF : Hid (bdF (.mk k m u g o at_ d ks) = if k < 1 ∨ 3 < k then 3 else if m < 0 ∨ 4095 < m ∨ idB u = false ∨ idB g = false then 1 else if chkA at_ ≠ 0 then chkA at_ else if 200 < d.size then 1 else 0) := rfl
  obtain ⟨R, HR⟩ : ∃ R, Hid (bdF (.mk k m u g o at_ d ks) = R) := ⟨_, rfl⟩
  rw [HR.out]
  rw [HR.out] at HF
  have NB := NBox.new W k m u g o at_ d ks h
  have hB1 : Below W.heap.size W (W.alloc (.cells #[.int .i64 k, .int .i64 m, .int .i64 u, .int .i64 g, .bool o, .slice h.aa at_.length h.ca, .string d, .slice h.ak ks.length h.ck] 25)) := (Below.refl _ _).alloc (Nat.le_refl _) _
  have hA1 := ha.below hB1
  show Calls Try.prog 103 #[.agg #[.int .i64 k, .int .i64 m, .int .i64 u, .int .i64 g, .bool o, .slice h.aa at_.length h.ca, .string d, .slice h.ak ks.length h.ck]] _ _
  by_cases hk : k < 1 ∨ 3 < k
  · have b1 : (k != 1) = true := bne_iff_ne.2 (by omega)
    have b2 : (k != 2) = true := bne_iff_ne.2 (by omega)
    have b3 : (k != 3) = true := bne_iff_ne.2 (by omega)
    have HN : Hid (R = 3) := by show _ = _; rw [HF.out, if_pos hk]
    clear hk hA1 HF HR
    obtain ⟨y0, y1, y2, y3, y4, y5, y6, y7⟩ := NB
    go_enter Try.func103, Try.ntmps103
    go_wp2
    go_ret
    exact ⟨ret_val (errV_of HN.out (by decide)).symm, hB1⟩
  have HF2 : Hid (R = if m < 0 ∨ 4095 < m ∨ idB u = false ∨ idB g = false then 1 else if chkA at_ ≠ 0 then chkA at_ else if 200 < d.size then 1 else 0) := by show _ = _; rw [HF.out, if_neg hk]
  clear HF HR
  obtain ⟨t1, b1⟩ : ∃ t, (k != 1) = t := ⟨_, rfl⟩
  obtain ⟨t2, b2⟩ : ∃ t, (k != 2) = t := ⟨_, rfl⟩
  obtain ⟨t3, b3⟩ : ∃ t, (k != 3) = t := ⟨_, rfl⟩
  have hkk : (t1 = false) ∨ (t1 = true ∧ t2 = false) ∨ (t1 = true ∧ t2 = true ∧ t3 = false) := by
    have : k = 1 ∨ k = 2 ∨ k = 3 := by omega
    rcases this with rfl | rfl | rfl
    · left; rw [← b1]; rfl
    · right; left; rw [← b1, ← b2]; exact ⟨rfl, rfl⟩
    · right; right; rw [← b1, ← b2, ← b3]; exact ⟨rfl, rfl, rfl⟩
  clear hk
  obtain ⟨tm, hm⟩ : ∃ t, (decide (m < 0) || decide (4095 < m)) = t := ⟨_, rfl⟩
  have HM : Hid ((decide (m < 0) || decide (4095 < m)) = tm) := hm
  obtain ⟨tu, hu⟩ : ∃ t, idB u = t := ⟨_, rfl⟩
  obtain ⟨tg, hg⟩ : ∃ t, idB g = t := ⟨_, rfl⟩
  have HU : Hid ((decide (u < 0) || decide (65535 < u)) = !tu) := by show _ = _; rw [beyond_id, hu]
  have HG : Hid ((decide (g < 0) || decide (65535 < g)) = !tg) := by show _ = _; rw [beyond_id, hg]
  have HF3 : Hid (R = if tm = true ∨ tu = false ∨ tg = false then 1 else if chkA at_ ≠ 0 then chkA at_ else if 200 < d.size then 1 else 0) := by
    show _ = _
    rw [HF2.out, hu, hg]
    congr 1
    rw [← hm]
    simp only [Bool.or_eq_true, decide_eq_true_eq, or_assoc]
  clear HF2 hm hu hg
  have hcr := chkA_range at_
  obtain ⟨c, hcc⟩ : ∃ c, chkA at_ = c := ⟨_, rfl⟩
  have HC : Hid (chkA at_ = c) := hcc
  rw [hcc] at HF3 hcr
  clear hcc
  have key : ∀ (fr : Prop), fr → fr := fun _ h => h
  clear key
  rcases hkk with e1 | ⟨e1, e2⟩ | ⟨e1, e2, e3⟩
  all_goals
    subst e1
    try subst e2
    try subst e3
    have NB2 := NB
    obtain ⟨y0, y1, y2, y3, y4, y5, y6, y7⟩ := NB2
    go_enter Try.func103, Try.ntmps103
    go_wp2_with fail
    refine (beyond_any m 4095 _).mono ?_
    rintro e w' ⟨rfl, rfl⟩
    rw [HM.out]
    cases tm
    rotate_left
    · have HN : Hid (R = 1) := by show _ = _; rw [HF3.out, if_pos (.inl rfl)]
      go_wp2
      go_ret
      exact ⟨ret_val (errV_of HN.out (by decide)).symm, hB1⟩
    go_wp2_with fail
    refine (beyond_any u 65535 _).mono ?_
    rintro e w' ⟨rfl, rfl⟩
    rw [HU.out]
    cases tu
    · have HN : Hid (R = 1) := by show _ = _; rw [HF3.out, if_pos (.inr (.inl rfl))]
      go_wp2
      go_ret
      exact ⟨ret_val (errV_of HN.out (by decide)).symm, hB1⟩
    go_wp2_with fail
    refine (beyond_any g 65535 _).mono ?_
    rintro e w' ⟨rfl, rfl⟩
    rw [HG.out]
    cases tg
    · have HN : Hid (R = 1) := by show _ = _; rw [HF3.out, if_pos (.inr (.inr rfl))]
      go_wp2
      go_ret
      exact ⟨ret_val (errV_of HN.out (by decide)).symm, hB1⟩
    have HF4 : Hid (R = if c ≠ 0 then c else if 200 < d.size then 1 else 0) := by show _ = _; rw [HF3.out, if_neg (by simp)]
    clear HF3
    go_wp2_with fail
    refine (check_any h.aa h.ca at_ _ hla hlow hA1).mono ?_
    rintro e w2 ⟨rfl, c2⟩
    rw [HC.out]
    have NB3 := NB.below c2
    have hB2 := hB1.trans (c2.mono hB1.size)
    clear y0 y1 y2 y3 y4 y5 y6 y7 NB c2 hB1 hA1
    obtain ⟨y0, y1, y2, y3, y4, y5, y6, y7⟩ := NB3
    by_cases hc0 : c = 0
    rotate_left
    · rw [errV_of rfl hc0]
      have HN : Hid (R = c) := by show _ = _; rw [HF4.out, if_pos hc0]
      have HZ : Hid (c ≠ 0) := hc0
      clear hc0
      go_wp2
      go_ret
      exact ⟨ret_val (errV_of HN.out HZ.out).symm, hB2⟩
    subst hc0
    rw [errV_nil rfl]
    have HF5 : Hid (R = if 200 < d.size then 1 else 0) := by show _ = _; rw [HF4.out, if_neg (by simp)]
    clear HF4 HC
    by_cases hd : 200 < d.size
    · have dd : decide (200 < (d.size : Int)) = true := decide_eq_true (by omega)
      have HN : Hid (R = 1) := by show _ = _; rw [HF5.out, if_pos hd]
      clear hd
      go_wp2
      go_ret
      exact ⟨ret_val (errV_of HN.out (by decide)).symm, hB2⟩
    · have dd : decide (200 < (d.size : Int)) = false := decide_eq_false (by omega)
      have HN : Hid (R = 0) := by show _ = _; rw [HF5.out, if_neg hd]
      clear hd
      go_wp2
      go_ret
      exact ⟨ret_val (errV_nil HN.out).symm, hB2⟩
end Go.Proofs.Ytkkhfnkmfkdhiab
