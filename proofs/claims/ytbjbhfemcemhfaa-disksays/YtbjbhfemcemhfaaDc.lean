/-
  THE DOCUMENT's DISK: Fault, Write, Arm: the walks.
-/
import Derived.Test.YtbjbhfemcemhfaaDa
namespace Go.Proofs.Ytbjbhfemcemhfaa
open Go.RowKit

set_option maxRecDepth 100000 in
set_option maxHeartbeats 1000000 in
theorem rfault_any {W : World} {qb : Nat} {c : Dk} (h : RB W qb c) (p n : Int) (hp : p ≤ 9223372036854775807) (hs : c.s.size ≤ 100000000) :
    Calls Try.prog 8 #[.pointer (some ⟨qb, 0, none⟩), .int .i64 p, .int .i64 n] W fun e w' => e = .returned (.int .i64 (ckF c.off c.s.size p n)) ∧ W = w' := by
  obtain ⟨y0, y1, y2, y3, z0, z1, z2, z3⟩ := h.cells
  clear h
  obtain ⟨s, cut, wr, off⟩ := c
  simp only at y0 y1 y2 y3 hs ⊢
  cases off
  rotate_left
  · rw [show ckF true s.size p n = 16 from if_pos rfl]
    go_enter Try.func8, Try.ntmps8
    go_wp2
    go_ret
    exact ⟨rfl, rfl⟩
  by_cases h1 : p < 0
  · rw [show ckF false s.size p n = 1 by unfold ckF; rw [if_neg (by decide), if_pos (.inl h1)]]
    have b1 : decide (p < 0) = true := decide_eq_true h1
    go_enter Try.func8, Try.ntmps8
    go_wp2
    go_ret
    exact ⟨rfl, rfl⟩
  have b1 : decide (p < 0) = false := decide_eq_false h1
  by_cases h2 : n < 0
  · rw [show ckF false s.size p n = 1 by unfold ckF; rw [if_neg (by decide), if_pos (.inr (.inl h2))]]
    have b2 : decide (n < 0) = true := decide_eq_true h2
    go_enter Try.func8, Try.ntmps8
    go_wp2
    go_ret
    exact ⟨rfl, rfl⟩
  have b2 : decide (n < 0) = false := decide_eq_false h2
  have h1' : 0 ≤ p := by omega
  by_cases h4 : (s.size : Int) < p
  · rw [show ckF false s.size p n = 1 by unfold ckF; rw [if_neg (by decide), if_pos (.inr (.inr (by omega)))]]
    have b4 : decide ((s.size : Int) < p) = true := decide_eq_true h4
    go_enter Try.func8, Try.ntmps8
    go_wp2
    go_ret
    exact ⟨rfl, rfl⟩
  have b4 : decide ((s.size : Int) < p) = false := decide_eq_false h4
  by_cases h3 : (s.size : Int) - p < n
  · rw [show ckF false s.size p n = 1 by unfold ckF; rw [if_neg (by decide), if_pos (.inr (.inr h3))]]
    have b3 : decide ((s.size : Int) - p < n) = true := decide_eq_true h3
    go_enter Try.func8, Try.ntmps8
    go_wp2
    go_ret
    exact ⟨rfl, rfl⟩
  · rw [show ckF false s.size p n = 0 by unfold ckF; rw [if_neg (by decide), if_neg (by omega)]]
    have b3 : decide ((s.size : Int) - p < n) = false := decide_eq_false h3
    go_enter Try.func8, Try.ntmps8
    go_wp2
    go_ret
    exact ⟨rfl, rfl⟩

set_option maxRecDepth 100000 in
set_option maxHeartbeats 1000000 in
theorem rarm_any {W : World} {qb : Nat} {c : Dk} (h : RB W qb c) (n : Int) :
    Calls Try.prog 12 #[.pointer (some ⟨qb, 0, none⟩), .int .i64 n] W fun e w' => e = .returned (.int .i64 (ctF c.off n)) ∧ Mv (fun b => b = qb) W w' ∧ RB w' qb (ctD c n) := by
  have HK : Hid (RB W qb c) := h
  obtain ⟨y0, y1, y2, y3, z0, z1, z2, z3⟩ := h.cells
  clear h
  obtain ⟨s, cut, wr, off⟩ := c
  simp only at y0 y1 y2 y3 ⊢
  unfold ctD
  cases off
  rotate_left
  · rw [show ctF true n = 16 from if_pos rfl, if_neg (by decide)]
    go_enter Try.func12, Try.ntmps12
    go_wp2
    go_ret
    exact ⟨rfl, Mv.refl _ _, HK.out⟩
  by_cases h1 : n < 0
  · rw [show ctF false n = 1 by unfold ctF; rw [if_neg (by decide), if_pos h1], if_neg (by decide)]
    have b1 : decide (n < 0) = true := decide_eq_true h1
    go_enter Try.func12, Try.ntmps12
    go_wp2
    go_ret
    exact ⟨rfl, Mv.refl _ _, HK.out⟩
  · rw [show ctF false n = 0 by unfold ctF; rw [if_neg (by decide), if_neg h1], if_pos rfl]
    have b1 : decide (n < 0) = false := decide_eq_false h1
    go_enter Try.func12, Try.ntmps12
    go_wp2
    go_ret
    exact ⟨rfl, Mv.setCell (S := fun b => b = qb) (Mv.refl _ _) rfl _, HK.out.set1 _⟩

/-- What the loop keeps: k bytes are counted, and power is spent on them. -/
def lpC (cut : Int) (k : Nat) : Int := if cut < 0 then cut else cut - k
set_option maxRecDepth 100000 in
set_option maxHeartbeats 1000000 in
theorem rwrite_any {W : World} {qb : Nat} {c : Dk} (h : RB W qb c) (p : Int) (t : ByteArray) (hp : p ≤ 9223372036854775807) (hs : c.s.size ≤ 100000000) (ht : t.size ≤ 1000) (hc : -1 ≤ c.cut ∧ c.cut ≤ 9223372036854775807) (hw : 0 ≤ c.wr ∧ c.wr ≤ 1000000) :
    Calls Try.prog 10 #[.pointer (some ⟨qb, 0, none⟩), .int .i64 p, .string t] W fun e w' => e = .returned (.int .i64 (wrF c p t)) ∧ Mv (fun b => b = qb) W w' ∧ RB w' qb (wrD c p t) := by
  have HK : Hid (RB W qb c) := h
  have C1 : Hid (Calls Try.prog 8 #[.pointer (some ⟨qb, 0, none⟩), .int .i64 p, .int .i64 t.size] W fun e w' => e = .returned (.int .i64 (ckF c.off c.s.size p t.size)) ∧ W = w') := rfault_any h p t.size hp hs
  have hnn : 0 ≤ ckF c.off c.s.size p t.size := by unfold ckF; split; omega; split <;> omega
  by_cases h0 : ckF c.off c.s.size p t.size = 0
  rotate_left
  · rw [show wrF c p t = ckF c.off c.s.size p t.size from if_neg h0, show wrD c p t = c from if_neg h0]
    obtain ⟨F, HF⟩ : ∃ F, Hid (ckF c.off c.s.size p t.size = F) := ⟨_, rfl⟩
    rw [HF.out] at C1 h0 hnn ⊢
    have hF : 0 < F := by omega
    clear h0 hnn h
    go_enter Try.func10, Try.ntmps10
    go_wp2_with fail
    refine Calls.mono C1.out ?_
    rintro e w' ⟨rfl, rfl⟩
    go_wp2
    go_ret
    exact ⟨rfl, Mv.refl _ _, HK.out⟩
  obtain ⟨hof, hp0, _, hpn⟩ := ck_zero h0
  obtain ⟨F, HF⟩ : ∃ F, Hid (wrF c p t = F) := ⟨_, rfl⟩
  obtain ⟨D, HD⟩ : ∃ D, Hid (wrD c p t = D) := ⟨_, rfl⟩
  rw [HF.out, HD.out]
  have HF2 : Hid (F = if spN c.cut t.size < t.size then 16 else 0) := (HF.out.symm.trans (if_pos h0))
  have HD2 : Hid (D = ⟨wrS c.s p.toNat t (spN c.cut t.size).toNat, spC c.cut t.size, c.wr + spN c.cut t.size, decide (spN c.cut t.size < t.size)⟩) := (HD.out.symm.trans (if_pos h0))
  clear HF HD
  rw [h0] at C1
  obtain ⟨q, rfl⟩ : ∃ q : Nat, p = q := ⟨p.toNat, by omega⟩
  clear h0 hnn h hp0
  obtain ⟨s, cut, wr_, off⟩ := c
  simp only at hof hpn C1 HK hs hc hw HF2 HD2 ⊢
  subst hof
  obtain ⟨hc0, hc1⟩ := hc
  obtain ⟨hw0, hw1⟩ := hw
  go_enter Try.func10, Try.ntmps10
  go_wp2_with fail
  refine Calls.mono C1.out ?_
  rintro e w' ⟨rfl, rfl⟩
  clear C1
  go_wp2
  go_loopw [8] (fun i wr' => ∃ k : Nat, k ≤ t.size ∧ (cut < 0 ∨ (k : Int) ≤ cut) ∧ i = .int .i64 k ∧ Hid (Mv (fun b => b = qb) W wr' ∧ RB wr' qb ⟨s, lpC cut k, wr_, false⟩)) (fun i _ => t.size - (intOf i).toNat)
  case atStart => exact ⟨0, Nat.zero_le _, by omega, rfl, Mv.refl _ _, by unfold lpC; simpa using HK.out⟩
  case round =>
    obtain ⟨k, hk, hkc, rfl, HR⟩ := hrel
    obtain ⟨y0, y1, y2, y3, z0, z1, z2, z3⟩ := HR.out.2.cells
    simp only at y0 y1 y2 y3
    by_cases hgo : k < t.size ∧ (cut < 0 ∨ (k : Int) < cut)
    · obtain ⟨g1, g2⟩ := hgo
      have b1 : (k : Int) < (t.size : Int) := by omega
      by_cases hneg : cut < 0
      · have e1 : lpC cut k = cut := if_pos hneg
        rw [e1] at y1
        have b2 : ¬ cut = 0 := by omega
        have b3 : ¬ 0 < cut := by omega
        clear e1
        go_wp2
        go_roundw
        case rel => exact ⟨k + 1, by omega, .inl hneg, by go_num, HR.out.1, by have := HR.out.2; unfold lpC at this ⊢; rw [if_pos hneg] at this ⊢; exact this⟩
        case measure => simp [intOf]; omega
      · have e1 : lpC cut k = cut - k := if_neg hneg
        rw [e1] at y1
        have b2 : ¬ cut - (k : Int) = 0 := by omega
        have b3 : 0 < cut - (k : Int) := by omega
        have hkk : (k : Int) ≤ 1000 := by omega
        clear e1
        go_wp2
        go_roundw
        case rel =>
          refine ⟨k + 1, by omega, .inr (by omega), by go_num, Mv.setCell (S := fun b => b = qb) HR.out.1 rfl _, ?_⟩
          have e5 : lpC cut (k + 1) = cut - (k : Int) - 1 := by unfold lpC; rw [if_neg hneg]; omega
          rw [e5]
          exact HR.out.2.set1 (cut - (k : Int) - 1)
        case measure => simp [intOf]; omega
    · have ek : (k : Int) = spN cut t.size := by unfold spN; split <;> omega
      have ec : lpC cut k = spC cut t.size := by unfold lpC spC; unfold spN at ek; split at ek <;> simp_all
      have HE : Hid ((k : Int) = spN cut t.size ∧ lpC cut k = spC cut t.size) := ⟨ek, ec⟩
      have hqk : (q : Int) + (k : Int) ≤ (s.size : Int) := by omega
      have hqk' : q + k ≤ s.size := by omega
      by_cases hkt : k < t.size
      · have b1 : (k : Int) < (t.size : Int) := by omega
        have b2 : lpC cut k = 0 := by unfold lpC; rw [if_neg (by omega)]; omega
        rw [b2] at y1
        clear ek ec hgo hkc
        go_upto_region 9 with fail
        go_region
        go_wp2
        go_ret
        have hE := HE.out
        have eF : F = 16 := by rw [HF2.out, if_pos (by rw [← hE.1]; exact b1)]
        have eD : D = ⟨wrS s q t k, lpC cut k, wr_ + k, true⟩ := by rw [HD2.out, ← hE.1, ← hE.2, decide_eq_true b1]; rfl
        exact ⟨by rw [eF]; rfl, Mv.drew (Mv.setCell (S := fun b => b = qb) (Mv.setCell (S := fun b => b = qb) (Mv.setCell (S := fun b => b = qb) HR.out.1 rfl _) rfl _) rfl _), by rw [eD]; exact ⟨(((HR.out.2.set0 _).set3 _).set2 true).box⟩⟩
      · have b1 : ¬ (k : Int) < (t.size : Int) := by omega
        clear ek ec hgo hkc
        go_upto_region 9 with fail
        go_region
        go_wp2
        go_ret
        have hE := HE.out
        have b4 : ¬ ((k : Int) < (t.size : Int)) := by omega
        have eF : F = 0 := by rw [HF2.out, if_neg (by rw [← hE.1]; exact b4)]
        have eD : D = ⟨wrS s q t k, lpC cut k, wr_ + k, false⟩ := by rw [HD2.out, ← hE.1, ← hE.2, decide_eq_false b4]; rfl
        exact ⟨by rw [eF]; rfl, Mv.drew (Mv.setCell (S := fun b => b = qb) (Mv.setCell (S := fun b => b = qb) HR.out.1 rfl _) rfl _), by rw [eD]; exact ⟨((HR.out.2.set0 _).set3 _).box⟩⟩
end Go.Proofs.Ytbjbhfemcemhfaa
