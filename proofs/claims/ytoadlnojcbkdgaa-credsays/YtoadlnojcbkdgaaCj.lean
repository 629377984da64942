/-
  BOTH Becomes IN ONE WORD, and that asks answers true.
-/
import Derived.Test.YtoadlnojcbkdgaaCi
namespace Go.Proofs.Ytoadlnojcbkdgaa
open Go.RowKit

theorem stepF_nonneg (zs : List Int) (k : Nat) : 0 ≤ stepF zs k := by
  unfold stepF; split
  · omega
  · split <;> omega
theorem gF_nonneg (zs : List Int) : ∀ n k, 0 ≤ gF zs k n
  | 0, _ => by simp [gF]
  | n + 1, k => by
    unfold gF
    split
    · exact gF_nonneg zs n (k + 1)
    · exact stepF_nonneg zs k
theorem credF_nonneg (u g : Int) (zs : List Int) (c : Int) : 0 ≤ credF u g zs c := by
  unfold credF; split
  · omega
  · split
    · omega
    · exact gF_nonneg _ _ _
theorem becF_nonneg (u g : Int) (zs : List Int) (c user group : Int) : 0 ≤ becF u g zs c user group := by
  unfold becF; split
  · exact credF_nonneg _ _ _ _
  · split
    · omega
    · split <;> omega

/-- A cred, and no error; of the program. -/
def okV (user group c : Int) (v : Value) : Value := .tuple #[.agg #[.int .i64 user, .int .i64 group, v, .int .i64 c], .nilIface]

theorem become_all (u g c user group : Int) (a : Option Addr) (cap : Nat) (zs : List Int) (w : World) (hl : zs.length ≤ 8) (h : Ints w a zs) :
    Calls Try.prog 22 #[.agg #[.int .i64 u, .int .i64 g, .slice a zs.length cap, .int .i64 c], .int .i64 user, .int .i64 group] w fun e w' =>
      ((becF u g zs c user group ≠ 0 ∧ e = .returned (badV (becF u g zs c user group))) ∨ (becF u g zs c user group = 0 ∧ ∃ ao cp, e = .returned (okV user group (becC u c user) (.slice ao zs.length cp)) ∧ Ints w' ao zs)) ∧ Below w.heap.size w w' := by
  by_cases hf : credF u g zs c = 0
  · have hB : becF u g zs c user group = if idB user = false ∨ idB group = false then 1 else if bitB c 8 = false ∧ (user ≠ u ∨ hasB g zs group = false) then 10 else 0 := by
      unfold becF; rw [if_neg (by simp [hf])]
    obtain ⟨_, _, hc0, hc1, _, _⟩ := credF_zero hf
    have h8b := can8_bit hc0 hc1
    by_cases hi : idB user = false
    · have e1 : becF u g zs c user group = 1 := hB.trans (if_pos (.inl hi))
      exact (become_bound u g c user group a cap zs w hl h hf (.inl hi)).mono fun e w' ⟨he, hb⟩ => ⟨.inl ⟨by rw [e1]; decide, by rw [e1]; exact he⟩, hb⟩
    have hi : idB user = true := by simpa using hi
    by_cases hj : idB group = false
    · have e1 : becF u g zs c user group = 1 := hB.trans (if_pos (.inr hj))
      exact (become_bound u g c user group a cap zs w hl h hf (.inr ⟨hi, hj⟩)).mono fun e w' ⟨he, hb⟩ => ⟨.inl ⟨by rw [e1]; decide, by rw [e1]; exact he⟩, hb⟩
    have hj : idB group = true := by simpa using hj
    have hB2 : becF u g zs c user group = if bitB c 8 = false ∧ (user ≠ u ∨ hasB g zs group = false) then 10 else 0 := hB.trans (if_neg (by rw [hi, hj]; simp))
    by_cases h8 : (bits .and .i64 c 8 == 8) = true
    · have e1 : becF u g zs c user group = 0 := hB2.trans (if_neg (by rw [← h8b, h8]; simp))
      have hcs : (user != u) = false ∧ becC u c user = c ∨ (user != u) = true ∧ (user != 0) = false ∧ becC u c user = c ∨ (user != u) = true ∧ (user != 0) = true ∧ becC u c user = 0 := by
        unfold becC
        by_cases e1 : user = u
        · exact .inl ⟨by simp [e1], if_neg (by simp [e1])⟩
        · by_cases e2 : user = 0
          · exact .inr (.inl ⟨by simpa using e1, by simp [e2], if_neg (by simp [e2])⟩)
          · exact .inr (.inr ⟨by simpa using e1, by simpa using e2, if_pos ⟨e1, e2⟩⟩)
      exact (become_ok1 u g c user group _ a cap zs w hl h hf hi hj h8 hcs).mono fun e w' ⟨b, he, hin, hb⟩ => ⟨.inr ⟨e1, _, _, he, hin⟩, hb⟩
    have h8 : (bits .and .i64 c 8 == 8) = false := by simpa using h8
    have h8' : bitB c 8 = false := by rw [← h8b]; exact h8
    by_cases hu : user = u
    · by_cases hh : hasB g zs group = true
      · have e1 : becF u g zs c user group = 0 := hB2.trans (if_neg (by rw [hh]; simp [hu]))
        have e2 : becC u c user = c := by unfold becC; exact if_neg (by simp [hu])
        rw [e2]
        subst hu
        exact (become_ok2 g c user group a cap zs w hl h hf hi hj h8 hh).mono fun e w' ⟨b, he, hin, hb⟩ => ⟨.inr ⟨e1, _, _, he, hin⟩, hb⟩
      · have hh : hasB g zs group = false := by simpa using hh
        have e1 : becF u g zs c user group = 10 := hB2.trans (if_pos ⟨h8', .inr hh⟩)
        exact (become_perm u g c user group a cap zs w hl h hf hi hj h8 (.inr ⟨hu, hh⟩)).mono fun e w' ⟨he, hb⟩ => ⟨.inl ⟨by rw [e1]; decide, by rw [e1]; exact he⟩, hb⟩
    · have e1 : becF u g zs c user group = 10 := hB2.trans (if_pos ⟨h8', .inl hu⟩)
      exact (become_perm u g c user group a cap zs w hl h hf hi hj h8 (.inl hu)).mono fun e w' ⟨he, hb⟩ => ⟨.inl ⟨by rw [e1]; decide, by rw [e1]; exact he⟩, hb⟩
  · have e1 : becF u g zs c user group = credF u g zs c := by unfold becF; rw [if_pos hf]
    rw [e1]
    exact (become_bad u g c user group a cap zs w hl h hf).mono fun e w' ⟨he, hb⟩ => ⟨.inl ⟨hf, he⟩, hb⟩

theorem becomer_all (u g c user group : Int) (a : Option Addr) (cap : Nat) (zs : List Int) (w : World) (hl : zs.length ≤ 8) (h : Ints w a zs) :
    Calls Try.prog 23 #[.agg #[.int .i64 u, .int .i64 g, .slice a zs.length cap, .int .i64 c], .int .i64 user, .int .i64 group] w fun e w' =>
      ((becF u g zs c user group ≠ 0 ∧ e = .returned (rbadV (becF u g zs c user group))) ∨ (becF u g zs c user group = 0 ∧ ∃ ao cp, e = .returned (rgoodV user group (becC u c user) (.slice ao zs.length cp)) ∧ Ints w' ao zs)) ∧ Below w.heap.size w w' := by
  by_cases hf : credF u g zs c = 0
  · exact becomer_right u g c user group a cap zs w hl h hf
  · have e1 : becF u g zs c user group = credF u g zs c := by unfold becF; rw [if_pos hf]
    rw [e1]
    exact (becomer_bad u g c user group a cap zs w hl h (by have := credF_nonneg u g zs c; omega)).mono fun e w' ⟨he, hb⟩ => ⟨.inl ⟨hf, he⟩, hb⟩

set_option maxHeartbeats 400000 in
theorem asks_any (w : World) : Calls Try.prog 21 #[] w fun e w' => e = .returned (.bool true) ∧ Below w.heap.size w w' := by
  go_enter Try.func21, Try.ntmps21
  go_wp2_with fail
  refine (become_all 5 0 8 7 8 none 0 [] w (by simp) (.inl rfl)).mono ?_
  rintro e w1 ⟨hres, hb⟩
  have e0 : becF 5 0 [] 8 7 8 = 0 := by decide +kernel
  have e1 : becC 5 8 7 = 0 := by decide +kernel
  rcases hres with ⟨h0, _⟩ | ⟨_, ao, cp, rfl, _⟩
  · exact absurd e0 h0
  rw [e1]
  clear e0 e1
  unfold okV
  go_wp2_with (go_at_call 14; refine (same_nil _).mono ?_; rintro e w' ⟨rfl, rfl⟩)
  go_ret
  exact ⟨rfl, hb.alloc hb.size _⟩
end Go.Proofs.Ytoadlnojcbkdgaa
