/-
  WHAT cred.Become DOES, in one word, and that TopCred answers true: the walk.
-/
import Derived.Test.YtoadlnojcbkdgaaCd
namespace Go.Proofs.Ytoadlnojcbkdgaa
open Go.RowKit

theorem credF_zero {u g c : Int} {zs : List Int} (h : credF u g zs c = 0) : idB u = true ∧ idB g = true ∧ 0 ≤ c ∧ c ≤ 15 ∧ zs.length ≤ 4 ∧ gF zs 0 zs.length = 0 := by
  unfold credF at h
  by_cases h1 : idB u = false ∨ idB g = false ∨ c < 0 ∨ 15 < c
  · rw [if_pos h1] at h; omega
  · rw [if_neg h1] at h
    by_cases h2 : 4 < zs.length
    · rw [if_pos h2] at h; omega
    · rw [if_neg h2] at h
      have a1 : ¬ idB u = false := fun e => h1 (.inl e)
      have a2 : ¬ idB g = false := fun e => h1 (.inr (.inl e))
      have a3 : ¬ c < 0 := fun e => h1 (.inr (.inr (.inl e)))
      have a4 : ¬ 15 < c := fun e => h1 (.inr (.inr (.inr e)))
      exact ⟨by simpa using a1, by simpa using a2, by omega, by omega, by omega, h⟩
theorem credF_other {u g c user group c' : Int} {zs : List Int} (h : credF u g zs c = 0) (hu : idB user = true) (hg : idB group = true) (hc : c' = c ∨ c' = 0) : credF user group zs c' = 0 := by
  obtain ⟨_, _, h3, h4, h5, h6⟩ := credF_zero h
  rw [credF_len hu hg (by omega) (by omega) (by omega)]; exact h6
theorem and_self_cap {c : Int} (h0 : 0 ≤ c) (h1 : c ≤ 15) : bits .and .i64 c c = c := by
  obtain ⟨n, rfl⟩ := Int.eq_ofNat_of_zero_le h0
  have hn : n ≤ 15 := by omega
  have key : ∀ m : Fin 16, bits .and .i64 ((m : Nat) : Int) ((m : Nat) : Int) = ((m : Nat) : Int) := by decide +kernel
  exact key ⟨n, by omega⟩
theorem and_zero_cap {c : Int} (h0 : 0 ≤ c) (h1 : c ≤ 15) : bits .and .i64 0 c = 0 := by
  obtain ⟨n, rfl⟩ := Int.eq_ofNat_of_zero_le h0
  have hn : n ≤ 15 := by omega
  have key : ∀ m : Fin 16, bits .and .i64 0 ((m : Nat) : Int) = 0 := by decide +kernel
  exact key ⟨n, by omega⟩

/-- What becomes of a right cred. -/
theorem become_right (u g c user group : Int) (a : Option Addr) (cap : Nat) (zs : List Int) (w : World) (hl : zs.length ≤ 8) (h : Ints w a zs) (hf : credF u g zs c = 0) :
    Calls Try.prog 22 #[.agg #[.int .i64 u, .int .i64 g, .slice a zs.length cap, .int .i64 c], .int .i64 user, .int .i64 group] w fun e w' =>
      ((∃ n, n ≠ 0 ∧ e = .returned (badV n)) ∨ ∃ b c', e = .returned (goodV user group c' b zs.length) ∧ Ints w' (some ⟨b, 0, none⟩) zs ∧ idB user = true ∧ idB group = true ∧ (c' = c ∨ c' = 0) ∧
        ((bits .and .i64 c 8 == 8) = true ∨ (bits .and .i64 c 8 == 8) = false ∧ user = u ∧ c' = c)) ∧ Below w.heap.size w w' := by
  by_cases hi : idB user = false
  · exact (become_bound u g c user group a cap zs w hl h hf (.inl hi)).mono fun e w' ⟨he, hb⟩ => ⟨.inl ⟨1, by decide, he⟩, hb⟩
  have hi : idB user = true := by simpa using hi
  by_cases hj : idB group = false
  · exact (become_bound u g c user group a cap zs w hl h hf (.inr ⟨hi, hj⟩)).mono fun e w' ⟨he, hb⟩ => ⟨.inl ⟨1, by decide, he⟩, hb⟩
  have hj : idB group = true := by simpa using hj
  by_cases h8 : (bits .and .i64 c 8 == 8) = true
  · by_cases hu : user = u
    · exact (become_ok1 u g c user group c a cap zs w hl h hf hi hj h8 (.inl ⟨by simp [hu], rfl⟩)).mono fun e w' ⟨b, he, hin, hb⟩ => ⟨.inr ⟨b, c, he, hin, hi, hj, .inl rfl, .inl h8⟩, hb⟩
    · by_cases h0 : user = 0
      · exact (become_ok1 u g c user group c a cap zs w hl h hf hi hj h8 (.inr (.inl ⟨by simpa using hu, by simp [h0], rfl⟩))).mono fun e w' ⟨b, he, hin, hb⟩ => ⟨.inr ⟨b, c, he, hin, hi, hj, .inl rfl, .inl h8⟩, hb⟩
      · exact (become_ok1 u g c user group 0 a cap zs w hl h hf hi hj h8 (.inr (.inr ⟨by simpa using hu, by simpa using h0, rfl⟩))).mono fun e w' ⟨b, he, hin, hb⟩ => ⟨.inr ⟨b, 0, he, hin, hi, hj, .inr rfl, .inl h8⟩, hb⟩
  have h8 : (bits .and .i64 c 8 == 8) = false := by simpa using h8
  by_cases hu : user = u
  · by_cases hh : hasB g zs group = true
    · subst hu
      exact (become_ok2 g c user group a cap zs w hl h hf hi hj h8 hh).mono fun e w' ⟨b, he, hin, hb⟩ => ⟨.inr ⟨b, c, he, hin, hi, hj, .inl rfl, .inr ⟨h8, rfl, rfl⟩⟩, hb⟩
    · exact (become_perm u g c user group a cap zs w hl h hf hi hj h8 (.inr ⟨hu, by simpa using hh⟩)).mono fun e w' ⟨he, hb⟩ => ⟨.inl ⟨10, by decide, he⟩, hb⟩
  · exact (become_perm u g c user group a cap zs w hl h hf hi hj h8 (.inl hu)).mono fun e w' ⟨he, hb⟩ => ⟨.inl ⟨10, by decide, he⟩, hb⟩

/-- Who becomes who one is stays just so. -/
theorem become_self (u g c : Int) (a : Option Addr) (cap : Nat) (zs : List Int) (w : World) (hl : zs.length ≤ 8) (h : Ints w a zs) (hf : credF u g zs c = 0) :
    Calls Try.prog 22 #[.agg #[.int .i64 u, .int .i64 g, .slice a zs.length cap, .int .i64 c], .int .i64 u, .int .i64 g] w fun e w' =>
      ∃ b, e = .returned (goodV u g c b zs.length) ∧ Ints w' (some ⟨b, 0, none⟩) zs ∧ Below w.heap.size w w' := by
  obtain ⟨hi, hj, _⟩ := credF_zero hf
  by_cases h8 : (bits .and .i64 c 8 == 8) = true
  · exact become_ok1 u g c u g c a cap zs w hl h hf hi hj h8 (.inl ⟨by simp, rfl⟩)
  · exact become_ok2 g c u g a cap zs w hl h hf hi hj (by simpa using h8) (by simp [hasB])

set_option maxHeartbeats 1000000 in
theorem topCred_bad (u g c user group : Int) (a : Option Addr) (cap : Nat) (zs : List Int) (w : World) (hl : zs.length ≤ 8) (h : Ints w a zs) (hf : credF u g zs c ≠ 0) :
    Calls Try.prog 6 #[.agg #[.int .i64 u, .int .i64 g, .slice a zs.length cap, .int .i64 c], .int .i64 user, .int .i64 group] w fun e w' =>
      e = .returned (.bool true) ∧ Below w.heap.size w w' := by
  have HF : Hid (credF u g zs c ≠ 0) := hf
  obtain ⟨n, hn⟩ : ∃ n, credF u g zs c = n := ⟨_, rfl⟩
  have HN : Hid (credF u g zs c = n) := hn
  have hn0 : n ≠ 0 := hn ▸ hf
  clear hn hf
  have hd : decide (8 < (zs.length : Int)) = false := by simp; omega
  go_enter Try.func6, Try.ntmps6
  go_wp2_with fail
  refine (check_any u g c a cap zs _ hl (h.below ((Below.refl _ _).alloc (Nat.le_refl _) _))).mono ?_
  rintro e w1 ⟨rfl, hb⟩
  rw [errV_of HN.out hn0]
  have hbx := (Box.new w u g (.slice a zs.length cap) c).below hb
  have hb0 : Below w.heap.size w w1 := ((Below.refl _ _).alloc (Nat.le_refl _) _).trans (hb.mono (by simp))
  clear hb
  obtain ⟨k0, k1, k2, k3, k4⟩ := id hbx
  go_wp2_with fail
  refine (become_bad u g c user group a cap zs _ hl (h.below hb0) HF.out).mono ?_
  rintro e w2 ⟨rfl, hb2⟩
  rw [HN.out]
  unfold badV
  go_wp2
  go_ret
  exact ⟨rfl, (hb0.trans (hb2.mono hb0.size)).alloc (by have := hb2.size; have := hb0.size; omega) _⟩

end Go.Proofs.Ytoadlnojcbkdgaa
