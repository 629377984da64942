/-
  TopCred ANSWERS true at every right cred, and at creds of too many groups: the walk.
-/
import Derived.Test.YtoadlnojcbkdgaaCe
namespace Go.Proofs.Ytoadlnojcbkdgaa
open Go.RowKit

set_option maxHeartbeats 400000 in
theorem topCred_long (u g c user group : Int) (a : Option Addr) (n cap : Nat) (w : World) (hl : 8 < n) :
    Calls Try.prog 6 #[.agg #[.int .i64 u, .int .i64 g, .slice a n cap, .int .i64 c], .int .i64 user, .int .i64 group] w fun e w' =>
      e = .returned (.bool true) ∧ Below w.heap.size w w' := by
  have hd : decide (8 < (n : Int)) = true := by simp; omega
  go_enter Try.func6, Try.ntmps6
  go_wp2
  go_ret
  exact ⟨rfl, (Below.refl _ _).alloc (Nat.le_refl _) _⟩

set_option maxHeartbeats 2000000 in
theorem topCred_good (u g c user group : Int) (a : Option Addr) (cap : Nat) (zs : List Int) (w : World) (hl : zs.length ≤ 8) (h : Ints w a zs) (hf : credF u g zs c = 0) :
    Calls Try.prog 6 #[.agg #[.int .i64 u, .int .i64 g, .slice a zs.length cap, .int .i64 c], .int .i64 user, .int .i64 group] w fun e w' =>
      e = .returned (.bool true) ∧ Below w.heap.size w w' := by
  have HF : Hid (credF u g zs c = 0) := hf
  clear hf
  have hd : decide (8 < (zs.length : Int)) = false := by simp; omega
  go_enter Try.func6, Try.ntmps6
  go_wp2_with fail
  refine (check_any u g c a cap zs _ hl (h.below ((Below.refl _ _).alloc (Nat.le_refl _) _))).mono ?_
  rintro e w1 ⟨rfl, hb⟩
  rw [errV_nil HF.out]
  have hbx := (Box.new w u g (.slice a zs.length cap) c).below hb
  have hb0 : Below w.heap.size w w1 := ((Below.refl _ _).alloc (Nat.le_refl _) _).trans (hb.mono (by simp))
  clear hb
  obtain ⟨k0, k1, k2, k3, k4⟩ := id hbx
  go_wp2_with fail
  refine (become_right u g c user group a cap zs _ hl (h.below hb0) HF.out).mono ?_
  rintro e w2 ⟨hres, hb2⟩
  have hbx2 := hbx.below hb2
  have hb3 : Below w.heap.size w w2 := hb0.trans (hb2.mono hb0.size)
  clear k0 k1 k2 k3 k4 hbx hb0 hb2
  rcases hres with ⟨n, hn0, rfl⟩ | ⟨b, c', rfl, hin, hi, hj, hc', h8⟩
  · unfold badV
    obtain ⟨k0, k1, k2, k3, k4⟩ := id hbx2
    have l2 := hbx2.lt
    go_wp2_with fail
    have hb4 := hb3.alloc (Nat.le_of_lt l2) (.cells #[.int .i64 0, .int .i64 0, .slice none 0 0, .int .i64 0] 40)
    have hbx3 := hbx2.alloc (.cells #[.int .i64 0, .int .i64 0, .slice none 0 0, .int .i64 0] 40)
    refine (become_self u g c a cap zs _ hl (h.below hb4) HF.out).mono ?_
    rintro e w3 ⟨b, rfl, hin, hb5⟩
    unfold goodV
    have hbx4 := hbx3.below hb5
    have hb6 := hb4.trans (hb5.mono hb4.size)
    clear k0 k1 k2 k3 k4 hbx3 hbx2 hb5
    obtain ⟨k0, k1, k2, k3, k4⟩ := id hbx4
    have l3 := hbx4.lt
    go_wp2_with (go_at_call 34; refine (is_nil _).mono ?_; rintro e w' ⟨rfl, rfl⟩)
    have hb7 := hb6.alloc (Nat.le_of_lt l3) (.cells #[.int .i64 u, .int .i64 g, .slice (some ⟨b, 0, none⟩) zs.length zs.length, .int .i64 c] 40)
    refine (sameCred_yes u g c _ a _ cap zs.length zs _ rfl hl (hin.below ((Below.refl _ _).alloc (Nat.le_refl _) _)) (h.below hb7)).mono ?_
    rintro e w4 ⟨rfl, hb8⟩
    go_wp2
    go_ret
    exact ⟨rfl, hb7.trans (hb8.mono hb7.size)⟩
  · unfold goodV
    obtain ⟨h1, h2, h3, h4, _, _⟩ := credF_zero HF.out
    have HX : Hid (credF user group zs c' = 0) := credF_other HF.out hi hj hc'
    have hand : (bits .and .i64 c' c != c') = false := by
      rcases hc' with rfl | rfl
      · rw [and_self_cap h3 h4]; simp
      · rw [and_zero_cap h3 h4]; simp
    have hu1 : (user != user) = false := by simp
    have hu2 : (group != group) = false := by simp
    have H8 : Hid ((bits .and .i64 c 8 == 8) = true ∨ (bits .and .i64 c 8 == 8) = false ∧ user = u ∧ c' = c) := h8
    clear h1 h2 hi hj hc' h8
    obtain ⟨k0, k1, k2, k3, k4⟩ := id hbx2
    have l2 := hbx2.lt
    go_wp2_with fail
    have hb4 := hb3.alloc (Nat.le_of_lt l2) (.cells #[.int .i64 user, .int .i64 group, .slice (some ⟨b, 0, none⟩) zs.length zs.length, .int .i64 c'] 40)
    have hbx3 := hbx2.alloc (.cells #[.int .i64 user, .int .i64 group, .slice (some ⟨b, 0, none⟩) zs.length zs.length, .int .i64 c'] 40)
    have hxx3 := Box.new w2 user group (.slice (some ⟨b, 0, none⟩) zs.length zs.length) c'
    have hin3 := hin.below ((Below.refl _ _).alloc (Nat.le_refl _) (.cells #[.int .i64 user, .int .i64 group, .slice (some ⟨b, 0, none⟩) zs.length zs.length, .int .i64 c'] 40))
    refine (check_any user group c' _ _ zs _ hl hin3).mono ?_
    rintro e w3 ⟨rfl, hb5⟩
    rw [errV_nil HX.out]
    have hbx4 := hbx3.below hb5
    have hxx4 := hxx3.below hb5
    have hb6 := hb4.trans (hb5.mono hb4.size)
    clear k0 k1 k2 k3 k4 hbx3 hbx2 hxx3 hin3 hb5 hb4
    obtain ⟨k0, k1, k2, k3, k4⟩ := id hbx4
    obtain ⟨q0, q1, q2, q3, q4⟩ := id hxx4
    go_wp2_with fail
    refine (can_any u g c 8 _ _).mono ?_
    rintro e w4 ⟨rfl, hb7⟩
    have hbx5 := hbx4.below hb7
    have hxx5 := hxx4.below hb7
    have hb8 := hb6.trans (hb7.mono hb6.size)
    clear k0 k1 k2 k3 k4 q0 q1 q2 q3 q4 hbx4 hxx4 hb6 hb7
    obtain ⟨k0, k1, k2, k3, k4⟩ := id hbx5
    obtain ⟨q0, q1, q2, q3, q4⟩ := id hxx5
    have l3 := hbx5.lt
    rcases H8.out with e8 | ⟨e8, eu, ec⟩
    · rw [e8]
      clear e8
      go_wp2_with fail
      refine (become_self u g c a cap zs _ hl (h.below hb8) HF.out).mono ?_
      rintro e w5 ⟨b5, rfl, hin5, hb9⟩
      unfold goodV
      have hbx6 := hbx5.below hb9
      have hb10 := hb8.trans (hb9.mono hb8.size)
      clear k0 k1 k2 k3 k4 q0 q1 q2 q3 q4 hbx5 hxx5
      obtain ⟨k0, k1, k2, k3, k4⟩ := id hbx6
      have l4 := hbx6.lt
      go_wp2_with (go_at_call 34; refine (is_nil _).mono ?_; rintro e w' ⟨rfl, rfl⟩)
      have hb11 := hb10.alloc (Nat.le_of_lt l4) (.cells #[.int .i64 u, .int .i64 g, .slice (some ⟨b5, 0, none⟩) zs.length zs.length, .int .i64 c] 40)
      refine (sameCred_yes u g c _ a _ cap zs.length zs _ rfl hl (hin5.below ((Below.refl _ _).alloc (Nat.le_refl _) _)) (h.below hb11)).mono ?_
      rintro e w6 ⟨rfl, hb12⟩
      go_wp2
      go_ret
      exact ⟨rfl, hb11.trans (hb12.mono hb11.size)⟩
    · rw [e8]
      subst eu ec
      clear e8
      have hc1 : (c' != c') = false := by simp
      go_wp2_with fail
      refine (become_self user g c' a cap zs _ hl (h.below hb8) HF.out).mono ?_
      rintro e w5 ⟨b5, rfl, hin5, hb9⟩
      unfold goodV
      have hbx6 := hbx5.below hb9
      have hb10 := hb8.trans (hb9.mono hb8.size)
      clear k0 k1 k2 k3 k4 q0 q1 q2 q3 q4 hbx5 hxx5
      obtain ⟨k0, k1, k2, k3, k4⟩ := id hbx6
      have l4 := hbx6.lt
      go_wp2_with (go_at_call 34; refine (is_nil _).mono ?_; rintro e w' ⟨rfl, rfl⟩)
      have hb11 := hb10.alloc (Nat.le_of_lt l4) (.cells #[.int .i64 user, .int .i64 g, .slice (some ⟨b5, 0, none⟩) zs.length zs.length, .int .i64 c'] 40)
      refine (sameCred_yes user g c' _ a _ cap zs.length zs _ rfl hl (hin5.below ((Below.refl _ _).alloc (Nat.le_refl _) _)) (h.below hb11)).mono ?_
      rintro e w6 ⟨rfl, hb12⟩
      go_wp2
      go_ret
      exact ⟨rfl, hb11.trans (hb12.mono hb11.size)⟩
end Go.Proofs.Ytoadlnojcbkdgaa
