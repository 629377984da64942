/-
  WHAT cred.Become DOES without CapSetid: one stays who one is, in a group that one has.
-/
import Derived.Test.YtoadlnojcbkdgaaCc
namespace Go.Proofs.Ytoadlnojcbkdgaa
open Go.RowKit

set_option maxHeartbeats 4000000 in
theorem become_ok2 (g c user group : Int) (a : Option Addr) (cap : Nat) (zs : List Int) (w : World) (hl : zs.length ≤ 8) (h : Ints w a zs) (hf : credF user g zs c = 0)  (hi : idB user = true) (hj : idB group = true)
    (h8 : (bits .and .i64 c 8 == 8) = false) (hh : hasB g zs group = true) :
    Calls Try.prog 22 #[.agg #[.int .i64 user, .int .i64 g, .slice a zs.length cap, .int .i64 c], .int .i64 user, .int .i64 group] w fun e w' =>
      ∃ b, e = .returned (goodV user group c b zs.length) ∧ Ints w' (some ⟨b, 0, none⟩) zs ∧ Below w.heap.size w w' := by
  have HN : Hid (credF user g zs c = 0) := hf
  have H8 : Hid ((bits .and .i64 c 8 == 8) = false) := h8
  have H9 : Hid (hasB g zs group = true) := hh
  have hub : (user != user) = false := by simp
  clear hf h8 hh
  go_enter Try.func22, Try.ntmps22
  go_wp2_with fail
  refine (check_any user g c a cap zs _ hl ?_).mono ?_
  · exact h.below (((Below.refl _ _).alloc (Nat.le_refl _) _).alloc (by simp) _)
  rintro e w1 ⟨rfl, hb⟩
  rw [errV_nil HN.out]
  have hb0 : Below w.heap.size w w1 := (((Below.refl _ _).alloc (Nat.le_refl _) _).alloc (by simp) _).trans (hb.mono (by simp; omega))
  have hz : w.heap.size + 1 < w1.heap.size := by have := hb.size; simp at this; omega
  have hbx1 : Box w1 w.heap.size user g (.slice a zs.length cap) c := ((Box.new w user g (.slice a zs.length cap) c).alloc _).below hb
  have hbr1 : Box w1 (w.heap.size + 1) 0 0 (.slice none 0 0) 0 := by
    have := (Box.new (w.alloc (.cells #[.int .i64 user, .int .i64 g, .slice a zs.length cap, .int .i64 c] 40)) 0 0 (.slice none 0 0) 0).below hb
    simpa using this
  clear hb
  obtain ⟨k0, k1, k2, k3, k4⟩ := id hbx1
  go_wp2_with (go_at_call 47; refine (isID_any _ _).mono ?_; rintro e w' ⟨rfl, rfl⟩)
  refine (can_any user g c 8 _ _).mono ?_
  rintro e w2 ⟨rfl, hb2⟩
  rw [H8.out]
  have hbx2 : Box w2 w.heap.size user g (.slice a zs.length cap) c := hbx1.below hb2
  have hbr2 : Box w2 (w.heap.size + 1) 0 0 (.slice none 0 0) 0 := hbr1.below hb2
  have hb21 : Below w.heap.size w w2 := hb0.trans (hb2.mono hb0.size)
  clear k0 k1 k2 k3 k4 hbx1 hbr1 hb2 hb0 hz
  obtain ⟨k0, k1, k2, k3, k4⟩ := id hbx2
  go_wp2_with fail
  refine (has_any user g group c a cap zs _ hl (h.below hb21)).mono ?_
  rintro e w2' ⟨rfl, hb22⟩
  rw [H9.out]
  obtain ⟨w2, hww⟩ : ∃ w2, w2 = w2' := ⟨_, rfl⟩
  subst hww
  have hbx : Box w2 w.heap.size user g (.slice a zs.length cap) c := hbx2.below hb22
  have hbr : Box w2 (w.heap.size + 1) 0 0 (.slice none 0 0) 0 := hbr2.below hb22
  have hb3 : Below w.heap.size w w2 := hb21.trans (hb22.mono hb21.size)
  have hz2 : w.heap.size + 1 < w2.heap.size := hbr.lt
  have hz20 : w.heap.size < w2.heap.size := hbx.lt
  have hz21 : w.heap.size < w2.heap.size + 1 := by omega
  have hne : ¬ w2.heap.size = w.heap.size := by omega
  clear k0 k1 k2 k3 k4 hbx2 hbr2 hb22 hb21
  obtain ⟨k0, k1, k2, k3, k4⟩ := id hbx
  go_wp2_with fail
  go_region_held3 (fun w' => w'.cell? ⟨w.heap.size, 2, none⟩ = some (.slice a zs.length cap) ∧ w'.cell? ⟨w.heap.size, 3, none⟩ = some (.int .i64 c)) (first | go_keep | (simp [*]; done))
    (first | (go_at_call 48; refine (own_any a cap zs _ hl ?_).mono ?_; (first | exact h.below hb3.drew | exact h.below (hb3.drew.alloc (by simp; omega) _) | exact h.below (hb3.alloc (by simp; omega) _).drew); rintro e w3 ⟨g3, rfl, hg3, hg4, hin, hb4⟩; obtain ⟨hc4, hfz4⟩ := bcell hb4; have hz4 := hb4.size; simp at hz4; have hbx3 := Box.below (by first | exact hbx.drew | exact (hbx.alloc _).drew | exact hbx.drew.alloc _) hb4; obtain ⟨q0, q1, q2, q3, q4⟩ := id hbx3))
  all_goals
    clear hc4 hfz4 q0 q1 q2 q3 q4 k0 k1 k2 k3 k4
    first
      | (have hg5 : g3 = w2.heap.size := by simpa using hg3
         subst hg5
         have B1 := Box.new w3 user group (.slice (some ⟨w2.heap.size, 0, none⟩) zs.length zs.length) c
         have B2 := hbx3.alloc (.cells #[.int .i64 user, .int .i64 group, .slice (some ⟨w2.heap.size, 0, none⟩) zs.length zs.length, .int .i64 c] 40)
         have B3 := (Box.below hbr.drew hb4).alloc (.cells #[.int .i64 user, .int .i64 group, .slice (some ⟨w2.heap.size, 0, none⟩) zs.length zs.length, .int .i64 c] 40)
         have I4 := Ints.below hin ((Below.refl w3.heap.size w3).alloc (Nat.le_refl _) (.cells #[.int .i64 user, .int .i64 group, .slice (some ⟨w2.heap.size, 0, none⟩) zs.length zs.length, .int .i64 c] 40))
         have L4 := ((hb3.drew).trans (hb4.mono hb3.size)).alloc (Nat.le_of_lt hbx3.lt) (.cells #[.int .i64 user, .int .i64 group, .slice (some ⟨w2.heap.size, 0, none⟩) zs.length zs.length, .int .i64 c] 40)
         have n1 : ¬ w3.heap.size = w2.heap.size := by omega
         have n2 : ¬ w3.heap.size = w.heap.size := by have := hbx3.lt; omega
         have n3 : ¬ w3.heap.size = w.heap.size + 1 := by omega
         have n4 : ¬ w2.heap.size = w.heap.size + 1 := by omega
         have n5 : w.heap.size ≤ w3.heap.size := Nat.le_of_lt hbx3.lt
         clear hbx3 hb4 hz4 hin hg4 hz21 hz20 hz2 hb3 hbr hbx hne hg3
         generalize w3.alloc (.cells #[.int .i64 user, .int .i64 group, .slice (some ⟨w2.heap.size, 0, none⟩) zs.length zs.length, .int .i64 c] 40) = w4 at B1 B2 B3 I4 L4 ⊢
         generalize w3.heap.size = ob at B1 n1 n2 n3 n5 ⊢
         generalize w2.heap.size = gb at B1 I4 n1 n4 ⊢)
      | (have hg5 : g3 = w2.heap.size + 1 := by simpa using hg3
         subst hg5
         have B1 := (Box.below (Box.new w2 0 0 (.slice none 0 0) 0).drew hb4).set user group (.slice (some ⟨w2.heap.size + 1, 0, none⟩) zs.length zs.length) c
         have B2 := (((hbx3.other (p := ⟨w2.heap.size, 0, none⟩) (by simp; omega) (.int .i64 user)).other (p := ⟨w2.heap.size, 1, none⟩) (by simp; omega) (.int .i64 group)).other (p := ⟨w2.heap.size, 2, none⟩) (by simp; omega) (.slice (some ⟨w2.heap.size + 1, 0, none⟩) zs.length zs.length)).other (p := ⟨w2.heap.size, 3, none⟩) (by simp; omega) (.int .i64 c)
         have B3 := ((((Box.below (hbr.alloc _).drew hb4).other (p := ⟨w2.heap.size, 0, none⟩) (by simp; omega) (.int .i64 user)).other (p := ⟨w2.heap.size, 1, none⟩) (by simp; omega) (.int .i64 group)).other (p := ⟨w2.heap.size, 2, none⟩) (by simp; omega) (.slice (some ⟨w2.heap.size + 1, 0, none⟩) zs.length zs.length)).other (p := ⟨w2.heap.size, 3, none⟩) (by simp; omega) (.int .i64 c)
         have I4 := (((hin.other (p := ⟨w2.heap.size, 0, none⟩) (by simp) (.int .i64 user)).other (p := ⟨w2.heap.size, 1, none⟩) (by simp) (.int .i64 group)).other (p := ⟨w2.heap.size, 2, none⟩) (by simp) (.slice (some ⟨w2.heap.size + 1, 0, none⟩) zs.length zs.length)).other (p := ⟨w2.heap.size, 3, none⟩) (by simp) (.int .i64 c)
         have L4 := ((((((hb3.alloc (Nat.le_of_lt hz20) _).drew).trans (hb4.mono (by simp; omega))).setCell (p := ⟨w2.heap.size, 0, none⟩) (Nat.le_of_lt hz20) (.int .i64 user)).setCell (p := ⟨w2.heap.size, 1, none⟩) (Nat.le_of_lt hz20) (.int .i64 group)).setCell (p := ⟨w2.heap.size, 2, none⟩) (Nat.le_of_lt hz20) (.slice (some ⟨w2.heap.size + 1, 0, none⟩) zs.length zs.length)).setCell (p := ⟨w2.heap.size, 3, none⟩) (Nat.le_of_lt hz20) (.int .i64 c)
         have n1 : ¬ w2.heap.size = w2.heap.size + 1 := by omega
         have n2 : ¬ w2.heap.size = w.heap.size := by omega
         have n3 : ¬ w2.heap.size = w.heap.size + 1 := by omega
         have n4 : ¬ w2.heap.size + 1 = w.heap.size + 1 := by omega
         have n5 : w.heap.size ≤ w2.heap.size := by omega
         clear hbx3 hb4 hz4 hin hg4 hz21 hz20 hz2 hb3 hbr hbx hne hg3
         generalize (((w3.setCell ⟨w2.heap.size, 0, none⟩ (.int .i64 user)).setCell ⟨w2.heap.size, 1, none⟩ (.int .i64 group)).setCell ⟨w2.heap.size, 2, none⟩ (.slice (some ⟨w2.heap.size + 1, 0, none⟩) zs.length zs.length)).setCell ⟨w2.heap.size, 3, none⟩ (.int .i64 c) = w4 at B1 B2 B3 I4 L4 ⊢
         generalize w2.heap.size + 1 = gb at B1 I4 n1 n4 ⊢
         generalize w2.heap.size = ob at B1 n1 n2 n3 n5 ⊢)
    obtain ⟨k0, k1, k2, k3, k4⟩ := id B1
    obtain ⟨q0, q1, q2, q3, q4⟩ := id B2
    obtain ⟨r0, r1, r2, r3, r4⟩ := id B3
    go_wp2
    refine bodyPost_ret (v := goodV user group c gb zs.length) (by simp [results, Try.results22, go_sem, goodV, *]) rfl ⟨gb, rfl, ?_, ?_⟩
    · exact (((I4.other (by simp; omega) _).other (by simp; omega) _).other (by simp; omega) _).other (by simp; omega) _
    · exact (((L4.setCell (by simp) _).setCell (by simp) _).setCell (by simp) _).setCell (by simp) _

end Go.Proofs.Ytoadlnojcbkdgaa
