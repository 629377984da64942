/-
  WHAT slices.Grow AND slices.Concat OF KIDS DO: the walks.
-/
import Derived.Test.YtkkhfnkmfkdhiabWi
import Derived.Lib.AppendZeros
namespace Go.Proofs.Ytkkhfnkmfkdhiab
open Go.RowKit

theorem zeroK_size (n : Nat) : (Builtin.zeroCells zK.cells n).size = n * 9 := by rw [size_zeroCells]; rfl

set_option maxRecDepth 100000 in
set_option maxHeartbeats 1000000 in
theorem growK_any (n : Nat) (w : World) (hn : n ≤ 1000) : Calls Try.prog 82 #[.slice none 0 0, .int .i64 n] w fun e w' => (∃ v, e = .returned v ∧ w'.ownsRow w.heap.size 102 9 v 0 (kfl [])) ∧ Below w.heap.size w w' := by
  by_cases h0 : n = 0
  · subst h0
    go_enter Try.func82, Try.ntmps82
    go_wp2
    go_ret
    exact ⟨⟨_, rfl, World.ownsRow_nil _ _ _ _⟩, Below.refl _ _⟩
  obtain ⟨i0, hi0, hz0, hz1, hz2⟩ := info_three Try.infoK
  have hr : ∀ ty, (Builtin.append_ #[23, 3] ty #[.slice none 0 0, .int .i64 n]).run Try.prog w = .ok (.slice (some ⟨w.heap.size, 0, none⟩) n (grownCap w n 0 102)) (w.drew.alloc (.cells (Builtin.zeroCells zK.cells n ++ Builtin.zeroCells zK.cells (grownCap w n 0 102 - n)) 102)) := fun ty => Lib.run_append_nil_zeros w 23 3 ty 102 i0 _ .i64 .i64 Try.underlying23 Try.underlying3 hi0 hz0 n (by omega) (by rw [hz1]; decide) (by omega) (by rw [hz2]; omega)
  have hge : n ≤ grownCap w n 0 102 := grownCap_ge w n 0 102
  have hle : grownCap w n 0 102 ≤ maxLen := grownCap_le_maxLen w n 0 102 (by unfold maxLen; omega)
  have hrow : (w.drew.alloc (.cells (Builtin.zeroCells zK.cells n ++ Builtin.zeroCells zK.cells (grownCap w n 0 102 - n)) 102)).ownsRow w.heap.size 102 9 (.slice (some ⟨w.heap.size, 0, none⟩) 0 (grownCap w n 0 102)) 0 [] :=
    World.ownsRow_made w.drew _ _ (Nat.le_refl _) hle (by rw [Array.size_append, zeroK_size, zeroK_size]; omega)
  have hB : Below w.heap.size w (w.drew.alloc (.cells (Builtin.zeroCells zK.cells n ++ Builtin.zeroCells zK.cells (grownCap w n 0 102 - n)) 102)) := (below_drewN (Below.refl _ w) 1).alloc (Nat.le_refl _) _
  generalize w.drew.alloc (.cells (Builtin.zeroCells zK.cells n ++ Builtin.zeroCells zK.cells (grownCap w n 0 102 - n)) 102) = w1 at hr hrow hB
  generalize grownCap w n 0 102 = c at hr hge hle hrow
  have hn0 : decide (0 < n) = true := decide_eq_true (by omega)
  have hn1 : decide (0 < (n : Int)) = true := decide_eq_true (by omega)
  unfold maxLen at hle
  clear hi0 hz0 hz1 hz2
  go_enter Try.func82, Try.ntmps82
  go_wp2_with (at_builtin; refine Lib.wpList_append_run _ rfl _ _ _ _ rfl _ _ rfl rfl _ _ (hr _) ?_)
  go_wp2
  go_ret
  exact ⟨⟨_, rfl, hrow⟩, hB⟩

/-- A part: where it lies, its room, what it has. -/
structure Pt where
  a : Option Addr
  c : Nat
  l : Khs
/-- All that the parts have. -/
def parts : List Pt → Khs
  | [] => []
  | p :: ps => p.l ++ parts ps
theorem parts_append : ∀ A B : List Pt, parts (A ++ B) = parts A ++ parts B
  | [], _ => rfl
  | p :: A, B => by simp [parts, parts_append A B]
theorem parts_succ {ps : List Pt} {k : Nat} {p : Pt} (h : ps[k]? = some p) : parts (ps.take (k + 1)) = parts (ps.take k) ++ p.l := by
  rw [List.take_add_one, h, parts_append]; simp [parts]
theorem parts_le (ps : List Pt) (k : Nat) : (parts (ps.take k)).length ≤ (parts ps).length := by
  have := parts_append (ps.take k) (ps.drop k)
  rw [List.take_append_drop] at this
  rw [this, List.length_append]; omega

set_option maxRecDepth 100000 in
set_option maxHeartbeats 1000000 in
theorem concatK_any (bs cp : Nat) (ps : List Pt) (w : World) (hm : ps.length ≤ 10) (hl : (parts ps).length ≤ 1000)
    (hc : ∀ i p, ps[i]? = some p → w.cell? ⟨bs, i, none⟩ = some (.slice p.a p.l.length p.c) ∧ KsH w.cell? p.a p.l) :
    Calls Try.prog 74 #[.slice (some ⟨bs, 0, none⟩) ps.length cp] w fun e w' => (∃ v, e = .returned v ∧ w'.ownsRow w.heap.size 102 9 v (parts ps).length (kfl (parts ps))) ∧ Below w.heap.size w w' := by
  obtain ⟨i0, hi0, hz0, hz1, hz2⟩ := info_three Try.infoK
  have HC : Hid (∀ i p, ps[i]? = some p → w.cell? ⟨bs, i, none⟩ = some (.slice p.a p.l.length p.c) ∧ KsH w.cell? p.a p.l) := hc
  have HL : Hid (∀ k, (parts (ps.take k)).length ≤ (parts ps).length) := parts_le ps
  clear hc
  go_enter Try.func74, Try.ntmps74
  go_wp2
  go_loop [11, 3] (fun i s => ∃ k : Nat, k ≤ ps.length ∧ i = .int .i64 k ∧ s = .int .i64 (parts (ps.take k)).length) (fun i _ => ps.length - (intOf i).toNat)
  case atStart => exact ⟨0, Nat.zero_le _, rfl, rfl⟩
  case round =>
    obtain ⟨k, hk, rfl, rfl⟩ := hrel
    by_cases hlt : k < ps.length
    · obtain ⟨p, hp⟩ : ∃ p, ps[k]? = some p := ⟨ps[k], by simp [hlt]⟩
      obtain ⟨q, _⟩ := HC.out k p hp
      have hki : (k : Int) < (ps.length : Int) := by omega
      have HS : Hid (parts (ps.take (k + 1)) = parts (ps.take k) ++ p.l) := parts_succ hp
      have h2 : (parts (ps.take k)).length + p.l.length ≤ 1000 := by
        have := HL.out (k + 1)
        rw [HS.out, List.length_append] at this; omega
      have HS2 : Hid ((parts (ps.take (k + 1))).length = (parts (ps.take k)).length + p.l.length) := by show _ = _; rw [HS.out, List.length_append]
      clear hp HS
      generalize (parts (ps.take k)).length = s at h2 HS2 ⊢
      go_wp2
      go_round
      case rel => exact ⟨k + 1, by omega, by go_num, by rw [HS2.out]; go_num⟩
      case measure => simp [intOf]; omega
    · have e1 : ps.take k = ps := List.take_of_length_le (by omega)
      rw [e1]
      clear e1
      go_wp2_with fail
      refine (growK_any _ _ hl).mono ?_
      rintro e w1 ⟨⟨v, rfl, hown⟩, hB⟩
      go_wp2
      go_loopw [27, 6] (fun i s wr => ∃ k : Nat, k ≤ ps.length ∧ i = .int .i64 k ∧ wr.ownsRow w.heap.size 102 9 s (parts (ps.take k)).length (kfl (parts (ps.take k))) ∧ Below w.heap.size w wr) (fun i _ _ => ps.length - (intOf i).toNat)
      case atStart => exact ⟨0, Nat.zero_le _, rfl, hown, hB⟩
      case round =>
        obtain ⟨k, hk, rfl, hown, hB⟩ := hrel
        by_cases hlt : k < ps.length
        · obtain ⟨p, hp⟩ : ∃ p, ps[k]? = some p := ⟨ps[k], by simp [hlt]⟩
          obtain ⟨q, hK⟩ := HC.out k p hp
          have hki : (k : Int) < (ps.length : Int) := by omega
          have HS : Hid (parts (ps.take (k + 1)) = parts (ps.take k) ++ p.l) := parts_succ hp
          have h2 : (parts (ps.take k)).length + p.l.length ≤ 1000 := by
            have := HL.out (k + 1)
            rw [HS.out, List.length_append] at this; omega
          have q2 : wr.cell? ⟨bs, k, none⟩ = some (.slice p.a p.l.length p.c) := (hB.cell (p := ⟨bs, k, none⟩) (World.block_lt_of_cell? _ _ q)).trans q
          have hb1 := hB.size
          have hK1 := hK.on (mle_below hB)
          clear hp q hK
          generalize parts (ps.take k) = P at h2 HS hown ⊢
          go_wp2_with (at_builtin; refine wpList_append_src _ rfl (.tmp 31) (.tmp 32) 23 rfl w.heap.size 102 i0 zK 9 120 Try.underlying23 hi0 hz0 hz1 hz2 rfl (by decide) _ P.length (kfl P) rfl hown p.a p.l.length p.c (kfl p.l) rfl (kfl_length p.l) (src_of_ksH hK1) (kfl_one _) (by unfold maxLen; omega) (by omega) hb1 ?_)
          intro v2 w4 hown4 hgrow4 _
          have hB4 := hB.grown hgrow4 hb1 (fun q e => (hown.lt q e).1)
          clear hgrow4 hown hB hb1
          go_wp2
          go_roundw
          case rel => exact ⟨k + 1, by omega, by go_num, by rw [HS.out, List.length_append, kfl_append]; exact hown4, hB4⟩
          case measure => simp [intOf]; omega
        · have e1 : ps.take k = ps := List.take_of_length_le (by omega)
          rw [e1] at hown
          clear e1
          go_wp2
          go_ret
          exact ⟨⟨_, rfl, hown⟩, hB⟩
end Go.Proofs.Ytkkhfnkmfkdhiab
