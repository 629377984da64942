/-
  WHAT slices.Concat DOES: the walk.
-/
import Derived.Test.YtpjhckjmahagnaaAi
namespace Go.Proofs.Ytpjhckjmahagnaa
open Go.RowKit

/-- A part: where it lies, its room, what it has. -/
structure Pt where
  a : Option Addr
  c : Nat
  l : List Kv
/-- All that the parts have. -/
def parts : List Pt → List Kv
  | [] => []
  | p :: ps => p.l ++ parts ps
theorem parts_append : ∀ A B : List Pt, parts (A ++ B) = parts A ++ parts B
  | [], _ => rfl
  | p :: A, B => by simp [parts, parts_append A B]
theorem parts_succ {ps : List Pt} {k : Nat} {p : Pt} (h : ps[k]? = some p) : parts (ps.take (k + 1)) = parts (ps.take k) ++ p.l := by
  rw [List.take_add_one, h, parts_append]; simp [parts]
theorem parts_le (ps : List Pt) (k : Nat) : (parts (ps.take k)).length ≤ (parts ps).length := by
  have := parts_append (ps.take k) (ps.drop k)
  rw [List.take_append_drop] at this
  rw [this, List.length_append]; omega

set_option maxRecDepth 100000 in
set_option maxHeartbeats 1000000 in
theorem concat_any (bs cp : Nat) (ps : List Pt) (w : World) (hm : ps.length ≤ 10) (hl : (parts ps).length ≤ 1000)
    (hc : ∀ i p, ps[i]? = some p → w.cell? ⟨bs, i, none⟩ = some (.slice p.a p.l.length p.c) ∧ Kvm w p.a p.l) :
    Calls Try.prog 78 #[.slice (some ⟨bs, 0, none⟩) ps.length cp] w fun e w' => (∃ v, e = .returned v ∧ w'.ownsRow w.heap.size 65 2 v (parts ps).length (flat (parts ps))) ∧ Below w.heap.size w w' := by
  obtain ⟨i0, hi0, hz0, hz1, hz2⟩ := info_parts Try.info65
  have HC : Hid (∀ i p, ps[i]? = some p → w.cell? ⟨bs, i, none⟩ = some (.slice p.a p.l.length p.c) ∧ Kvm w p.a p.l) := hc
  have HL : Hid (∀ k, (parts (ps.take k)).length ≤ (parts ps).length) := parts_le ps
  clear hc
  go_enter Try.func78, Try.ntmps78
  go_wp2
  go_loop [11, 3] (fun i s => ∃ k : Nat, k ≤ ps.length ∧ i = .int .i64 k ∧ s = .int .i64 (parts (ps.take k)).length) (fun i _ => ps.length - (intOf i).toNat)
  case atStart => exact ⟨0, Nat.zero_le _, rfl, rfl⟩
  case round =>
    obtain ⟨k, hk, rfl, rfl⟩ := hrel
    by_cases hlt : k < ps.length
    · obtain ⟨p, hp⟩ : ∃ p, ps[k]? = some p := ⟨ps[k], by simp [hlt]⟩
      obtain ⟨q, _⟩ := HC.out k p hp
      have hki : (k : Int) < (ps.length : Int) := by omega
      have HS : Hid (parts (ps.take (k + 1)) = parts (ps.take k) ++ p.l) := parts_succ hp
      have h2 : (parts (ps.take k)).length + p.l.length ≤ 1000 := by
        have := HL.out (k + 1)
        rw [HS.out, List.length_append] at this; omega
      have HS2 : Hid ((parts (ps.take (k + 1))).length = (parts (ps.take k)).length + p.l.length) := by show _ = _; rw [HS.out, List.length_append]
      clear hp HS
      generalize (parts (ps.take k)).length = s at h2 HS2 ⊢
      go_wp2
      go_round
      case rel => exact ⟨k + 1, by omega, by go_num, by rw [HS2.out]; go_num⟩
      case measure => simp [intOf]; omega
    · have e1 : ps.take k = ps := List.take_of_length_le (by omega)
      rw [e1]
      clear e1
      go_wp2_with fail
      refine (grow_any _ _ hl).mono ?_
      rintro e w1 ⟨⟨v, rfl, hown⟩, hB⟩
      go_wp2
      go_loopw [27, 6] (fun i s wr => ∃ k : Nat, k ≤ ps.length ∧ i = .int .i64 k ∧ wr.ownsRow w.heap.size 65 2 s (parts (ps.take k)).length (flat (parts (ps.take k))) ∧ Below w.heap.size w wr) (fun i _ _ => ps.length - (intOf i).toNat)
      case atStart => exact ⟨0, Nat.zero_le _, rfl, hown, hB⟩
      case round =>
        obtain ⟨k, hk, rfl, hown, hB⟩ := hrel
        by_cases hlt : k < ps.length
        · obtain ⟨p, hp⟩ : ∃ p, ps[k]? = some p := ⟨ps[k], by simp [hlt]⟩
          obtain ⟨q, hK⟩ := HC.out k p hp
          have hki : (k : Int) < (ps.length : Int) := by omega
          have HS : Hid (parts (ps.take (k + 1)) = parts (ps.take k) ++ p.l) := parts_succ hp
          have h2 : (parts (ps.take k)).length + p.l.length ≤ 1000 := by
            have := HL.out (k + 1)
            rw [HS.out, List.length_append] at this; omega
          have q2 : wr.cell? ⟨bs, k, none⟩ = some (.slice p.a p.l.length p.c) := (hB.cell (p := ⟨bs, k, none⟩) (World.block_lt_of_cell? _ _ q)).trans q
          have hb1 := hB.size
          have hK1 := hK.below hB
          clear hp q hK
          generalize parts (ps.take k) = P at h2 HS hown ⊢
          go_wp2_with (at_builtin; refine wpList_append_src _ rfl (.tmp 31) (.tmp 32) 62 rfl w.heap.size 65 i0 (.agg #[.string ⟨#[]⟩, .string ⟨#[]⟩]) 2 32 Try.underlying62 hi0 hz0 hz1 hz2 rfl (by decide) _ P.length (flat P) rfl hown p.a p.l.length p.c (flat p.l) rfl (flat_length p.l) (src_of_kvm hK1) (flat_one _) (by unfold maxLen; omega) (by omega) hb1 ?_)
          intro v2 w4 hown4 hgrow4 _
          have hB4 := hB.grown hgrow4 hb1 (fun q e => (hown.lt q e).1)
          clear hgrow4 hown hB hb1
          go_wp2
          go_roundw
          case rel => exact ⟨k + 1, by omega, by go_num, by rw [HS.out, List.length_append, flat_append]; exact hown4, hB4⟩
          case measure => simp [intOf]; omega
        · have e1 : ps.take k = ps := List.take_of_length_le (by omega)
          rw [e1] at hown
          clear e1
          go_wp2
          go_ret
          exact ⟨⟨_, rfl, hown⟩, hB⟩
end Go.Proofs.Ytpjhckjmahagnaa
