/-
  WHAT shifts AND ownMap DO: a closed fact; a copy in its own memory.
-/
import Derived.Test.YtoadlnojcbkdgaaIk
namespace Go.Proofs.Ytoadlnojcbkdgaa
open Go.RowKit

set_option maxHeartbeats 400000 in
theorem shifts_any (w : World) : Calls Try.prog 7 #[] w fun e w' => e = .returned (.bool true) ∧ Below w.heap.size w w' := by
  go_enter Try.func7, Try.ntmps7
  go_wp2_with fail
  refine (toHost_any _ 1 [⟨0, 1000, 10⟩] 5 _ (by simp) (by simp) one_ok ⟨by omega, by omega⟩ (rgs_one w 0 1000 10)).mono ?_
  rintro e w1 ⟨rfl, hB1⟩
  rw [one_to]
  have hB : Below w.heap.size w w1 := ((Below.refl _ _).alloc (Nat.le_refl _) _).trans (hB1.mono (by simp))
  clear hB1
  dsimp only [optV, Option.getD, Option.isSome]
  go_wp2
  go_ret
  exact ⟨rfl, hB⟩

set_option maxRecDepth 100000 in
set_option maxHeartbeats 1000000 in
theorem ownMap_any (a : Option Addr) (cap : Nat) (rs : List Rg) (w : World) (hl : rs.length ≤ 100) (h : Rgs w a rs) :
    Calls Try.prog 8 #[.slice a rs.length cap] w fun e w' => ∃ ao cp, e = .returned (.slice ao rs.length cp) ∧ rs.length ≤ cp ∧ Rgs w' ao rs ∧ Below w.heap.size w w' := by
  obtain ⟨i0, hi0, hz0, hz1, hz2⟩ := info_parts Try.info53
  go_enter Try.func8, Try.ntmps8
  go_wp2_with (at_builtin; refine wpList_append_src _ rfl (.const (.slice none 0 0)) (.tmp 4) 22 rfl w.heap.size 53 i0 (.agg #[.int .i64 0, .int .i64 0, .int .i64 0]) 3 24 Try.underlying22 hi0 hz0 hz1 hz2 rfl (by decide) _ 0 [] rfl (World.ownsRow_nil _ _ _ _) a rs.length cap (flat rs) rfl (flat_length rs) (src_of_rgs h) (flat_one _) (by unfold maxLen; omega) (by omega) (Nat.le_refl _) ?_)
  intro v1 w1 hown1 hgrow1 _
  have hB1 : Below w.heap.size w w1 := (Below.refl _ _).grown hgrow1 (Nat.le_refl _) (fun q e => by simp [Value.ownBlock] at e)
  clear hgrow1
  have hown2 := hown1.alloc (.cells #[.int .i64 77, .int .i64 0, .int .i64 0] 53)
  have hB2 := hB1.alloc hB1.size (.cells #[.int .i64 77, .int .i64 0, .int .i64 0] 53)
  have hb2 := hB2.size
  go_wp2_with (at_builtin; refine wpList_append_src _ rfl (.tmp 5) (.tmp 7) 22 rfl w.heap.size 53 i0 (.agg #[.int .i64 0, .int .i64 0, .int .i64 0]) 3 24 Try.underlying22 hi0 hz0 hz1 hz2 rfl (by decide) _ rs.length (flat rs) rfl hown2 (some ⟨w1.heap.size, 0, none⟩) 1 1 (flat [⟨77, 0, 0⟩]) rfl rfl (.inr ⟨_, rfl, new3 w1 _ _ _⟩) (flat_one _) (by unfold maxLen; omega) (by omega) hb2 ?_)
  intro v2 w2 hown3 hgrow2 _
  have hB3 := hB2.grown hgrow2 hb2 (fun q e => (hown1.lt q e).1)
  rw [← flat_append] at hown3
  obtain ⟨g, cap2, hv, hlc, hcm, hR⟩ := rgs_of_owns0 hown3
  subst hv
  have hR' : Rgs w2 g rs := by
    rcases hR with e | ⟨b, off, rfl, hc⟩
    · simp at e
    · exact .inr ⟨b, off, rfl, fun k r hk => hc k r (by rw [List.getElem?_append_left (List.getElem?_eq_some_iff.1 hk).1]; exact hk)⟩
  clear hown1 hown2 hown3 hgrow2 hB1 hB2 hb2 hR
  unfold maxLen at hcm
  go_wp2
  go_ret
  exact ⟨_, _, rfl, by omega, hR', hB3⟩
end Go.Proofs.Ytoadlnojcbkdgaa
