/-
  WHAT Turn AND SameMap DO: the walks.
-/
import Derived.Test.YtoadlnojcbkdgaaIg
namespace Go.Proofs.Ytoadlnojcbkdgaa
open Go.RowKit

theorem new3b (w : World) (B : Nat) (hB : B = w.heap.size) (i o n : Int) : ∀ j u, (flat [⟨i, o, n⟩])[j]? = some u → (w.alloc (.cells #[.int .i64 i, .int .i64 o, .int .i64 n] 53)).cell? ((⟨B, 0, none⟩ : Addr).add j) = some u := by
  subst hB; exact new3 w i o n
theorem turn_ok {rs : List Rg} (h : ∀ r ∈ rs, r.ok) : ∀ r ∈ rs.map turnR, r.ok := by
  intro r hr
  obtain ⟨p, hp, rfl⟩ := List.mem_map.1 hr
  obtain ⟨h1, h2, h3⟩ := h p hp
  exact ⟨h2, h1, h3⟩

set_option maxRecDepth 100000 in
set_option maxHeartbeats 1000000 in
theorem turn_any (a : Option Addr) (cap : Nat) (rs : List Rg) (w : World) (hl : rs.length ≤ 100) (hok : ∀ r ∈ rs, r.ok) (h : Rgs w a rs) (n : Int) (HN : Hid (mapF (rs.map turnR) = n)) :
    Calls Try.prog 17 #[.slice a rs.length cap] w fun e w' => ((n ≠ 0 ∧ e = .returned (errL n)) ∨ (n = 0 ∧ ∃ v', e = .returned (.tuple #[v', .nilIface]) ∧ w'.ownsRow w.heap.size 53 3 v' (canonL (rs.map turnR)).length (flat (canonL (rs.map turnR))))) ∧ Below w.heap.size w w' := by
  obtain ⟨i0, hi0, hz0, hz1, hz2⟩ := info_parts Try.info53
  go_enter Try.func17, Try.ntmps17
  go_wp2
  go_loopw [4, 9] (fun v i wr => ∃ k : Nat, k ≤ rs.length ∧ i = .int .i64 k ∧ wr.ownsRow w.heap.size 53 3 v k (flat ((rs.take k).map turnR)) ∧ Below w.heap.size w wr) (fun _ i _ => rs.length - (intOf i).toNat)
  case atStart => exact ⟨0, Nat.zero_le _, rfl, World.ownsRow_nil _ _ _ _, Below.refl _ _⟩
  case round =>
    obtain ⟨k, hk, rfl, hown, hB⟩ := hrel
    by_cases hlt : k < rs.length
    · rcases h with rfl | ⟨b, off, rfl, hc⟩
      · simp at hlt
      · obtain ⟨r, hr⟩ : ∃ r, rs[k]? = some r := ⟨rs[k], by simp [hlt]⟩
        obtain ⟨hc0, hc1, hc2⟩ := hc k r hr
        have hbl : b < w.heap.size := World.block_lt_of_cell? _ _ hc0
        have hblr : b < wr.heap.size := Nat.lt_of_lt_of_le hbl hB.size
        have hki : (k : Int) < (rs.length : Int) := by omega
        have HJ : Hid ((rs.take (k + 1)).map turnR = (rs.take k).map turnR ++ [turnR r]) := by show _ = _; rw [take_snoc_get hr, List.map_append]; rfl
        obtain ⟨ri, ro, rn⟩ := r
        dsimp only at hc0 hc1 hc2
        have q0 : wr.cell? ⟨b, off + k * 3, none⟩ = some (.int .i64 ri) := (hB.cell (p := ⟨b, off + k * 3, none⟩) hbl).trans hc0
        have q1 : wr.cell? ⟨b, off + k * 3 + 1, none⟩ = some (.int .i64 ro) := (hB.cell (p := ⟨b, off + k * 3 + 1, none⟩) hbl).trans hc1
        have q2 : wr.cell? ⟨b, off + k * 3 + 2, none⟩ = some (.int .i64 rn) := (hB.cell (p := ⟨b, off + k * 3 + 2, none⟩) hbl).trans hc2
        have hown1 := hown.alloc (.cells #[.int .i64 ri, .int .i64 ro, .int .i64 rn] 53)
        have hB1 := hB.alloc hB.size (.cells #[.int .i64 ri, .int .i64 ro, .int .i64 rn] 53)
        have hb2 := hB1.size
        clear hc0 hc1 hc2 hr hc
        generalize (rs.take k).map turnR = J at hown hown1 HJ
        go_wp2_with (at_builtin; refine wpList_append_src _ rfl (.tmp 13) (.tmp 21) 22 rfl w.heap.size 53 i0 (.agg #[.int .i64 0, .int .i64 0, .int .i64 0]) 3 24 Try.underlying22 hi0 hz0 hz1 hz2 rfl (by decide) _ k (flat J) rfl (hown1.alloc _) (some ⟨wr.heap.size + 1, 0, none⟩) 1 1 (flat [⟨ro, ri, rn⟩]) rfl rfl (.inr ⟨_, rfl, new3b (wr.alloc (.cells #[.int .i64 ri, .int .i64 ro, .int .i64 rn] 53)) _ (by simp) _ _ _⟩) (flat_one _) (by unfold maxLen; omega) (by omega) (Nat.le_trans hb2 (by simp)) ?_)
        intro v2 w4 hown4 hgrow4 _
        have hB4 := (hB1.alloc hb2 (.cells #[.int .i64 ro, .int .i64 ri, .int .i64 rn] 53)).grown hgrow4 (Nat.le_trans hb2 (by simp)) (fun q e => (hown.lt q e).1)
        clear hgrow4 q0 q1 q2 hown hown1 hB hB1 hb2
        go_wp2
        go_roundw
        case rel => exact ⟨k + 1, by omega, by go_num, by rw [HJ.out, flat_append]; exact hown4, hB4⟩
        case measure => simp [intOf]; omega
    · have hkk : k = rs.length := by omega
      subst hkk
      rw [List.take_of_length_le (Nat.le_refl _)] at hown
      have hml : (rs.map turnR).length = rs.length := by simp
      rw [← hml] at hown
      obtain ⟨a2, cap2, hv, hlc, hcm, hR⟩ := rgs_of_owns0 hown
      subst hv
      have hok2 := turn_ok hok
      have hl2 : (rs.map turnR).length ≤ 100 := by rw [hml]; exact hl
      clear hown hcm
      generalize hJ : rs.map turnR = J at HN hR hlc hok2 hl2 hml
      have HJ : Hid (rs.map turnR = J) := hJ
      clear hml hJ
      go_wp2_with fail
      by_cases hn0 : n = 0
      · subst hn0
        refine (canon_good a2 cap2 J _ hl2 hlc hok2 hR HN).mono ?_
        rintro e w2 ⟨v2, rfl, hown2, hB2⟩
        have hB3 := hB.trans (hB2.mono hB.size)
        have hown3 := owns_base hown2 hB.size
        clear hown2 hB2 hB hR
        go_wp2
        go_ret2
        exact ⟨⟨_, rfl, by rw [HJ.out]; exact hown3⟩, hB3⟩
      · refine (canon_bad a2 cap2 J _ hl2 hlc hok2 hR n HN hn0).mono ?_
        rintro e w2 ⟨rfl, hB2⟩
        have hB3 := hB.trans (hB2.mono hB.size)
        unfold errL
        go_wp2
        go_ret2
        exact ⟨.inl ⟨hn0, rfl⟩, hB3⟩

set_option maxHeartbeats 400000 in
theorem sameMap_yes (a b : Option Addr) (c1 c2 n : Nat) (rs : List Rg) (w : World) (hn : rs.length = n) (hl : n ≤ 100) (h : Rgs w a rs) (h' : Rgs w b rs) :
    Calls Try.prog 19 #[.slice a n c1, .slice b n c2] w fun e w' => e = .returned (.bool true) ∧ Below w.heap.size w w' := by
  have hne : ((n : Int) != (n : Int)) = false := by simp
  go_enter Try.func19, Try.ntmps19
  go_wp2
  go_loopw [5] (fun i wr => ∃ k : Nat, k ≤ n ∧ i = .int .i64 k ∧ Below w.heap.size w wr) (fun i _ => n - (intOf i).toNat)
  case atStart => exact ⟨0, Nat.zero_le _, rfl, Below.refl _ _⟩
  case round =>
    obtain ⟨k, hk, rfl, hb⟩ := hrel
    by_cases hlt : k < n
    · obtain ⟨r, hr⟩ : ∃ r, rs[k]? = some r := ⟨rs[k]'(by omega), List.getElem?_eq_getElem _⟩
      rcases h.below (Below.refl _ _) with hnil | ⟨ba, oa, rfl, hc⟩
      · rw [hnil] at hn; simp at hn; omega
      rcases h' with hnil | ⟨bb, ob, rfl, hc'⟩
      · rw [hnil] at hn; simp at hn; omega
      obtain ⟨y0, y1, y2⟩ := hc k r hr
      obtain ⟨z0, z1, z2⟩ := hc' k r hr
      obtain ⟨ri, ro, rn⟩ := r
      dsimp only at y0 y1 y2 z0 z1 z2
      have hba : ba < w.heap.size := World.block_lt_of_cell? _ _ y0
      have hbb : bb < w.heap.size := World.block_lt_of_cell? _ _ z0
      have q0 : wr.cell? ⟨ba, oa + k * 3, none⟩ = some (.int .i64 ri) := (hb.cell (p := ⟨ba, oa + k * 3, none⟩) hba).trans y0
      have q1 : wr.cell? ⟨ba, oa + k * 3 + 1, none⟩ = some (.int .i64 ro) := (hb.cell (p := ⟨ba, oa + k * 3 + 1, none⟩) hba).trans y1
      have q2 : wr.cell? ⟨ba, oa + k * 3 + 2, none⟩ = some (.int .i64 rn) := (hb.cell (p := ⟨ba, oa + k * 3 + 2, none⟩) hba).trans y2
      have p0 : wr.cell? ⟨bb, ob + k * 3, none⟩ = some (.int .i64 ri) := (hb.cell (p := ⟨bb, ob + k * 3, none⟩) hbb).trans z0
      have p1 : wr.cell? ⟨bb, ob + k * 3 + 1, none⟩ = some (.int .i64 ro) := (hb.cell (p := ⟨bb, ob + k * 3 + 1, none⟩) hbb).trans z1
      have p2 : wr.cell? ⟨bb, ob + k * 3 + 2, none⟩ = some (.int .i64 rn) := (hb.cell (p := ⟨bb, ob + k * 3 + 2, none⟩) hbb).trans z2
      have hki : (k : Int) < (n : Int) := by omega
      clear y0 y1 y2 z0 z1 z2 hc hc' h hr
      go_wp2
      go_quiet (fail)
      go_wp2
      go_roundw
      case rel => exact ⟨k + 1, by omega, by go_num, below_drewN hb _⟩
      case measure => simp [intOf]; omega
    · go_wp2
      go_ret
      exact ⟨rfl, hb⟩
end Go.Proofs.Ytoadlnojcbkdgaa
