/-
  A MAP IN FEW RANGES, AS THE OTHER SIDE SAYS IT: the walk of its Canon.
-/
import Derived.Test.YtoadlnojcbkdgaaIn
import Derived.Test.YtoadlnojcbkdgaaIp
namespace Go.Proofs.Ytoadlnojcbkdgaa
open Go.RowKit


set_option maxRecDepth 100000 in
set_option maxHeartbeats 8000000 in
theorem canonA_any (a : Option Addr) (cap : Nat) (rs : List Rg) (w : World) (hl : rs.length ≤ 100) (hbd : ∀ r ∈ rs, r.bd) (h : Rgs w a rs) (f : Int → Option Int) (HF : Hid (∀ x, f x = walkM (·.i) (·.o) rs x)) (hfb : ∀ x y, f x = some y → 0 ≤ y ∧ y ≤ 65535) :
    Calls Try.prog 20 #[.slice a rs.length cap, .slice none 0 0, .bool false, .bool false] w fun e w' => ∃ v', e = .returned v' ∧ w'.ownsRow w.heap.size 53 3 v' (canonR f 65536).length (flat (canonR f 65536)) ∧ Below w.heap.size w w' := by
  obtain ⟨i0, hi0, hz0, hz1, hz2⟩ := info_parts Try.info53
  go_enter Try.func20, Try.ntmps20
  go_wp2
  go_loopw [9, 10] (fun v i wr => ∃ k : Nat, k ≤ 65536 ∧ i = .int .i64 k ∧ wr.ownsRow w.heap.size 53 3 v (canonR f k).length (flat (canonR f k)) ∧ Below w.heap.size w wr) (fun _ i _ => 65536 - (intOf i).toNat)
  case atStart => exact ⟨0, Nat.zero_le _, rfl, World.ownsRow_nil _ _ _ _, Below.refl _ _⟩
  case round =>
    obtain ⟨k, hk, rfl, hown, hB⟩ := hrel
    by_cases hlt : k < 65536
    · have hki : (k : Int) ≤ 65535 := by omega
      obtain ⟨o, HK⟩ : ∃ o, Hid (f k = o) := ⟨_, rfl⟩
      go_wp2_with fail
      refine (outside_any a cap rs k _ hl hbd ⟨by omega, by omega⟩ (h.below hB) _ (show Hid _ from (HF.out k).symm.trans HK.out)).mono ?_
      rintro e w1 ⟨rfl, hC1⟩
      have hownT := owns_below hown hC1
      have hBT := hB.trans (hC1.mono hB.size)
      clear hown hB hC1
      unfold optV
      rcases o with _ | y
      · go_wp2
        go_roundw
        case rel => exact ⟨k + 1, by omega, by go_num, by rw [canonR_none HK.out]; exact hownT, hBT⟩
        case measure => simp [intOf]; omega
      · have HJ : Hid (canonR f (k + 1) = stepJ (canonR f k) ⟨k, y, 1⟩) := canonR_some HK.out
        have hJb : ∀ p ∈ canonR f k, p.bd := canonR_bd hfb (by omega)
        have hJl : (canonR f k).length ≤ 65536 := Nat.le_trans (canonR_length f k) (by omega)
        generalize canonR f k = J at hownT HJ hJb hJl
        obtain ⟨a0, cap0, hv, hnc, hcm, hform⟩ := ownsRow_form hownT
        subst hv
        unfold maxLen at hcm
        rcases List.eq_nil_or_concat J with rfl | ⟨P, p, rfl⟩
        · have HJ2 : Hid (canonR f (k + 1) = [⟨k, y, 1⟩]) := HJ.out
          clear hform hJb HJ
          have hbT := hBT.size
          go_wp2
          go_quiet (fail)
          have hown2 : (w1.drewN nq).ownsRow w.heap.size 53 3 (.slice a0 0 cap0) 0 (flat []) := hownT
          have hB2 : Below w.heap.size w (w1.drewN nq) := below_drewN hBT nq
          have hb2 := hB2.size
          clear hownT hBT hbT
          generalize w1.drewN nq = w2 at hown2 hB2 hb2 ⊢
          go_wp2_with (at_builtin; refine wpList_append_src _ rfl (.tmp 93) (.tmp 97) 22 rfl w.heap.size 53 i0 (.agg #[.int .i64 0, .int .i64 0, .int .i64 0]) 3 24 Try.underlying22 hi0 hz0 hz1 hz2 rfl (by decide) _ 0 (flat []) rfl (hown2.alloc _) (some ⟨w2.heap.size, 0, none⟩) 1 1 (flat [⟨k, y, 1⟩]) rfl rfl (.inr ⟨_, rfl, new3 _ _ _ _⟩) (flat_one _) (by unfold maxLen; omega) (by omega) (Nat.le_trans hb2 (by simp)) ?_)
          intro v2 w4 hown4 hgrow4 _
          have hB4 := (hB2.alloc hb2 (.cells #[.int .i64 k, .int .i64 y, .int .i64 1] 53)).grown hgrow4 (Nat.le_trans hb2 (by simp)) (fun q e => (hown2.lt q e).1)
          clear hgrow4 hown2 hB2 hb2
          go_wp2
          go_roundw
          case rel => exact ⟨k + 1, by omega, by go_num, by rw [HJ2.out]; simpa [flat] using hown4, hB4⟩
          case measure => simp [intOf]; omega
        · rw [List.concat_eq_append] at *
          have hpb : p.bd := hJb p (by simp)
          have hlen : (P ++ [p]).length = P.length + 1 := by simp
          rw [hlen] at hownT hnc hJl hform ⊢
          rcases hform with ⟨_, h0, _⟩ | ⟨g, cur, rfl, hgb, hg, hcs, htk⟩
          · omega
          have hgl : g < w1.heap.size := (Array.getElem?_eq_some_iff.1 hg).1
          obtain ⟨y0, y1, y2, y3⟩ := rrow_of hg htk
          obtain ⟨pi, po, pn⟩ := p
          obtain ⟨p1, p2, p3, p4, p5, p6, p7, p8⟩ := hpb
          dsimp only at y0 y1 y2 p1 p2 p3 p4 p5 p6 p7 p8
          have ip : (0 : Int) ≤ (P.length : Int) := by omega
          have ip2 : (P.length : Int) < (P.length : Int) + 1 := by omega
          have ip3 : (0 : Int) < (P.length : Int) + 1 := by omega
          have HG : Hid (w1.heap[g]? = some (.cells cur 53 (0, 0))) := hg
          have HT : Hid (cur.toList.take ((P.length + 1) * 3) = flat (P ++ [⟨pi, po, pn⟩])) := htk
          clear hJb hlen hg htk
          by_cases e1 : pi + pn = k
          · have d1 : (pi + pn == (k : Int)) = true := by simpa using e1
            by_cases e2 : po + pn = y
            · have d2 : (po + pn == y) = true := by simpa using e2
              have HJ3 : Hid (canonR f (k + 1) = P ++ [⟨pi, po, pn + 1⟩]) := HJ.out.trans (stepJ_on (by simp [onB, e1, e2]))
              clear HJ e1 e2
              go_wp2
              go_quiet (fail)
              have hB2 : Below w.heap.size w (w1.drewN nq) := below_drewN hBT nq
              have HE : Hid (((w1.drewN nq).setCell ⟨g, P.length * 3 + 2, none⟩ (.int .i64 (pn + 1))).ownsRow w.heap.size 53 3 (.slice (some ⟨g, 0, none⟩) (P.length + 1) cap0) (P.length + 1) (flat (P ++ [⟨pi, po, pn + 1⟩]))) :=
                count_set (w := w1.drewN nq) (x := ⟨pi, po, pn⟩) hgb HG.out hcs hnc (by unfold maxLen; exact hcm) rfl (by simp) HT.out
              have hB3 := hB2.setCell (p := ⟨g, P.length * 3 + 2, none⟩) hgb (.int .i64 (pn + 1))
              clear HG HT hcs hB2 hownT
              go_wp2
              go_roundw
              case rel => exact ⟨k + 1, by omega, by go_num, by rw [HJ3.out, show (P ++ [(⟨pi, po, pn + 1⟩ : Rg)]).length = P.length + 1 from by simp]; exact HE.out, hB3⟩
              case measure => simp [intOf]; omega
            · have d2 : (po + pn == y) = false := by simpa using e2
              have HJ3 : Hid (canonR f (k + 1) = (P ++ [⟨pi, po, pn⟩]) ++ [⟨k, y, 1⟩]) := HJ.out.trans (stepJ_off (by simp [onB, e1, e2]))
              clear HJ e1 e2 HG HT hcs
              go_wp2
              go_quiet (fail)
              have hown2 : (w1.drewN nq).ownsRow w.heap.size 53 3 (.slice (some ⟨g, 0, none⟩) (P.length + 1) cap0) (P.length + 1) (flat (P ++ [⟨pi, po, pn⟩])) := hownT
              have hB2 : Below w.heap.size w (w1.drewN nq) := below_drewN hBT nq
              have hb2 := hB2.size
              clear hownT hBT y0 y1 y2 y3 hgl
              generalize w1.drewN nq = w2 at hown2 hB2 hb2 ⊢
              go_wp2_with (at_builtin; refine wpList_append_src _ rfl (.tmp 93) (.tmp 97) 22 rfl w.heap.size 53 i0 (.agg #[.int .i64 0, .int .i64 0, .int .i64 0]) 3 24 Try.underlying22 hi0 hz0 hz1 hz2 rfl (by decide) _ (P.length + 1) (flat (P ++ [⟨pi, po, pn⟩])) rfl (hown2.alloc _) (some ⟨w2.heap.size, 0, none⟩) 1 1 (flat [⟨k, y, 1⟩]) rfl rfl (.inr ⟨_, rfl, new3 _ _ _ _⟩) (flat_one _) (by unfold maxLen; omega) (by omega) (Nat.le_trans hb2 (by simp)) ?_)
              intro v2 w4 hown4 hgrow4 _
              have hB4 := (hB2.alloc hb2 (.cells #[.int .i64 k, .int .i64 y, .int .i64 1] 53)).grown hgrow4 (Nat.le_trans hb2 (by simp)) (fun q e => (hown2.lt q e).1)
              clear hgrow4 hown2 hB2 hb2
              go_wp2
              go_roundw
              case rel => exact ⟨k + 1, by omega, by go_num, by rw [HJ3.out, flat_append, show ((P ++ [(⟨pi, po, pn⟩ : Rg)]) ++ [(⟨k, y, 1⟩ : Rg)]).length = P.length + 1 + 1 from by simp]; exact hown4, hB4⟩
              case measure => simp [intOf]; omega
          · have d1 : (pi + pn == (k : Int)) = false := by simpa using e1
            have HJ3 : Hid (canonR f (k + 1) = (P ++ [⟨pi, po, pn⟩]) ++ [⟨k, y, 1⟩]) := HJ.out.trans (stepJ_off (by simp [onB, e1]))
            clear HJ e1 HG HT hcs
            go_wp2
            go_quiet (fail)
            have hown2 : (w1.drewN nq).ownsRow w.heap.size 53 3 (.slice (some ⟨g, 0, none⟩) (P.length + 1) cap0) (P.length + 1) (flat (P ++ [⟨pi, po, pn⟩])) := hownT
            have hB2 : Below w.heap.size w (w1.drewN nq) := below_drewN hBT nq
            have hb2 := hB2.size
            clear hownT hBT y0 y1 y2 y3 hgl
            generalize w1.drewN nq = w2 at hown2 hB2 hb2 ⊢
            go_wp2_with (at_builtin; refine wpList_append_src _ rfl (.tmp 93) (.tmp 97) 22 rfl w.heap.size 53 i0 (.agg #[.int .i64 0, .int .i64 0, .int .i64 0]) 3 24 Try.underlying22 hi0 hz0 hz1 hz2 rfl (by decide) _ (P.length + 1) (flat (P ++ [⟨pi, po, pn⟩])) rfl (hown2.alloc _) (some ⟨w2.heap.size, 0, none⟩) 1 1 (flat [⟨k, y, 1⟩]) rfl rfl (.inr ⟨_, rfl, new3 _ _ _ _⟩) (flat_one _) (by unfold maxLen; omega) (by omega) (Nat.le_trans hb2 (by simp)) ?_)
            intro v2 w4 hown4 hgrow4 _
            have hB4 := (hB2.alloc hb2 (.cells #[.int .i64 k, .int .i64 y, .int .i64 1] 53)).grown hgrow4 (Nat.le_trans hb2 (by simp)) (fun q e => (hown2.lt q e).1)
            clear hgrow4 hown2 hB2 hb2
            go_wp2
            go_roundw
            case rel => exact ⟨k + 1, by omega, by go_num, by rw [HJ3.out, flat_append, show ((P ++ [(⟨pi, po, pn⟩ : Rg)]) ++ [(⟨k, y, 1⟩ : Rg)]).length = P.length + 1 + 1 from by simp]; exact hown4, hB4⟩
            case measure => simp [intOf]; omega

    · have hke : k = 65536 := by omega
      subst hke
      go_wp2
      go_ret
      exact ⟨_, rfl, hown, hB⟩
end Go.Proofs.Ytoadlnojcbkdgaa
