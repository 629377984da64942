/-
  WHAT kid DOES: the walk. 
-/
import Derived.Test.YtkkhfnkmfkdhiabWaX
import Derived.Test.YtkkhfnkmfkdhiabNaX
namespace Go.Proofs.Ytkkhfnkmfkdhiab
open Go.RowKit

set_option maxRecDepth 100000 in
set_option maxHeartbeats 1000000 in
theorem kid_any {w : World} {x : Nd} {h : Hd} (hN : NdV w.cell? x h) (m : ByteArray) (W : World) (hW : Below w.heap.size w W) (hlen : ∀ k' m' u' g' o' a' d' ks', x = .mk k' m' u' g' o' a' d' ks' → ks'.length ≤ 1000) :
    Calls Try.prog 114 #[ndV x h, .string m] W fun e W' => e = .returned (.int .i64 (kidF m x)) ∧ Below W.heap.size W W' := by
  cases hN with
  | @mk k mo u g o at_ d ks h b off f ha hca hck hak hc hr =>
    have hlk : ks.length ≤ 1000 := hlen _ _ _ _ _ _ _ _ rfl
    have HC : Hid (∀ i n x, ks[i]? = some (n, x) → KdAt w.cell? b (off + i * 9) n x (f i)) := hc
    have HAK : Hid (ks = [] ∨ h.ak = some ⟨b, off, none⟩) := hak
    have HF : Hid (kidF m (.mk k mo u g o at_ d ks) = if k = 2 then kidI m ks 0 else -1) := rfl
    clear hc hr hak hlen
    show Calls Try.prog 114 #[.agg #[.int .i64 k, .int .i64 mo, .int .i64 u, .int .i64 g, .bool o, .slice h.aa at_.length h.ca, .string d, .slice h.ak ks.length h.ck], .string m] _ _
    obtain ⟨R, HR⟩ : ∃ R, Hid (kidF m (.mk k mo u g o at_ d ks) = R) := ⟨_, rfl⟩
    rw [HR.out]
    rw [HR.out] at HF
    have NB := NBox.new W k mo u g o at_ d ks h
    have hB1 : Below W.heap.size W (W.alloc (.cells #[.int .i64 k, .int .i64 mo, .int .i64 u, .int .i64 g, .bool o, .slice h.aa at_.length h.ca, .string d, .slice h.ak ks.length h.ck] 25)) := (Below.refl _ _).alloc (Nat.le_refl _) _
    by_cases hk : k = 2
    rotate_left
    · have dk : (k != 2) = true := bne_iff_ne.2 hk
      have HN : Hid (R = -1) := by show _ = _; rw [HF.out, if_neg hk]
      clear hk NB
      go_enter Try.func114, Try.ntmps114
      go_wp2
      go_ret
      exact ⟨ret_num HN.out.symm, hB1⟩
    subst hk
    have HN : Hid (R = kidI m (ks.drop 0) 0) := by show _ = _; rw [HF.out, if_pos rfl]; rfl
    clear HF HR
    go_enter Try.func114, Try.ntmps114
    have NB2 := NB
    obtain ⟨y0, y1, y2, y3, y4, y5, y6, y7⟩ := NB2
    go_wp2
    clear y0 y1 y2 y3 y4 y5 y6 y7
    generalize W.alloc (.cells #[.int .i64 2, .int .i64 mo, .int .i64 u, .int .i64 g, .bool o, .slice h.aa at_.length h.ca, .string d, .slice h.ak ks.length h.ck] 25) = W1 at NB hB1 ⊢
    go_loop [5] (fun i => ∃ j : Nat, j ≤ ks.length ∧ i = .int .i64 j ∧ Hid (R = kidI m (ks.drop j) j)) (fun i => ks.length - (intOf i).toNat)
    case atStart => exact ⟨0, Nat.zero_le _, rfl, HN.out⟩
    case round =>
      obtain ⟨j, hj, rfl, HJ⟩ := hrel
      have NB4 := NB
      obtain ⟨y0, y1, y2, y3, y4, y5, y6, y7⟩ := NB4
      by_cases hjl : j < ks.length
      · have hji : (j : Int) < (ks.length : Int) := by omega
        obtain ⟨⟨n, x⟩, hx⟩ : ∃ x, ks[j]? = some x := ⟨ks[j], by simp [hjl]⟩
        have hK := (HC.out j n x hx).below (hW.trans (hB1.mono hW.size))
        have HD : Hid (kidI m (ks.drop j) j = if n = m then (j : Int) else kidI m (ks.drop (j + 1)) (j + 1)) := kidI_drop hx
        rcases HAK.out with hnil | hak
        · rw [hnil] at hjl; simp at hjl
        rw [hak] at y7
        clear hak hx
        obtain ⟨k', m', u', g', o', at', d', ks'⟩ := x
        obtain ⟨z0, _⟩ := hK.nine
        by_cases hn : n = m
        · have bn : (n.toList == m.toList) = true := by rw [hn]; simp
          have HR3 : Hid (R = j) := by show _ = _; rw [HJ.out, HD.out, if_pos hn]
          clear hn
          go_wp2
          go_ret
          exact ⟨ret_num HR3.out.symm, hB1⟩
        · have bn : (n.toList == m.toList) = false := by simp; exact fun e => hn (toList_inj e)
          have HR3 : Hid (R = kidI m (ks.drop (j + 1)) (j + 1)) := by show _ = _; rw [HJ.out, HD.out, if_neg hn]
          clear hn
          go_wp2
          go_round
          case rel => exact ⟨j + 1, by omega, by go_num, HR3.out⟩
          case measure => simp [intOf]; omega
      · have hji : decide ((j : Int) < (ks.length : Int)) = false := decide_eq_false (by omega)
        have HR3 : Hid (R = -1) := by show _ = _; rw [HJ.out, List.drop_of_length_le (by omega), kidI]
        go_wp2
        go_ret
        exact ⟨ret_num HR3.out.symm, hB1⟩
end Go.Proofs.Ytkkhfnkmfkdhiab
