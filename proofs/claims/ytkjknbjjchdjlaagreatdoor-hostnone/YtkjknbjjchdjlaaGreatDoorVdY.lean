/-
  WHAT lay DOES: the walk.
-/
import Derived.Test.YtkjknbjjchdjlaaGreatDoorNnX
import Derived.Deep.RegionHeld3
import Derived.Deep.Cut
namespace Go.Proofs.YtkjknbjjchdjlaaGreatDoor
open Go.RowKit
set_option maxRecDepth 100000 in
set_option maxHeartbeats 2000000 in
theorem lay_any {w0 : World} {x : Nd} {h : Hd} (hN : NdV w0.cell? x h) : ∀ (W : World) (v : Value) (n : Nat) (xs : List Value), Sml x → Below w0.heap.size w0 W → W.ownsRow w0.heap.size 5 1 v n xs → n + (byN x).length ≤ 80000000 →
    Calls Tryz.prog 72 #[v, ndV x h] W fun e w' => ∃ v', e = .returned v' ∧ w'.ownsRow w0.heap.size 5 1 v' (n + (byN x).length) (xs ++ bc (byN x)) ∧ Gr W w' v v' := by
  obtain ⟨i0, hi0, hz0, hz1, hz2⟩ := info_three Tryz.infoB
  have HI0 : Hid _ := hi0
  have HZ0 : Hid _ := hz0
  have HZ1 : Hid _ := hz1
  have HZ2 : Hid _ := hz2
  clear hi0 hz0 hz1 hz2
  induction hN with
  | @mk k m u g o at_ d ks h b off f ha hca hck hak hc hr ih =>
    intro W v n xs hsm hW hrow hlen
    rw [Sml] at hsm
    obtain ⟨⟨hk0, hk1⟩, ⟨hm0, hm1⟩, ⟨hu0, hu1⟩, ⟨hg0, hg1⟩, ⟨hal, hat⟩, hds, hkl, hsk⟩ := hsm
    have HAT : Hid (∀ r ∈ at_, r.n.size ≤ 1000 ∧ r.v.size ≤ 1000) := hat
    have HSK : Hid (SmlL ks) := hsk
    have HA : Hid (Kvm w0.cell? h.aa at_) := ha
    have HC : Hid (∀ i n x, ks[i]? = some (n, x) → KdAt w0.cell? b (off + i * 9) n x (f i)) := hc
    have HIH : Hid _ := ih
    have HAK : Hid (ks = [] ∨ h.ak = some ⟨b, off, none⟩) := hak
    have HLS := LS.start hW hrow k m u g o at_ d ks h
    have HN0 : Hid (byN (.mk k m u g o at_ d ks) = b8 (if o = true then k + 8 else k) :: (num2 m ++ (num2 u ++ (num2 g ++ (b8 at_.length :: (atB at_ ++ (txt d ++ (b8 ks.length :: byL ks)))))))) := by show _ = _; rw [byN]
    have HLEN : Hid (n + (byN (.mk k m u g o at_ d ks)).length ≤ 80000000) := hlen
    obtain ⟨R, HR⟩ : ∃ R, Hid (byN (.mk k m u g o at_ d ks) = R) := ⟨_, rfl⟩
    rw [HR.out] at HN0 HLEN
    rw [HR.out]
    have hpl : ∀ (p q : List UInt8), R = p ++ q → n + p.length ≤ 80000000 := fun p q e => by have := HLEN.out; rw [e, List.length_append] at this; omega
    have HPL : Hid (∀ (p q : List UInt8), R = p ++ q → n + p.length ≤ 80000000) := hpl
    clear hat hsk ha hc ih hak hr hrow hlen hpl
    have H1 : Hid (LS w0 W (W.alloc (.cells #[.int .i64 k, .int .i64 m, .int .i64 u, .int .i64 g, .bool o, .slice h.aa at_.length h.ca, .string d, .slice h.ak ks.length h.ck] 102)) v v n xs W.heap.size (.mk k m u g o at_ d ks) h []) := HLS
    have hN1 : n + ([] : List UInt8).length ≤ 80000000 := HPL.out [] R rfl
    show Calls Tryz.prog 72 #[v, .agg #[.int .i64 k, .int .i64 m, .int .i64 u, .int .i64 g, .bool o, .slice h.aa at_.length h.ca, .string d, .slice h.ak ks.length h.ck]] _ _
    obtain ⟨y0, y1, y2, y3, y4, y5, y6, y7⟩ := HLS.box
    obtain ⟨aa, HAA⟩ : ∃ aa, Hid (h.aa = aa) := ⟨_, rfl⟩
    obtain ⟨ak, HKK⟩ : ∃ ak, Hid (h.ak = ak) := ⟨_, rfl⟩
    rw [HAA.out, HKK.out] at H1 y0 y1 y2 y3 y4 y5 y6 y7 ⊢
    rw [HAA.out] at HA
    rw [HKK.out] at HAK
    clear HLS
    obtain ⟨kd, HKD⟩ : ∃ kd, Hid ((if o = true then k + 8 else k) = kd) := ⟨_, rfl⟩
    rw [HKD.out] at HN0
    go_enter Tryz.func72, Tryz.ntmps72
    cases o
    · have HE0 : Hid (R = [] ++ (b8 (k) :: (n2L [m, u, g] ++ (b8 at_.length :: (atB at_ ++ (txt d ++ (b8 ks.length :: byL ks))))))) := by
        show _ = _
        rw [HN0.out, ← HKD.out]
        simp [n2L]
      have hq0 : ([] : List UInt8).length = 0 := rfl
      clear HN0 HKD
      go_upto_region 4 with fail
      clear y0 y4
      generalize hW1 : W.alloc (.cells #[.int .i64 k, .int .i64 m, .int .i64 u, .int .i64 g, .bool false, .slice aa at_.length h.ca, .string d, .slice ak ks.length h.ck] 102) = W1 at H1 y1 y2 y3 y5 y6 y7 ⊢
      clear hW1
      generalize hsb : W.heap.size = sb at H1 y1 y2 y3 y5 y6 y7 ⊢
      go_wp2_with (at_builtin; refine wpList_append_src (W1.alloc (.cells #[.int .u8 (k)] 5)) rfl (.tmp 18) (.tmp 21) 48 rfl w0.heap.size 5 i0 (.int .u8 0) 1 1 Tryz.underlying48 HI0.out HZ0.out HZ1.out HZ2.out rfl (by decide) v (n + ([] : List UInt8).length) (xs ++ bc ([] : List UInt8)) rfl (H1.out.row.alloc _) (some ⟨W1.heap.size, 0, none⟩) 1 1 (bc [b8 (k)]) rfl rfl (.inr ⟨_, rfl, one_byteR _ _ _ (by omega)⟩) (bc_one _) (by unfold maxLen; omega) (by omega) (Nat.le_trans H1.out.low.size (by rw [World.size_alloc]; omega)) ?_)
      intro v2 w2 hown hgr ho
      have H2 : Hid (LS w0 W w2 v v2 n xs sb (.mk k m u g false at_ d ks) h (([] : List UInt8) ++ [b8 (k)])) := H1.out.app (gr_app hgr ho) [b8 (k)] hown (by simp)
      clear hown hgr ho H1
      have HE2 : Hid (R = ([] ++ [b8 (k)]) ++ (n2L [m, u, g] ++ (b8 at_.length :: (atB at_ ++ (txt d ++ (b8 ks.length :: byL ks)))))) := by show _ = _; rw [HE0.out]; rfl
      generalize ([] ++ [b8 (k)] : List UInt8) = p2 at H2 HE2
      clear HE0 y1 y2 y3 y5 y6 y7
      obtain ⟨y0, y1, y2, y3, y4, y5, y6, y7⟩ := H2.out.box
      rw [HAA.out] at y5
      rw [HKK.out] at y7
      go_wp2
      clear y0 y1 y2 y3 y4 y5 y6 y7
      go_loopw [30, 0] (fun i vr wr => ∃ (j : Nat) (pre : List UInt8), j ≤ 3 ∧ i = .int .i64 j ∧ Hid (R = pre ++ (n2L ([m, u, g].drop j) ++ (b8 at_.length :: (atB at_ ++ (txt d ++ (b8 ks.length :: byL ks)))))) ∧ Hid (LS w0 W wr v vr n xs sb (.mk k m u g false at_ d ks) h pre)) (fun i _ _ => 3 - (intOf i).toNat)
      case atStart => exact ⟨0, p2, by omega, rfl, HE2.out, H2.out⟩
      case round =>
        obtain ⟨j, pre, hj, rfl, HE, HL⟩ := hrel
        clear H2 HE2
        have hb := HPL.out _ _ HE.out
        have hj4 : j = 0 ∨ j = 1 ∨ j = 2 ∨ j = 3 := by omega
        have hx0 := (idx3 (.int .i64 m) (.int .i64 u) (.int .i64 g) wr).1
        have hx1 := (idx3 (.int .i64 m) (.int .i64 u) (.int .i64 g) wr).2.1
        have hx2 := (idx3 (.int .i64 m) (.int .i64 u) (.int .i64 g) wr).2.2
        rcases hj4 with rfl | rfl | rfl | rfl
        · have hz2 : 0 ≤ m ∧ m ≤ 65535 := by omega
          go_wp2_with (at_builtin; refine wpList_append_src (wr.alloc (.cells #[.int .u8 (m / 256), .int .u8 (m % 256)] 5)) rfl (.tmp 33) (.tmp 39) 48 rfl w0.heap.size 5 i0 (.int .u8 0) 1 1 Tryz.underlying48 HI0.out HZ0.out HZ1.out HZ2.out rfl (by decide) u0 (n + pre.length) (xs ++ bc pre) rfl (HL.out.row.alloc _) (some ⟨wr.heap.size, 0, none⟩) 2 2 (bc (num2 m)) rfl rfl (.inr ⟨_, rfl, two_bytesR _ _ _ hz2⟩) (bc_one _) (by unfold maxLen; omega) (by omega) (Nat.le_trans HL.out.low.size (by rw [World.size_alloc]; omega)) ?_)
          intro v3 w3 hown hgr ho
          have HL3 : Hid (LS w0 W w3 v v3 n xs sb (.mk k m u g false at_ d ks) h (pre ++ num2 m)) := HL.out.app (gr_app hgr ho) (num2 m) hown (by simp [num2_length])
          have HE3 : Hid (R = (pre ++ num2 m) ++ (n2L ([m, u, g].drop (0 + 1)) ++ (b8 at_.length :: (atB at_ ++ (txt d ++ (b8 ks.length :: byL ks)))))) := by show _ = _; rw [HE.out]; simp [n2L]
          clear hown hgr ho hx0 hx1 hx2
          go_wp2
          go_roundw
          case rel => exact ⟨0 + 1, _, by omega, by go_num, HE3.out, HL3.out⟩
          case measure => simp [intOf]
        · have hz2 : 0 ≤ u ∧ u ≤ 65535 := by omega
          go_wp2_with (at_builtin; refine wpList_append_src (wr.alloc (.cells #[.int .u8 (u / 256), .int .u8 (u % 256)] 5)) rfl (.tmp 33) (.tmp 39) 48 rfl w0.heap.size 5 i0 (.int .u8 0) 1 1 Tryz.underlying48 HI0.out HZ0.out HZ1.out HZ2.out rfl (by decide) u0 (n + pre.length) (xs ++ bc pre) rfl (HL.out.row.alloc _) (some ⟨wr.heap.size, 0, none⟩) 2 2 (bc (num2 u)) rfl rfl (.inr ⟨_, rfl, two_bytesR _ _ _ hz2⟩) (bc_one _) (by unfold maxLen; omega) (by omega) (Nat.le_trans HL.out.low.size (by rw [World.size_alloc]; omega)) ?_)
          intro v3 w3 hown hgr ho
          have HL3 : Hid (LS w0 W w3 v v3 n xs sb (.mk k m u g false at_ d ks) h (pre ++ num2 u)) := HL.out.app (gr_app hgr ho) (num2 u) hown (by simp [num2_length])
          have HE3 : Hid (R = (pre ++ num2 u) ++ (n2L ([m, u, g].drop (1 + 1)) ++ (b8 at_.length :: (atB at_ ++ (txt d ++ (b8 ks.length :: byL ks)))))) := by show _ = _; rw [HE.out]; simp [n2L]
          clear hown hgr ho hx0 hx1 hx2
          go_wp2
          go_roundw
          case rel => exact ⟨1 + 1, _, by omega, by go_num, HE3.out, HL3.out⟩
          case measure => simp [intOf]
        · have hz2 : 0 ≤ g ∧ g ≤ 65535 := by omega
          go_wp2_with (at_builtin; refine wpList_append_src (wr.alloc (.cells #[.int .u8 (g / 256), .int .u8 (g % 256)] 5)) rfl (.tmp 33) (.tmp 39) 48 rfl w0.heap.size 5 i0 (.int .u8 0) 1 1 Tryz.underlying48 HI0.out HZ0.out HZ1.out HZ2.out rfl (by decide) u0 (n + pre.length) (xs ++ bc pre) rfl (HL.out.row.alloc _) (some ⟨wr.heap.size, 0, none⟩) 2 2 (bc (num2 g)) rfl rfl (.inr ⟨_, rfl, two_bytesR _ _ _ hz2⟩) (bc_one _) (by unfold maxLen; omega) (by omega) (Nat.le_trans HL.out.low.size (by rw [World.size_alloc]; omega)) ?_)
          intro v3 w3 hown hgr ho
          have HL3 : Hid (LS w0 W w3 v v3 n xs sb (.mk k m u g false at_ d ks) h (pre ++ num2 g)) := HL.out.app (gr_app hgr ho) (num2 g) hown (by simp [num2_length])
          have HE3 : Hid (R = (pre ++ num2 g) ++ (n2L ([m, u, g].drop (2 + 1)) ++ (b8 at_.length :: (atB at_ ++ (txt d ++ (b8 ks.length :: byL ks)))))) := by show _ = _; rw [HE.out]; simp [n2L]
          clear hown hgr ho hx0 hx1 hx2
          go_wp2
          go_roundw
          case rel => exact ⟨2 + 1, _, by omega, by go_num, HE3.out, HL3.out⟩
          case measure => simp [intOf]
        · clear hx0 hx1 hx2
          have HE3 : Hid (R = pre ++ (b8 at_.length :: (atB at_ ++ (txt d ++ (b8 ks.length :: byL ks))))) := HE.out
          clear HE
          obtain ⟨y0, y1, y2, y3, y4, y5, y6, y7⟩ := HL.out.box
          rw [HAA.out] at y5
          rw [HKK.out] at y7
          go_wp2_with (at_builtin; refine wpList_append_src (wr.alloc (.cells #[.int .u8 (IntKind.u8.wrap ((at_.length : Int)))] 5)) rfl (.tmp 42) (.tmp 47) 48 rfl w0.heap.size 5 i0 (.int .u8 0) 1 1 Tryz.underlying48 HI0.out HZ0.out HZ1.out HZ2.out rfl (by decide) u0 (n + pre.length) (xs ++ bc pre) rfl (HL.out.row.alloc _) (some ⟨wr.heap.size, 0, none⟩) 1 1 (bc [b8 ((at_.length : Int))]) rfl rfl (.inr ⟨_, rfl, one_byte _ _ _⟩) (bc_one _) (by unfold maxLen; omega) (by omega) (Nat.le_trans HL.out.low.size (by rw [World.size_alloc]; omega)) ?_)
          intro v4 w4 hown hgr ho
          have HLb : Hid (LS w0 W w4 v v4 n xs sb (.mk k m u g false at_ d ks) h (pre ++ [b8 ((at_.length : Int))])) := HL.out.app (gr_app hgr ho) [b8 ((at_.length : Int))] hown (by simp)
          clear hown hgr ho HL
          clear y0 y1 y2 y3 y4 y5 y6 y7
          have HE4 : Hid (R = (pre ++ [b8 (at_.length : Int)]) ++ (atB (at_.drop 0) ++ (txt d ++ (b8 ks.length :: byL ks)))) := by show _ = _; rw [HE3.out]; simp
          clear HE3
          generalize pre ++ [b8 (at_.length : Int)] = p4 at HLb HE4
          obtain ⟨y0, y1, y2, y3, y4, y5, y6, y7⟩ := HLb.out.box
          rw [HAA.out] at y5
          rw [HKK.out] at y7
          go_wp2
          clear y0 y1 y2 y3 y4 y5 y6 y7
          go_loopw [52, 0] (fun i vr wr => ∃ (j : Nat) (pre : List UInt8), j ≤ at_.length ∧ i = .int .i64 j ∧ Hid (R = pre ++ (atB (at_.drop j) ++ (txt d ++ (b8 ks.length :: byL ks)))) ∧ Hid (LS w0 W wr v vr n xs sb (.mk k m u g false at_ d ks) h pre)) (fun i _ _ => at_.length - (intOf i).toNat)
          case atStart => exact ⟨0, p4, Nat.zero_le _, rfl, HE4.out, HLb.out⟩
          case round =>
            obtain ⟨j, pre, hj, rfl, HE, HL⟩ := hrel
            clear HLb HE4
            have hb := HPL.out _ _ HE.out
            by_cases hjl : j < at_.length
            · have hji : (j : Int) < (at_.length : Int) := by omega
              obtain ⟨r, hr⟩ : ∃ r, at_[j]? = some r := ⟨at_[j], by simp [hjl]⟩
              have hrs := HAT.out r (List.mem_of_getElem? hr)
              have HE2 : Hid (R = pre ++ (txt r.n ++ (txt r.v ++ (atB (at_.drop (j + 1)) ++ (txt d ++ (b8 ks.length :: byL ks)))))) := by show _ = _; rw [HE.out, atB_drop hr]; simp
              clear HE
              rcases HA.out with hnil | ⟨ab, ao, rfl, hcA⟩
              · rw [hnil] at hjl; simp at hjl
              have q0 := (HL.out.low.cell (World.block_lt_of_cell? _ _ (hcA j r hr).1)).trans (hcA j r hr).1
              have q1 := (HL.out.low.cell (World.block_lt_of_cell? _ _ (hcA j r hr).2)).trans (hcA j r hr).2
              clear hcA hr
              go_upto_region 14 with fail
              have L5 : Hid (LS w0 W (wr.alloc (.cells #[.string r.n, .string r.v] 163)).drew v u0 n xs sb (.mk k m u g false at_ d ks) h pre) := (HL.out.alloc _).drew
              have T5 : (wr.alloc (.cells #[.string r.n, .string r.v] 163)).drew.cell? ⟨wr.heap.size, 0, none⟩ = some (.string r.n) ∧ (wr.alloc (.cells #[.string r.n, .string r.v] 163)).drew.cell? ⟨wr.heap.size, 1, none⟩ = some (.string r.v) :=
                ⟨World.cell?_alloc_at _ _ _ _ rfl, World.cell?_alloc_at _ _ _ _ rfl⟩
              have hbb : some wr.heap.size ≠ u0.ownBlock := fun e => by have := (HL.out.row.lt _ e.symm).2; omega
              have hlt5 : wr.heap.size < (wr.alloc (.cells #[.string r.n, .string r.v] 163)).drew.heap.size := by show _ < (wr.alloc _).heap.size; rw [World.size_alloc]; omega
              clear q0 q1 HL
              generalize wr.alloc (.cells #[.string r.n, .string r.v] 163) = w5 at L5 T5 hlt5 ⊢
              generalize wr.heap.size = bb at T5 hbb hlt5 ⊢
              have hb1 := HPL.out (pre ++ txt r.n) _ (by rw [HE2.out, List.append_assoc])
              have hb2 := HPL.out (pre ++ (txt r.n ++ txt r.v)) (atB (at_.drop (j + 1)) ++ (txt d ++ (b8 ks.length :: byL ks))) (by rw [HE2.out]; simp only [List.append_assoc])
              simp only [List.length_append, txt_length] at hb1 hb2
              have HC1 : Hid (Calls Tryz.prog 93 #[u0, .string r.n] w5.drew fun e w' => ∃ v', e = .returned v' ∧ w'.ownsRow w0.heap.size 5 1 v' (n + pre.length + (1 + r.n.size)) (xs ++ bc pre ++ bc (txt r.n)) ∧ Gr w5.drew w' u0 v') := layText_any r.n w5.drew u0 _ _ L5.out.row L5.out.low.size (by omega)
              go_region_held3 (fun w' => w'.cell? ⟨bb, 0, none⟩ = some (.string r.n) ∧ w'.cell? ⟨bb, 1, none⟩ = some (.string r.v)) (first | exact T5 | exact T6 | exact T7) (first | (go_at_call 93; (with_reducible refine Calls.mono HC1.out ?_); rintro e w6 ⟨v6, rfl, hrow6, g6⟩; have T6 : w6.cell? ⟨bb, 0, none⟩ = some (.string r.n) ∧ w6.cell? ⟨bb, 1, none⟩ = some (.string r.v) := ⟨(World.cell?_of_block (w := w5.drew) (g6.g.block bb hlt5 hbb)).trans T5.1, (World.cell?_of_block (w := w5.drew) (g6.g.block bb hlt5 hbb)).trans T5.2⟩; have hbb6 := gr_ne g6 hlt5 hbb; have hlt6 := Nat.lt_of_lt_of_le hlt5 g6.size; have L6 : Hid (LS w0 W w6 v v6 n xs sb (.mk k m u g false at_ d ks) h (pre ++ txt r.n)) := L5.out.app g6 (txt r.n) (by rw [← List.append_assoc]; exact hrow6) (by rw [txt_length]); have HC2 : Hid (Calls Tryz.prog 93 #[v6, .string r.v] w6 fun e w' => ∃ v', e = .returned v' ∧ w'.ownsRow w0.heap.size 5 1 v' (n + (pre ++ txt r.n).length + (1 + r.v.size)) (xs ++ bc (pre ++ txt r.n) ++ bc (txt r.v)) ∧ Gr w6 w' v6 v') := layText_any r.v w6 v6 _ _ L6.out.row L6.out.low.size (by rw [List.length_append, txt_length]; omega); clear HC1 hrow6 g6) | (go_at_call 93; (with_reducible refine Calls.mono HC2.out ?_); rintro e w7 ⟨v7, rfl, hrow7, g7⟩; have T7 : w7.cell? ⟨bb, 0, none⟩ = some (.string r.n) ∧ w7.cell? ⟨bb, 1, none⟩ = some (.string r.v) := ⟨(World.cell?_of_block (w := w6) (g7.g.block bb hlt6 hbb6)).trans T6.1, (World.cell?_of_block (w := w6) (g7.g.block bb hlt6 hbb6)).trans T6.2⟩; have L7 : Hid (LS w0 W w7 v v7 n xs sb (.mk k m u g false at_ d ks) h ((pre ++ txt r.n) ++ txt r.v)) := L6.out.app g7 (txt r.v) (by rw [← List.append_assoc]; exact hrow7) (by rw [txt_length]); clear HC2 hrow7 g7))
              all_goals
                have HE7 : Hid (R = ((pre ++ txt r.n) ++ txt r.v) ++ (atB (at_.drop (j + 1)) ++ (txt d ++ (b8 ks.length :: byL ks)))) := by show _ = _; rw [HE2.out]; simp only [List.append_assoc]
                clear T5 T6 T7 L5 L6 HE2 hbb hbb6 hlt5 hlt6 hb1 hb2
                go_wp2
                go_roundw
                case rel => exact ⟨j + 1, _, by omega, by go_num, HE7.out, L7.out⟩
                case measure => simp [intOf]; omega
            · have hji : decide ((j : Int) < (at_.length : Int)) = false := decide_eq_false (by omega)
              have HE2 : Hid (R = pre ++ (txt d ++ (b8 ks.length :: byL ks))) := by show _ = _; rw [HE.out, List.drop_of_length_le (by omega)]; simp [atB]
              clear HE
              have hb1 := HPL.out (pre ++ txt d) _ (by rw [HE2.out, List.append_assoc])
              simp only [List.length_append, txt_length] at hb1
              obtain ⟨y0, y1, y2, y3, y4, y5, y6, y7⟩ := HL.out.box
              rw [HAA.out] at y5
              rw [HKK.out] at y7
              go_wp2_with fail
              refine (layText_any d wr u0 _ _ HL.out.row HL.out.low.size (by omega)).mono ?_
              rintro e w5 ⟨v5, rfl, hrow5, g5⟩
              have HL5 : Hid (LS w0 W w5 v v5 n xs sb (.mk k m u g false at_ d ks) h (pre ++ txt d)) := HL.out.app g5 (txt d) (by rw [← List.append_assoc]; exact hrow5) (by rw [txt_length])
              have HE5 : Hid (R = (pre ++ txt d) ++ (b8 ks.length :: byL ks)) := by show _ = _; rw [HE2.out, List.append_assoc]
              clear HL HE2 hrow5 g5 y0 y1 y2 y3 y4 y5 y6 y7 hb1 hb
              generalize pre ++ txt d = p5 at HL5 HE5
              have hb5 := HPL.out _ _ HE5.out
              obtain ⟨y0, y1, y2, y3, y4, y5, y6, y7⟩ := HL5.out.box
              rw [HAA.out] at y5
              rw [HKK.out] at y7
              go_wp2_with (at_builtin; refine wpList_append_src (w5.alloc (.cells #[.int .u8 (IntKind.u8.wrap ((ks.length : Int)))] 5)) rfl (.tmp 68) (.tmp 73) 48 rfl w0.heap.size 5 i0 (.int .u8 0) 1 1 Tryz.underlying48 HI0.out HZ0.out HZ1.out HZ2.out rfl (by decide) v5 (n + p5.length) (xs ++ bc p5) rfl (HL5.out.row.alloc _) (some ⟨w5.heap.size, 0, none⟩) 1 1 (bc [b8 ((ks.length : Int))]) rfl rfl (.inr ⟨_, rfl, one_byte _ _ _⟩) (bc_one _) (by unfold maxLen; omega) (by omega) (Nat.le_trans HL5.out.low.size (by rw [World.size_alloc]; omega)) ?_)
              intro v6 w6 hown hgr ho
              have HL5b : Hid (LS w0 W w6 v v6 n xs sb (.mk k m u g false at_ d ks) h (p5 ++ [b8 ((ks.length : Int))])) := HL5.out.app (gr_app hgr ho) [b8 ((ks.length : Int))] hown (by simp)
              clear hown hgr ho HL5
              clear y0 y1 y2 y3 y4 y5 y6 y7
              have HE6 : Hid (R = (p5 ++ [b8 (ks.length : Int)]) ++ byL (ks.drop 0)) := by show _ = _; rw [HE5.out]; simp
              clear HE5
              generalize p5 ++ [b8 (ks.length : Int)] = p6 at HL5b HE6
              obtain ⟨y0, y1, y2, y3, y4, y5, y6, y7⟩ := HL5b.out.box
              rw [HAA.out] at y5
              rw [HKK.out] at y7
              go_wp2
              clear y0 y1 y2 y3 y4 y5 y6 y7
              go_loopw [78, 0] (fun i vr wr => ∃ (j : Nat) (pre : List UInt8), j ≤ ks.length ∧ i = .int .i64 j ∧ Hid (R = pre ++ byL (ks.drop j)) ∧ Hid (LS w0 W wr v vr n xs sb (.mk k m u g false at_ d ks) h pre)) (fun i _ _ => ks.length - (intOf i).toNat)
              case atStart => exact ⟨0, p6, Nat.zero_le _, rfl, HE6.out, HL5b.out⟩
              case round =>
                obtain ⟨j3, pre3, hj3, rfl, HE, HL⟩ := hrel
                clear HL5b HE6
                have hb3 := HPL.out _ _ HE.out
                by_cases hjl3 : j3 < ks.length
                · have hji3 : (j3 : Int) < (ks.length : Int) := by omega
                  obtain ⟨⟨nm, x⟩, hx⟩ : ∃ x, ks[j3]? = some x := ⟨ks[j3], by simp [hjl3]⟩
                  obtain ⟨hns, hxs⟩ := smlL_get HSK.out hx
                  have HE2 : Hid (R = pre3 ++ (txt nm ++ (byN x ++ byL (ks.drop (j3 + 1))))) := by show _ = _; rw [HE.out, byL_drop hx]
                  rcases HAK.out with hnil | rfl
                  · rw [hnil] at hjl3; simp at hjl3
                  have hK := (HC.out j3 nm x hx).on (mle_below HL.out.low)
                  have HI3 : Hid (∀ (W : World) (v : Value) (n : Nat) (xs : List Value), Below w0.heap.size w0 W → W.ownsRow w0.heap.size 5 1 v n xs → n + (byN x).length ≤ 80000000 → Calls Tryz.prog 72 #[v, ndV x (f j3)] W fun e w' => ∃ v', e = .returned v' ∧ w'.ownsRow w0.heap.size 5 1 v' (n + (byN x).length) (xs ++ bc (byN x)) ∧ Gr W w' v v') := fun W v n xs h1 h2 h3 => HIH.out j3 nm x hx W v n xs hxs h1 h2 h3
                  clear hx hxs HE
                  obtain ⟨BX, HBX⟩ : ∃ BX, Hid (byN x = BX) := ⟨_, rfl⟩
                  rw [HBX.out] at HE2 HI3
                  generalize f j3 = hd3 at hK HI3
                  obtain ⟨k', m', u', g', o', at', d', ks'⟩ := x
                  obtain ⟨p0, p1, p2, p3, p4, p5, p6, p7, p8⟩ := hK.nine
                  clear hK HBX
                  go_upto_region 21 with fail
                  have L5 : Hid (LS w0 W (wr.alloc (.cells #[.string nm, .int .i64 k', .int .i64 m', .int .i64 u', .int .i64 g', .bool o', .slice hd3.aa at'.length hd3.ca, .string d', .slice hd3.ak ks'.length hd3.ck] 138)).drew v u0 n xs sb (.mk k m u g false at_ d ks) h pre3) := (HL.out.alloc _).drew
                  have T5 : (wr.alloc (.cells #[.string nm, .int .i64 k', .int .i64 m', .int .i64 u', .int .i64 g', .bool o', .slice hd3.aa at'.length hd3.ca, .string d', .slice hd3.ak ks'.length hd3.ck] 138)).drew.cell? ⟨wr.heap.size, 0, none⟩ = some (.string nm) ∧ (wr.alloc (.cells #[.string nm, .int .i64 k', .int .i64 m', .int .i64 u', .int .i64 g', .bool o', .slice hd3.aa at'.length hd3.ca, .string d', .slice hd3.ak ks'.length hd3.ck] 138)).drew.cell? ⟨wr.heap.size, 1, none⟩ = some (.int .i64 k') ∧ (wr.alloc (.cells #[.string nm, .int .i64 k', .int .i64 m', .int .i64 u', .int .i64 g', .bool o', .slice hd3.aa at'.length hd3.ca, .string d', .slice hd3.ak ks'.length hd3.ck] 138)).drew.cell? ⟨wr.heap.size, 2, none⟩ = some (.int .i64 m') ∧ (wr.alloc (.cells #[.string nm, .int .i64 k', .int .i64 m', .int .i64 u', .int .i64 g', .bool o', .slice hd3.aa at'.length hd3.ca, .string d', .slice hd3.ak ks'.length hd3.ck] 138)).drew.cell? ⟨wr.heap.size, 3, none⟩ = some (.int .i64 u') ∧ (wr.alloc (.cells #[.string nm, .int .i64 k', .int .i64 m', .int .i64 u', .int .i64 g', .bool o', .slice hd3.aa at'.length hd3.ca, .string d', .slice hd3.ak ks'.length hd3.ck] 138)).drew.cell? ⟨wr.heap.size, 4, none⟩ = some (.int .i64 g') ∧ (wr.alloc (.cells #[.string nm, .int .i64 k', .int .i64 m', .int .i64 u', .int .i64 g', .bool o', .slice hd3.aa at'.length hd3.ca, .string d', .slice hd3.ak ks'.length hd3.ck] 138)).drew.cell? ⟨wr.heap.size, 5, none⟩ = some (.bool o') ∧ (wr.alloc (.cells #[.string nm, .int .i64 k', .int .i64 m', .int .i64 u', .int .i64 g', .bool o', .slice hd3.aa at'.length hd3.ca, .string d', .slice hd3.ak ks'.length hd3.ck] 138)).drew.cell? ⟨wr.heap.size, 6, none⟩ = some (.slice hd3.aa at'.length hd3.ca) ∧ (wr.alloc (.cells #[.string nm, .int .i64 k', .int .i64 m', .int .i64 u', .int .i64 g', .bool o', .slice hd3.aa at'.length hd3.ca, .string d', .slice hd3.ak ks'.length hd3.ck] 138)).drew.cell? ⟨wr.heap.size, 7, none⟩ = some (.string d') ∧ (wr.alloc (.cells #[.string nm, .int .i64 k', .int .i64 m', .int .i64 u', .int .i64 g', .bool o', .slice hd3.aa at'.length hd3.ca, .string d', .slice hd3.ak ks'.length hd3.ck] 138)).drew.cell? ⟨wr.heap.size, 8, none⟩ = some (.slice hd3.ak ks'.length hd3.ck) :=
                    ⟨World.cell?_alloc_at _ _ _ _ rfl, World.cell?_alloc_at _ _ _ _ rfl, World.cell?_alloc_at _ _ _ _ rfl, World.cell?_alloc_at _ _ _ _ rfl, World.cell?_alloc_at _ _ _ _ rfl, World.cell?_alloc_at _ _ _ _ rfl, World.cell?_alloc_at _ _ _ _ rfl, World.cell?_alloc_at _ _ _ _ rfl, World.cell?_alloc_at _ _ _ _ rfl⟩
                  have hbb : some wr.heap.size ≠ u0.ownBlock := fun e => by have := (HL.out.row.lt _ e.symm).2; omega
                  have hlt5 : wr.heap.size < (wr.alloc (.cells #[.string nm, .int .i64 k', .int .i64 m', .int .i64 u', .int .i64 g', .bool o', .slice hd3.aa at'.length hd3.ca, .string d', .slice hd3.ak ks'.length hd3.ck] 138)).drew.heap.size := by show _ < (wr.alloc _).heap.size; rw [World.size_alloc]; omega
                  clear p0 p1 p2 p3 p4 p5 p6 p7 p8 HL
                  generalize wr.alloc (.cells #[.string nm, .int .i64 k', .int .i64 m', .int .i64 u', .int .i64 g', .bool o', .slice hd3.aa at'.length hd3.ca, .string d', .slice hd3.ak ks'.length hd3.ck] 138) = w5 at L5 T5 hlt5 ⊢
                  generalize wr.heap.size = bb at T5 hbb hlt5 ⊢
                  have hb4 := HPL.out (pre3 ++ txt nm) _ (by rw [HE2.out, List.append_assoc])
                  have hb5 := HPL.out (pre3 ++ (txt nm ++ BX)) (byL (ks.drop (j3 + 1))) (by rw [HE2.out]; simp only [List.append_assoc])
                  simp only [List.length_append, txt_length] at hb4 hb5
                  have HC1 : Hid (Calls Tryz.prog 93 #[u0, .string nm] w5.drew fun e w' => ∃ v', e = .returned v' ∧ w'.ownsRow w0.heap.size 5 1 v' (n + pre3.length + (1 + nm.size)) (xs ++ bc pre3 ++ bc (txt nm)) ∧ Gr w5.drew w' u0 v') := layText_any nm w5.drew u0 _ _ L5.out.row L5.out.low.size (by omega)
                  go_region_held3 (fun w' => w'.cell? ⟨bb, 0, none⟩ = some (.string nm) ∧ w'.cell? ⟨bb, 1, none⟩ = some (.int .i64 k') ∧ w'.cell? ⟨bb, 2, none⟩ = some (.int .i64 m') ∧ w'.cell? ⟨bb, 3, none⟩ = some (.int .i64 u') ∧ w'.cell? ⟨bb, 4, none⟩ = some (.int .i64 g') ∧ w'.cell? ⟨bb, 5, none⟩ = some (.bool o') ∧ w'.cell? ⟨bb, 6, none⟩ = some (.slice hd3.aa at'.length hd3.ca) ∧ w'.cell? ⟨bb, 7, none⟩ = some (.string d') ∧ w'.cell? ⟨bb, 8, none⟩ = some (.slice hd3.ak ks'.length hd3.ck)) (first | exact T5 | exact T6 | exact T7) (first | (go_at_call 93; (with_reducible refine Calls.mono HC1.out ?_); rintro e w6 ⟨v6, rfl, hrow6, g6⟩; have T6 : w6.cell? ⟨bb, 0, none⟩ = some (.string nm) ∧ w6.cell? ⟨bb, 1, none⟩ = some (.int .i64 k') ∧ w6.cell? ⟨bb, 2, none⟩ = some (.int .i64 m') ∧ w6.cell? ⟨bb, 3, none⟩ = some (.int .i64 u') ∧ w6.cell? ⟨bb, 4, none⟩ = some (.int .i64 g') ∧ w6.cell? ⟨bb, 5, none⟩ = some (.bool o') ∧ w6.cell? ⟨bb, 6, none⟩ = some (.slice hd3.aa at'.length hd3.ca) ∧ w6.cell? ⟨bb, 7, none⟩ = some (.string d') ∧ w6.cell? ⟨bb, 8, none⟩ = some (.slice hd3.ak ks'.length hd3.ck) := ⟨(World.cell?_of_block (w := w5.drew) (g6.g.block bb hlt5 hbb)).trans T5.1, (World.cell?_of_block (w := w5.drew) (g6.g.block bb hlt5 hbb)).trans T5.2.1, (World.cell?_of_block (w := w5.drew) (g6.g.block bb hlt5 hbb)).trans T5.2.2.1, (World.cell?_of_block (w := w5.drew) (g6.g.block bb hlt5 hbb)).trans T5.2.2.2.1, (World.cell?_of_block (w := w5.drew) (g6.g.block bb hlt5 hbb)).trans T5.2.2.2.2.1, (World.cell?_of_block (w := w5.drew) (g6.g.block bb hlt5 hbb)).trans T5.2.2.2.2.2.1, (World.cell?_of_block (w := w5.drew) (g6.g.block bb hlt5 hbb)).trans T5.2.2.2.2.2.2.1, (World.cell?_of_block (w := w5.drew) (g6.g.block bb hlt5 hbb)).trans T5.2.2.2.2.2.2.2.1, (World.cell?_of_block (w := w5.drew) (g6.g.block bb hlt5 hbb)).trans T5.2.2.2.2.2.2.2.2⟩; have hbb6 := gr_ne g6 hlt5 hbb; have hlt6 := Nat.lt_of_lt_of_le hlt5 g6.size; have L6 : Hid (LS w0 W w6 v v6 n xs sb (.mk k m u g false at_ d ks) h (pre3 ++ txt nm)) := L5.out.app g6 (txt nm) (by rw [← List.append_assoc]; exact hrow6) (by rw [txt_length]); have HC2 : Hid (Calls Tryz.prog 72 #[v6, .agg #[.int .i64 k', .int .i64 m', .int .i64 u', .int .i64 g', .bool o', .slice hd3.aa at'.length hd3.ca, .string d', .slice hd3.ak ks'.length hd3.ck]] w6 fun e w' => ∃ v', e = .returned v' ∧ w'.ownsRow w0.heap.size 5 1 v' (n + (pre3 ++ txt nm).length + BX.length) (xs ++ bc (pre3 ++ txt nm) ++ bc BX) ∧ Gr w6 w' v6 v') := HI3.out w6 v6 _ _ L6.out.low L6.out.row (by rw [List.length_append, txt_length]; omega); clear HC1 hrow6 g6) | (go_at_call 72; (with_reducible refine Calls.mono HC2.out ?_); rintro e w7 ⟨v7, rfl, hrow7, g7⟩; have T7 : w7.cell? ⟨bb, 0, none⟩ = some (.string nm) ∧ w7.cell? ⟨bb, 1, none⟩ = some (.int .i64 k') ∧ w7.cell? ⟨bb, 2, none⟩ = some (.int .i64 m') ∧ w7.cell? ⟨bb, 3, none⟩ = some (.int .i64 u') ∧ w7.cell? ⟨bb, 4, none⟩ = some (.int .i64 g') ∧ w7.cell? ⟨bb, 5, none⟩ = some (.bool o') ∧ w7.cell? ⟨bb, 6, none⟩ = some (.slice hd3.aa at'.length hd3.ca) ∧ w7.cell? ⟨bb, 7, none⟩ = some (.string d') ∧ w7.cell? ⟨bb, 8, none⟩ = some (.slice hd3.ak ks'.length hd3.ck) := ⟨(World.cell?_of_block (w := w6) (g7.g.block bb hlt6 hbb6)).trans T6.1, (World.cell?_of_block (w := w6) (g7.g.block bb hlt6 hbb6)).trans T6.2.1, (World.cell?_of_block (w := w6) (g7.g.block bb hlt6 hbb6)).trans T6.2.2.1, (World.cell?_of_block (w := w6) (g7.g.block bb hlt6 hbb6)).trans T6.2.2.2.1, (World.cell?_of_block (w := w6) (g7.g.block bb hlt6 hbb6)).trans T6.2.2.2.2.1, (World.cell?_of_block (w := w6) (g7.g.block bb hlt6 hbb6)).trans T6.2.2.2.2.2.1, (World.cell?_of_block (w := w6) (g7.g.block bb hlt6 hbb6)).trans T6.2.2.2.2.2.2.1, (World.cell?_of_block (w := w6) (g7.g.block bb hlt6 hbb6)).trans T6.2.2.2.2.2.2.2.1, (World.cell?_of_block (w := w6) (g7.g.block bb hlt6 hbb6)).trans T6.2.2.2.2.2.2.2.2⟩; have L7 : Hid (LS w0 W w7 v v7 n xs sb (.mk k m u g false at_ d ks) h ((pre3 ++ txt nm) ++ BX)) := L6.out.app g7 BX (by rw [← List.append_assoc]; exact hrow7) rfl; clear HC2 hrow7 g7))
                  all_goals
                    have HE7 : Hid (R = ((pre3 ++ txt nm) ++ BX) ++ byL (ks.drop (j3 + 1))) := by show _ = _; rw [HE2.out]; simp only [List.append_assoc]
                    clear T5 T6 T7 L5 L6 HE2 hbb hbb6 hlt5 hlt6 hb4 hb5
                    go_wp2
                    go_roundw
                    case rel => exact ⟨j3 + 1, _, by omega, by go_num, HE7.out, L7.out⟩
                    case measure => simp [intOf]; omega
                · have hji3 : decide ((j3 : Int) < (ks.length : Int)) = false := decide_eq_false (by omega)
                  have HE2 : Hid (R = pre3) := by show _ = _; rw [HE.out, List.drop_of_length_le (by omega)]; simp [byL]
                  clear HE
                  go_wp2
                  go_ret
                  refine ⟨_, rfl, ?_, HL.out.gr⟩
                  rw [HE2.out]
                  exact HL.out.row
    · have HE0 : Hid (R = [] ++ (b8 (k + 8) :: (n2L [m, u, g] ++ (b8 at_.length :: (atB at_ ++ (txt d ++ (b8 ks.length :: byL ks))))))) := by
        show _ = _
        rw [HN0.out, ← HKD.out]
        simp [n2L]
      have hq0 : ([] : List UInt8).length = 0 := rfl
      clear HN0 HKD
      go_upto_region 4 with fail
      clear y0 y4
      generalize hW1 : W.alloc (.cells #[.int .i64 k, .int .i64 m, .int .i64 u, .int .i64 g, .bool true, .slice aa at_.length h.ca, .string d, .slice ak ks.length h.ck] 102) = W1 at H1 y1 y2 y3 y5 y6 y7 ⊢
      clear hW1
      generalize hsb : W.heap.size = sb at H1 y1 y2 y3 y5 y6 y7 ⊢
      go_wp2_with (at_builtin; refine wpList_append_src (W1.alloc (.cells #[.int .u8 (k + 8)] 5)) rfl (.tmp 18) (.tmp 21) 48 rfl w0.heap.size 5 i0 (.int .u8 0) 1 1 Tryz.underlying48 HI0.out HZ0.out HZ1.out HZ2.out rfl (by decide) v (n + ([] : List UInt8).length) (xs ++ bc ([] : List UInt8)) rfl (H1.out.row.alloc _) (some ⟨W1.heap.size, 0, none⟩) 1 1 (bc [b8 (k + 8)]) rfl rfl (.inr ⟨_, rfl, one_byteR _ _ _ (by omega)⟩) (bc_one _) (by unfold maxLen; omega) (by omega) (Nat.le_trans H1.out.low.size (by rw [World.size_alloc]; omega)) ?_)
      intro v2 w2 hown hgr ho
      have H2 : Hid (LS w0 W w2 v v2 n xs sb (.mk k m u g true at_ d ks) h (([] : List UInt8) ++ [b8 (k + 8)])) := H1.out.app (gr_app hgr ho) [b8 (k + 8)] hown (by simp)
      clear hown hgr ho H1
      have HE2 : Hid (R = ([] ++ [b8 (k + 8)]) ++ (n2L [m, u, g] ++ (b8 at_.length :: (atB at_ ++ (txt d ++ (b8 ks.length :: byL ks)))))) := by show _ = _; rw [HE0.out]; rfl
      generalize ([] ++ [b8 (k + 8)] : List UInt8) = p2 at H2 HE2
      clear HE0 y1 y2 y3 y5 y6 y7
      obtain ⟨y0, y1, y2, y3, y4, y5, y6, y7⟩ := H2.out.box
      rw [HAA.out] at y5
      rw [HKK.out] at y7
      go_wp2
      clear y0 y1 y2 y3 y4 y5 y6 y7
      go_loopw [30, 0] (fun i vr wr => ∃ (j : Nat) (pre : List UInt8), j ≤ 3 ∧ i = .int .i64 j ∧ Hid (R = pre ++ (n2L ([m, u, g].drop j) ++ (b8 at_.length :: (atB at_ ++ (txt d ++ (b8 ks.length :: byL ks)))))) ∧ Hid (LS w0 W wr v vr n xs sb (.mk k m u g true at_ d ks) h pre)) (fun i _ _ => 3 - (intOf i).toNat)
      case atStart => exact ⟨0, p2, by omega, rfl, HE2.out, H2.out⟩
      case round =>
        obtain ⟨j, pre, hj, rfl, HE, HL⟩ := hrel
        clear H2 HE2
        have hb := HPL.out _ _ HE.out
        have hj4 : j = 0 ∨ j = 1 ∨ j = 2 ∨ j = 3 := by omega
        have hx0 := (idx3 (.int .i64 m) (.int .i64 u) (.int .i64 g) wr).1
        have hx1 := (idx3 (.int .i64 m) (.int .i64 u) (.int .i64 g) wr).2.1
        have hx2 := (idx3 (.int .i64 m) (.int .i64 u) (.int .i64 g) wr).2.2
        rcases hj4 with rfl | rfl | rfl | rfl
        · have hz2 : 0 ≤ m ∧ m ≤ 65535 := by omega
          go_wp2_with (at_builtin; refine wpList_append_src (wr.alloc (.cells #[.int .u8 (m / 256), .int .u8 (m % 256)] 5)) rfl (.tmp 33) (.tmp 39) 48 rfl w0.heap.size 5 i0 (.int .u8 0) 1 1 Tryz.underlying48 HI0.out HZ0.out HZ1.out HZ2.out rfl (by decide) u0 (n + pre.length) (xs ++ bc pre) rfl (HL.out.row.alloc _) (some ⟨wr.heap.size, 0, none⟩) 2 2 (bc (num2 m)) rfl rfl (.inr ⟨_, rfl, two_bytesR _ _ _ hz2⟩) (bc_one _) (by unfold maxLen; omega) (by omega) (Nat.le_trans HL.out.low.size (by rw [World.size_alloc]; omega)) ?_)
          intro v3 w3 hown hgr ho
          have HL3 : Hid (LS w0 W w3 v v3 n xs sb (.mk k m u g true at_ d ks) h (pre ++ num2 m)) := HL.out.app (gr_app hgr ho) (num2 m) hown (by simp [num2_length])
          have HE3 : Hid (R = (pre ++ num2 m) ++ (n2L ([m, u, g].drop (0 + 1)) ++ (b8 at_.length :: (atB at_ ++ (txt d ++ (b8 ks.length :: byL ks)))))) := by show _ = _; rw [HE.out]; simp [n2L]
          clear hown hgr ho hx0 hx1 hx2
          go_wp2
          go_roundw
          case rel => exact ⟨0 + 1, _, by omega, by go_num, HE3.out, HL3.out⟩
          case measure => simp [intOf]
        · have hz2 : 0 ≤ u ∧ u ≤ 65535 := by omega
          go_wp2_with (at_builtin; refine wpList_append_src (wr.alloc (.cells #[.int .u8 (u / 256), .int .u8 (u % 256)] 5)) rfl (.tmp 33) (.tmp 39) 48 rfl w0.heap.size 5 i0 (.int .u8 0) 1 1 Tryz.underlying48 HI0.out HZ0.out HZ1.out HZ2.out rfl (by decide) u0 (n + pre.length) (xs ++ bc pre) rfl (HL.out.row.alloc _) (some ⟨wr.heap.size, 0, none⟩) 2 2 (bc (num2 u)) rfl rfl (.inr ⟨_, rfl, two_bytesR _ _ _ hz2⟩) (bc_one _) (by unfold maxLen; omega) (by omega) (Nat.le_trans HL.out.low.size (by rw [World.size_alloc]; omega)) ?_)
          intro v3 w3 hown hgr ho
          have HL3 : Hid (LS w0 W w3 v v3 n xs sb (.mk k m u g true at_ d ks) h (pre ++ num2 u)) := HL.out.app (gr_app hgr ho) (num2 u) hown (by simp [num2_length])
          have HE3 : Hid (R = (pre ++ num2 u) ++ (n2L ([m, u, g].drop (1 + 1)) ++ (b8 at_.length :: (atB at_ ++ (txt d ++ (b8 ks.length :: byL ks)))))) := by show _ = _; rw [HE.out]; simp [n2L]
          clear hown hgr ho hx0 hx1 hx2
          go_wp2
          go_roundw
          case rel => exact ⟨1 + 1, _, by omega, by go_num, HE3.out, HL3.out⟩
          case measure => simp [intOf]
        · have hz2 : 0 ≤ g ∧ g ≤ 65535 := by omega
          go_wp2_with (at_builtin; refine wpList_append_src (wr.alloc (.cells #[.int .u8 (g / 256), .int .u8 (g % 256)] 5)) rfl (.tmp 33) (.tmp 39) 48 rfl w0.heap.size 5 i0 (.int .u8 0) 1 1 Tryz.underlying48 HI0.out HZ0.out HZ1.out HZ2.out rfl (by decide) u0 (n + pre.length) (xs ++ bc pre) rfl (HL.out.row.alloc _) (some ⟨wr.heap.size, 0, none⟩) 2 2 (bc (num2 g)) rfl rfl (.inr ⟨_, rfl, two_bytesR _ _ _ hz2⟩) (bc_one _) (by unfold maxLen; omega) (by omega) (Nat.le_trans HL.out.low.size (by rw [World.size_alloc]; omega)) ?_)
          intro v3 w3 hown hgr ho
          have HL3 : Hid (LS w0 W w3 v v3 n xs sb (.mk k m u g true at_ d ks) h (pre ++ num2 g)) := HL.out.app (gr_app hgr ho) (num2 g) hown (by simp [num2_length])
          have HE3 : Hid (R = (pre ++ num2 g) ++ (n2L ([m, u, g].drop (2 + 1)) ++ (b8 at_.length :: (atB at_ ++ (txt d ++ (b8 ks.length :: byL ks)))))) := by show _ = _; rw [HE.out]; simp [n2L]
          clear hown hgr ho hx0 hx1 hx2
          go_wp2
          go_roundw
          case rel => exact ⟨2 + 1, _, by omega, by go_num, HE3.out, HL3.out⟩
          case measure => simp [intOf]
        · clear hx0 hx1 hx2
          have HE3 : Hid (R = pre ++ (b8 at_.length :: (atB at_ ++ (txt d ++ (b8 ks.length :: byL ks))))) := HE.out
          clear HE
          obtain ⟨y0, y1, y2, y3, y4, y5, y6, y7⟩ := HL.out.box
          rw [HAA.out] at y5
          rw [HKK.out] at y7
          go_wp2_with (at_builtin; refine wpList_append_src (wr.alloc (.cells #[.int .u8 (IntKind.u8.wrap ((at_.length : Int)))] 5)) rfl (.tmp 42) (.tmp 47) 48 rfl w0.heap.size 5 i0 (.int .u8 0) 1 1 Tryz.underlying48 HI0.out HZ0.out HZ1.out HZ2.out rfl (by decide) u0 (n + pre.length) (xs ++ bc pre) rfl (HL.out.row.alloc _) (some ⟨wr.heap.size, 0, none⟩) 1 1 (bc [b8 ((at_.length : Int))]) rfl rfl (.inr ⟨_, rfl, one_byte _ _ _⟩) (bc_one _) (by unfold maxLen; omega) (by omega) (Nat.le_trans HL.out.low.size (by rw [World.size_alloc]; omega)) ?_)
          intro v4 w4 hown hgr ho
          have HLb : Hid (LS w0 W w4 v v4 n xs sb (.mk k m u g true at_ d ks) h (pre ++ [b8 ((at_.length : Int))])) := HL.out.app (gr_app hgr ho) [b8 ((at_.length : Int))] hown (by simp)
          clear hown hgr ho HL
          clear y0 y1 y2 y3 y4 y5 y6 y7
          have HE4 : Hid (R = (pre ++ [b8 (at_.length : Int)]) ++ (atB (at_.drop 0) ++ (txt d ++ (b8 ks.length :: byL ks)))) := by show _ = _; rw [HE3.out]; simp
          clear HE3
          generalize pre ++ [b8 (at_.length : Int)] = p4 at HLb HE4
          obtain ⟨y0, y1, y2, y3, y4, y5, y6, y7⟩ := HLb.out.box
          rw [HAA.out] at y5
          rw [HKK.out] at y7
          go_wp2
          clear y0 y1 y2 y3 y4 y5 y6 y7
          go_loopw [52, 0] (fun i vr wr => ∃ (j : Nat) (pre : List UInt8), j ≤ at_.length ∧ i = .int .i64 j ∧ Hid (R = pre ++ (atB (at_.drop j) ++ (txt d ++ (b8 ks.length :: byL ks)))) ∧ Hid (LS w0 W wr v vr n xs sb (.mk k m u g true at_ d ks) h pre)) (fun i _ _ => at_.length - (intOf i).toNat)
          case atStart => exact ⟨0, p4, Nat.zero_le _, rfl, HE4.out, HLb.out⟩
          case round =>
            obtain ⟨j, pre, hj, rfl, HE, HL⟩ := hrel
            clear HLb HE4
            have hb := HPL.out _ _ HE.out
            by_cases hjl : j < at_.length
            · have hji : (j : Int) < (at_.length : Int) := by omega
              obtain ⟨r, hr⟩ : ∃ r, at_[j]? = some r := ⟨at_[j], by simp [hjl]⟩
              have hrs := HAT.out r (List.mem_of_getElem? hr)
              have HE2 : Hid (R = pre ++ (txt r.n ++ (txt r.v ++ (atB (at_.drop (j + 1)) ++ (txt d ++ (b8 ks.length :: byL ks)))))) := by show _ = _; rw [HE.out, atB_drop hr]; simp
              clear HE
              rcases HA.out with hnil | ⟨ab, ao, rfl, hcA⟩
              · rw [hnil] at hjl; simp at hjl
              have q0 := (HL.out.low.cell (World.block_lt_of_cell? _ _ (hcA j r hr).1)).trans (hcA j r hr).1
              have q1 := (HL.out.low.cell (World.block_lt_of_cell? _ _ (hcA j r hr).2)).trans (hcA j r hr).2
              clear hcA hr
              go_upto_region 14 with fail
              have L5 : Hid (LS w0 W (wr.alloc (.cells #[.string r.n, .string r.v] 163)).drew v u0 n xs sb (.mk k m u g true at_ d ks) h pre) := (HL.out.alloc _).drew
              have T5 : (wr.alloc (.cells #[.string r.n, .string r.v] 163)).drew.cell? ⟨wr.heap.size, 0, none⟩ = some (.string r.n) ∧ (wr.alloc (.cells #[.string r.n, .string r.v] 163)).drew.cell? ⟨wr.heap.size, 1, none⟩ = some (.string r.v) :=
                ⟨World.cell?_alloc_at _ _ _ _ rfl, World.cell?_alloc_at _ _ _ _ rfl⟩
              have hbb : some wr.heap.size ≠ u0.ownBlock := fun e => by have := (HL.out.row.lt _ e.symm).2; omega
              have hlt5 : wr.heap.size < (wr.alloc (.cells #[.string r.n, .string r.v] 163)).drew.heap.size := by show _ < (wr.alloc _).heap.size; rw [World.size_alloc]; omega
              clear q0 q1 HL
              generalize wr.alloc (.cells #[.string r.n, .string r.v] 163) = w5 at L5 T5 hlt5 ⊢
              generalize wr.heap.size = bb at T5 hbb hlt5 ⊢
              have hb1 := HPL.out (pre ++ txt r.n) _ (by rw [HE2.out, List.append_assoc])
              have hb2 := HPL.out (pre ++ (txt r.n ++ txt r.v)) (atB (at_.drop (j + 1)) ++ (txt d ++ (b8 ks.length :: byL ks))) (by rw [HE2.out]; simp only [List.append_assoc])
              simp only [List.length_append, txt_length] at hb1 hb2
              have HC1 : Hid (Calls Tryz.prog 93 #[u0, .string r.n] w5.drew fun e w' => ∃ v', e = .returned v' ∧ w'.ownsRow w0.heap.size 5 1 v' (n + pre.length + (1 + r.n.size)) (xs ++ bc pre ++ bc (txt r.n)) ∧ Gr w5.drew w' u0 v') := layText_any r.n w5.drew u0 _ _ L5.out.row L5.out.low.size (by omega)
              go_region_held3 (fun w' => w'.cell? ⟨bb, 0, none⟩ = some (.string r.n) ∧ w'.cell? ⟨bb, 1, none⟩ = some (.string r.v)) (first | exact T5 | exact T6 | exact T7) (first | (go_at_call 93; (with_reducible refine Calls.mono HC1.out ?_); rintro e w6 ⟨v6, rfl, hrow6, g6⟩; have T6 : w6.cell? ⟨bb, 0, none⟩ = some (.string r.n) ∧ w6.cell? ⟨bb, 1, none⟩ = some (.string r.v) := ⟨(World.cell?_of_block (w := w5.drew) (g6.g.block bb hlt5 hbb)).trans T5.1, (World.cell?_of_block (w := w5.drew) (g6.g.block bb hlt5 hbb)).trans T5.2⟩; have hbb6 := gr_ne g6 hlt5 hbb; have hlt6 := Nat.lt_of_lt_of_le hlt5 g6.size; have L6 : Hid (LS w0 W w6 v v6 n xs sb (.mk k m u g true at_ d ks) h (pre ++ txt r.n)) := L5.out.app g6 (txt r.n) (by rw [← List.append_assoc]; exact hrow6) (by rw [txt_length]); have HC2 : Hid (Calls Tryz.prog 93 #[v6, .string r.v] w6 fun e w' => ∃ v', e = .returned v' ∧ w'.ownsRow w0.heap.size 5 1 v' (n + (pre ++ txt r.n).length + (1 + r.v.size)) (xs ++ bc (pre ++ txt r.n) ++ bc (txt r.v)) ∧ Gr w6 w' v6 v') := layText_any r.v w6 v6 _ _ L6.out.row L6.out.low.size (by rw [List.length_append, txt_length]; omega); clear HC1 hrow6 g6) | (go_at_call 93; (with_reducible refine Calls.mono HC2.out ?_); rintro e w7 ⟨v7, rfl, hrow7, g7⟩; have T7 : w7.cell? ⟨bb, 0, none⟩ = some (.string r.n) ∧ w7.cell? ⟨bb, 1, none⟩ = some (.string r.v) := ⟨(World.cell?_of_block (w := w6) (g7.g.block bb hlt6 hbb6)).trans T6.1, (World.cell?_of_block (w := w6) (g7.g.block bb hlt6 hbb6)).trans T6.2⟩; have L7 : Hid (LS w0 W w7 v v7 n xs sb (.mk k m u g true at_ d ks) h ((pre ++ txt r.n) ++ txt r.v)) := L6.out.app g7 (txt r.v) (by rw [← List.append_assoc]; exact hrow7) (by rw [txt_length]); clear HC2 hrow7 g7))
              all_goals
                have HE7 : Hid (R = ((pre ++ txt r.n) ++ txt r.v) ++ (atB (at_.drop (j + 1)) ++ (txt d ++ (b8 ks.length :: byL ks)))) := by show _ = _; rw [HE2.out]; simp only [List.append_assoc]
                clear T5 T6 T7 L5 L6 HE2 hbb hbb6 hlt5 hlt6 hb1 hb2
                go_wp2
                go_roundw
                case rel => exact ⟨j + 1, _, by omega, by go_num, HE7.out, L7.out⟩
                case measure => simp [intOf]; omega
            · have hji : decide ((j : Int) < (at_.length : Int)) = false := decide_eq_false (by omega)
              have HE2 : Hid (R = pre ++ (txt d ++ (b8 ks.length :: byL ks))) := by show _ = _; rw [HE.out, List.drop_of_length_le (by omega)]; simp [atB]
              clear HE
              have hb1 := HPL.out (pre ++ txt d) _ (by rw [HE2.out, List.append_assoc])
              simp only [List.length_append, txt_length] at hb1
              obtain ⟨y0, y1, y2, y3, y4, y5, y6, y7⟩ := HL.out.box
              rw [HAA.out] at y5
              rw [HKK.out] at y7
              go_wp2_with fail
              refine (layText_any d wr u0 _ _ HL.out.row HL.out.low.size (by omega)).mono ?_
              rintro e w5 ⟨v5, rfl, hrow5, g5⟩
              have HL5 : Hid (LS w0 W w5 v v5 n xs sb (.mk k m u g true at_ d ks) h (pre ++ txt d)) := HL.out.app g5 (txt d) (by rw [← List.append_assoc]; exact hrow5) (by rw [txt_length])
              have HE5 : Hid (R = (pre ++ txt d) ++ (b8 ks.length :: byL ks)) := by show _ = _; rw [HE2.out, List.append_assoc]
              clear HL HE2 hrow5 g5 y0 y1 y2 y3 y4 y5 y6 y7 hb1 hb
              generalize pre ++ txt d = p5 at HL5 HE5
              have hb5 := HPL.out _ _ HE5.out
              obtain ⟨y0, y1, y2, y3, y4, y5, y6, y7⟩ := HL5.out.box
              rw [HAA.out] at y5
              rw [HKK.out] at y7
              go_wp2_with (at_builtin; refine wpList_append_src (w5.alloc (.cells #[.int .u8 (IntKind.u8.wrap ((ks.length : Int)))] 5)) rfl (.tmp 68) (.tmp 73) 48 rfl w0.heap.size 5 i0 (.int .u8 0) 1 1 Tryz.underlying48 HI0.out HZ0.out HZ1.out HZ2.out rfl (by decide) v5 (n + p5.length) (xs ++ bc p5) rfl (HL5.out.row.alloc _) (some ⟨w5.heap.size, 0, none⟩) 1 1 (bc [b8 ((ks.length : Int))]) rfl rfl (.inr ⟨_, rfl, one_byte _ _ _⟩) (bc_one _) (by unfold maxLen; omega) (by omega) (Nat.le_trans HL5.out.low.size (by rw [World.size_alloc]; omega)) ?_)
              intro v6 w6 hown hgr ho
              have HL5b : Hid (LS w0 W w6 v v6 n xs sb (.mk k m u g true at_ d ks) h (p5 ++ [b8 ((ks.length : Int))])) := HL5.out.app (gr_app hgr ho) [b8 ((ks.length : Int))] hown (by simp)
              clear hown hgr ho HL5
              clear y0 y1 y2 y3 y4 y5 y6 y7
              have HE6 : Hid (R = (p5 ++ [b8 (ks.length : Int)]) ++ byL (ks.drop 0)) := by show _ = _; rw [HE5.out]; simp
              clear HE5
              generalize p5 ++ [b8 (ks.length : Int)] = p6 at HL5b HE6
              obtain ⟨y0, y1, y2, y3, y4, y5, y6, y7⟩ := HL5b.out.box
              rw [HAA.out] at y5
              rw [HKK.out] at y7
              go_wp2
              clear y0 y1 y2 y3 y4 y5 y6 y7
              go_loopw [78, 0] (fun i vr wr => ∃ (j : Nat) (pre : List UInt8), j ≤ ks.length ∧ i = .int .i64 j ∧ Hid (R = pre ++ byL (ks.drop j)) ∧ Hid (LS w0 W wr v vr n xs sb (.mk k m u g true at_ d ks) h pre)) (fun i _ _ => ks.length - (intOf i).toNat)
              case atStart => exact ⟨0, p6, Nat.zero_le _, rfl, HE6.out, HL5b.out⟩
              case round =>
                obtain ⟨j3, pre3, hj3, rfl, HE, HL⟩ := hrel
                clear HL5b HE6
                have hb3 := HPL.out _ _ HE.out
                by_cases hjl3 : j3 < ks.length
                · have hji3 : (j3 : Int) < (ks.length : Int) := by omega
                  obtain ⟨⟨nm, x⟩, hx⟩ : ∃ x, ks[j3]? = some x := ⟨ks[j3], by simp [hjl3]⟩
                  obtain ⟨hns, hxs⟩ := smlL_get HSK.out hx
                  have HE2 : Hid (R = pre3 ++ (txt nm ++ (byN x ++ byL (ks.drop (j3 + 1))))) := by show _ = _; rw [HE.out, byL_drop hx]
                  rcases HAK.out with hnil | rfl
                  · rw [hnil] at hjl3; simp at hjl3
                  have hK := (HC.out j3 nm x hx).on (mle_below HL.out.low)
                  have HI3 : Hid (∀ (W : World) (v : Value) (n : Nat) (xs : List Value), Below w0.heap.size w0 W → W.ownsRow w0.heap.size 5 1 v n xs → n + (byN x).length ≤ 80000000 → Calls Tryz.prog 72 #[v, ndV x (f j3)] W fun e w' => ∃ v', e = .returned v' ∧ w'.ownsRow w0.heap.size 5 1 v' (n + (byN x).length) (xs ++ bc (byN x)) ∧ Gr W w' v v') := fun W v n xs h1 h2 h3 => HIH.out j3 nm x hx W v n xs hxs h1 h2 h3
                  clear hx hxs HE
                  obtain ⟨BX, HBX⟩ : ∃ BX, Hid (byN x = BX) := ⟨_, rfl⟩
                  rw [HBX.out] at HE2 HI3
                  generalize f j3 = hd3 at hK HI3
                  obtain ⟨k', m', u', g', o', at', d', ks'⟩ := x
                  obtain ⟨p0, p1, p2, p3, p4, p5, p6, p7, p8⟩ := hK.nine
                  clear hK HBX
                  go_upto_region 21 with fail
                  have L5 : Hid (LS w0 W (wr.alloc (.cells #[.string nm, .int .i64 k', .int .i64 m', .int .i64 u', .int .i64 g', .bool o', .slice hd3.aa at'.length hd3.ca, .string d', .slice hd3.ak ks'.length hd3.ck] 138)).drew v u0 n xs sb (.mk k m u g true at_ d ks) h pre3) := (HL.out.alloc _).drew
                  have T5 : (wr.alloc (.cells #[.string nm, .int .i64 k', .int .i64 m', .int .i64 u', .int .i64 g', .bool o', .slice hd3.aa at'.length hd3.ca, .string d', .slice hd3.ak ks'.length hd3.ck] 138)).drew.cell? ⟨wr.heap.size, 0, none⟩ = some (.string nm) ∧ (wr.alloc (.cells #[.string nm, .int .i64 k', .int .i64 m', .int .i64 u', .int .i64 g', .bool o', .slice hd3.aa at'.length hd3.ca, .string d', .slice hd3.ak ks'.length hd3.ck] 138)).drew.cell? ⟨wr.heap.size, 1, none⟩ = some (.int .i64 k') ∧ (wr.alloc (.cells #[.string nm, .int .i64 k', .int .i64 m', .int .i64 u', .int .i64 g', .bool o', .slice hd3.aa at'.length hd3.ca, .string d', .slice hd3.ak ks'.length hd3.ck] 138)).drew.cell? ⟨wr.heap.size, 2, none⟩ = some (.int .i64 m') ∧ (wr.alloc (.cells #[.string nm, .int .i64 k', .int .i64 m', .int .i64 u', .int .i64 g', .bool o', .slice hd3.aa at'.length hd3.ca, .string d', .slice hd3.ak ks'.length hd3.ck] 138)).drew.cell? ⟨wr.heap.size, 3, none⟩ = some (.int .i64 u') ∧ (wr.alloc (.cells #[.string nm, .int .i64 k', .int .i64 m', .int .i64 u', .int .i64 g', .bool o', .slice hd3.aa at'.length hd3.ca, .string d', .slice hd3.ak ks'.length hd3.ck] 138)).drew.cell? ⟨wr.heap.size, 4, none⟩ = some (.int .i64 g') ∧ (wr.alloc (.cells #[.string nm, .int .i64 k', .int .i64 m', .int .i64 u', .int .i64 g', .bool o', .slice hd3.aa at'.length hd3.ca, .string d', .slice hd3.ak ks'.length hd3.ck] 138)).drew.cell? ⟨wr.heap.size, 5, none⟩ = some (.bool o') ∧ (wr.alloc (.cells #[.string nm, .int .i64 k', .int .i64 m', .int .i64 u', .int .i64 g', .bool o', .slice hd3.aa at'.length hd3.ca, .string d', .slice hd3.ak ks'.length hd3.ck] 138)).drew.cell? ⟨wr.heap.size, 6, none⟩ = some (.slice hd3.aa at'.length hd3.ca) ∧ (wr.alloc (.cells #[.string nm, .int .i64 k', .int .i64 m', .int .i64 u', .int .i64 g', .bool o', .slice hd3.aa at'.length hd3.ca, .string d', .slice hd3.ak ks'.length hd3.ck] 138)).drew.cell? ⟨wr.heap.size, 7, none⟩ = some (.string d') ∧ (wr.alloc (.cells #[.string nm, .int .i64 k', .int .i64 m', .int .i64 u', .int .i64 g', .bool o', .slice hd3.aa at'.length hd3.ca, .string d', .slice hd3.ak ks'.length hd3.ck] 138)).drew.cell? ⟨wr.heap.size, 8, none⟩ = some (.slice hd3.ak ks'.length hd3.ck) :=
                    ⟨World.cell?_alloc_at _ _ _ _ rfl, World.cell?_alloc_at _ _ _ _ rfl, World.cell?_alloc_at _ _ _ _ rfl, World.cell?_alloc_at _ _ _ _ rfl, World.cell?_alloc_at _ _ _ _ rfl, World.cell?_alloc_at _ _ _ _ rfl, World.cell?_alloc_at _ _ _ _ rfl, World.cell?_alloc_at _ _ _ _ rfl, World.cell?_alloc_at _ _ _ _ rfl⟩
                  have hbb : some wr.heap.size ≠ u0.ownBlock := fun e => by have := (HL.out.row.lt _ e.symm).2; omega
                  have hlt5 : wr.heap.size < (wr.alloc (.cells #[.string nm, .int .i64 k', .int .i64 m', .int .i64 u', .int .i64 g', .bool o', .slice hd3.aa at'.length hd3.ca, .string d', .slice hd3.ak ks'.length hd3.ck] 138)).drew.heap.size := by show _ < (wr.alloc _).heap.size; rw [World.size_alloc]; omega
                  clear p0 p1 p2 p3 p4 p5 p6 p7 p8 HL
                  generalize wr.alloc (.cells #[.string nm, .int .i64 k', .int .i64 m', .int .i64 u', .int .i64 g', .bool o', .slice hd3.aa at'.length hd3.ca, .string d', .slice hd3.ak ks'.length hd3.ck] 138) = w5 at L5 T5 hlt5 ⊢
                  generalize wr.heap.size = bb at T5 hbb hlt5 ⊢
                  have hb4 := HPL.out (pre3 ++ txt nm) _ (by rw [HE2.out, List.append_assoc])
                  have hb5 := HPL.out (pre3 ++ (txt nm ++ BX)) (byL (ks.drop (j3 + 1))) (by rw [HE2.out]; simp only [List.append_assoc])
                  simp only [List.length_append, txt_length] at hb4 hb5
                  have HC1 : Hid (Calls Tryz.prog 93 #[u0, .string nm] w5.drew fun e w' => ∃ v', e = .returned v' ∧ w'.ownsRow w0.heap.size 5 1 v' (n + pre3.length + (1 + nm.size)) (xs ++ bc pre3 ++ bc (txt nm)) ∧ Gr w5.drew w' u0 v') := layText_any nm w5.drew u0 _ _ L5.out.row L5.out.low.size (by omega)
                  go_region_held3 (fun w' => w'.cell? ⟨bb, 0, none⟩ = some (.string nm) ∧ w'.cell? ⟨bb, 1, none⟩ = some (.int .i64 k') ∧ w'.cell? ⟨bb, 2, none⟩ = some (.int .i64 m') ∧ w'.cell? ⟨bb, 3, none⟩ = some (.int .i64 u') ∧ w'.cell? ⟨bb, 4, none⟩ = some (.int .i64 g') ∧ w'.cell? ⟨bb, 5, none⟩ = some (.bool o') ∧ w'.cell? ⟨bb, 6, none⟩ = some (.slice hd3.aa at'.length hd3.ca) ∧ w'.cell? ⟨bb, 7, none⟩ = some (.string d') ∧ w'.cell? ⟨bb, 8, none⟩ = some (.slice hd3.ak ks'.length hd3.ck)) (first | exact T5 | exact T6 | exact T7) (first | (go_at_call 93; (with_reducible refine Calls.mono HC1.out ?_); rintro e w6 ⟨v6, rfl, hrow6, g6⟩; have T6 : w6.cell? ⟨bb, 0, none⟩ = some (.string nm) ∧ w6.cell? ⟨bb, 1, none⟩ = some (.int .i64 k') ∧ w6.cell? ⟨bb, 2, none⟩ = some (.int .i64 m') ∧ w6.cell? ⟨bb, 3, none⟩ = some (.int .i64 u') ∧ w6.cell? ⟨bb, 4, none⟩ = some (.int .i64 g') ∧ w6.cell? ⟨bb, 5, none⟩ = some (.bool o') ∧ w6.cell? ⟨bb, 6, none⟩ = some (.slice hd3.aa at'.length hd3.ca) ∧ w6.cell? ⟨bb, 7, none⟩ = some (.string d') ∧ w6.cell? ⟨bb, 8, none⟩ = some (.slice hd3.ak ks'.length hd3.ck) := ⟨(World.cell?_of_block (w := w5.drew) (g6.g.block bb hlt5 hbb)).trans T5.1, (World.cell?_of_block (w := w5.drew) (g6.g.block bb hlt5 hbb)).trans T5.2.1, (World.cell?_of_block (w := w5.drew) (g6.g.block bb hlt5 hbb)).trans T5.2.2.1, (World.cell?_of_block (w := w5.drew) (g6.g.block bb hlt5 hbb)).trans T5.2.2.2.1, (World.cell?_of_block (w := w5.drew) (g6.g.block bb hlt5 hbb)).trans T5.2.2.2.2.1, (World.cell?_of_block (w := w5.drew) (g6.g.block bb hlt5 hbb)).trans T5.2.2.2.2.2.1, (World.cell?_of_block (w := w5.drew) (g6.g.block bb hlt5 hbb)).trans T5.2.2.2.2.2.2.1, (World.cell?_of_block (w := w5.drew) (g6.g.block bb hlt5 hbb)).trans T5.2.2.2.2.2.2.2.1, (World.cell?_of_block (w := w5.drew) (g6.g.block bb hlt5 hbb)).trans T5.2.2.2.2.2.2.2.2⟩; have hbb6 := gr_ne g6 hlt5 hbb; have hlt6 := Nat.lt_of_lt_of_le hlt5 g6.size; have L6 : Hid (LS w0 W w6 v v6 n xs sb (.mk k m u g true at_ d ks) h (pre3 ++ txt nm)) := L5.out.app g6 (txt nm) (by rw [← List.append_assoc]; exact hrow6) (by rw [txt_length]); have HC2 : Hid (Calls Tryz.prog 72 #[v6, .agg #[.int .i64 k', .int .i64 m', .int .i64 u', .int .i64 g', .bool o', .slice hd3.aa at'.length hd3.ca, .string d', .slice hd3.ak ks'.length hd3.ck]] w6 fun e w' => ∃ v', e = .returned v' ∧ w'.ownsRow w0.heap.size 5 1 v' (n + (pre3 ++ txt nm).length + BX.length) (xs ++ bc (pre3 ++ txt nm) ++ bc BX) ∧ Gr w6 w' v6 v') := HI3.out w6 v6 _ _ L6.out.low L6.out.row (by rw [List.length_append, txt_length]; omega); clear HC1 hrow6 g6) | (go_at_call 72; (with_reducible refine Calls.mono HC2.out ?_); rintro e w7 ⟨v7, rfl, hrow7, g7⟩; have T7 : w7.cell? ⟨bb, 0, none⟩ = some (.string nm) ∧ w7.cell? ⟨bb, 1, none⟩ = some (.int .i64 k') ∧ w7.cell? ⟨bb, 2, none⟩ = some (.int .i64 m') ∧ w7.cell? ⟨bb, 3, none⟩ = some (.int .i64 u') ∧ w7.cell? ⟨bb, 4, none⟩ = some (.int .i64 g') ∧ w7.cell? ⟨bb, 5, none⟩ = some (.bool o') ∧ w7.cell? ⟨bb, 6, none⟩ = some (.slice hd3.aa at'.length hd3.ca) ∧ w7.cell? ⟨bb, 7, none⟩ = some (.string d') ∧ w7.cell? ⟨bb, 8, none⟩ = some (.slice hd3.ak ks'.length hd3.ck) := ⟨(World.cell?_of_block (w := w6) (g7.g.block bb hlt6 hbb6)).trans T6.1, (World.cell?_of_block (w := w6) (g7.g.block bb hlt6 hbb6)).trans T6.2.1, (World.cell?_of_block (w := w6) (g7.g.block bb hlt6 hbb6)).trans T6.2.2.1, (World.cell?_of_block (w := w6) (g7.g.block bb hlt6 hbb6)).trans T6.2.2.2.1, (World.cell?_of_block (w := w6) (g7.g.block bb hlt6 hbb6)).trans T6.2.2.2.2.1, (World.cell?_of_block (w := w6) (g7.g.block bb hlt6 hbb6)).trans T6.2.2.2.2.2.1, (World.cell?_of_block (w := w6) (g7.g.block bb hlt6 hbb6)).trans T6.2.2.2.2.2.2.1, (World.cell?_of_block (w := w6) (g7.g.block bb hlt6 hbb6)).trans T6.2.2.2.2.2.2.2.1, (World.cell?_of_block (w := w6) (g7.g.block bb hlt6 hbb6)).trans T6.2.2.2.2.2.2.2.2⟩; have L7 : Hid (LS w0 W w7 v v7 n xs sb (.mk k m u g true at_ d ks) h ((pre3 ++ txt nm) ++ BX)) := L6.out.app g7 BX (by rw [← List.append_assoc]; exact hrow7) rfl; clear HC2 hrow7 g7))
                  all_goals
                    have HE7 : Hid (R = ((pre3 ++ txt nm) ++ BX) ++ byL (ks.drop (j3 + 1))) := by show _ = _; rw [HE2.out]; simp only [List.append_assoc]
                    clear T5 T6 T7 L5 L6 HE2 hbb hbb6 hlt5 hlt6 hb4 hb5
                    go_wp2
                    go_roundw
                    case rel => exact ⟨j3 + 1, _, by omega, by go_num, HE7.out, L7.out⟩
                    case measure => simp [intOf]; omega
                · have hji3 : decide ((j3 : Int) < (ks.length : Int)) = false := decide_eq_false (by omega)
                  have HE2 : Hid (R = pre3) := by show _ = _; rw [HE.out, List.drop_of_length_le (by omega)]; simp [byL]
                  clear HE
                  go_wp2
                  go_ret
                  refine ⟨_, rfl, ?_, HL.out.gr⟩
                  rw [HE2.out]
                  exact HL.out.row
end Go.Proofs.YtkjknbjjchdjlaaGreatDoor
