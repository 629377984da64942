/-
  WHAT over AND TreeFault DO, the document's: the walks.
-/
import Derived.Test.YtkkhfnkmfkdhiabWc
import Derived.Test.YtkkhfnkmfkdhiabNn
namespace Go.Proofs.Ytkkhfnkmfkdhiab
open Go.RowKit

theorem ret_unit : Ending.returned (.tuple #[]) = Ending.returned (.tuple #[]) := rfl
/-- Where a tree that is gone over stands. -/
def OvR (R : Int × Nat) (up : Bool) (ks : Kds) (deep j : Nat) (s : Nat) (f : Int) : Prop := (f ≠ 0 ∧ R = (f, s)) ∨ (f = 0 ∧ R = wlkL up (ahead ks j) (ks.drop j) (deep + 1) s)

set_option maxRecDepth 100000 in
set_option maxHeartbeats 4000000 in
theorem over_any (up : Bool) {w : World} {bw : Nat} (_hbw : bw < w.heap.size) {x : Nd} {h : Hd} (hN : NdV (offB w.cell? bw) x h) : ∀ (W : World) (deep seen : Nat) (fl : Int), Lil x → cnt x ≤ 1000 → But bw w W → TBox W bw (.int .i64 seen) (.int .i64 fl) → deep ≤ 7 → seen ≤ 60 →
    Calls Try.prog 65 #[.pointer (some ⟨bw, 0, none⟩), ndV x h, .bool up, .int .i64 deep] W fun e W' => e = .returned (.tuple #[]) ∧ But bw W W' ∧ TBox W' bw (.int .i64 (wlkN up x deep seen).2) (.int .i64 (wlkN up x deep seen).1) := by
  induction hN with
  | @mk k m u g o at_ d ks h b off f ha hca hck hak hc hr ih =>
    intro W deep seen fl hlil hcnt hW hT hdeep hseen
    rw [Lil] at hlil
    rw [cnt] at hcnt
    obtain ⟨hla, hld, hlk⟩ := hlil
    obtain ⟨hl8, hlow⟩ := hla
    have hlen : ks.length ≤ 1000 := by have := cntL_len ks; omega
    have hbW : bw < W.heap.size := hT.lt
    have HF : Hid (wlkN up (.mk k m u g o at_ d ks) deep seen = if 60 ≤ seen ∨ 6 < deep then (2, seen) else if nfF up (decide (deep = 0)) (.mk k m u g o at_ d ks) ≠ 0 then (nfF up (decide (deep = 0)) (.mk k m u g o at_ d ks), seen + 1) else wlkL up none ks (deep + 1) (seen + 1)) := by show _ = _; rw [wlkN]
    obtain ⟨R, HR⟩ : ∃ R, Hid (wlkN up (.mk k m u g o at_ d ks) deep seen = R) := ⟨_, rfl⟩
    rw [HR.out] at HF
    rw [HR.out]
    have HC : Hid (∀ i n x, ks[i]? = some (n, x) → KdAt (offB w.cell? bw) b (off + i * 9) n x (f i)) := hc
    have HI : Hid (∀ i n x, ks[i]? = some (n, x) → ∀ (W : World) (deep seen : Nat) (fl : Int), But bw w W → TBox W bw (.int .i64 seen) (.int .i64 fl) → deep ≤ 7 → seen ≤ 60 → Calls Try.prog 65 #[.pointer (some ⟨bw, 0, none⟩), ndV x (f i), .bool up, .int .i64 deep] W fun e W' => e = .returned (.tuple #[]) ∧ But bw W W' ∧ TBox W' bw (.int .i64 (wlkN up x deep seen).2) (.int .i64 (wlkN up x deep seen).1)) :=
      fun i n x hi W deep seen fl hW hT hd hs => ih i n x hi W deep seen fl (lilL_get hlk hi).2 (by have := cntL_get hi; omega) hW hT hd hs
    have HNM : Hid (∀ (i : Nat) (n : ByteArray) (x : Nd), ks[i]? = some (n, x) → n.size ≤ 255) := fun i n x hi => (lilL_get hlk hi).1
    have HAK : Hid (ks = [] ∨ h.ak = some ⟨b, off, none⟩) := hak
    clear hc hr ih hak hlk hcnt hld
    show Calls Try.prog 65 #[.pointer (some ⟨bw, 0, none⟩), .agg #[.int .i64 k, .int .i64 m, .int .i64 u, .int .i64 g, .bool o, .slice h.aa at_.length h.ca, .string d, .slice h.ak ks.length h.ck], .bool up, .int .i64 deep] _ _
    have NB := NBox.new W k m u g o at_ d ks h
    have hB1 : Below W.heap.size W (W.alloc (.cells #[.int .i64 k, .int .i64 m, .int .i64 u, .int .i64 g, .bool o, .slice h.aa at_.length h.ca, .string d, .slice h.ak ks.length h.ck] 25)) := (Below.refl _ _).alloc (Nat.le_refl _) _
    have hT1 := hT.below hB1
    have hA1 := ((ha.on hW.mle).on (offB_le _ _)).below hB1
    by_cases hmany : 60 ≤ seen ∨ 6 < deep
    · have HN : Hid (R = (2, seen)) := by show _ = _; rw [HF.out, if_pos hmany]
      have HM : Hid (60 ≤ seen ∨ 6 < deep) := hmany
      have ds : decide (60 ≤ (seen : Int)) = decide (60 ≤ seen) := by congr 1; simp only [eq_iff_iff]; omega
      have dd : decide (6 < (deep : Int)) = decide (6 < deep) := by congr 1; simp only [eq_iff_iff]; omega
      obtain ⟨t0, t1, t2, t3⟩ := hT1
      have hT0 := hT
      obtain ⟨s0, s1, s2, s3⟩ := hT0
      have fin : But bw W ((W.setCell ⟨bw, 1, none⟩ (.int .i64 2)).alloc (.cells #[.int .i64 k, .int .i64 m, .int .i64 u, .int .i64 g, .bool o, .slice h.aa at_.length h.ca, .string d, .slice h.ak ks.length h.ck] 25)) ∧ TBox ((W.setCell ⟨bw, 1, none⟩ (.int .i64 2)).alloc (.cells #[.int .i64 k, .int .i64 m, .int .i64 u, .int .i64 g, .bool o, .slice h.aa at_.length h.ca, .string d, .slice h.ak ks.length h.ck] 25)) bw (.int .i64 seen) (.int .i64 2) :=
        ⟨((But.refl bw W).setCell 1 none _).alloc _, (hT.set1 _).below ((Below.refl _ _).alloc (Nat.le_refl _) _)⟩
      have FIN : Hid (But bw W ((W.setCell ⟨bw, 1, none⟩ (.int .i64 2)).alloc (.cells #[.int .i64 k, .int .i64 m, .int .i64 u, .int .i64 g, .bool o, .slice h.aa at_.length h.ca, .string d, .slice h.ak ks.length h.ck] 25)) ∧ TBox ((W.setCell ⟨bw, 1, none⟩ (.int .i64 2)).alloc (.cells #[.int .i64 k, .int .i64 m, .int .i64 u, .int .i64 g, .bool o, .slice h.aa at_.length h.ca, .string d, .slice h.ak ks.length h.ck] 25)) bw (.int .i64 seen) (.int .i64 2)) := fin
      clear fin hmany NB hA1 hB1
      by_cases h60 : 60 ≤ seen
      · have d60 : decide (60 ≤ seen) = true := decide_eq_true h60
        clear h60
        go_enter Try.func65, Try.ntmps65
        go_wp2
        rw [HN.out]
        refine bodyPost_ret (results_none rfl _ _ _) rfl ?_
        exact ⟨rfl, FIN.out⟩
      · have d60 : decide (60 ≤ seen) = false := decide_eq_false h60
        have d6 : decide (6 < deep) = true := decide_eq_true (by rcases HM.out with e | e; exact absurd e h60; exact e)
        clear h60
        go_enter Try.func65, Try.ntmps65
        go_wp2
        rw [HN.out]
        refine bodyPost_ret (results_none rfl _ _ _) rfl ?_
        exact ⟨rfl, FIN.out⟩
    have hs60 : seen < 60 := by omega
    have hd6 : deep ≤ 6 := by omega
    have ds : decide (60 ≤ (seen : Int)) = false := decide_eq_false (by omega)
    have dd : decide (6 < (deep : Int)) = false := decide_eq_false (by omega)
    obtain ⟨rt, hrt⟩ : ∃ rt, ((deep : Int) == 0) = rt := ⟨_, rfl⟩
    have HRT : Hid (decide (deep = 0) = rt) := by
      show _ = _
      rw [← hrt]
      by_cases e : deep = 0
      · subst e; rfl
      · rw [decide_eq_false e]; symm; simpa using e
    have HF2 : Hid (R = if nfF up rt (.mk k m u g o at_ d ks) ≠ 0 then (nfF up rt (.mk k m u g o at_ d ks), seen + 1) else wlkL up none ks (deep + 1) (seen + 1)) := by
      show _ = _
      rw [HF.out, if_neg hmany, HRT.out]
    clear HF hmany HR HRT
    obtain ⟨c, HC0⟩ : ∃ c, Hid (nfF up rt (.mk k m u g o at_ d ks) = c) := ⟨_, rfl⟩
    rw [HC0.out] at HF2
    have NB2 := NB
    obtain ⟨y0, y1, y2, y3, y4, y5, y6, y7⟩ := NB2
    have hT2 := hT1
    obtain ⟨t0, t1, t2, t3⟩ := hT2
    go_enter Try.func65, Try.ntmps65
    go_wp2_with fail
    refine (nodeFault_any k m u g o at_ d ks h up rt _ (by omega) hlow hA1).mono ?_
    rintro e w2 ⟨rfl, c2⟩
    rw [HC0.out]
    have NB3 := NB.below c2
    have hT3 := hT1.below c2
    have hB3 : But bw W w2 := (But.of_below hB1).then c2
    have NB4 := (NB3.but ((But.refl bw w2).setCell 1 none (.int .i64 c)) (by omega)).but ((But.refl bw _).setCell 0 none (.int .i64 ((seen : Int) + 1))) (by omega)
    have hT4 := (hT3.set1 (.int .i64 c)).set0 (.int .i64 ((seen : Int) + 1))
    have hB4 := (hB3.setCell 1 none (.int .i64 c)).setCell 0 none (.int .i64 ((seen : Int) + 1))
    clear y0 y1 y2 y3 y4 y5 y6 y7 t0 t1 t2 t3 hT1 NB hB1 c2 NB3 hA1
    obtain ⟨t0, t1, t2, t3⟩ := hT3
    go_wp2
    clear t0 t1 t2 t3
    generalize (w2.setCell ⟨bw, 1, none⟩ (.int .i64 c)).setCell ⟨bw, 0, none⟩ (.int .i64 ((seen : Int) + 1)) = w3 at NB4 hT4 hB4 ⊢
    clear hB3
    generalize hnb : W.heap.size = nb at NB4 ⊢
    have hne : nb ≠ bw := by omega
    go_loopw [8] (fun i wr => ∃ (j s : Nat) (fl : Int), j ≤ ks.length ∧ i = .int .i64 j ∧ s ≤ 60 ∧ Hid (OvR R up ks deep j s fl) ∧ TBox wr bw (.int .i64 s) (.int .i64 fl) ∧ NBox wr nb (.mk k m u g o at_ d ks) h ∧ But bw W wr) (fun i _ => ks.length - (intOf i).toNat)
    case atStart =>
      refine ⟨0, seen + 1, c, Nat.zero_le _, rfl, by omega, ?_, ?_, NB4, hB4⟩
      · show OvR _ _ _ _ _ _ _
        by_cases e : c = 0
        · refine .inr ⟨e, ?_⟩
          rw [HF2.out, if_neg (by simp [e])]; rfl
        · refine .inl ⟨e, ?_⟩
          rw [HF2.out, if_pos e]
      · have e : ((seen + 1 : Nat) : Int) = (seen : Int) + 1 := by omega
        rw [e]; exact hT4
    case round =>
      obtain ⟨j, s, fl, hj, rfl, hs, HO, hTr, NBr, hBr⟩ := hrel
      clear NB4 hT4 hB4 HF2 HC0
      have NBr2 := NBr
      obtain ⟨y0, y1, y2, y3, y4, y5, y6, y7⟩ := NBr2
      have hTr2 := hTr
      obtain ⟨t0, t1, t2, t3⟩ := hTr2
      by_cases hjl : j < ks.length
      rotate_left
      · have hji : decide ((j : Int) < (ks.length : Int)) = false := decide_eq_false (by omega)
        have HE : Hid (R = (fl, s)) := by
          show _ = _
          rcases HO.out with ⟨_, e⟩ | ⟨e0, e⟩
          · exact e
          · rw [e, List.drop_of_length_le (by omega), wlkL, e0]
        go_wp2
        go_end0
        exact ⟨rfl, hBr, by rw [HE.out]; exact hTr⟩
      have hji : (j : Int) < (ks.length : Int) := by omega
      by_cases hf0 : fl = 0
      rotate_left
      · have bf : (fl == 0) = false := by simpa using hf0
        have HE : Hid (R = (fl, s)) := by
          show _ = _
          rcases HO.out with ⟨_, e⟩ | ⟨e0, e⟩
          · exact e
          · exact absurd e0 hf0
        clear hf0
        go_wp2
        go_end0
        exact ⟨rfl, hBr, by rw [HE.out]; exact hTr⟩
      subst hf0
      obtain ⟨⟨n, x⟩, hx⟩ : ∃ x, ks[j]? = some x := ⟨ks[j], by simp [hjl]⟩
      have hWr : But bw w wr := hW.trans hBr
      have hK : KdAt wr.cell? b (off + j * 9) n x (f j) := ((HC.out j n x hx).on hWr.mle).on (offB_le _ _)
      have HRJ : Hid (R = wlkL up (ahead ks j) (ks.drop j) (deep + 1) s) := by
        rcases HO.out with ⟨e0, _⟩ | ⟨_, e⟩
        · exact absurd rfl e0
        · exact e
      have HRD : Hid (R = if nameB n = false then (4, s) else if upB (ahead ks j) n = false then (3, s) else if (wlkN up x (deep + 1) s).1 ≠ 0 then wlkN up x (deep + 1) s else wlkL up (ahead ks (j + 1)) (ks.drop (j + 1)) (deep + 1) (wlkN up x (deep + 1) s).2) := HRJ.out.trans (wlkL_drop hx)
      have HI2 : Hid (∀ (W : World), But bw w W → TBox W bw (.int .i64 s) (.int .i64 0) → Calls Try.prog 65 #[.pointer (some ⟨bw, 0, none⟩), ndV x (f j), .bool up, .int .i64 ((deep : Int) + 1)] W fun e W' => e = .returned (.tuple #[]) ∧ But bw W W' ∧ TBox W' bw (.int .i64 (wlkN up x (deep + 1) s).2) (.int .i64 (wlkN up x (deep + 1) s).1)) := by
        intro W2 q1 q2
        have e : ((deep + 1 : Nat) : Int) = (deep : Int) + 1 := by omega
        rw [← e]
        exact HI.out j n x hx W2 (deep + 1) s 0 q1 q2 (by omega) hs
      have hrg := wlkN_range up x (deep + 1) s hs
      have hn60 : n.size ≤ 9223372036854775807 := by have := HNM.out j n x hx; omega
      have HX : Hid (ks[j]? = some (n, x)) := hx
      clear hx HO HRJ
      rcases HAK.out with hnil | hak
      · rw [hnil] at hjl; simp at hjl
      rw [hak] at y7
      clear hak
      generalize f j = hd1 at hK HI2
      obtain ⟨RX, HRX⟩ : ∃ RX, Hid (wlkN up x (deep + 1) s = RX) := ⟨_, rfl⟩
      rw [HRX.out] at HRD HI2 hrg
      obtain ⟨fx, sx⟩ := RX
      dsimp only at HRD HI2 hrg
      obtain ⟨t, ht⟩ : ∃ t, nameB n = t := ⟨_, rfl⟩
      have HT : Hid (nameB n = t) := ht
      rw [ht] at HRD
      clear ht HRX
      obtain ⟨k', m', u', g', o', at', d', ks'⟩ := x
      obtain ⟨p0, p1, p2, p3, p4, p5, p6, p7, p8⟩ := hK.nine
      clear hK
      go_wp2_with fail
      refine (namer_any n _ hn60).mono ?_
      rintro e w' ⟨rfl, rfl⟩
      rw [HT.out]
      cases t
      · have HN : Hid (R = (4, s)) := by show _ = _; rw [HRD.out, if_pos rfl]
        go_wp2
        go_roundw
        case rel => exact ⟨j + 1, s, 4, by omega, by go_num, hs, .inl ⟨by decide, HN.out⟩, hTr.set1 _, NBr.but ((But.refl bw _).setCell 1 none _) hne, hBr.setCell 1 none _⟩
        case measure => simp [intOf]; omega
      have HRD2 : Hid (R = if upB (ahead ks j) n = false then (3, s) else if fx ≠ 0 then (fx, sx) else wlkL up (ahead ks (j + 1)) (ks.drop (j + 1)) (deep + 1) sx) := by show _ = _; rw [HRD.out, if_neg (by simp)]
      clear HRD HT
      by_cases hj0 : j = 0
      · subst hj0
        have HR3 : Hid (R = if fx ≠ 0 then (fx, sx) else wlkL up (ahead ks (0 + 1)) (ks.drop (0 + 1)) (deep + 1) sx) := by show _ = _; rw [HRD2.out, if_neg (by simp [ahead, upB])]
        clear HRD2
        go_wp2
        go_quiet (fail)
        have hT5 : TBox (wr.drewN nq) bw (.int .i64 s) (.int .i64 0) := hTr
        have hW5 : But bw w (wr.drewN nq) := hWr.drewN nq
        have hB5 : But bw W (wr.drewN nq) := hBr.drewN nq
        have NB5 : NBox (wr.drewN nq) nb (.mk k m u g o at_ d ks) h := NBr
        change (wr.drewN nq).cell? _ = _ at y7
        change (wr.drewN nq).cell? _ = _ at p1
        change (wr.drewN nq).cell? _ = _ at p2
        change (wr.drewN nq).cell? _ = _ at p3
        change (wr.drewN nq).cell? _ = _ at p4
        change (wr.drewN nq).cell? _ = _ at p5
        change (wr.drewN nq).cell? _ = _ at p6
        change (wr.drewN nq).cell? _ = _ at p7
        change (wr.drewN nq).cell? _ = _ at p8
        clear hTr hWr hBr NBr y0 y1 y2 y3 y4 y5 y6 t0 t1 t2 t3 p0
        generalize wr.drewN nq = w5 at hT5 hW5 hB5 NB5 y7 p1 p2 p3 p4 p5 p6 p7 p8 ⊢
        go_wp2_with fail
        refine (HI2.out _ hW5 hT5).mono ?_
        rintro e w6 ⟨rfl, c6, hT6⟩
        have NB6 := NB5.but c6 hne
        have hB6 := hB5.trans c6
        clear y7 p1 p2 p3 p4 p5 p6 p7 p8 c6 hT5 hW5 hB5 NB5
        go_wp2
        go_roundw
        case rel =>
          refine ⟨0 + 1, sx, fx, by omega, by go_num, hrg.2, ?_, hT6, NB6, hB6⟩
          show OvR _ _ _ _ _ _ _
          by_cases e : fx = 0
          · refine .inr ⟨e, ?_⟩
            rw [HR3.out, if_neg (by simp [e])]
          · refine .inl ⟨e, ?_⟩
            rw [HR3.out, if_pos e]
        case measure => simp [intOf]; omega
      · obtain ⟨i, hi⟩ : ∃ i, j = i + 1 := ⟨j - 1, by omega⟩
        obtain ⟨⟨pn, px⟩, hp⟩ : ∃ p, ks[i]? = some p := ⟨ks[i]'(by omega), List.getElem?_eq_getElem _⟩
        have q0 : wr.cell? ⟨b, off + i * 9, none⟩ = some (.string pn) := (((HC.out i pn px hp).on hWr.mle).on (offB_le _ _)).1
        have HA : Hid (ahead ks j = some pn) := by show _ = _; rw [hi]; simp [ahead, hp]
        rw [HA.out] at HRD2
        have d0 : decide (0 < j) = true := decide_eq_true (by omega)
        have dw : IntKind.i64.wrap ((j : Int) - 1) = (i : Int) := (wrap_small (by omega) (by omega)).trans (by omega)
        have dj : (j : Int) - 1 = (i : Int) := by omega
        have dl : (i : Int) < (ks.length : Int) := by omega
        obtain ⟨t, ht⟩ : ∃ t, ltB pn n = t := ⟨_, rfl⟩
        have hle : (Op.bytesLess n.toList pn.toList || n.toList == pn.toList) = !t := by rw [leq_eq, ht]
        have HU : Hid (upB (some pn) n = t) := ht
        rw [HU.out] at HRD2
        have hip : 0 < j := by omega
        clear hi hp ht HA HU hj0
        cases t
        · have HN : Hid (R = (3, s)) := by show _ = _; rw [HRD2.out, if_pos rfl]
          go_wp2
          go_quiet (fail)
          have hT5 : TBox (wr.drewN nq) bw (.int .i64 s) (.int .i64 0) := hTr
          have hB5 : But bw W (wr.drewN nq) := hBr.drewN nq
          have NB5 : NBox (wr.drewN nq) nb (.mk k m u g o at_ d ks) h := NBr
          clear hTr hWr hBr NBr y0 y1 y2 y3 y4 y5 y6 y7 t0 t1 t2 t3 p0 p1 p2 p3 p4 p5 p6 p7 p8 q0
          generalize wr.drewN nq = w5 at hT5 hB5 NB5 ⊢
          have hT6 := hT5
          obtain ⟨t0, t1, t2, t3⟩ := hT6
          go_wp2
          go_roundw
          case rel => exact ⟨j + 1, s, 3, by omega, by go_num, hs, .inl ⟨by decide, HN.out⟩, hT5.set1 _, NB5.but ((But.refl bw _).setCell 1 none _) hne, hB5.setCell 1 none _⟩
          case measure => simp [intOf]; omega
        have HR3 : Hid (R = if fx ≠ 0 then (fx, sx) else wlkL up (ahead ks (j + 1)) (ks.drop (j + 1)) (deep + 1) sx) := by show _ = _; rw [HRD2.out, if_neg (by simp)]
        clear HRD2
        go_wp2
        go_quiet (fail)
        have hT5 : TBox (wr.drewN nq) bw (.int .i64 s) (.int .i64 0) := hTr
        have hW5 : But bw w (wr.drewN nq) := hWr.drewN nq
        have hB5 : But bw W (wr.drewN nq) := hBr.drewN nq
        have NB5 : NBox (wr.drewN nq) nb (.mk k m u g o at_ d ks) h := NBr
        change (wr.drewN nq).cell? _ = _ at y7
        change (wr.drewN nq).cell? _ = _ at p1
        change (wr.drewN nq).cell? _ = _ at p2
        change (wr.drewN nq).cell? _ = _ at p3
        change (wr.drewN nq).cell? _ = _ at p4
        change (wr.drewN nq).cell? _ = _ at p5
        change (wr.drewN nq).cell? _ = _ at p6
        change (wr.drewN nq).cell? _ = _ at p7
        change (wr.drewN nq).cell? _ = _ at p8
        clear hTr hWr hBr NBr y0 y1 y2 y3 y4 y5 y6 t0 t1 t2 t3 p0 q0
        generalize wr.drewN nq = w5 at hT5 hW5 hB5 NB5 y7 p1 p2 p3 p4 p5 p6 p7 p8 ⊢
        go_wp2_with fail
        refine (HI2.out _ hW5 hT5).mono ?_
        rintro e w6 ⟨rfl, c6, hT6⟩
        have NB6 := NB5.but c6 hne
        have hB6 := hB5.trans c6
        clear y7 p1 p2 p3 p4 p5 p6 p7 p8 c6 hT5 hW5 hB5 NB5
        go_wp2
        go_roundw
        case rel =>
          refine ⟨j + 1, sx, fx, by omega, by go_num, hrg.2, ?_, hT6, NB6, hB6⟩
          show OvR _ _ _ _ _ _ _
          by_cases e : fx = 0
          · refine .inr ⟨e, ?_⟩
            rw [HR3.out, if_neg (by simp [e])]
          · refine .inl ⟨e, ?_⟩
            rw [HR3.out, if_pos e]
        case measure => simp [intOf]; omega

set_option maxRecDepth 100000 in
set_option maxHeartbeats 1000000 in
theorem treeFault_any (up : Bool) {w : World} {x : Nd} {h : Hd} (hN : NdV w.cell? x h) (hlil : Lil x) (hcnt : cnt x ≤ 1000) :
    Calls Try.prog 18 #[ndV x h, .bool up] w fun e W' => e = .returned (.int .i64 (tfF up x)) ∧ Below w.heap.size w W' := by
  obtain ⟨R, HR⟩ : ∃ R, Hid (tfF up x = R) := ⟨_, rfl⟩
  rw [HR.out]
  obtain ⟨k, m, u, g, o, at_, d, ks⟩ := x
  have HF : Hid (R = if k ≠ 2 then 7 else (wlkN up (.mk k m u g o at_ d ks) 0 0).1) := by show _ = _; rw [← HR.out, tfF]
  have NB := NBox.new w k m u g o at_ d ks h
  have hB1 : Below w.heap.size w (w.alloc (.cells #[.int .i64 k, .int .i64 m, .int .i64 u, .int .i64 g, .bool o, .slice h.aa at_.length h.ca, .string d, .slice h.ak ks.length h.ck] 25)) := (Below.refl _ _).alloc (Nat.le_refl _) _
  by_cases hk : k = 2
  rotate_left
  · have bk : (k != 2) = true := bne_iff_ne.2 hk
    have HN : Hid (R = 7) := by show _ = _; rw [HF.out, if_pos hk]
    clear hk
    show Calls Try.prog 18 #[.agg #[.int .i64 k, .int .i64 m, .int .i64 u, .int .i64 g, .bool o, .slice h.aa at_.length h.ca, .string d, .slice h.ak ks.length h.ck], .bool up] _ _
    obtain ⟨y0, y1, y2, y3, y4, y5, y6, y7⟩ := NB
    go_enter Try.func18, Try.ntmps18
    go_wp2
    go_ret
    exact ⟨ret_num HN.out.symm, hB1⟩
  subst hk
  have HN : Hid (R = (wlkN up (.mk 2 m u g o at_ d ks) 0 0).1) := by show _ = _; rw [HF.out, if_neg (by decide)]
  clear HF HR
  have hB2 : Below w.heap.size w ((w.alloc (.cells #[.int .i64 2, .int .i64 m, .int .i64 u, .int .i64 g, .bool o, .slice h.aa at_.length h.ca, .string d, .slice h.ak ks.length h.ck] 25)).alloc (.cells #[.int .i64 0, .int .i64 0] 104)) := hB1.alloc hB1.size _
  have hT := TBox.new (w.alloc (.cells #[.int .i64 2, .int .i64 m, .int .i64 u, .int .i64 g, .bool o, .slice h.aa at_.length h.ca, .string d, .slice h.ak ks.length h.ck] 25)) (.int .i64 0) (.int .i64 0) 104
  rw [World.size_alloc] at hT
  have NB2 := NB.below ((Below.refl _ _).alloc (Nat.le_refl _) (.cells #[.int .i64 0, .int .i64 0] 104))
  have hO := fun W' => over_any up (w := ((w.alloc (.cells #[.int .i64 2, .int .i64 m, .int .i64 u, .int .i64 g, .bool o, .slice h.aa at_.length h.ca, .string d, .slice h.ak ks.length h.ck] 25)).alloc (.cells #[.int .i64 0, .int .i64 0] 104))) (bw := w.heap.size + 1) hT.lt (hN.on (mle_off hB2 (by omega))) W' 0 0 0 hlil hcnt
  have HO : Hid (∀ W', But (w.heap.size + 1) ((w.alloc (.cells #[.int .i64 2, .int .i64 m, .int .i64 u, .int .i64 g, .bool o, .slice h.aa at_.length h.ca, .string d, .slice h.ak ks.length h.ck] 25)).alloc (.cells #[.int .i64 0, .int .i64 0] 104)) W' → TBox W' (w.heap.size + 1) (.int .i64 0) (.int .i64 0) → Calls Try.prog 65 #[.pointer (some ⟨w.heap.size + 1, 0, none⟩), ndV (.mk 2 m u g o at_ d ks) h, .bool up, .int .i64 0] W' fun e W2 => e = .returned (.tuple #[]) ∧ But (w.heap.size + 1) W' W2 ∧ TBox W2 (w.heap.size + 1) (.int .i64 (wlkN up (.mk 2 m u g o at_ d ks) 0 0).2) (.int .i64 (wlkN up (.mk 2 m u g o at_ d ks) 0 0).1)) :=
    fun W' q1 q2 => hO W' q1 q2 (by omega) (by omega)
  clear hO hN hlil hcnt
  show Calls Try.prog 18 #[.agg #[.int .i64 2, .int .i64 m, .int .i64 u, .int .i64 g, .bool o, .slice h.aa at_.length h.ca, .string d, .slice h.ak ks.length h.ck], .bool up] _ _
  obtain ⟨y0, y1, y2, y3, y4, y5, y6, y7⟩ := NB
  obtain ⟨z0, z1, z2, z3, z4, z5, z6, z7⟩ := NB2
  go_enter Try.func18, Try.ntmps18
  go_wp2_with fail
  refine (HO.out _ (But.refl _ _) hT).mono ?_
  rintro e w2 ⟨rfl, c2, hT2⟩
  have hB3 := hB2.trans (c2.below (B := w.heap.size) (by omega) (by simp; omega))
  clear y0 y1 y2 y3 y4 y5 y6 y7 z0 z1 z2 z3 z4 z5 z6 z7 c2 hB2 hT hB1
  rw [← HN.out] at hT2
  obtain ⟨t0, t1, _, _⟩ := hT2
  go_wp2
  go_ret
  exact ⟨rfl, hB3⟩
end Go.Proofs.Ytkkhfnkmfkdhiab
