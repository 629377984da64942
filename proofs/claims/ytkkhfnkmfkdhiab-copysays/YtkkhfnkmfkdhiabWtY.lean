/-
  WHAT Find DOES: the walk.
-/
import Derived.Test.YtkkhfnkmfkdhiabWqX
namespace Go.Proofs.Ytkkhfnkmfkdhiab
open Go.RowKit

set_option maxRecDepth 100000 in
set_option maxHeartbeats 4000000 in
theorem tfind_any {W : World} {x0 : Nd} {h : Hd} (hN : NdV W.cell? x0 h) (a : Option Addr) (cl : Nat) (l : List ByteArray) (hSt : Strs W.cell? a l) (hll : l.length ≤ 1000) (hcnt : cnt x0 ≤ 800) (hlim : Lim x0) :
    Calls Try.prog 21 #[ndV x0 h, .slice a l.length cl] W fun e W' => (∃ h', e = .returned (.tuple #[ndV ((findF l x0).getD zN) h', .bool (findF l x0).isSome]) ∧ NdV W'.cell? ((findF l x0).getD zN) h') ∧ Below W.heap.size W W' := by
  obtain ⟨RR, HRR⟩ : ∃ RR, Hid (findF l x0 = RR) := ⟨_, rfl⟩
  rw [HRR.out]
  have HST : Hid (∀ i s, l[i]? = some s → ∃ b off, a = some ⟨b, off, none⟩ ∧ W.cell? ⟨b, off + i, none⟩ = some (.string s)) := by
    intro i s hi
    rcases hSt with e | ⟨b, off, e, hc⟩
    · rw [e] at hi; simp at hi
    · exact ⟨b, off, e, hc i s hi⟩
  clear hSt
  have HNO : Hid (NdV W.cell? x0 h) := hN
  obtain ⟨k, m, u, g, o, at_, d, ks⟩ := x0
  have B0 := NBw.new W k m u g o at_ d ks h
  have hB0 : Below W.heap.size W (W.alloc (.cells #[.int .i64 k, .int .i64 m, .int .i64 u, .int .i64 g, .bool o, .slice h.aa at_.length h.ca, .string d, .slice h.ak ks.length h.ck] 25)) := (Below.refl _ _).alloc (Nat.le_refl _) _
  have R1 := NBw.zero (W.alloc (.cells #[.int .i64 k, .int .i64 m, .int .i64 u, .int .i64 g, .bool o, .slice h.aa at_.length h.ca, .string d, .slice h.ak ks.length h.ck] 25))
  rw [World.size_alloc] at R1
  have q2 := (Below.refl _ (W.alloc (.cells #[.int .i64 k, .int .i64 m, .int .i64 u, .int .i64 g, .bool o, .slice h.aa at_.length h.ca, .string d, .slice h.ak ks.length h.ck] 25))).alloc (Nat.le_refl _) (.cells #[.int .i64 0, .int .i64 0, .int .i64 0, .int .i64 0, .bool false, .slice none 0 0, .string ⟨#[]⟩, .slice none 0 0] 25)
  have B1 := B0.below q2
  have hB1 : Below W.heap.size W ((W.alloc (.cells #[.int .i64 k, .int .i64 m, .int .i64 u, .int .i64 g, .bool o, .slice h.aa at_.length h.ca, .string d, .slice h.ak ks.length h.ck] 25)).alloc (.cells #[.int .i64 0, .int .i64 0, .int .i64 0, .int .i64 0, .bool false, .slice none 0 0, .string ⟨#[]⟩, .slice none 0 0] 25)) := hB0.alloc hB0.size _
  show Calls Try.prog 21 #[.agg #[.int .i64 k, .int .i64 m, .int .i64 u, .int .i64 g, .bool o, .slice h.aa at_.length h.ca, .string d, .slice h.ak ks.length h.ck], .slice a l.length cl] _ _
  have hne : a = none → l = [] := by
    intro e
    cases hl : l with
    | nil => rfl
    | cons s t =>
      obtain ⟨b, off, q, _⟩ := HST.out 0 s (by rw [hl]; rfl)
      rw [e] at q; cases q
  have HNE : Hid (a = none → l = []) := hne
  clear B0 hB0 q2 hN hne
  go_enter Try.func21, Try.ntmps21
  go_wp2
  generalize (W.alloc (.cells #[.int .i64 k, .int .i64 m, .int .i64 u, .int .i64 g, .bool o, .slice h.aa at_.length h.ca, .string d, .slice h.ak ks.length h.ck] 25)).alloc (.cells #[.int .i64 0, .int .i64 0, .int .i64 0, .int .i64 0, .bool false, .slice none 0 0, .string ⟨#[]⟩, .slice none 0 0] 25) = w1 at B1 R1 hB1 ⊢
  generalize hsz : W.heap.size = nb at B1 R1 ⊢
  go_loopw [11] (fun i wr => ∃ (j : Nat) (y : Nd) (hy : Hd), j ≤ l.length ∧ i = .int .i64 j ∧ Hid (RR = findF (l.drop j) y) ∧ NBw wr nb y hy ∧ NBw wr (nb + 1) zN zH ∧ NdV W.cell? y hy ∧ cnt y ≤ 800 ∧ Lim y ∧ Below W.heap.size W wr) (fun i _ => l.length - (intOf i).toNat)
  case atStart => exact ⟨0, _, h, Nat.zero_le _, rfl, HRR.out.symm, B1, R1, HNO.out, hcnt, hlim, hB1⟩
  case round =>
    obtain ⟨j, y, hy, hj, rfl, HJ, By, Rz, hNy, hcy, hly, hB⟩ := hrel
    have hkl : y.kids.length ≤ 800 := kids_le hcy
    clear B1 R1 hB1
    by_cases hjl : j < l.length
    rotate_left
    · have hji : decide ((j : Int) < (l.length : Int)) = false := decide_eq_false (by omega)
      have HE : Hid (RR = some y) := by show _ = _; rw [HJ.out, List.drop_of_length_le (by omega), findF]
      have ho := own_any (W := wr) (S := fun q => q == nb + 1) (fun q hq => by simp at hq; rw [hq]; exact Rz.1.lt) (hNy.on (mle_offS hB (fun q hq => by simp; omega))) hly (by omega)
      have HO : Hid _ := ho
      clear ho
      obtain ⟨k2, m2, u2, g2, o2, at2, d2, ks2⟩ := y
      obtain ⟨⟨y0, y1, y2, y3, y4, y5, y6, y7⟩, y8⟩ := id By
      go_wp2_with fail
      refine Calls.mono HO.out ?_
      rintro e w4 ⟨⟨h', rfl, hN4⟩, b4⟩
      have R4 := Rz.below b4
      have hB4 := hB.trans (b4.mono hB.size)
      have R7 := R4.store (.mk k2 m2 u2 g2 o2 at2 d2 ks2) h'
      have b7 : But (nb + 1) w4 (stB w4 (nb + 1) (.mk k2 m2 u2 g2 o2 at2 d2 ks2) h') := stB_but
      have hB7 := hB4.trans (b7.below (B := W.heap.size) (by omega) hB4.size)
      have step : MLe (offS w4.cell? (fun q => q == nb + 1)) (stB w4 (nb + 1) (.mk k2 m2 u2 g2 o2 at2 d2 ks2) h').cell? := (mle_step (S' := fun _ => false) fun q hq hs => ⟨rfl, b7.block q hq (by simpa using hs)⟩).trans (offS_le _ _)
      have hN7 := hN4.on step
      have ev : ndV (.mk k2 m2 u2 g2 o2 at2 d2 ks2) h' = .agg #[.int .i64 k2, .int .i64 m2, .int .i64 u2, .int .i64 g2, .bool o2, .slice h'.aa at2.length h'.ca, .string d2, .slice h'.ak ks2.length h'.ck] := rfl
      rw [ev]
      generalize hw7 : stB w4 (nb + 1) (.mk k2 m2 u2 g2 o2 at2 d2 ks2) h' = w7 at R7 b7 hB7 step hN7
      have HW7 : Hid (stB w4 (nb + 1) (.mk k2 m2 u2 g2 o2 at2 d2 ks2) h' = w7) := hw7
      clear hw7 y0 y1 y2 y3 y4 y5 y6 y7 y8 HO b4 b7 step hN4 ev By Rz
      obtain ⟨⟨z0, z1, z2, z3, z4, z5, z6, z7⟩, z8⟩ := id R4
      go_wp2
      have hw7 := HW7.out
      simp only [stB] at hw7
      rw [hw7]
      obtain ⟨r0, r1, r2, r3, r4, r5, r6, r7⟩ := R7.1
      refine bodyPost_ret (v := .tuple #[ndV (.mk k2 m2 u2 g2 o2 at2 d2 ks2) h', .bool true]) (by simp [results, Try.results21, go_sem, ndV, r0, r1, r2, r3, r4, r5, r6, r7]) rfl ⟨⟨h', by rw [HE.out]; rfl, by rw [HE.out]; exact hN7⟩, hB7⟩
    have hji : (j : Int) < (l.length : Int) := by omega
    obtain ⟨nm, hnm⟩ : ∃ s, l[j]? = some s := ⟨l[j], List.getElem?_eq_getElem _⟩
    obtain ⟨b, off, rfl, c0'⟩ := HST.out j nm hnm
    have c0 : wr.cell? ⟨b, off + j, none⟩ = some (.string nm) := (hB.cell (p := ⟨b, off + j, none⟩) (World.block_lt_of_cell? _ _ c0')).trans c0'
    have HFD : Hid (RR = if y.kind ≠ 2 ∨ kidI nm y.kids 0 < 0 then none else findF (l.drop (j + 1)) (y.kid (kidI nm y.kids 0).toNat)) := by
      show _ = _
      have e : l.drop j = nm :: l.drop (j + 1) := by
        rw [List.drop_eq_getElem_cons hjl]
        rw [List.getElem?_eq_getElem hjl] at hnm
        simp at hnm; rw [hnm]
      rw [HJ.out, e, findF]
    clear hnm c0' HJ
    obtain ⟨k', m', u', g', o', at', d', ks'⟩ := y
    have hks := (ndV_iff.1 hNy).2.2.2
    have hpl := place_any hy.ak hy.ck ks' nm wr (by exact Nat.le_trans hkl (by decide)) (hks.below hB)
    have HPL : Hid _ := hpl
    clear hpl
    have HZ : Hid (∀ w2, Below wr.heap.size wr w2 → RR = none → ∃ w7, stB w2 (nb + 1) zN zH = w7 ∧ NBw w7 (nb + 1) zN zH ∧ ((∃ h', (Ending.returned (.tuple #[ndV zN zH, .bool false])) = .returned (.tuple #[ndV (RR.getD zN) h', .bool RR.isSome]) ∧ NdV w7.cell? (RR.getD zN) h') ∧ Below W.heap.size W w7)) := by
      intro w2 b2 hr
      have hR2 := Rz.below b2
      have hwr2 := hB.trans (b2.mono hB.size)
      have b7 : But (nb + 1) w2 (stB w2 (nb + 1) zN zH) := stB_but
      refine ⟨_, rfl, hR2.store zN zH, ⟨zH, by rw [hr]; rfl, by rw [hr]; exact zN_in _⟩, hwr2.trans (b7.below (B := W.heap.size) (by omega) hwr2.size)⟩
    obtain ⟨⟨y0, y1, y2, y3, y4, y5, y6, y7⟩, y8⟩ := id By
    by_cases hk2 : k' = 2
    rotate_left
    · have bk : (k' != 2) = true := bne_iff_ne.2 hk2
      have HE : Hid (RR = none) := by show _ = _; rw [HFD.out, if_pos (.inl (by exact hk2))]
      obtain ⟨R, HR⟩ : ∃ R, Hid (kidI nm ks' 0 = R) := ⟨_, rfl⟩
      clear hk2
      go_wp2_with fail
      refine Calls.mono HPL.out ?_
      rintro e w2 ⟨rfl, b2⟩
      rw [HR.out]
      obtain ⟨w7, hw7, R7, hfin⟩ := HZ.out w2 b2 HE.out
      have HW7 : Hid (stB w2 (nb + 1) zN zH = w7) := hw7
      have HFIN : Hid _ := hfin
      have By2 := By.below b2
      have Rz2 := Rz.below b2
      clear hw7 hfin y0 y1 y2 y3 y4 y5 y6 y7 y8 c0 HPL HZ
      obtain ⟨⟨y0, y1, y2, y3, y4, y5, y6, y7⟩, y8⟩ := id By2
      obtain ⟨⟨z0, z1, z2, z3, z4, z5, z6, z7⟩, z8⟩ := id Rz2
      go_wp2
      have hw7 := HW7.out
      simp only [stB, zN, zH, List.length_nil] at hw7
      rw [hw7]
      obtain ⟨r0, r1, r2, r3, r4, r5, r6, r7⟩ := R7.1
      refine bodyPost_ret (v := .tuple #[ndV zN zH, .bool false]) (by simp [results, Try.results21, go_sem, ndV, zN, zH, r0, r1, r2, r3, r4, r5, r6, r7]) rfl HFIN.out
    subst hk2
    have bk : ((2 : Int) != 2) = false := rfl
    rcases kidI_at nm ks' 0 with ⟨hn0, _⟩ | ⟨p, z, hp, hx, _⟩
    · have HKI : Hid (kidI nm ks' 0 = -1) := hn0
      have HE : Hid (RR = none) := by show _ = _; rw [HFD.out, if_pos (.inr (by show kidI nm ks' 0 < 0; rw [hn0]; decide))]
      clear hn0
      go_wp2_with fail
      refine Calls.mono HPL.out ?_
      rintro e w2 ⟨rfl, b2⟩
      rw [HKI.out]
      obtain ⟨w7, hw7, R7, hfin⟩ := HZ.out w2 b2 HE.out
      have HW7 : Hid (stB w2 (nb + 1) zN zH = w7) := hw7
      have HFIN : Hid _ := hfin
      have By2 := By.below b2
      have Rz2 := Rz.below b2
      clear hw7 hfin y0 y1 y2 y3 y4 y5 y6 y7 y8 c0 HPL HZ
      obtain ⟨⟨y0, y1, y2, y3, y4, y5, y6, y7⟩, y8⟩ := id By2
      obtain ⟨⟨z0, z1, z2, z3, z4, z5, z6, z7⟩, z8⟩ := id Rz2
      go_wp2
      have hw7 := HW7.out
      simp only [stB, zN, zH, List.length_nil] at hw7
      rw [hw7]
      obtain ⟨r0, r1, r2, r3, r4, r5, r6, r7⟩ := R7.1
      refine bodyPost_ret (v := .tuple #[ndV zN zH, .bool false]) (by simp [results, Try.results21, go_sem, ndV, zN, zH, r0, r1, r2, r3, r4, r5, r6, r7]) rfl HFIN.out
    rw [Nat.zero_add] at hp
    have HKI : Hid (kidI nm ks' 0 = (p : Int)) := hp
    have hplt : p < ks'.length := (List.getElem?_eq_some_iff.1 hx).1
    have HN2 : Hid (RR = findF (l.drop (j + 1)) z) := by
      show _ = _
      rw [HFD.out, if_neg (by
        intro q
        rcases q with q | q
        · exact q rfl
        · have q2 : kidI nm ks' 0 < 0 := q
          rw [hp] at q2; omega)]
      have e1 : (kidI nm (Nd.mk 2 m' u' g' o' at' d' ks').kids 0).toNat = p := by
        show (kidI nm ks' 0).toNat = p
        rw [hp]; rfl
      rw [e1]
      have e2 : (Nd.mk 2 m' u' g' o' at' d' ks').kid p = z := by
        unfold Nd.kid
        show (match ks'[p]? with | some q => q.2 | none => _) = z
        rw [hx]
      rw [e2]
    have hcz : cnt z ≤ 800 := by
      have q1 := cntL_get hx
      rw [cnt] at hcy
      omega
    have hlz : Lim z := by
      rw [Lim] at hly
      exact limL_get hly.2.2 hx
    rcases hks with hnil | ⟨b', off', hak, f, hf⟩
    · rw [hnil] at hplt; simp at hplt
    obtain ⟨hKp, hNz⟩ := hf p nm z hx
    have HAK : Hid (hy.ak = some ⟨b', off', none⟩) := hak
    clear hp hx hf hak
    generalize f p = hz at hKp hNz
    have hpi : decide ((p : Int) < 0) = false := decide_eq_false (by omega)
    have hpi2 : (p : Int) < (ks'.length : Int) := by omega
    go_wp2_with fail
    refine Calls.mono HPL.out ?_
    rintro e w2 ⟨rfl, b2⟩
    rw [HKI.out]
    have hB2 := hB.trans (b2.mono hB.size)
    have By2 := By.below b2
    have Rz2 := Rz.below b2
    have hKw := hKp.below hB2
    clear y0 y1 y2 y3 y4 y5 y6 y7 y8 c0 HPL HZ By Rz hB b2 hKp
    obtain ⟨⟨y0, y1, y2, y3, y4, y5, y6, y7⟩, y8⟩ := id By2
    rw [HAK.out] at y7
    have By3 := By2.store z hz
    have b3 : But nb w2 (stB w2 nb z hz) := stB_but
    have Rz3 := Rz2.but b3 (by omega)
    have hB3 := hB2.trans (b3.below (B := W.heap.size) (by omega) hB2.size)
    generalize hw3 : stB w2 nb z hz = w3 at By3 Rz3 hB3
    have HW3 : Hid (stB w2 nb z hz = w3) := hw3
    clear b3 hw3
    obtain ⟨k3, m3, u3, g3, o3, at3, d3, ks3⟩ := z
    obtain ⟨p0, p1, p2, p3, p4, p5, p6, p7, p8⟩ := hKw.nine
    go_wp2
    have hw3 := HW3.out
    simp only [stB] at hw3
    rw [hw3]
    clear hw3 HW3 p0 p1 p2 p3 p4 p5 p6 p7 p8 y0 y1 y2 y3 y4 y5 y6 y7 y8
    go_roundw
    case rel => exact ⟨j + 1, _, hz, by omega, by go_num, HN2.out, By3, Rz3, hNz, hcz, hlz, hB3⟩
    case measure => simp [intOf]; omega

end Go.Proofs.Ytkkhfnkmfkdhiab
