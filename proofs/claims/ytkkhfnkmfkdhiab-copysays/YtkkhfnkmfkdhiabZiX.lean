/-
  WHAT THE DOCUMENT's Put DOES, one name that is cut: the walk.
  WHAT THE DOCUMENT's Put DOES, one name that is put, that is not there: the walk.
-/
import Derived.Test.YtkkhfnkmfkdhiabZbaX
import Derived.Test.YtkkhfnkmfkdhiabZhX
import Derived.Deep.RegionLaw
import Derived.Deep.CutRange
namespace Go.Proofs.Ytkkhfnkmfkdhiab
open Go.RowKit

set_option maxRecDepth 100000 in
set_option maxHeartbeats 8000000 in
theorem rput_cut1 {W : World} {S : Nat → Bool} (hS0 : ∀ k, S k = true → k < W.heap.size) {x0 : Nd} {h : Hd} (hN : NdV (offS W.cell? S) x0 h) {xp : Nd} {hx : Hd} (hXN : NdV (offS W.cell? S) xp hx) (cut : Bool) (hcut : cut = true) (b off n cl : Nat) (nm : ByteArray) (hnm : W.cell? ⟨b, off, none⟩ = some (.string nm)) (hn : n = 1) (hk2 : x0.kind = 2) (hcnt : cnt x0 ≤ 800) (hsz : nm.size ≤ 1000) (hA : ¬ kidI nm x0.kids 0 < 0) :
    Calls Try.prog 92 #[ndV x0 h, .slice (some ⟨b, off, none⟩) n cl, ndV xp hx, .bool cut] W fun e W' => RdE W W' S e (.ok (x0.with (cutK nm x0.kids))) := by
  subst hcut
  have hn2 : n ≤ 1000 := by omega
  have dn1 : decide ((1 : Int) < (n : Int)) = false := decide_eq_false (by omega)
  have dn2 : decide (1 < n) = false := decide_eq_false (by omega)
  have HNS : Hid (nm.size ≤ 9223372036854775807) := (by show _ ≤ _; omega)
  have HPRE : Hid (0 ≤ kidI nm x0.kids 0) := (by show _ ≤ _; omega)
  clear hsz hA
  obtain ⟨i0, hi0, hz0, hz1, hz2⟩ := info_three Try.infoK
  have HI0 : Hid _ := hi0
  have HZ0 : Hid _ := hz0
  have HZ1 : Hid _ := hz1
  have HZ2 : Hid _ := hz2
  clear hi0 hz0 hz1 hz2
  obtain ⟨k, m, u, g, o, at_, d, ks⟩ := x0
  obtain ⟨k3, m3, u3, g3, o3, at3, d3, ks3⟩ := xp
  have hk' : k = 2 := hk2
  subst hk'
  show Calls Try.prog 92 #[.agg #[.int .i64 2, .int .i64 m, .int .i64 u, .int .i64 g, .bool o, .slice h.aa at_.length h.ca, .string d, .slice h.ak ks.length h.ck], .slice (some ⟨b, off, none⟩) n cl, .agg #[.int .i64 k3, .int .i64 m3, .int .i64 u3, .int .i64 g3, .bool o3, .slice hx.aa at3.length hx.ca, .string d3, .slice hx.ak ks3.length hx.ck], .bool true] _ _
  obtain ⟨B1, X1, R1, hB1⟩ := three W 2 m u g o at_ d ks h k3 m3 u3 g3 o3 at3 d3 ks3 hx
  have HS0 : Hid (∀ k, S k = true → k < W.heap.size) := hS0
  have HN : Hid (NdV (offS W.cell? S) (.mk 2 m u g o at_ d ks) h) := hN
  have HXN : Hid (NdV (offS W.cell? S) (.mk k3 m3 u3 g3 o3 at3 d3 ks3) hx) := hXN
  have HNM : Hid (W.cell? ⟨b, off, none⟩ = some (.string nm)) := hnm
  have HKF : Hid (kidF nm (.mk 2 m u g o at_ d ks) = kidI nm ks 0) := by show _ = _; rw [kidF, if_pos rfl]
  have hkl : ks.length ≤ 800 := kids_le hcnt
  have dz : ((n : Int) == 0) = false := by simp; omega
  have bk : ((2 : Int) != 2) = false := rfl
  have hn0 : (0 : Int) < (n : Int) := by omega
  have hn00 : 0 < n := by omega
  clear hn
  clear hS0 hN hXN hnm hk2
  obtain ⟨⟨y0, y1, y2, y3, y4, y5, y6, y7⟩, y8⟩ := id B1
  go_enter Try.func92, Try.ntmps92
  go_wp2_with fail
  clear y0 y1 y2 y3 y4 y5 y6 y7 y8
  generalize (((W.alloc (.cells #[.int .i64 2, .int .i64 m, .int .i64 u, .int .i64 g, .bool o, .slice h.aa at_.length h.ca, .string d, .slice h.ak ks.length h.ck] 25)).alloc (.cells #[.int .i64 k3, .int .i64 m3, .int .i64 u3, .int .i64 g3, .bool o3, .slice hx.aa at3.length hx.ca, .string d3, .slice hx.ak ks3.length hx.ck] 25)).alloc (.cells #[.int .i64 0, .int .i64 0, .int .i64 0, .int .i64 0, .bool false, .slice none 0 0, .string ⟨#[]⟩, .slice none 0 0] 25)) = w1 at B1 X1 R1 hB1 ⊢
  have c0 : w1.cell? ⟨b, off, none⟩ = some (.string nm) := (hB1.cell (p := ⟨b, off, none⟩) (World.block_lt_of_cell? _ _ HNM.out)).trans HNM.out
  have hq5 : Below w1.heap.size w1 w1.drew := below_drewN (Below.refl _ _) 1
  have hpl := kid_any (w := W) (HN.out.on (offS_le _ _)) nm w1.drew (hB1.trans (hq5.mono hB1.size)) (fun k1 m1 u1 g1 o1 a1 d1 ks1 e => by cases e; exact Nat.le_trans hkl (by decide))
  have HPL : Hid (Calls Try.prog 114 #[.agg #[.int .i64 2, .int .i64 m, .int .i64 u, .int .i64 g, .bool o, .slice h.aa at_.length h.ca, .string d, .slice h.ak ks.length h.ck], .string nm] w1.drew fun e w' => e = .returned (.int .i64 (kidF nm (.mk 2 m u g o at_ d ks))) ∧ Below w1.drew.heap.size w1.drew w') := hpl
  clear hpl
  generalize hsz : W.heap.size = nb at B1 X1 R1 ⊢
  have T5 : NNm w1.drew nb b off nm (.mk 2 m u g o at_ d ks) h := NNm.of B1.1 c0
  obtain ⟨⟨y0, y1, y2, y3, y4, y5, y6, y7⟩, y8⟩ := id B1
  go_region_held3 (fun w' => w'.cell? ⟨nb, 0, none⟩ = some (.int .i64 2) ∧ w'.cell? ⟨nb, 1, none⟩ = some (.int .i64 m) ∧ w'.cell? ⟨nb, 2, none⟩ = some (.int .i64 u) ∧ w'.cell? ⟨nb, 3, none⟩ = some (.int .i64 g) ∧ w'.cell? ⟨nb, 4, none⟩ = some (.bool o) ∧ w'.cell? ⟨nb, 5, none⟩ = some (.slice h.aa at_.length h.ca) ∧ w'.cell? ⟨nb, 6, none⟩ = some (.string d) ∧ w'.cell? ⟨nb, 7, none⟩ = some (.slice h.ak ks.length h.ck) ∧ w'.cell? ⟨b, off, none⟩ = some (.string nm)) (first | exact T5 | exact T6) (first | (go_at_call 114; refine Calls.mono HPL.out ?_; rintro e w2 ⟨rfl, b4⟩; have T6 : NNm w2 nb b off nm (.mk 2 m u g o at_ d ks) h := T5.below b4))
  all_goals
    have b2 : Below w1.heap.size w1 w2 := hq5.trans b4
    rw [HKF.out]
    have hB2 := hB1.trans (b2.mono hB1.size)
    have B2 := B1.below b2
    have X2 := X1.below b2
    have R2 := R1.below b2
    have c2 := T6.2.2.2.2.2.2.2.2
    clear T5 T6 b4 b2 B1 X1 R1 hB1 c0 HPL hq5 y0 y1 y2 y3 y4 y5 y6 y7 y8
    have bo : Below w2.heap.size w2 (w2.alloc (.cells #[.int .i64 2, .int .i64 m, .int .i64 u, .int .i64 g, .bool o, .slice h.aa at_.length h.ca, .string d, .slice h.ak ks.length h.ck] 25)) := (Below.refl _ _).alloc (Nat.le_refl _) _
    have O3 : NBw (w2.alloc (.cells #[.int .i64 2, .int .i64 m, .int .i64 u, .int .i64 g, .bool o, .slice h.aa at_.length h.ca, .string d, .slice h.ak ks.length h.ck] 25)) w2.heap.size (.mk 2 m u g o at_ d ks) h := NBw.new w2 2 m u g o at_ d ks h
    generalize hw3 : w2.alloc (.cells #[.int .i64 2, .int .i64 m, .int .i64 u, .int .i64 g, .bool o, .slice h.aa at_.length h.ca, .string d, .slice h.ak ks.length h.ck] 25) = w3 at bo O3
    have hob : nb + 1 + 1 < w2.heap.size := R2.1.lt
    have hs4 : w2.heap.size < w3.heap.size := O3.1.lt
    have O4 : NBw (w3.setCell ⟨w2.heap.size, 7, none⟩ (.slice none 0 0)) w2.heap.size (.mk 2 m u g o at_ d []) ⟨h.aa, h.ca, none, 0⟩ := O3.set7 [] none 0
    have b4 : But w2.heap.size w3 (w3.setCell ⟨w2.heap.size, 7, none⟩ (.slice none 0 0)) := (But.refl _ _).setCell _ _ _
    have B4 := (B2.below bo).but b4 (by omega)
    have X4 := (X2.below bo).but b4 (by omega)
    have R4 := (R2.below bo).but b4 (by omega)
    have hB3 := hB2.trans (bo.mono hB2.size)
    have hB4 := hB3.trans (b4.below (B := W.heap.size) (by omega) hB3.size)
    have hs5 := b4.size
    generalize hw4 : w3.setCell ⟨w2.heap.size, 7, none⟩ (.slice none 0 0) = w4 at b4 O4 B4 X4 R4 hB4 hs5
    have c4 : w4.cell? ⟨b, off, none⟩ = some (.string nm) := (hB4.cell (p := ⟨b, off, none⟩) (World.block_lt_of_cell? _ _ HNM.out)).trans HNM.out
    clear bo b4 hB3
    obtain ⟨L, hLb, hLK⟩ := ksV_ksH (ndV_iff.1 HN.out).2.2.2
    have HLB : Hid (bare L = ks) := hLb
    have HLK : Hid (KsH (offS W.cell? S) h.ak L) := hLK
    have hLl : L.length = ks.length := by rw [← hLb, bare_length]
    clear hLb hLK
    obtain ⟨A, HAe⟩ : ∃ A, Hid (kidI nm ks 0 = A) := ⟨_, rfl⟩
    rw [show kidI nm ks 0 = A from HAe.out]
    have hw5 : w2.alloc (.cells #[.int .i64 2, .int .i64 m, .int .i64 u, .int .i64 g, .bool o, .slice h.aa at_.length h.ca, .string d, .slice none 0 0] 25) = w4 := by rw [← hw4, ← hw3]; simp [go_sem]
    have HW5 : Hid (w2.alloc (.cells #[.int .i64 2, .int .i64 m, .int .i64 u, .int .i64 g, .bool o, .slice h.aa at_.length h.ca, .string d, .slice none 0 0] 25) = w4) := hw5
    have c5 : (w2.alloc (.cells #[.int .i64 2, .int .i64 m, .int .i64 u, .int .i64 g, .bool o, .slice h.aa at_.length h.ca, .string d, .slice none 0 0] 25)).cell? ⟨b, off, none⟩ = some (.string nm) := by rw [hw5]; exact c4
    clear hw5 hw4 hw3
    generalize hob2 : w2.heap.size = ob at hob hs4 O3 O4 hs5 ⊢
    have HLI : Hid (LI W w4 nb ob (Nd.mk 2 m u g o at_ d ks) h (Nd.mk k3 m3 u3 g3 o3 at3 d3 ks3) hx none 0 []) := ⟨B4, X4, R4, O4, World.ownsRow_nil _ _ _ _, hob, hB4, hsz⟩
    obtain ⟨⟨y0, y1, y2, y3, y4, y5, y6, y7⟩, y8⟩ := id B2
    obtain ⟨⟨q0, q1, q2, q3, q4, q5, q6, q7⟩, q8⟩ := id O3
    go_wp2_with fail
    rw [HW5.out]
    clear y0 y1 y2 y3 y4 y5 y6 y7 y8 q0 q1 q2 q3 q4 q5 q6 q7 q8 HW5 B2 X2 R2 O3 O4 B4 X4 R4 hB2 c2 hs4 hs5 hB4 c5
    refine (namer_any nm _ HNS.out).mono ?_
    rintro e w' ⟨rfl, rfl⟩
    have dA : decide (A < 0) = false := decide_eq_false (by have h1 : 0 ≤ kidI nm ks 0 := HPRE.out; rw [HAe.out] at h1; omega)
    go_wp2
    go_loopw [16, 15] (fun i ld wr => ∃ (j : Nat) (a : Option Addr) (cap : Nat), j ≤ L.length ∧ i = .int .i64 j ∧ ld = .bool (stF true A nm (Nd.mk k3 m3 u3 g3 o3 at3 d3 ks3) hx L j).2 ∧ Hid (LI W wr nb ob (Nd.mk 2 m u g o at_ d ks) h (Nd.mk k3 m3 u3 g3 o3 at3 d3 ks3) hx a cap (stF true A nm (Nd.mk k3 m3 u3 g3 o3 at3 d3 ks3) hx L j).1)) (fun i _ _ => L.length - (intOf i).toNat)
    case atStart => exact ⟨0, none, 0, Nat.zero_le _, rfl, rfl, HLI.out⟩
    case round =>
      obtain ⟨j, a, cap, hj, rfl, rfl, HJ⟩ := hrel
      clear HLI
      obtain ⟨PL, HP⟩ : ∃ s, Hid (stF true A nm (Nd.mk k3 m3 u3 g3 o3 at3 d3 ks3) hx L j = s) := ⟨_, rfl⟩
      rw [HP.out] at HJ ⊢
      obtain ⟨P, ld⟩ := PL
      have HPL : Hid (P.length ≤ 2 * j) := by have := stF_len true A nm (Nd.mk k3 m3 u3 g3 o3 at3 d3 ks3) hx L j; rw [HP.out] at this; exact this
      dsimp only at HJ ⊢
      have c7 : wr.cell? ⟨nb, 7, none⟩ = some (.slice h.ak ks.length h.ck) := HJ.out.B.1.2.2.2.2.2.2.2
      have cN : wr.cell? ⟨b, off, none⟩ = some (.string nm) := (HJ.out.low.cell (p := ⟨b, off, none⟩) (World.block_lt_of_cell? _ _ HNM.out)).trans HNM.out
      have hpl : P.length ≤ 1600 := by have := HPL.out; omega
      have hbl : b < nb := by rw [← hsz]; exact World.block_lt_of_cell? _ _ HNM.out
      by_cases hjl : j < L.length
      rotate_left
      · have hji : decide ((j : Int) < (ks.length : Int)) = false := decide_eq_false (by omega)
        have hjL : j = L.length := by omega
        have HFIN : Hid ((if ld = true then P else P ++ [(nm, (Nd.mk k3 m3 u3 g3 o3 at3 d3 ks3), hx)]) = cutH nm L) := by
          have := st_fin (cut := true) (m := nm) (x := (Nd.mk k3 m3 u3 g3 o3 at3 d3 ks3)) (hx := hx) (L := L) (fun _ => by rw [HLB.out]; have h1 : 0 ≤ kidI nm ks 0 := HPRE.out; omega)
          rw [HLB.out, HAe.out, ← hjL, HP.out] at this
          exact this
        have HMEM : Hid (∀ e ∈ P, e = (nm, (Nd.mk k3 m3 u3 g3 o3 at3 d3 ks3), hx) ∨ e ∈ L) := by
          intro e he
          have := stF_mem (cut := true) (A := A) (m := nm) (x := (Nd.mk k3 m3 u3 g3 o3 at3 d3 ks3)) (hx := hx) (L := L) j e
          rw [HP.out] at this
          exact this he
        have HRES : Hid (∀ Q : Khs, Q = cutH nm L → bare Q = cutK nm ks) := by
          intro Q e
          rw [e, bare_cut, HLB.out]
        have HNQ : Hid (∀ Q : Khs, (∀ e ∈ Q, e = (nm, (Nd.mk k3 m3 u3 g3 o3 at3 d3 ks3), hx) ∨ e ∈ L) → ∀ e ∈ Q, NdV (offS W.cell? S) e.2.1 e.2.2) := by
          intro Q hq e he
          rcases hq e he with e1 | e1
          · rw [e1]; exact HXN.out
          · exact HLK.out.2 e e1
        have hld : ld = true := by
          rcases Bool.eq_false_or_eq_true ld with e | e
          · exact e
          · exfalso
            have h1 := st_cutTrue A nm (Nd.mk k3 m3 u3 g3 o3 at3 d3 ks3) hx L j
            rw [HP.out] at h1
            rw [e] at h1; cases h1
        subst hld
        rw [if_pos rfl] at HFIN
        have hfin := HJ.out.fin HS0.out HN.out (HNQ.out _ HMEM.out)
        have R7 := HJ.out.R.store ((Nd.mk 2 m u g o at_ d ks).with (bare P)) ⟨h.aa, h.ca, a, cap⟩
        have b7 : But (nb + 1 + 1) wr (stB wr (nb + 1 + 1) ((Nd.mk 2 m u g o at_ d ks).with (bare P)) ⟨h.aa, h.ca, a, cap⟩) := stB_but
        have hB7 := HJ.out.low.trans (b7.below (B := W.heap.size) (by omega) HJ.out.low.size)
        have HBQ := HRES.out _ HFIN.out
        obtain ⟨⟨o0, o1, o2, o3', o4, o5, o6, o7⟩, o8⟩ := id HJ.out.O
        obtain ⟨⟨z0, z1, z2, z3, z4, z5, z6, z7⟩, z8⟩ := id HJ.out.R
        rw [HBQ] at hfin R7 hB7 o7
        generalize hw7 : stB wr (nb + 1 + 1) ((Nd.mk 2 m u g o at_ d ks).with (cutK nm ks)) ⟨h.aa, h.ca, a, cap⟩ = w7 at R7 hB7 hfin
        have HW7 : Hid (stB wr (nb + 1 + 1) ((Nd.mk 2 m u g o at_ d ks).with (cutK nm ks)) ⟨h.aa, h.ca, a, cap⟩ = w7) := hw7
        clear hw7 b7 HBQ
        generalize hKQ : cutK nm ks = KQ at R7 hfin HW7 o7
        have HKQ : Hid (cutK nm ks = KQ) := hKQ
        clear hKQ
        go_wp2
        have hw7 := HW7.out
        simp only [stB, Nd.with] at hw7
        rw [hw7]
        obtain ⟨r0, r1, r2, r3, r4, r5, r6, r7⟩ := R7.1
        refine bodyPost_ret (v := .tuple #[ndV ((Nd.mk 2 m u g o at_ d ks).with KQ) ⟨h.aa, h.ca, a, cap⟩, .int .i64 0]) (by simp [results, Try.results92, go_sem, ndV, Nd.with, r0, r1, r2, r3, r4, r5, r6, r7]) rfl (by show RdE W _ S _ (.ok ((Nd.mk 2 m u g o at_ d ks).with (cutK nm ks))); rw [HKQ.out]; exact ⟨⟨⟨h.aa, h.ca, a, cap⟩, rfl, hfin⟩, hB7⟩)
      have hji : decide ((j : Int) < (ks.length : Int)) = true := decide_eq_true (by omega)
      have hjc : (j : Int) < (ks.length : Int) := by omega
      obtain ⟨e, he⟩ : ∃ e, L[j]? = some e := ⟨L[j], List.getElem?_eq_getElem _⟩
      have HNX : Hid (stF true A nm (Nd.mk k3 m3 u3 g3 o3 at3 d3 ks3) hx L (j + 1) = stepB true A nm (Nd.mk k3 m3 u3 g3 o3 at3 d3 ks3) hx j e (P, ld)) := by show _ = _; rw [stF_next he, HP.out]
      obtain ⟨kn, kx, kh⟩ := e
      obtain ⟨k5, m5, u5, g5, o5, at5, d5, ks5⟩ := kx
      obtain ⟨b', off', hak, hKD⟩ : ∃ b' off', h.ak = some ⟨b', off', none⟩ ∧ KdAt W.cell? b' (off' + j * 9) kn (Nd.mk k5 m5 u5 g5 o5 at5 d5 ks5) kh := by
        rcases HLK.out.1 with q | ⟨b', off', q, hc⟩
        · rw [q] at he; simp at he
        · refine ⟨b', off', q, kdAt_iff.2 fun r v hr => ?_⟩
          rw [Nat.add_assoc]
          exact offS_le _ _ _ _ (hc _ _ (kfl_get L j kn (Nd.mk k5 m5 u5 g5 o5 at5 d5 ks5) kh he r v hr))
      have hKw : KdAt wr.cell? b' (off' + j * 9) kn (Nd.mk k5 m5 u5 g5 o5 at5 d5 ks5) kh := hKD.below HJ.out.low
      have hbk : b' < nb := by rw [← hsz]; exact World.block_lt_of_cell? _ _ hKD.nine.1
      have HAK : Hid (h.ak = some ⟨b', off', none⟩) := hak
      clear hak
      have TK : wr.cell? ⟨nb, 7, none⟩ = some (.slice (some ⟨b', off', none⟩) ks.length h.ck) ∧ wr.cell? ⟨b', off' + j * 9, none⟩ = some (.string kn) ∧ wr.cell? ⟨b', off' + j * 9 + 1, none⟩ = some (.int .i64 k5) ∧ wr.cell? ⟨b', off' + j * 9 + 2, none⟩ = some (.int .i64 m5) ∧ wr.cell? ⟨b', off' + j * 9 + 3, none⟩ = some (.int .i64 u5) ∧ wr.cell? ⟨b', off' + j * 9 + 4, none⟩ = some (.int .i64 g5) ∧ wr.cell? ⟨b', off' + j * 9 + 5, none⟩ = some (.bool o5) ∧ wr.cell? ⟨b', off' + j * 9 + 6, none⟩ = some (.slice kh.aa at5.length kh.ca) ∧ wr.cell? ⟨b', off' + j * 9 + 7, none⟩ = some (.string d5) ∧ wr.cell? ⟨b', off' + j * 9 + 8, none⟩ = some (.slice kh.ak ks5.length kh.ck) := by rw [← HAK.out]; exact ⟨c7, hKw.nine⟩
      have TKB : ∀ w', Below ob wr w' → w'.cell? ⟨nb, 7, none⟩ = some (.slice (some ⟨b', off', none⟩) ks.length h.ck) ∧ w'.cell? ⟨b', off' + j * 9, none⟩ = some (.string kn) ∧ w'.cell? ⟨b', off' + j * 9 + 1, none⟩ = some (.int .i64 k5) ∧ w'.cell? ⟨b', off' + j * 9 + 2, none⟩ = some (.int .i64 m5) ∧ w'.cell? ⟨b', off' + j * 9 + 3, none⟩ = some (.int .i64 u5) ∧ w'.cell? ⟨b', off' + j * 9 + 4, none⟩ = some (.int .i64 g5) ∧ w'.cell? ⟨b', off' + j * 9 + 5, none⟩ = some (.bool o5) ∧ w'.cell? ⟨b', off' + j * 9 + 6, none⟩ = some (.slice kh.aa at5.length kh.ca) ∧ w'.cell? ⟨b', off' + j * 9 + 7, none⟩ = some (.string d5) ∧ w'.cell? ⟨b', off' + j * 9 + 8, none⟩ = some (.slice kh.ak ks5.length kh.ck) := fun w' hb => by
        obtain ⟨e0, e1, e2, e3, e4, e5, e6, e7, e8, e9⟩ := TK
        have hlo := HJ.out.lo
        have q : ∀ p : Addr, p.block < ob → w'.cell? p = wr.cell? p := fun p hp => hb.cell hp
        exact ⟨(q _ (by show nb < ob; omega)).trans e0, (q _ (by show b' < ob; omega)).trans e1, (q _ (by show b' < ob; omega)).trans e2, (q _ (by show b' < ob; omega)).trans e3, (q _ (by show b' < ob; omega)).trans e4, (q _ (by show b' < ob; omega)).trans e5, (q _ (by show b' < ob; omega)).trans e6, (q _ (by show b' < ob; omega)).trans e7, (q _ (by show b' < ob; omega)).trans e8, (q _ (by show b' < ob; omega)).trans e9⟩
      clear he hKD hKw
      by_cases hjA : (j : Int) = A
      · have eA : ((j : Int) == A) = true := beq_iff_eq.2 hjA
        have HN1 : Hid (stF true A nm (Nd.mk k3 m3 u3 g3 o3 at3 d3 ks3) hx L (j + 1) = (P, true)) := by show _ = _; rw [HNX.out, stepB, if_pos hjA]; rfl
        clear hjA HNX TK TKB
        go_wp2
        go_roundw
        case rel => exact ⟨j + 1, a, cap, by omega, by go_num, by rw [HN1.out], by rw [HN1.out]; exact HJ.out⟩
        case measure => simp [intOf]; omega
      have eA : ((j : Int) == A) = false := beq_eq_false_iff_ne.2 hjA
      have HN1 : Hid (stF true A nm (Nd.mk k3 m3 u3 g3 o3 at3 d3 ks3) hx L (j + 1) = (P ++ [(kn, (Nd.mk k5 m5 u5 g5 o5 at5 d5 ks5), kh)], ld)) := by
        show _ = _
        rw [HNX.out, stepB, if_neg hjA, if_neg (fun q => by have := of_decide_eq_false dA; exact this q.1)]
      clear hjA HNX
      rw [HAK.out] at c7
      go_wp2_with fail
      go_quiet (fail)
      have HJD : Hid (LI W (wr.drewN nq) nb ob (Nd.mk 2 m u g o at_ d ks) h (Nd.mk k3 m3 u3 g3 o3 at3 d3 ks3) hx a cap P) := HJ.out.drew nq
      clear HJ
      have TKD : (wr.drewN nq).cell? ⟨nb, 7, none⟩ = some (.slice (some ⟨b', off', none⟩) ks.length h.ck) ∧ (wr.drewN nq).cell? ⟨b', off' + j * 9, none⟩ = some (.string kn) ∧ (wr.drewN nq).cell? ⟨b', off' + j * 9 + 1, none⟩ = some (.int .i64 k5) ∧ (wr.drewN nq).cell? ⟨b', off' + j * 9 + 2, none⟩ = some (.int .i64 m5) ∧ (wr.drewN nq).cell? ⟨b', off' + j * 9 + 3, none⟩ = some (.int .i64 u5) ∧ (wr.drewN nq).cell? ⟨b', off' + j * 9 + 4, none⟩ = some (.int .i64 g5) ∧ (wr.drewN nq).cell? ⟨b', off' + j * 9 + 5, none⟩ = some (.bool o5) ∧ (wr.drewN nq).cell? ⟨b', off' + j * 9 + 6, none⟩ = some (.slice kh.aa at5.length kh.ca) ∧ (wr.drewN nq).cell? ⟨b', off' + j * 9 + 7, none⟩ = some (.string d5) ∧ (wr.drewN nq).cell? ⟨b', off' + j * 9 + 8, none⟩ = some (.slice kh.ak ks5.length kh.ck) := TK
      have TKBD : ∀ w', Below ob (wr.drewN nq) w' → w'.cell? ⟨nb, 7, none⟩ = some (.slice (some ⟨b', off', none⟩) ks.length h.ck) ∧ w'.cell? ⟨b', off' + j * 9, none⟩ = some (.string kn) ∧ w'.cell? ⟨b', off' + j * 9 + 1, none⟩ = some (.int .i64 k5) ∧ w'.cell? ⟨b', off' + j * 9 + 2, none⟩ = some (.int .i64 m5) ∧ w'.cell? ⟨b', off' + j * 9 + 3, none⟩ = some (.int .i64 u5) ∧ w'.cell? ⟨b', off' + j * 9 + 4, none⟩ = some (.int .i64 g5) ∧ w'.cell? ⟨b', off' + j * 9 + 5, none⟩ = some (.bool o5) ∧ w'.cell? ⟨b', off' + j * 9 + 6, none⟩ = some (.slice kh.aa at5.length kh.ca) ∧ w'.cell? ⟨b', off' + j * 9 + 7, none⟩ = some (.string d5) ∧ w'.cell? ⟨b', off' + j * 9 + 8, none⟩ = some (.slice kh.ak ks5.length kh.ck) := fun w' hb => TKB w' ((below_drewN (Below.refl _ wr) nq).trans hb)
      clear TK TKB c7 cN TKBD
      have TK := TKD
      clear TKD
      generalize wr.drewN nq = wq at HJD TK ⊢
      go_wp2_with fail
      have hroom := HJD.out.hi
      have hlo5 := HJD.out.lo
      have f0 : wq.cell? ⟨ob, 7, none⟩ = some (.slice a P.length cap) := by have := HJD.out.O.1.2.2.2.2.2.2.2; rw [bare_length] at this; exact this
      have f1 : (wq.drew.alloc (.cells #[.string kn, .int .i64 k5, .int .i64 m5, .int .i64 u5, .int .i64 g5, .bool o5, .slice kh.aa at5.length kh.ca, .string d5, .slice kh.ak ks5.length kh.ck] 102)).cell? ⟨ob, 7, none⟩ = some (.slice a P.length cap) := (((Below.refl _ wq.drew).alloc (Nat.le_refl _) (.cells #[.string kn, .int .i64 k5, .int .i64 m5, .int .i64 u5, .int .i64 g5, .bool o5, .slice kh.aa at5.length kh.ca, .string d5, .slice kh.ak ks5.length kh.ck] 102)).cell (p := ⟨ob, 7, none⟩) hroom).trans f0
      have HROW : Hid (wq.drew.ownsRow (ob + 1) 102 9 (.slice a P.length cap) P.length (kfl P)) := HJD.out.row.drew
      have hszb : ob + 1 ≤ (wq.drew.alloc (.cells #[.string kn, .int .i64 k5, .int .i64 m5, .int .i64 u5, .int .i64 g5, .bool o5, .slice kh.aa at5.length kh.ca, .string d5, .slice kh.ak ks5.length kh.ck] 102)).heap.size := by rw [World.size_alloc]; show ob + 1 ≤ wq.heap.size + 1; omega
      obtain ⟨x0, x1, x2, x3, x4, x5, x6, x7, x8, x9⟩ := TK
      go_region_law (first | (refine step_append_src (wq.drew.alloc (.cells #[.string kn, .int .i64 k5, .int .i64 m5, .int .i64 u5, .int .i64 g5, .bool o5, .slice kh.aa at5.length kh.ca, .string d5, .slice kh.ak ks5.length kh.ck] 102)) (by rfl) (.tmp 139) (.tmp 145) 23 (by rfl) (ob + 1) 102 i0 zK 9 120 Try.underlying23 HI0.out HZ0.out HZ1.out HZ2.out rfl (by decide) (.slice a P.length cap) P.length (kfl P) (by rfl) (HROW.out.alloc _) (some ⟨wq.heap.size, 0, none⟩) 1 1 (kfl [(kn, (Nd.mk k5 m5 u5 g5 o5 at5 d5 ks5), kh)]) (by rfl) (by rfl) (.inr ⟨_, rfl, kid_new wq.drew _ _ _ _⟩) (kfl_one _) (by unfold maxLen; omega) (by omega) hszb ?_; intro v2 w5 hown2 hgrow2 _; obtain ⟨a2, cap2, rfl, HI2, O5, bb, bb2⟩ := HJD.out.next _ (kn, (Nd.mk k5 m5 u5 g5 o5 at5 d5 ks5), kh) v2 hown2 hgrow2; have o7 := O5.1.2.2.2.2.2.2.2; have o8 := O5.2 7; clear hown2 hgrow2 O5))
      all_goals clear x0 x1 x2 x3 x4 x5 x6 x7 x8 x9 f0 f1 HROW hszb hroom hlo5 o7 o8 bb
      all_goals
        clear bb2
        have HQ2 : Hid (LI W (w5.setCell ⟨ob, 7, none⟩ (.slice a2 (P.length + 1) cap2)) nb ob (Nd.mk 2 m u g o at_ d ks) h (Nd.mk k3 m3 u3 g3 o3 at3 d3 ks3) hx a2 cap2 (P ++ [(kn, (Nd.mk k5 m5 u5 g5 o5 at5 d5 ks5), kh)])) := HI2
        clear HI2 HJD
        generalize w5.setCell ⟨ob, 7, none⟩ (.slice a2 (P.length + 1) cap2) = w8 at HQ2 ⊢
        go_wp2
        go_roundw
        case rel => exact ⟨j + 1, a2, cap2, by omega, by go_num, by rw [HN1.out], by rw [HN1.out]; exact HQ2.out⟩
        case measure => simp [intOf]; omega
end Go.Proofs.Ytkkhfnkmfkdhiab

namespace Go.Proofs.Ytkkhfnkmfkdhiab
open Go.RowKit


set_option maxRecDepth 100000 in
set_option maxHeartbeats 8000000 in
theorem rput_putN {W : World} {S : Nat → Bool} (hS0 : ∀ k, S k = true → k < W.heap.size) {x0 : Nd} {h : Hd} (hN : NdV (offS W.cell? S) x0 h) {xp : Nd} {hx : Hd} (hXN : NdV (offS W.cell? S) xp hx) (cut : Bool) (hcut : cut = false) (b off n cl : Nat) (nm : ByteArray) (hnm : W.cell? ⟨b, off, none⟩ = some (.string nm)) (hn : n = 1) (hk2 : x0.kind = 2) (hcnt : cnt x0 ≤ 800) (hsz : nm.size ≤ 1000) (hok : nameB nm = true) (hA : kidI nm x0.kids 0 < 0) :
    Calls Try.prog 92 #[ndV x0 h, .slice (some ⟨b, off, none⟩) n cl, ndV xp hx, .bool cut] W fun e W' => RdE W W' S e (.ok (x0.with (putK nm xp x0.kids))) := by
  subst hcut
  have hn2 : n ≤ 1000 := by omega
  have dn1 : decide ((1 : Int) < (n : Int)) = false := decide_eq_false (by omega)
  have dn2 : decide (1 < n) = false := decide_eq_false (by omega)
  have HNS : Hid (nm.size ≤ 9223372036854775807) := (by show _ ≤ _; omega)
  have HPRE : Hid (nameB nm = true) := hok
  have HSG : Hid (kidI nm x0.kids 0 < 0) := hA
  clear hsz hok hA
  obtain ⟨i0, hi0, hz0, hz1, hz2⟩ := info_three Try.infoK
  have HI0 : Hid _ := hi0
  have HZ0 : Hid _ := hz0
  have HZ1 : Hid _ := hz1
  have HZ2 : Hid _ := hz2
  clear hi0 hz0 hz1 hz2
  obtain ⟨k, m, u, g, o, at_, d, ks⟩ := x0
  obtain ⟨k3, m3, u3, g3, o3, at3, d3, ks3⟩ := xp
  have hk' : k = 2 := hk2
  subst hk'
  show Calls Try.prog 92 #[.agg #[.int .i64 2, .int .i64 m, .int .i64 u, .int .i64 g, .bool o, .slice h.aa at_.length h.ca, .string d, .slice h.ak ks.length h.ck], .slice (some ⟨b, off, none⟩) n cl, .agg #[.int .i64 k3, .int .i64 m3, .int .i64 u3, .int .i64 g3, .bool o3, .slice hx.aa at3.length hx.ca, .string d3, .slice hx.ak ks3.length hx.ck], .bool false] _ _
  obtain ⟨B1, X1, R1, hB1⟩ := three W 2 m u g o at_ d ks h k3 m3 u3 g3 o3 at3 d3 ks3 hx
  have HS0 : Hid (∀ k, S k = true → k < W.heap.size) := hS0
  have HN : Hid (NdV (offS W.cell? S) (.mk 2 m u g o at_ d ks) h) := hN
  have HXN : Hid (NdV (offS W.cell? S) (.mk k3 m3 u3 g3 o3 at3 d3 ks3) hx) := hXN
  have HNM : Hid (W.cell? ⟨b, off, none⟩ = some (.string nm)) := hnm
  have HKF : Hid (kidF nm (.mk 2 m u g o at_ d ks) = kidI nm ks 0) := by show _ = _; rw [kidF, if_pos rfl]
  have hkl : ks.length ≤ 800 := kids_le hcnt
  have dz : ((n : Int) == 0) = false := by simp; omega
  have bk : ((2 : Int) != 2) = false := rfl
  have hn0 : (0 : Int) < (n : Int) := by omega
  have hn00 : 0 < n := by omega
  clear hn
  clear hS0 hN hXN hnm hk2
  obtain ⟨⟨y0, y1, y2, y3, y4, y5, y6, y7⟩, y8⟩ := id B1
  go_enter Try.func92, Try.ntmps92
  go_wp2_with fail
  clear y0 y1 y2 y3 y4 y5 y6 y7 y8
  generalize (((W.alloc (.cells #[.int .i64 2, .int .i64 m, .int .i64 u, .int .i64 g, .bool o, .slice h.aa at_.length h.ca, .string d, .slice h.ak ks.length h.ck] 25)).alloc (.cells #[.int .i64 k3, .int .i64 m3, .int .i64 u3, .int .i64 g3, .bool o3, .slice hx.aa at3.length hx.ca, .string d3, .slice hx.ak ks3.length hx.ck] 25)).alloc (.cells #[.int .i64 0, .int .i64 0, .int .i64 0, .int .i64 0, .bool false, .slice none 0 0, .string ⟨#[]⟩, .slice none 0 0] 25)) = w1 at B1 X1 R1 hB1 ⊢
  have c0 : w1.cell? ⟨b, off, none⟩ = some (.string nm) := (hB1.cell (p := ⟨b, off, none⟩) (World.block_lt_of_cell? _ _ HNM.out)).trans HNM.out
  have hq5 : Below w1.heap.size w1 w1.drew := below_drewN (Below.refl _ _) 1
  have hpl := kid_any (w := W) (HN.out.on (offS_le _ _)) nm w1.drew (hB1.trans (hq5.mono hB1.size)) (fun k1 m1 u1 g1 o1 a1 d1 ks1 e => by cases e; exact Nat.le_trans hkl (by decide))
  have HPL : Hid (Calls Try.prog 114 #[.agg #[.int .i64 2, .int .i64 m, .int .i64 u, .int .i64 g, .bool o, .slice h.aa at_.length h.ca, .string d, .slice h.ak ks.length h.ck], .string nm] w1.drew fun e w' => e = .returned (.int .i64 (kidF nm (.mk 2 m u g o at_ d ks))) ∧ Below w1.drew.heap.size w1.drew w') := hpl
  clear hpl
  generalize hsz : W.heap.size = nb at B1 X1 R1 ⊢
  have T5 : NNm w1.drew nb b off nm (.mk 2 m u g o at_ d ks) h := NNm.of B1.1 c0
  obtain ⟨⟨y0, y1, y2, y3, y4, y5, y6, y7⟩, y8⟩ := id B1
  go_region_held3 (fun w' => w'.cell? ⟨nb, 0, none⟩ = some (.int .i64 2) ∧ w'.cell? ⟨nb, 1, none⟩ = some (.int .i64 m) ∧ w'.cell? ⟨nb, 2, none⟩ = some (.int .i64 u) ∧ w'.cell? ⟨nb, 3, none⟩ = some (.int .i64 g) ∧ w'.cell? ⟨nb, 4, none⟩ = some (.bool o) ∧ w'.cell? ⟨nb, 5, none⟩ = some (.slice h.aa at_.length h.ca) ∧ w'.cell? ⟨nb, 6, none⟩ = some (.string d) ∧ w'.cell? ⟨nb, 7, none⟩ = some (.slice h.ak ks.length h.ck) ∧ w'.cell? ⟨b, off, none⟩ = some (.string nm)) (first | exact T5 | exact T6) (first | (go_at_call 114; refine Calls.mono HPL.out ?_; rintro e w2 ⟨rfl, b4⟩; have T6 : NNm w2 nb b off nm (.mk 2 m u g o at_ d ks) h := T5.below b4))
  all_goals
    have b2 : Below w1.heap.size w1 w2 := hq5.trans b4
    rw [HKF.out]
    have hB2 := hB1.trans (b2.mono hB1.size)
    have B2 := B1.below b2
    have X2 := X1.below b2
    have R2 := R1.below b2
    have c2 := T6.2.2.2.2.2.2.2.2
    clear T5 T6 b4 b2 B1 X1 R1 hB1 c0 HPL hq5 y0 y1 y2 y3 y4 y5 y6 y7 y8
    have bo : Below w2.heap.size w2 (w2.alloc (.cells #[.int .i64 2, .int .i64 m, .int .i64 u, .int .i64 g, .bool o, .slice h.aa at_.length h.ca, .string d, .slice h.ak ks.length h.ck] 25)) := (Below.refl _ _).alloc (Nat.le_refl _) _
    have O3 : NBw (w2.alloc (.cells #[.int .i64 2, .int .i64 m, .int .i64 u, .int .i64 g, .bool o, .slice h.aa at_.length h.ca, .string d, .slice h.ak ks.length h.ck] 25)) w2.heap.size (.mk 2 m u g o at_ d ks) h := NBw.new w2 2 m u g o at_ d ks h
    generalize hw3 : w2.alloc (.cells #[.int .i64 2, .int .i64 m, .int .i64 u, .int .i64 g, .bool o, .slice h.aa at_.length h.ca, .string d, .slice h.ak ks.length h.ck] 25) = w3 at bo O3
    have hob : nb + 1 + 1 < w2.heap.size := R2.1.lt
    have hs4 : w2.heap.size < w3.heap.size := O3.1.lt
    have O4 : NBw (w3.setCell ⟨w2.heap.size, 7, none⟩ (.slice none 0 0)) w2.heap.size (.mk 2 m u g o at_ d []) ⟨h.aa, h.ca, none, 0⟩ := O3.set7 [] none 0
    have b4 : But w2.heap.size w3 (w3.setCell ⟨w2.heap.size, 7, none⟩ (.slice none 0 0)) := (But.refl _ _).setCell _ _ _
    have B4 := (B2.below bo).but b4 (by omega)
    have X4 := (X2.below bo).but b4 (by omega)
    have R4 := (R2.below bo).but b4 (by omega)
    have hB3 := hB2.trans (bo.mono hB2.size)
    have hB4 := hB3.trans (b4.below (B := W.heap.size) (by omega) hB3.size)
    have hs5 := b4.size
    generalize hw4 : w3.setCell ⟨w2.heap.size, 7, none⟩ (.slice none 0 0) = w4 at b4 O4 B4 X4 R4 hB4 hs5
    have c4 : w4.cell? ⟨b, off, none⟩ = some (.string nm) := (hB4.cell (p := ⟨b, off, none⟩) (World.block_lt_of_cell? _ _ HNM.out)).trans HNM.out
    clear bo b4 hB3
    obtain ⟨L, hLb, hLK⟩ := ksV_ksH (ndV_iff.1 HN.out).2.2.2
    have HLB : Hid (bare L = ks) := hLb
    have HLK : Hid (KsH (offS W.cell? S) h.ak L) := hLK
    have hLl : L.length = ks.length := by rw [← hLb, bare_length]
    clear hLb hLK
    obtain ⟨A, HAe⟩ : ∃ A, Hid (kidI nm ks 0 = A) := ⟨_, rfl⟩
    rw [show kidI nm ks 0 = A from HAe.out]
    have hw5 : w2.alloc (.cells #[.int .i64 2, .int .i64 m, .int .i64 u, .int .i64 g, .bool o, .slice h.aa at_.length h.ca, .string d, .slice none 0 0] 25) = w4 := by rw [← hw4, ← hw3]; simp [go_sem]
    have HW5 : Hid (w2.alloc (.cells #[.int .i64 2, .int .i64 m, .int .i64 u, .int .i64 g, .bool o, .slice h.aa at_.length h.ca, .string d, .slice none 0 0] 25) = w4) := hw5
    have c5 : (w2.alloc (.cells #[.int .i64 2, .int .i64 m, .int .i64 u, .int .i64 g, .bool o, .slice h.aa at_.length h.ca, .string d, .slice none 0 0] 25)).cell? ⟨b, off, none⟩ = some (.string nm) := by rw [hw5]; exact c4
    clear hw5 hw4 hw3
    generalize hob2 : w2.heap.size = ob at hob hs4 O3 O4 hs5 ⊢
    have HLI : Hid (LI W w4 nb ob (Nd.mk 2 m u g o at_ d ks) h (Nd.mk k3 m3 u3 g3 o3 at3 d3 ks3) hx none 0 []) := ⟨B4, X4, R4, O4, World.ownsRow_nil _ _ _ _, hob, hB4, hsz⟩
    obtain ⟨⟨y0, y1, y2, y3, y4, y5, y6, y7⟩, y8⟩ := id B2
    obtain ⟨⟨q0, q1, q2, q3, q4, q5, q6, q7⟩, q8⟩ := id O3
    go_wp2_with fail
    rw [HW5.out]
    clear y0 y1 y2 y3 y4 y5 y6 y7 y8 q0 q1 q2 q3 q4 q5 q6 q7 q8 HW5 B2 X2 R2 O3 O4 B4 X4 R4 hB2 c2 hs4 hs5 hB4 c5
    refine (namer_any nm _ HNS.out).mono ?_
    rintro e w' ⟨rfl, rfl⟩
    have hSG : A < 0 := by rw [← HAe.out]; exact HSG.out
    have HSA : Hid (A < 0) := hSG
    clear hSG
    rw [HPRE.out]
    go_wp2
    go_loopw [16, 15] (fun i ld wr => ∃ (j : Nat) (a : Option Addr) (cap : Nat), j ≤ L.length ∧ i = .int .i64 j ∧ ld = .bool (stF false A nm (Nd.mk k3 m3 u3 g3 o3 at3 d3 ks3) hx L j).2 ∧ Hid (LI W wr nb ob (Nd.mk 2 m u g o at_ d ks) h (Nd.mk k3 m3 u3 g3 o3 at3 d3 ks3) hx a cap (stF false A nm (Nd.mk k3 m3 u3 g3 o3 at3 d3 ks3) hx L j).1)) (fun i _ _ => L.length - (intOf i).toNat)
    case atStart => exact ⟨0, none, 0, Nat.zero_le _, rfl, rfl, HLI.out⟩
    case round =>
      obtain ⟨j, a, cap, hj, rfl, rfl, HJ⟩ := hrel
      clear HLI
      obtain ⟨PL, HP⟩ : ∃ s, Hid (stF false A nm (Nd.mk k3 m3 u3 g3 o3 at3 d3 ks3) hx L j = s) := ⟨_, rfl⟩
      rw [HP.out] at HJ ⊢
      obtain ⟨P, ld⟩ := PL
      have HPL : Hid (P.length ≤ 2 * j) := by have := stF_len false A nm (Nd.mk k3 m3 u3 g3 o3 at3 d3 ks3) hx L j; rw [HP.out] at this; exact this
      dsimp only at HJ ⊢
      have c7 : wr.cell? ⟨nb, 7, none⟩ = some (.slice h.ak ks.length h.ck) := HJ.out.B.1.2.2.2.2.2.2.2
      have cN : wr.cell? ⟨b, off, none⟩ = some (.string nm) := (HJ.out.low.cell (p := ⟨b, off, none⟩) (World.block_lt_of_cell? _ _ HNM.out)).trans HNM.out
      have hpl : P.length ≤ 1600 := by have := HPL.out; omega
      have hbl : b < nb := by rw [← hsz]; exact World.block_lt_of_cell? _ _ HNM.out
      by_cases hjl : j < L.length
      rotate_left
      · have hji : decide ((j : Int) < (ks.length : Int)) = false := decide_eq_false (by omega)
        have hjL : j = L.length := by omega
        have HFIN : Hid ((if ld = true then P else P ++ [(nm, (Nd.mk k3 m3 u3 g3 o3 at3 d3 ks3), hx)]) = putH nm (Nd.mk k3 m3 u3 g3 o3 at3 d3 ks3) hx L) := by
          have := st_fin (cut := false) (m := nm) (x := (Nd.mk k3 m3 u3 g3 o3 at3 d3 ks3)) (hx := hx) (L := L) (fun q => Bool.noConfusion q)
          rw [HLB.out, HAe.out, ← hjL, HP.out] at this
          exact this
        have HMEM : Hid (∀ e ∈ P, e = (nm, (Nd.mk k3 m3 u3 g3 o3 at3 d3 ks3), hx) ∨ e ∈ L) := by
          intro e he
          have := stF_mem (cut := false) (A := A) (m := nm) (x := (Nd.mk k3 m3 u3 g3 o3 at3 d3 ks3)) (hx := hx) (L := L) j e
          rw [HP.out] at this
          exact this he
        have HRES : Hid (∀ Q : Khs, Q = putH nm (Nd.mk k3 m3 u3 g3 o3 at3 d3 ks3) hx L → bare Q = putK nm (Nd.mk k3 m3 u3 g3 o3 at3 d3 ks3) ks) := by
          intro Q e
          rw [e, bare_put, HLB.out]
        have HNQ : Hid (∀ Q : Khs, (∀ e ∈ Q, e = (nm, (Nd.mk k3 m3 u3 g3 o3 at3 d3 ks3), hx) ∨ e ∈ L) → ∀ e ∈ Q, NdV (offS W.cell? S) e.2.1 e.2.2) := by
          intro Q hq e he
          rcases hq e he with e1 | e1
          · rw [e1]; exact HXN.out
          · exact HLK.out.2 e e1
        cases ld
        · have HEQ : Hid (P ++ [(nm, (Nd.mk k3 m3 u3 g3 o3 at3 d3 ks3), hx)] = putH nm (Nd.mk k3 m3 u3 g3 o3 at3 d3 ks3) hx L) := by have := HFIN.out; rwa [if_neg (by decide)] at this
          clear HFIN
          have TS : wr.cell? ⟨nb + 1, 0, none⟩ = some (.int .i64 k3) ∧ wr.cell? ⟨nb + 1, 1, none⟩ = some (.int .i64 m3) ∧ wr.cell? ⟨nb + 1, 2, none⟩ = some (.int .i64 u3) ∧ wr.cell? ⟨nb + 1, 3, none⟩ = some (.int .i64 g3) ∧ wr.cell? ⟨nb + 1, 4, none⟩ = some (.bool o3) ∧ wr.cell? ⟨nb + 1, 5, none⟩ = some (.slice hx.aa at3.length hx.ca) ∧ wr.cell? ⟨nb + 1, 6, none⟩ = some (.string d3) ∧ wr.cell? ⟨nb + 1, 7, none⟩ = some (.slice hx.ak ks3.length hx.ck) ∧ wr.cell? ⟨b, off, none⟩ = some (.string nm) := NNm.of HJ.out.X.1 cN
          go_wp2_with fail
          have hroom := HJ.out.hi
          have hlo5 := HJ.out.lo
          have f0 : wr.cell? ⟨ob, 7, none⟩ = some (.slice a P.length cap) := by have := HJ.out.O.1.2.2.2.2.2.2.2; rw [bare_length] at this; exact this
          have f1 : (wr.drew.alloc (.cells #[.string nm, .int .i64 k3, .int .i64 m3, .int .i64 u3, .int .i64 g3, .bool o3, .slice hx.aa at3.length hx.ca, .string d3, .slice hx.ak ks3.length hx.ck] 102)).cell? ⟨ob, 7, none⟩ = some (.slice a P.length cap) := (((Below.refl _ wr.drew).alloc (Nat.le_refl _) (.cells #[.string nm, .int .i64 k3, .int .i64 m3, .int .i64 u3, .int .i64 g3, .bool o3, .slice hx.aa at3.length hx.ca, .string d3, .slice hx.ak ks3.length hx.ck] 102)).cell (p := ⟨ob, 7, none⟩) hroom).trans f0
          have HROW : Hid (wr.drew.ownsRow (ob + 1) 102 9 (.slice a P.length cap) P.length (kfl P)) := HJ.out.row.drew
          have hszb : ob + 1 ≤ (wr.drew.alloc (.cells #[.string nm, .int .i64 k3, .int .i64 m3, .int .i64 u3, .int .i64 g3, .bool o3, .slice hx.aa at3.length hx.ca, .string d3, .slice hx.ak ks3.length hx.ck] 102)).heap.size := by rw [World.size_alloc]; show ob + 1 ≤ wr.heap.size + 1; omega
          obtain ⟨x0, x1, x2, x3, x4, x5, x6, x7, x8⟩ := TS
          go_region_law (first | (refine step_append_src (wr.drew.alloc (.cells #[.string nm, .int .i64 k3, .int .i64 m3, .int .i64 u3, .int .i64 g3, .bool o3, .slice hx.aa at3.length hx.ca, .string d3, .slice hx.ak ks3.length hx.ck] 102)) (by rfl) (.tmp 151) (.tmp 157) 23 (by rfl) (ob + 1) 102 i0 zK 9 120 Try.underlying23 HI0.out HZ0.out HZ1.out HZ2.out rfl (by decide) (.slice a P.length cap) P.length (kfl P) (by rfl) (HROW.out.alloc _) (some ⟨wr.heap.size, 0, none⟩) 1 1 (kfl [(nm, (Nd.mk k3 m3 u3 g3 o3 at3 d3 ks3), hx)]) (by rfl) (by rfl) (.inr ⟨_, rfl, kid_new wr.drew _ _ _ _⟩) (kfl_one _) (by unfold maxLen; omega) (by omega) hszb ?_; intro v2 w5 hown2 hgrow2 _; obtain ⟨a2, cap2, rfl, HI2, O5, bb, bb2⟩ := HJ.out.next _ (nm, (Nd.mk k3 m3 u3 g3 o3 at3 d3 ks3), hx) v2 hown2 hgrow2; have o7 := O5.1.2.2.2.2.2.2.2; have o8 := O5.2 7; clear hown2 hgrow2 O5))
          all_goals clear x0 x1 x2 x3 x4 x5 x6 x7 x8 f0 f1 HROW hszb hroom hlo5 o7 o8 bb
          all_goals
            clear bb2
            have HQ : Hid (LI W (w5.setCell ⟨ob, 7, none⟩ (.slice a2 (P.length + 1) cap2)) nb ob (Nd.mk 2 m u g o at_ d ks) h (Nd.mk k3 m3 u3 g3 o3 at3 d3 ks3) hx a2 cap2 (P ++ [(nm, (Nd.mk k3 m3 u3 g3 o3 at3 d3 ks3), hx)])) := HI2
            clear HI2 HJ c7 cN
            generalize w5.setCell ⟨ob, 7, none⟩ (.slice a2 (P.length + 1) cap2) = w6 at HQ ⊢
            have hfin := HQ.out.fin HS0.out HN.out (HNQ.out _ (fun e he => by rcases List.mem_append.1 he with q | q; exact HMEM.out e q; exact .inl (List.mem_singleton.1 q)))
            have R7 := HQ.out.R.store ((Nd.mk 2 m u g o at_ d ks).with (bare (P ++ [(nm, (Nd.mk k3 m3 u3 g3 o3 at3 d3 ks3), hx)]))) ⟨h.aa, h.ca, a2, cap2⟩
            have b7 : But (nb + 1 + 1) w6 (stB w6 (nb + 1 + 1) ((Nd.mk 2 m u g o at_ d ks).with (bare (P ++ [(nm, (Nd.mk k3 m3 u3 g3 o3 at3 d3 ks3), hx)]))) ⟨h.aa, h.ca, a2, cap2⟩) := stB_but
            have hB7 := HQ.out.low.trans (b7.below (B := W.heap.size) (by omega) HQ.out.low.size)
            have HBQ := HRES.out _ HEQ.out
            obtain ⟨⟨o0, o1, o2, o3', o4, o5, o6, o7⟩, o8⟩ := id HQ.out.O
            obtain ⟨⟨z0, z1, z2, z3, z4, z5, z6, z7⟩, z8⟩ := id HQ.out.R
            rw [HBQ] at hfin R7 hB7 o7
            generalize hw7 : stB w6 (nb + 1 + 1) ((Nd.mk 2 m u g o at_ d ks).with (putK nm (Nd.mk k3 m3 u3 g3 o3 at3 d3 ks3) ks)) ⟨h.aa, h.ca, a2, cap2⟩ = w7 at R7 hB7 hfin
            have HW7 : Hid (stB w6 (nb + 1 + 1) ((Nd.mk 2 m u g o at_ d ks).with (putK nm (Nd.mk k3 m3 u3 g3 o3 at3 d3 ks3) ks)) ⟨h.aa, h.ca, a2, cap2⟩ = w7) := hw7
            clear hw7 b7 HBQ
            generalize hKQ : putK nm (Nd.mk k3 m3 u3 g3 o3 at3 d3 ks3) ks = KQ at R7 hfin HW7 o7
            have HKQ : Hid (putK nm (Nd.mk k3 m3 u3 g3 o3 at3 d3 ks3) ks = KQ) := hKQ
            clear hKQ
            go_wp2
            have hw7 := HW7.out
            simp only [stB, Nd.with] at hw7
            rw [hw7]
            obtain ⟨r0, r1, r2, r3, r4, r5, r6, r7⟩ := R7.1
            refine bodyPost_ret (v := .tuple #[ndV ((Nd.mk 2 m u g o at_ d ks).with KQ) ⟨h.aa, h.ca, a2, cap2⟩, .int .i64 0]) (by simp [results, Try.results92, go_sem, ndV, Nd.with, r0, r1, r2, r3, r4, r5, r6, r7]) rfl (by show RdE W _ S _ (.ok ((Nd.mk 2 m u g o at_ d ks).with (putK nm (Nd.mk k3 m3 u3 g3 o3 at3 d3 ks3) ks))); rw [HKQ.out]; exact ⟨⟨⟨h.aa, h.ca, a2, cap2⟩, rfl, hfin⟩, hB7⟩)
        · rw [if_pos rfl] at HFIN
          have hfin := HJ.out.fin HS0.out HN.out (HNQ.out _ HMEM.out)
          have R7 := HJ.out.R.store ((Nd.mk 2 m u g o at_ d ks).with (bare P)) ⟨h.aa, h.ca, a, cap⟩
          have b7 : But (nb + 1 + 1) wr (stB wr (nb + 1 + 1) ((Nd.mk 2 m u g o at_ d ks).with (bare P)) ⟨h.aa, h.ca, a, cap⟩) := stB_but
          have hB7 := HJ.out.low.trans (b7.below (B := W.heap.size) (by omega) HJ.out.low.size)
          have HBQ := HRES.out _ HFIN.out
          obtain ⟨⟨o0, o1, o2, o3', o4, o5, o6, o7⟩, o8⟩ := id HJ.out.O
          obtain ⟨⟨z0, z1, z2, z3, z4, z5, z6, z7⟩, z8⟩ := id HJ.out.R
          rw [HBQ] at hfin R7 hB7 o7
          generalize hw7 : stB wr (nb + 1 + 1) ((Nd.mk 2 m u g o at_ d ks).with (putK nm (Nd.mk k3 m3 u3 g3 o3 at3 d3 ks3) ks)) ⟨h.aa, h.ca, a, cap⟩ = w7 at R7 hB7 hfin
          have HW7 : Hid (stB wr (nb + 1 + 1) ((Nd.mk 2 m u g o at_ d ks).with (putK nm (Nd.mk k3 m3 u3 g3 o3 at3 d3 ks3) ks)) ⟨h.aa, h.ca, a, cap⟩ = w7) := hw7
          clear hw7 b7 HBQ
          generalize hKQ : putK nm (Nd.mk k3 m3 u3 g3 o3 at3 d3 ks3) ks = KQ at R7 hfin HW7 o7
          have HKQ : Hid (putK nm (Nd.mk k3 m3 u3 g3 o3 at3 d3 ks3) ks = KQ) := hKQ
          clear hKQ
          go_wp2
          have hw7 := HW7.out
          simp only [stB, Nd.with] at hw7
          rw [hw7]
          obtain ⟨r0, r1, r2, r3, r4, r5, r6, r7⟩ := R7.1
          refine bodyPost_ret (v := .tuple #[ndV ((Nd.mk 2 m u g o at_ d ks).with KQ) ⟨h.aa, h.ca, a, cap⟩, .int .i64 0]) (by simp [results, Try.results92, go_sem, ndV, Nd.with, r0, r1, r2, r3, r4, r5, r6, r7]) rfl (by show RdE W _ S _ (.ok ((Nd.mk 2 m u g o at_ d ks).with (putK nm (Nd.mk k3 m3 u3 g3 o3 at3 d3 ks3) ks))); rw [HKQ.out]; exact ⟨⟨⟨h.aa, h.ca, a, cap⟩, rfl, hfin⟩, hB7⟩)
      have hji : decide ((j : Int) < (ks.length : Int)) = true := decide_eq_true (by omega)
      have hjc : (j : Int) < (ks.length : Int) := by omega
      obtain ⟨e, he⟩ : ∃ e, L[j]? = some e := ⟨L[j], List.getElem?_eq_getElem _⟩
      have HNX : Hid (stF false A nm (Nd.mk k3 m3 u3 g3 o3 at3 d3 ks3) hx L (j + 1) = stepB false A nm (Nd.mk k3 m3 u3 g3 o3 at3 d3 ks3) hx j e (P, ld)) := by show _ = _; rw [stF_next he, HP.out]
      obtain ⟨kn, kx, kh⟩ := e
      obtain ⟨k5, m5, u5, g5, o5, at5, d5, ks5⟩ := kx
      obtain ⟨b', off', hak, hKD⟩ : ∃ b' off', h.ak = some ⟨b', off', none⟩ ∧ KdAt W.cell? b' (off' + j * 9) kn (Nd.mk k5 m5 u5 g5 o5 at5 d5 ks5) kh := by
        rcases HLK.out.1 with q | ⟨b', off', q, hc⟩
        · rw [q] at he; simp at he
        · refine ⟨b', off', q, kdAt_iff.2 fun r v hr => ?_⟩
          rw [Nat.add_assoc]
          exact offS_le _ _ _ _ (hc _ _ (kfl_get L j kn (Nd.mk k5 m5 u5 g5 o5 at5 d5 ks5) kh he r v hr))
      have hKw : KdAt wr.cell? b' (off' + j * 9) kn (Nd.mk k5 m5 u5 g5 o5 at5 d5 ks5) kh := hKD.below HJ.out.low
      have hbk : b' < nb := by rw [← hsz]; exact World.block_lt_of_cell? _ _ hKD.nine.1
      have HAK : Hid (h.ak = some ⟨b', off', none⟩) := hak
      clear hak
      have TK : wr.cell? ⟨nb, 7, none⟩ = some (.slice (some ⟨b', off', none⟩) ks.length h.ck) ∧ wr.cell? ⟨b', off' + j * 9, none⟩ = some (.string kn) ∧ wr.cell? ⟨b', off' + j * 9 + 1, none⟩ = some (.int .i64 k5) ∧ wr.cell? ⟨b', off' + j * 9 + 2, none⟩ = some (.int .i64 m5) ∧ wr.cell? ⟨b', off' + j * 9 + 3, none⟩ = some (.int .i64 u5) ∧ wr.cell? ⟨b', off' + j * 9 + 4, none⟩ = some (.int .i64 g5) ∧ wr.cell? ⟨b', off' + j * 9 + 5, none⟩ = some (.bool o5) ∧ wr.cell? ⟨b', off' + j * 9 + 6, none⟩ = some (.slice kh.aa at5.length kh.ca) ∧ wr.cell? ⟨b', off' + j * 9 + 7, none⟩ = some (.string d5) ∧ wr.cell? ⟨b', off' + j * 9 + 8, none⟩ = some (.slice kh.ak ks5.length kh.ck) := by rw [← HAK.out]; exact ⟨c7, hKw.nine⟩
      have TKB : ∀ w', Below ob wr w' → w'.cell? ⟨nb, 7, none⟩ = some (.slice (some ⟨b', off', none⟩) ks.length h.ck) ∧ w'.cell? ⟨b', off' + j * 9, none⟩ = some (.string kn) ∧ w'.cell? ⟨b', off' + j * 9 + 1, none⟩ = some (.int .i64 k5) ∧ w'.cell? ⟨b', off' + j * 9 + 2, none⟩ = some (.int .i64 m5) ∧ w'.cell? ⟨b', off' + j * 9 + 3, none⟩ = some (.int .i64 u5) ∧ w'.cell? ⟨b', off' + j * 9 + 4, none⟩ = some (.int .i64 g5) ∧ w'.cell? ⟨b', off' + j * 9 + 5, none⟩ = some (.bool o5) ∧ w'.cell? ⟨b', off' + j * 9 + 6, none⟩ = some (.slice kh.aa at5.length kh.ca) ∧ w'.cell? ⟨b', off' + j * 9 + 7, none⟩ = some (.string d5) ∧ w'.cell? ⟨b', off' + j * 9 + 8, none⟩ = some (.slice kh.ak ks5.length kh.ck) := fun w' hb => by
        obtain ⟨e0, e1, e2, e3, e4, e5, e6, e7, e8, e9⟩ := TK
        have hlo := HJ.out.lo
        have q : ∀ p : Addr, p.block < ob → w'.cell? p = wr.cell? p := fun p hp => hb.cell hp
        exact ⟨(q _ (by show nb < ob; omega)).trans e0, (q _ (by show b' < ob; omega)).trans e1, (q _ (by show b' < ob; omega)).trans e2, (q _ (by show b' < ob; omega)).trans e3, (q _ (by show b' < ob; omega)).trans e4, (q _ (by show b' < ob; omega)).trans e5, (q _ (by show b' < ob; omega)).trans e6, (q _ (by show b' < ob; omega)).trans e7, (q _ (by show b' < ob; omega)).trans e8, (q _ (by show b' < ob; omega)).trans e9⟩
      clear he hKD hKw
      have hjA : ¬ (j : Int) = A := by have := HSA.out; omega
      have eA : ((j : Int) == A) = false := beq_eq_false_iff_ne.2 hjA
      rw [HAK.out] at c7
      obtain ⟨_, kk1, _⟩ := id TK
      have hA0 : A < 0 := HSA.out
      have dA : decide (A < 0) = true := decide_eq_true hA0
      cases ld
      rotate_left
      · have HN1 : Hid (stF false A nm (Nd.mk k3 m3 u3 g3 o3 at3 d3 ks3) hx L (j + 1) = (P ++ [(kn, (Nd.mk k5 m5 u5 g5 o5 at5 d5 ks5), kh)], true)) := by
          show _ = _
          rw [HNX.out, stepB, if_neg hjA, if_neg (fun q => Bool.noConfusion q.2.1)]
        clear hjA HNX kk1
        go_wp2_with fail
        go_quiet (fail)
        have HJD : Hid (LI W (wr.drewN nq) nb ob (Nd.mk 2 m u g o at_ d ks) h (Nd.mk k3 m3 u3 g3 o3 at3 d3 ks3) hx a cap P) := HJ.out.drew nq
        clear HJ
        have TKD : (wr.drewN nq).cell? ⟨nb, 7, none⟩ = some (.slice (some ⟨b', off', none⟩) ks.length h.ck) ∧ (wr.drewN nq).cell? ⟨b', off' + j * 9, none⟩ = some (.string kn) ∧ (wr.drewN nq).cell? ⟨b', off' + j * 9 + 1, none⟩ = some (.int .i64 k5) ∧ (wr.drewN nq).cell? ⟨b', off' + j * 9 + 2, none⟩ = some (.int .i64 m5) ∧ (wr.drewN nq).cell? ⟨b', off' + j * 9 + 3, none⟩ = some (.int .i64 u5) ∧ (wr.drewN nq).cell? ⟨b', off' + j * 9 + 4, none⟩ = some (.int .i64 g5) ∧ (wr.drewN nq).cell? ⟨b', off' + j * 9 + 5, none⟩ = some (.bool o5) ∧ (wr.drewN nq).cell? ⟨b', off' + j * 9 + 6, none⟩ = some (.slice kh.aa at5.length kh.ca) ∧ (wr.drewN nq).cell? ⟨b', off' + j * 9 + 7, none⟩ = some (.string d5) ∧ (wr.drewN nq).cell? ⟨b', off' + j * 9 + 8, none⟩ = some (.slice kh.ak ks5.length kh.ck) := TK
        have TKBD : ∀ w', Below ob (wr.drewN nq) w' → w'.cell? ⟨nb, 7, none⟩ = some (.slice (some ⟨b', off', none⟩) ks.length h.ck) ∧ w'.cell? ⟨b', off' + j * 9, none⟩ = some (.string kn) ∧ w'.cell? ⟨b', off' + j * 9 + 1, none⟩ = some (.int .i64 k5) ∧ w'.cell? ⟨b', off' + j * 9 + 2, none⟩ = some (.int .i64 m5) ∧ w'.cell? ⟨b', off' + j * 9 + 3, none⟩ = some (.int .i64 u5) ∧ w'.cell? ⟨b', off' + j * 9 + 4, none⟩ = some (.int .i64 g5) ∧ w'.cell? ⟨b', off' + j * 9 + 5, none⟩ = some (.bool o5) ∧ w'.cell? ⟨b', off' + j * 9 + 6, none⟩ = some (.slice kh.aa at5.length kh.ca) ∧ w'.cell? ⟨b', off' + j * 9 + 7, none⟩ = some (.string d5) ∧ w'.cell? ⟨b', off' + j * 9 + 8, none⟩ = some (.slice kh.ak ks5.length kh.ck) := fun w' hb => TKB w' ((below_drewN (Below.refl _ wr) nq).trans hb)
        have cND : (wr.drewN nq).cell? ⟨b, off, none⟩ = some (.string nm) := cN
        clear TK TKB c7 cN
        have TK := TKD
        clear TKD
        generalize wr.drewN nq = wq at HJD TK TKBD cND ⊢
        go_wp2_with fail
        clear TKBD cND
        have hroom := HJD.out.hi
        have hlo5 := HJD.out.lo
        have f0 : wq.cell? ⟨ob, 7, none⟩ = some (.slice a P.length cap) := by have := HJD.out.O.1.2.2.2.2.2.2.2; rw [bare_length] at this; exact this
        have f1 : (wq.drew.alloc (.cells #[.string kn, .int .i64 k5, .int .i64 m5, .int .i64 u5, .int .i64 g5, .bool o5, .slice kh.aa at5.length kh.ca, .string d5, .slice kh.ak ks5.length kh.ck] 102)).cell? ⟨ob, 7, none⟩ = some (.slice a P.length cap) := (((Below.refl _ wq.drew).alloc (Nat.le_refl _) (.cells #[.string kn, .int .i64 k5, .int .i64 m5, .int .i64 u5, .int .i64 g5, .bool o5, .slice kh.aa at5.length kh.ca, .string d5, .slice kh.ak ks5.length kh.ck] 102)).cell (p := ⟨ob, 7, none⟩) hroom).trans f0
        have HROW : Hid (wq.drew.ownsRow (ob + 1) 102 9 (.slice a P.length cap) P.length (kfl P)) := HJD.out.row.drew
        have hszb : ob + 1 ≤ (wq.drew.alloc (.cells #[.string kn, .int .i64 k5, .int .i64 m5, .int .i64 u5, .int .i64 g5, .bool o5, .slice kh.aa at5.length kh.ca, .string d5, .slice kh.ak ks5.length kh.ck] 102)).heap.size := by rw [World.size_alloc]; show ob + 1 ≤ wq.heap.size + 1; omega
        obtain ⟨x0, x1, x2, x3, x4, x5, x6, x7, x8, x9⟩ := TK
        go_region_law (first | (refine step_append_src (wq.drew.alloc (.cells #[.string kn, .int .i64 k5, .int .i64 m5, .int .i64 u5, .int .i64 g5, .bool o5, .slice kh.aa at5.length kh.ca, .string d5, .slice kh.ak ks5.length kh.ck] 102)) (by rfl) (.tmp 139) (.tmp 145) 23 (by rfl) (ob + 1) 102 i0 zK 9 120 Try.underlying23 HI0.out HZ0.out HZ1.out HZ2.out rfl (by decide) (.slice a P.length cap) P.length (kfl P) (by rfl) (HROW.out.alloc _) (some ⟨wq.heap.size, 0, none⟩) 1 1 (kfl [(kn, (Nd.mk k5 m5 u5 g5 o5 at5 d5 ks5), kh)]) (by rfl) (by rfl) (.inr ⟨_, rfl, kid_new wq.drew _ _ _ _⟩) (kfl_one _) (by unfold maxLen; omega) (by omega) hszb ?_; intro v2 w5 hown2 hgrow2 _; obtain ⟨a2, cap2, rfl, HI2, O5, bb, bb2⟩ := HJD.out.next _ (kn, (Nd.mk k5 m5 u5 g5 o5 at5 d5 ks5), kh) v2 hown2 hgrow2; have o7 := O5.1.2.2.2.2.2.2.2; have o8 := O5.2 7; clear hown2 hgrow2 O5))
        all_goals clear x0 x1 x2 x3 x4 x5 x6 x7 x8 x9 f0 f1 HROW hszb hroom hlo5 o7 o8 bb
        all_goals
          clear bb2
          have HQ2 : Hid (LI W (w5.setCell ⟨ob, 7, none⟩ (.slice a2 (P.length + 1) cap2)) nb ob (Nd.mk 2 m u g o at_ d ks) h (Nd.mk k3 m3 u3 g3 o3 at3 d3 ks3) hx a2 cap2 (P ++ [(kn, (Nd.mk k5 m5 u5 g5 o5 at5 d5 ks5), kh)])) := HI2
          clear HI2 HJD
          generalize w5.setCell ⟨ob, 7, none⟩ (.slice a2 (P.length + 1) cap2) = w8 at HQ2 ⊢
          go_wp2
          go_roundw
          case rel => exact ⟨j + 1, a2, cap2, by omega, by go_num, by rw [HN1.out], by rw [HN1.out]; exact HQ2.out⟩
          case measure => simp [intOf]; omega
      have hgt := gtr_eq kn nm
      cases hlt : ltB nm kn
      · rw [hlt] at hgt
        have HN1 : Hid (stF false A nm (Nd.mk k3 m3 u3 g3 o3 at3 d3 ks3) hx L (j + 1) = (P ++ [(kn, (Nd.mk k5 m5 u5 g5 o5 at5 d5 ks5), kh)], false)) := by
          show _ = _
          rw [HNX.out, stepB, if_neg hjA, if_neg (fun q => by have h3 := q.2.2; dsimp only at h3; rw [hlt] at h3; cases h3)]
        clear hjA HNX hlt
        have hgt2 : Op.bytesLess kn.toList nm.toList = true ∨ (kn.toList == nm.toList) = true := by
          cases e1 : Op.bytesLess kn.toList nm.toList <;> cases e2 : (kn.toList == nm.toList) <;> simp [e1, e2] at hgt ⊢
        clear hgt
        rcases hgt2 with eL | eE
        · skip
          go_wp2_with fail
          go_quiet (fail)
          have HJD : Hid (LI W (wr.drewN nq) nb ob (Nd.mk 2 m u g o at_ d ks) h (Nd.mk k3 m3 u3 g3 o3 at3 d3 ks3) hx a cap P) := HJ.out.drew nq
          clear HJ
          have TKD : (wr.drewN nq).cell? ⟨nb, 7, none⟩ = some (.slice (some ⟨b', off', none⟩) ks.length h.ck) ∧ (wr.drewN nq).cell? ⟨b', off' + j * 9, none⟩ = some (.string kn) ∧ (wr.drewN nq).cell? ⟨b', off' + j * 9 + 1, none⟩ = some (.int .i64 k5) ∧ (wr.drewN nq).cell? ⟨b', off' + j * 9 + 2, none⟩ = some (.int .i64 m5) ∧ (wr.drewN nq).cell? ⟨b', off' + j * 9 + 3, none⟩ = some (.int .i64 u5) ∧ (wr.drewN nq).cell? ⟨b', off' + j * 9 + 4, none⟩ = some (.int .i64 g5) ∧ (wr.drewN nq).cell? ⟨b', off' + j * 9 + 5, none⟩ = some (.bool o5) ∧ (wr.drewN nq).cell? ⟨b', off' + j * 9 + 6, none⟩ = some (.slice kh.aa at5.length kh.ca) ∧ (wr.drewN nq).cell? ⟨b', off' + j * 9 + 7, none⟩ = some (.string d5) ∧ (wr.drewN nq).cell? ⟨b', off' + j * 9 + 8, none⟩ = some (.slice kh.ak ks5.length kh.ck) := TK
          have TKBD : ∀ w', Below ob (wr.drewN nq) w' → w'.cell? ⟨nb, 7, none⟩ = some (.slice (some ⟨b', off', none⟩) ks.length h.ck) ∧ w'.cell? ⟨b', off' + j * 9, none⟩ = some (.string kn) ∧ w'.cell? ⟨b', off' + j * 9 + 1, none⟩ = some (.int .i64 k5) ∧ w'.cell? ⟨b', off' + j * 9 + 2, none⟩ = some (.int .i64 m5) ∧ w'.cell? ⟨b', off' + j * 9 + 3, none⟩ = some (.int .i64 u5) ∧ w'.cell? ⟨b', off' + j * 9 + 4, none⟩ = some (.int .i64 g5) ∧ w'.cell? ⟨b', off' + j * 9 + 5, none⟩ = some (.bool o5) ∧ w'.cell? ⟨b', off' + j * 9 + 6, none⟩ = some (.slice kh.aa at5.length kh.ca) ∧ w'.cell? ⟨b', off' + j * 9 + 7, none⟩ = some (.string d5) ∧ w'.cell? ⟨b', off' + j * 9 + 8, none⟩ = some (.slice kh.ak ks5.length kh.ck) := fun w' hb => TKB w' ((below_drewN (Below.refl _ wr) nq).trans hb)
          have cND : (wr.drewN nq).cell? ⟨b, off, none⟩ = some (.string nm) := cN
          clear TK TKB c7 cN
          have TK := TKD
          clear TKD
          generalize wr.drewN nq = wq at HJD TK TKBD cND ⊢
          go_wp2_with fail
          clear TKBD cND
          have hroom := HJD.out.hi
          have hlo5 := HJD.out.lo
          have f0 : wq.cell? ⟨ob, 7, none⟩ = some (.slice a P.length cap) := by have := HJD.out.O.1.2.2.2.2.2.2.2; rw [bare_length] at this; exact this
          have f1 : (wq.drew.alloc (.cells #[.string kn, .int .i64 k5, .int .i64 m5, .int .i64 u5, .int .i64 g5, .bool o5, .slice kh.aa at5.length kh.ca, .string d5, .slice kh.ak ks5.length kh.ck] 102)).cell? ⟨ob, 7, none⟩ = some (.slice a P.length cap) := (((Below.refl _ wq.drew).alloc (Nat.le_refl _) (.cells #[.string kn, .int .i64 k5, .int .i64 m5, .int .i64 u5, .int .i64 g5, .bool o5, .slice kh.aa at5.length kh.ca, .string d5, .slice kh.ak ks5.length kh.ck] 102)).cell (p := ⟨ob, 7, none⟩) hroom).trans f0
          have HROW : Hid (wq.drew.ownsRow (ob + 1) 102 9 (.slice a P.length cap) P.length (kfl P)) := HJD.out.row.drew
          have hszb : ob + 1 ≤ (wq.drew.alloc (.cells #[.string kn, .int .i64 k5, .int .i64 m5, .int .i64 u5, .int .i64 g5, .bool o5, .slice kh.aa at5.length kh.ca, .string d5, .slice kh.ak ks5.length kh.ck] 102)).heap.size := by rw [World.size_alloc]; show ob + 1 ≤ wq.heap.size + 1; omega
          obtain ⟨x0, x1, x2, x3, x4, x5, x6, x7, x8, x9⟩ := TK
          go_region_law (first | (refine step_append_src (wq.drew.alloc (.cells #[.string kn, .int .i64 k5, .int .i64 m5, .int .i64 u5, .int .i64 g5, .bool o5, .slice kh.aa at5.length kh.ca, .string d5, .slice kh.ak ks5.length kh.ck] 102)) (by rfl) (.tmp 139) (.tmp 145) 23 (by rfl) (ob + 1) 102 i0 zK 9 120 Try.underlying23 HI0.out HZ0.out HZ1.out HZ2.out rfl (by decide) (.slice a P.length cap) P.length (kfl P) (by rfl) (HROW.out.alloc _) (some ⟨wq.heap.size, 0, none⟩) 1 1 (kfl [(kn, (Nd.mk k5 m5 u5 g5 o5 at5 d5 ks5), kh)]) (by rfl) (by rfl) (.inr ⟨_, rfl, kid_new wq.drew _ _ _ _⟩) (kfl_one _) (by unfold maxLen; omega) (by omega) hszb ?_; intro v2 w5 hown2 hgrow2 _; obtain ⟨a2, cap2, rfl, HI2, O5, bb, bb2⟩ := HJD.out.next _ (kn, (Nd.mk k5 m5 u5 g5 o5 at5 d5 ks5), kh) v2 hown2 hgrow2; have o7 := O5.1.2.2.2.2.2.2.2; have o8 := O5.2 7; clear hown2 hgrow2 O5))
          all_goals clear x0 x1 x2 x3 x4 x5 x6 x7 x8 x9 f0 f1 HROW hszb hroom hlo5 o7 o8 bb
          all_goals
            clear bb2
            have HQ2 : Hid (LI W (w5.setCell ⟨ob, 7, none⟩ (.slice a2 (P.length + 1) cap2)) nb ob (Nd.mk 2 m u g o at_ d ks) h (Nd.mk k3 m3 u3 g3 o3 at3 d3 ks3) hx a2 cap2 (P ++ [(kn, (Nd.mk k5 m5 u5 g5 o5 at5 d5 ks5), kh)])) := HI2
            clear HI2 HJD
            generalize w5.setCell ⟨ob, 7, none⟩ (.slice a2 (P.length + 1) cap2) = w8 at HQ2 ⊢
            go_wp2
            go_roundw
            case rel => exact ⟨j + 1, a2, cap2, by omega, by go_num, by rw [HN1.out], by rw [HN1.out]; exact HQ2.out⟩
            case measure => simp [intOf]; omega
        · skip
          go_wp2_with fail
          go_quiet (fail)
          have HJD : Hid (LI W (wr.drewN nq) nb ob (Nd.mk 2 m u g o at_ d ks) h (Nd.mk k3 m3 u3 g3 o3 at3 d3 ks3) hx a cap P) := HJ.out.drew nq
          clear HJ
          have TKD : (wr.drewN nq).cell? ⟨nb, 7, none⟩ = some (.slice (some ⟨b', off', none⟩) ks.length h.ck) ∧ (wr.drewN nq).cell? ⟨b', off' + j * 9, none⟩ = some (.string kn) ∧ (wr.drewN nq).cell? ⟨b', off' + j * 9 + 1, none⟩ = some (.int .i64 k5) ∧ (wr.drewN nq).cell? ⟨b', off' + j * 9 + 2, none⟩ = some (.int .i64 m5) ∧ (wr.drewN nq).cell? ⟨b', off' + j * 9 + 3, none⟩ = some (.int .i64 u5) ∧ (wr.drewN nq).cell? ⟨b', off' + j * 9 + 4, none⟩ = some (.int .i64 g5) ∧ (wr.drewN nq).cell? ⟨b', off' + j * 9 + 5, none⟩ = some (.bool o5) ∧ (wr.drewN nq).cell? ⟨b', off' + j * 9 + 6, none⟩ = some (.slice kh.aa at5.length kh.ca) ∧ (wr.drewN nq).cell? ⟨b', off' + j * 9 + 7, none⟩ = some (.string d5) ∧ (wr.drewN nq).cell? ⟨b', off' + j * 9 + 8, none⟩ = some (.slice kh.ak ks5.length kh.ck) := TK
          have TKBD : ∀ w', Below ob (wr.drewN nq) w' → w'.cell? ⟨nb, 7, none⟩ = some (.slice (some ⟨b', off', none⟩) ks.length h.ck) ∧ w'.cell? ⟨b', off' + j * 9, none⟩ = some (.string kn) ∧ w'.cell? ⟨b', off' + j * 9 + 1, none⟩ = some (.int .i64 k5) ∧ w'.cell? ⟨b', off' + j * 9 + 2, none⟩ = some (.int .i64 m5) ∧ w'.cell? ⟨b', off' + j * 9 + 3, none⟩ = some (.int .i64 u5) ∧ w'.cell? ⟨b', off' + j * 9 + 4, none⟩ = some (.int .i64 g5) ∧ w'.cell? ⟨b', off' + j * 9 + 5, none⟩ = some (.bool o5) ∧ w'.cell? ⟨b', off' + j * 9 + 6, none⟩ = some (.slice kh.aa at5.length kh.ca) ∧ w'.cell? ⟨b', off' + j * 9 + 7, none⟩ = some (.string d5) ∧ w'.cell? ⟨b', off' + j * 9 + 8, none⟩ = some (.slice kh.ak ks5.length kh.ck) := fun w' hb => TKB w' ((below_drewN (Below.refl _ wr) nq).trans hb)
          have cND : (wr.drewN nq).cell? ⟨b, off, none⟩ = some (.string nm) := cN
          clear TK TKB c7 cN
          have TK := TKD
          clear TKD
          generalize wr.drewN nq = wq at HJD TK TKBD cND ⊢
          go_wp2_with fail
          clear TKBD cND
          have hroom := HJD.out.hi
          have hlo5 := HJD.out.lo
          have f0 : wq.cell? ⟨ob, 7, none⟩ = some (.slice a P.length cap) := by have := HJD.out.O.1.2.2.2.2.2.2.2; rw [bare_length] at this; exact this
          have f1 : (wq.drew.alloc (.cells #[.string kn, .int .i64 k5, .int .i64 m5, .int .i64 u5, .int .i64 g5, .bool o5, .slice kh.aa at5.length kh.ca, .string d5, .slice kh.ak ks5.length kh.ck] 102)).cell? ⟨ob, 7, none⟩ = some (.slice a P.length cap) := (((Below.refl _ wq.drew).alloc (Nat.le_refl _) (.cells #[.string kn, .int .i64 k5, .int .i64 m5, .int .i64 u5, .int .i64 g5, .bool o5, .slice kh.aa at5.length kh.ca, .string d5, .slice kh.ak ks5.length kh.ck] 102)).cell (p := ⟨ob, 7, none⟩) hroom).trans f0
          have HROW : Hid (wq.drew.ownsRow (ob + 1) 102 9 (.slice a P.length cap) P.length (kfl P)) := HJD.out.row.drew
          have hszb : ob + 1 ≤ (wq.drew.alloc (.cells #[.string kn, .int .i64 k5, .int .i64 m5, .int .i64 u5, .int .i64 g5, .bool o5, .slice kh.aa at5.length kh.ca, .string d5, .slice kh.ak ks5.length kh.ck] 102)).heap.size := by rw [World.size_alloc]; show ob + 1 ≤ wq.heap.size + 1; omega
          obtain ⟨x0, x1, x2, x3, x4, x5, x6, x7, x8, x9⟩ := TK
          go_region_law (first | (refine step_append_src (wq.drew.alloc (.cells #[.string kn, .int .i64 k5, .int .i64 m5, .int .i64 u5, .int .i64 g5, .bool o5, .slice kh.aa at5.length kh.ca, .string d5, .slice kh.ak ks5.length kh.ck] 102)) (by rfl) (.tmp 139) (.tmp 145) 23 (by rfl) (ob + 1) 102 i0 zK 9 120 Try.underlying23 HI0.out HZ0.out HZ1.out HZ2.out rfl (by decide) (.slice a P.length cap) P.length (kfl P) (by rfl) (HROW.out.alloc _) (some ⟨wq.heap.size, 0, none⟩) 1 1 (kfl [(kn, (Nd.mk k5 m5 u5 g5 o5 at5 d5 ks5), kh)]) (by rfl) (by rfl) (.inr ⟨_, rfl, kid_new wq.drew _ _ _ _⟩) (kfl_one _) (by unfold maxLen; omega) (by omega) hszb ?_; intro v2 w5 hown2 hgrow2 _; obtain ⟨a2, cap2, rfl, HI2, O5, bb, bb2⟩ := HJD.out.next _ (kn, (Nd.mk k5 m5 u5 g5 o5 at5 d5 ks5), kh) v2 hown2 hgrow2; have o7 := O5.1.2.2.2.2.2.2.2; have o8 := O5.2 7; clear hown2 hgrow2 O5))
          all_goals clear x0 x1 x2 x3 x4 x5 x6 x7 x8 x9 f0 f1 HROW hszb hroom hlo5 o7 o8 bb
          all_goals
            clear bb2
            have HQ2 : Hid (LI W (w5.setCell ⟨ob, 7, none⟩ (.slice a2 (P.length + 1) cap2)) nb ob (Nd.mk 2 m u g o at_ d ks) h (Nd.mk k3 m3 u3 g3 o3 at3 d3 ks3) hx a2 cap2 (P ++ [(kn, (Nd.mk k5 m5 u5 g5 o5 at5 d5 ks5), kh)])) := HI2
            clear HI2 HJD
            generalize w5.setCell ⟨ob, 7, none⟩ (.slice a2 (P.length + 1) cap2) = w8 at HQ2 ⊢
            go_wp2
            go_roundw
            case rel => exact ⟨j + 1, a2, cap2, by omega, by go_num, by rw [HN1.out], by rw [HN1.out]; exact HQ2.out⟩
            case measure => simp [intOf]; omega
      · rw [hlt] at hgt
        have HN1 : Hid (stF false A nm (Nd.mk k3 m3 u3 g3 o3 at3 d3 ks3) hx L (j + 1) = ((P ++ [(nm, (Nd.mk k3 m3 u3 g3 o3 at3 d3 ks3), hx)]) ++ [(kn, (Nd.mk k5 m5 u5 g5 o5 at5 d5 ks5), kh)], true)) := by
          show _ = _
          rw [HNX.out, stepB, if_neg hjA, if_pos ⟨hA0, rfl, hlt⟩]
        clear hjA HNX hlt
        obtain ⟨eL, eE⟩ : Op.bytesLess kn.toList nm.toList = false ∧ (kn.toList == nm.toList) = false := by
          cases e1 : Op.bytesLess kn.toList nm.toList <;> cases e2 : (kn.toList == nm.toList) <;> simp [e1, e2] at hgt ⊢
        clear hgt
        go_wp2_with fail
        go_quiet (fail)
        have HJD : Hid (LI W (wr.drewN nq) nb ob (Nd.mk 2 m u g o at_ d ks) h (Nd.mk k3 m3 u3 g3 o3 at3 d3 ks3) hx a cap P) := HJ.out.drew nq
        clear HJ
        have TKD : (wr.drewN nq).cell? ⟨nb, 7, none⟩ = some (.slice (some ⟨b', off', none⟩) ks.length h.ck) ∧ (wr.drewN nq).cell? ⟨b', off' + j * 9, none⟩ = some (.string kn) ∧ (wr.drewN nq).cell? ⟨b', off' + j * 9 + 1, none⟩ = some (.int .i64 k5) ∧ (wr.drewN nq).cell? ⟨b', off' + j * 9 + 2, none⟩ = some (.int .i64 m5) ∧ (wr.drewN nq).cell? ⟨b', off' + j * 9 + 3, none⟩ = some (.int .i64 u5) ∧ (wr.drewN nq).cell? ⟨b', off' + j * 9 + 4, none⟩ = some (.int .i64 g5) ∧ (wr.drewN nq).cell? ⟨b', off' + j * 9 + 5, none⟩ = some (.bool o5) ∧ (wr.drewN nq).cell? ⟨b', off' + j * 9 + 6, none⟩ = some (.slice kh.aa at5.length kh.ca) ∧ (wr.drewN nq).cell? ⟨b', off' + j * 9 + 7, none⟩ = some (.string d5) ∧ (wr.drewN nq).cell? ⟨b', off' + j * 9 + 8, none⟩ = some (.slice kh.ak ks5.length kh.ck) := TK
        have TKBD : ∀ w', Below ob (wr.drewN nq) w' → w'.cell? ⟨nb, 7, none⟩ = some (.slice (some ⟨b', off', none⟩) ks.length h.ck) ∧ w'.cell? ⟨b', off' + j * 9, none⟩ = some (.string kn) ∧ w'.cell? ⟨b', off' + j * 9 + 1, none⟩ = some (.int .i64 k5) ∧ w'.cell? ⟨b', off' + j * 9 + 2, none⟩ = some (.int .i64 m5) ∧ w'.cell? ⟨b', off' + j * 9 + 3, none⟩ = some (.int .i64 u5) ∧ w'.cell? ⟨b', off' + j * 9 + 4, none⟩ = some (.int .i64 g5) ∧ w'.cell? ⟨b', off' + j * 9 + 5, none⟩ = some (.bool o5) ∧ w'.cell? ⟨b', off' + j * 9 + 6, none⟩ = some (.slice kh.aa at5.length kh.ca) ∧ w'.cell? ⟨b', off' + j * 9 + 7, none⟩ = some (.string d5) ∧ w'.cell? ⟨b', off' + j * 9 + 8, none⟩ = some (.slice kh.ak ks5.length kh.ck) := fun w' hb => TKB w' ((below_drewN (Below.refl _ wr) nq).trans hb)
        have cND : (wr.drewN nq).cell? ⟨b, off, none⟩ = some (.string nm) := cN
        clear TK TKB c7 cN
        have TK := TKD
        clear TKD
        generalize wr.drewN nq = wq at HJD TK TKBD cND ⊢
        go_wp2_with fail
        have TS : wq.cell? ⟨nb + 1, 0, none⟩ = some (.int .i64 k3) ∧ wq.cell? ⟨nb + 1, 1, none⟩ = some (.int .i64 m3) ∧ wq.cell? ⟨nb + 1, 2, none⟩ = some (.int .i64 u3) ∧ wq.cell? ⟨nb + 1, 3, none⟩ = some (.int .i64 g3) ∧ wq.cell? ⟨nb + 1, 4, none⟩ = some (.bool o3) ∧ wq.cell? ⟨nb + 1, 5, none⟩ = some (.slice hx.aa at3.length hx.ca) ∧ wq.cell? ⟨nb + 1, 6, none⟩ = some (.string d3) ∧ wq.cell? ⟨nb + 1, 7, none⟩ = some (.slice hx.ak ks3.length hx.ck) ∧ wq.cell? ⟨b, off, none⟩ = some (.string nm) := NNm.of HJD.out.X.1 cND
        go_cut [16] from 88 to 147 (fun i6 w6 => i6 = .int .i64 j ∧ ∃ (a2 : Option Addr) (cap2 : Nat), Hid (LI W w6 nb ob (Nd.mk 2 m u g o at_ d ks) h (Nd.mk k3 m3 u3 g3 o3 at3 d3 ks3) hx a2 cap2 (P ++ [(nm, (Nd.mk k3 m3 u3 g3 o3 at3 d3 ks3), hx)])) ∧ w6.cell? ⟨nb, 7, none⟩ = some (.slice (some ⟨b', off', none⟩) ks.length h.ck) ∧ w6.cell? ⟨b', off' + j * 9, none⟩ = some (.string kn) ∧ w6.cell? ⟨b', off' + j * 9 + 1, none⟩ = some (.int .i64 k5) ∧ w6.cell? ⟨b', off' + j * 9 + 2, none⟩ = some (.int .i64 m5) ∧ w6.cell? ⟨b', off' + j * 9 + 3, none⟩ = some (.int .i64 u5) ∧ w6.cell? ⟨b', off' + j * 9 + 4, none⟩ = some (.int .i64 g5) ∧ w6.cell? ⟨b', off' + j * 9 + 5, none⟩ = some (.bool o5) ∧ w6.cell? ⟨b', off' + j * 9 + 6, none⟩ = some (.slice kh.aa at5.length kh.ca) ∧ w6.cell? ⟨b', off' + j * 9 + 7, none⟩ = some (.string d5) ∧ w6.cell? ⟨b', off' + j * 9 + 8, none⟩ = some (.slice kh.ak ks5.length kh.ck))
        case first =>
          have hroom := HJD.out.hi
          have hlo5 := HJD.out.lo
          have f0 : wq.cell? ⟨ob, 7, none⟩ = some (.slice a P.length cap) := by have := HJD.out.O.1.2.2.2.2.2.2.2; rw [bare_length] at this; exact this
          have f1 : (wq.drew.alloc (.cells #[.string nm, .int .i64 k3, .int .i64 m3, .int .i64 u3, .int .i64 g3, .bool o3, .slice hx.aa at3.length hx.ca, .string d3, .slice hx.ak ks3.length hx.ck] 102)).cell? ⟨ob, 7, none⟩ = some (.slice a P.length cap) := (((Below.refl _ wq.drew).alloc (Nat.le_refl _) (.cells #[.string nm, .int .i64 k3, .int .i64 m3, .int .i64 u3, .int .i64 g3, .bool o3, .slice hx.aa at3.length hx.ca, .string d3, .slice hx.ak ks3.length hx.ck] 102)).cell (p := ⟨ob, 7, none⟩) hroom).trans f0
          have HROW : Hid (wq.drew.ownsRow (ob + 1) 102 9 (.slice a P.length cap) P.length (kfl P)) := HJD.out.row.drew
          have hszb : ob + 1 ≤ (wq.drew.alloc (.cells #[.string nm, .int .i64 k3, .int .i64 m3, .int .i64 u3, .int .i64 g3, .bool o3, .slice hx.aa at3.length hx.ca, .string d3, .slice hx.ak ks3.length hx.ck] 102)).heap.size := by rw [World.size_alloc]; show ob + 1 ≤ wq.heap.size + 1; omega
          obtain ⟨x0, x1, x2, x3, x4, x5, x6, x7, x8⟩ := TS
          go_region_law (first | (refine step_append_src (wq.drew.alloc (.cells #[.string nm, .int .i64 k3, .int .i64 m3, .int .i64 u3, .int .i64 g3, .bool o3, .slice hx.aa at3.length hx.ca, .string d3, .slice hx.ak ks3.length hx.ck] 102)) (by rfl) (.tmp 129) (.tmp 135) 23 (by rfl) (ob + 1) 102 i0 zK 9 120 Try.underlying23 HI0.out HZ0.out HZ1.out HZ2.out rfl (by decide) (.slice a P.length cap) P.length (kfl P) (by rfl) (HROW.out.alloc _) (some ⟨wq.heap.size, 0, none⟩) 1 1 (kfl [(nm, (Nd.mk k3 m3 u3 g3 o3 at3 d3 ks3), hx)]) (by rfl) (by rfl) (.inr ⟨_, rfl, kid_new wq.drew _ _ _ _⟩) (kfl_one _) (by unfold maxLen; omega) (by omega) hszb ?_; intro v2 w5 hown2 hgrow2 _; obtain ⟨a2, cap2, rfl, HI2, O5, bb, bb2⟩ := HJD.out.next _ (nm, (Nd.mk k3 m3 u3 g3 o3 at3 d3 ks3), hx) v2 hown2 hgrow2; have o7 := O5.1.2.2.2.2.2.2.2; have o8 := O5.2 7; clear hown2 hgrow2 O5))
          all_goals clear x0 x1 x2 x3 x4 x5 x6 x7 x8 f0 f1 HROW hszb hroom hlo5 o7 o8 bb
          all_goals
            have TK5 := TKBD _ bb2
            go_wp2_with fail
            go_meet
            case rel => exact ⟨rfl, a2, cap2, HI2, TK5⟩
        case rest =>
          obtain ⟨rfl, a2, cap2, HQ, TK5⟩ := hcut
          clear TK TKBD cND TS
          have TK := TK5
          clear TK5
          have hPQ : (P ++ [(nm, (Nd.mk k3 m3 u3 g3 o3 at3 d3 ks3), hx)]).length ≤ 1601 := by simp; omega
          clear HJD
          generalize P ++ [(nm, (Nd.mk k3 m3 u3 g3 o3 at3 d3 ks3), hx)] = PQ at HQ HN1 hPQ
          go_wp2_with fail
          have hroom := HQ.out.hi
          have hlo5 := HQ.out.lo
          have f0 : wc.cell? ⟨ob, 7, none⟩ = some (.slice a2 PQ.length cap2) := by have := HQ.out.O.1.2.2.2.2.2.2.2; rw [bare_length] at this; exact this
          have f1 : (wc.drew.alloc (.cells #[.string kn, .int .i64 k5, .int .i64 m5, .int .i64 u5, .int .i64 g5, .bool o5, .slice kh.aa at5.length kh.ca, .string d5, .slice kh.ak ks5.length kh.ck] 102)).cell? ⟨ob, 7, none⟩ = some (.slice a2 PQ.length cap2) := (((Below.refl _ wc.drew).alloc (Nat.le_refl _) (.cells #[.string kn, .int .i64 k5, .int .i64 m5, .int .i64 u5, .int .i64 g5, .bool o5, .slice kh.aa at5.length kh.ca, .string d5, .slice kh.ak ks5.length kh.ck] 102)).cell (p := ⟨ob, 7, none⟩) hroom).trans f0
          have HROW : Hid (wc.drew.ownsRow (ob + 1) 102 9 (.slice a2 PQ.length cap2) PQ.length (kfl PQ)) := HQ.out.row.drew
          have hszb : ob + 1 ≤ (wc.drew.alloc (.cells #[.string kn, .int .i64 k5, .int .i64 m5, .int .i64 u5, .int .i64 g5, .bool o5, .slice kh.aa at5.length kh.ca, .string d5, .slice kh.ak ks5.length kh.ck] 102)).heap.size := by rw [World.size_alloc]; show ob + 1 ≤ wc.heap.size + 1; omega
          obtain ⟨x0, x1, x2, x3, x4, x5, x6, x7, x8, x9⟩ := TK
          go_region_law (first | (refine step_append_src (wc.drew.alloc (.cells #[.string kn, .int .i64 k5, .int .i64 m5, .int .i64 u5, .int .i64 g5, .bool o5, .slice kh.aa at5.length kh.ca, .string d5, .slice kh.ak ks5.length kh.ck] 102)) (by rfl) (.tmp 139) (.tmp 145) 23 (by rfl) (ob + 1) 102 i0 zK 9 120 Try.underlying23 HI0.out HZ0.out HZ1.out HZ2.out rfl (by decide) (.slice a2 PQ.length cap2) PQ.length (kfl PQ) (by rfl) (HROW.out.alloc _) (some ⟨wc.heap.size, 0, none⟩) 1 1 (kfl [(kn, (Nd.mk k5 m5 u5 g5 o5 at5 d5 ks5), kh)]) (by rfl) (by rfl) (.inr ⟨_, rfl, kid_new wc.drew _ _ _ _⟩) (kfl_one _) (by unfold maxLen; omega) (by omega) hszb ?_; intro v3 w7 hown2 hgrow2 _; obtain ⟨a3, cap3, rfl, HI2, O5, bb, bb2⟩ := HQ.out.next _ (kn, (Nd.mk k5 m5 u5 g5 o5 at5 d5 ks5), kh) v3 hown2 hgrow2; have o7 := O5.1.2.2.2.2.2.2.2; have o8 := O5.2 7; clear hown2 hgrow2 O5))
          all_goals clear x0 x1 x2 x3 x4 x5 x6 x7 x8 x9 f0 f1 HROW hszb hroom hlo5 o7 o8 bb
          all_goals
            clear bb2
            have HQ2 : Hid (LI W (w7.setCell ⟨ob, 7, none⟩ (.slice a3 (PQ.length + 1) cap3)) nb ob (Nd.mk 2 m u g o at_ d ks) h (Nd.mk k3 m3 u3 g3 o3 at3 d3 ks3) hx a3 cap3 (PQ ++ [(kn, (Nd.mk k5 m5 u5 g5 o5 at5 d5 ks5), kh)])) := HI2
            clear HI2 HQ
            generalize w7.setCell ⟨ob, 7, none⟩ (.slice a3 (PQ.length + 1) cap3) = w8 at HQ2 ⊢
            go_wp2
            go_roundw
            case rel => exact ⟨j + 1, a3, cap3, by omega, by go_num, by rw [HN1.out], by rw [HN1.out]; exact HQ2.out⟩
            case measure => simp [intOf]; omega
end Go.Proofs.Ytkkhfnkmfkdhiab
