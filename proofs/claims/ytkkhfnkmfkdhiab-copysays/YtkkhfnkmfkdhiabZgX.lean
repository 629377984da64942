/-
  WHAT THE DOCUMENT's Put DOES, one step down, and an error from below: the walk.
  WHAT THE DOCUMENT's Put DOES, one step down, and a node from below: the walk.
-/
import Derived.Test.YtkkhfnkmfkdhiabZbaX
import Derived.Test.YtkkhfnkmfkdhiabZhX
import Derived.Deep.Cut
namespace Go.Proofs.Ytkkhfnkmfkdhiab
open Go.RowKit

set_option maxRecDepth 100000 in
set_option maxHeartbeats 4000000 in
theorem rput_downE {W : World} {S : Nat → Bool} (hS0 : ∀ k, S k = true → k < W.heap.size) {x0 : Nd} {h : Hd} (hN : NdV (offS W.cell? S) x0 h) {xp : Nd} {hx : Hd} (hXN : NdV (offS W.cell? S) xp hx) (cut : Bool) (b off n cl : Nat) (nm : ByteArray) (hnm : W.cell? ⟨b, off, none⟩ = some (.string nm)) (hn : 1 < n) (hn2 : n ≤ 1000) (hcl : n ≤ cl) (hk2 : x0.kind = 2) (hcnt : cnt x0 ≤ 800) (p : Nat) (z : Nd) (hA : kidI nm x0.kids 0 = (p : Int)) (hz0 : x0.kids[p]? = some (nm, z)) (f : Int) (hf : 0 < f)
    (IH : ∀ (W1 : World) (S1 : Nat → Bool), (∀ k, S1 k = true → k < W1.heap.size) → Below W.heap.size W W1 → ∀ hz, NdV (offS W1.cell? S1) z hz → NdV (offS W1.cell? S1) xp hx → Calls Try.prog 92 #[ndV z hz, .slice (some ⟨b, off + 1, none⟩) (n - 1) (cl - 1), ndV xp hx, .bool cut] W1 fun e W' => RdE W1 W' S1 e (.error f)) :
    Calls Try.prog 92 #[ndV x0 h, .slice (some ⟨b, off, none⟩) n cl, ndV xp hx, .bool cut] W fun e W' => RdE W W' S e (.error f) := by
  have HA : Hid (kidI nm x0.kids 0 = (p : Int)) := hA
  have HIH : Hid _ := IH
  have HZ0 : Hid (x0.kids[p]? = some (nm, z)) := hz0
  have dn1 : decide ((1 : Int) < (n : Int)) = true := decide_eq_true (by omega)
  have dn2 : decide (1 < n) = true := decide_eq_true hn
  have dn3 : (1 : Int) ≤ (n : Int) := by omega
  have dn4 : (n : Int) ≤ (cl : Int) := by omega
  have ncl : ¬ cl = 1 := by omega
  have df : decide (0 < f) = true := decide_eq_true hf
  have dp : decide ((p : Int) < 0) = false := decide_eq_false (by omega)
  clear hA IH hz0 hf
  obtain ⟨k, m, u, g, o, at_, d, ks⟩ := x0
  obtain ⟨k3, m3, u3, g3, o3, at3, d3, ks3⟩ := xp
  have hk' : k = 2 := hk2
  subst hk'
  show Calls Try.prog 92 #[.agg #[.int .i64 2, .int .i64 m, .int .i64 u, .int .i64 g, .bool o, .slice h.aa at_.length h.ca, .string d, .slice h.ak ks.length h.ck], .slice (some ⟨b, off, none⟩) n cl, .agg #[.int .i64 k3, .int .i64 m3, .int .i64 u3, .int .i64 g3, .bool o3, .slice hx.aa at3.length hx.ca, .string d3, .slice hx.ak ks3.length hx.ck], .bool cut] _ _
  obtain ⟨B1, X1, R1, hB1⟩ := three W 2 m u g o at_ d ks h k3 m3 u3 g3 o3 at3 d3 ks3 hx
  have HS0 : Hid (∀ k, S k = true → k < W.heap.size) := hS0
  have HN : Hid (NdV (offS W.cell? S) (.mk 2 m u g o at_ d ks) h) := hN
  have HXN : Hid (NdV (offS W.cell? S) (.mk k3 m3 u3 g3 o3 at3 d3 ks3) hx) := hXN
  have HNM : Hid (W.cell? ⟨b, off, none⟩ = some (.string nm)) := hnm
  have HKF : Hid (kidF nm (.mk 2 m u g o at_ d ks) = kidI nm ks 0) := by show _ = _; rw [kidF, if_pos rfl]
  have hkl : ks.length ≤ 800 := kids_le hcnt
  have dz : ((n : Int) == 0) = false := by simp; omega
  have bk : ((2 : Int) != 2) = false := rfl
  have hn0 : (0 : Int) < (n : Int) := by omega
  have hn00 : 0 < n := by omega
  clear hS0 hN hXN hnm hk2
  obtain ⟨⟨y0, y1, y2, y3, y4, y5, y6, y7⟩, y8⟩ := id B1
  go_enter Try.func92, Try.ntmps92
  go_wp2_with fail
  clear y0 y1 y2 y3 y4 y5 y6 y7 y8
  generalize (((W.alloc (.cells #[.int .i64 2, .int .i64 m, .int .i64 u, .int .i64 g, .bool o, .slice h.aa at_.length h.ca, .string d, .slice h.ak ks.length h.ck] 25)).alloc (.cells #[.int .i64 k3, .int .i64 m3, .int .i64 u3, .int .i64 g3, .bool o3, .slice hx.aa at3.length hx.ca, .string d3, .slice hx.ak ks3.length hx.ck] 25)).alloc (.cells #[.int .i64 0, .int .i64 0, .int .i64 0, .int .i64 0, .bool false, .slice none 0 0, .string ⟨#[]⟩, .slice none 0 0] 25)) = w1 at B1 X1 R1 hB1 ⊢
  have c0 : w1.cell? ⟨b, off, none⟩ = some (.string nm) := (hB1.cell (p := ⟨b, off, none⟩) (World.block_lt_of_cell? _ _ HNM.out)).trans HNM.out
  have hq5 : Below w1.heap.size w1 w1.drew := below_drewN (Below.refl _ _) 1
  have hpl := kid_any (w := W) (HN.out.on (offS_le _ _)) nm w1.drew (hB1.trans (hq5.mono hB1.size)) (fun k1 m1 u1 g1 o1 a1 d1 ks1 e => by cases e; exact Nat.le_trans hkl (by decide))
  have HPL : Hid (Calls Try.prog 114 #[.agg #[.int .i64 2, .int .i64 m, .int .i64 u, .int .i64 g, .bool o, .slice h.aa at_.length h.ca, .string d, .slice h.ak ks.length h.ck], .string nm] w1.drew fun e w' => e = .returned (.int .i64 (kidF nm (.mk 2 m u g o at_ d ks))) ∧ Below w1.drew.heap.size w1.drew w') := hpl
  clear hpl
  generalize hsz : W.heap.size = nb at B1 X1 R1 ⊢
  have T5 : NNm w1.drew nb b off nm (.mk 2 m u g o at_ d ks) h := NNm.of B1.1 c0
  obtain ⟨⟨y0, y1, y2, y3, y4, y5, y6, y7⟩, y8⟩ := id B1
  go_region_held3 (fun w' => w'.cell? ⟨nb, 0, none⟩ = some (.int .i64 2) ∧ w'.cell? ⟨nb, 1, none⟩ = some (.int .i64 m) ∧ w'.cell? ⟨nb, 2, none⟩ = some (.int .i64 u) ∧ w'.cell? ⟨nb, 3, none⟩ = some (.int .i64 g) ∧ w'.cell? ⟨nb, 4, none⟩ = some (.bool o) ∧ w'.cell? ⟨nb, 5, none⟩ = some (.slice h.aa at_.length h.ca) ∧ w'.cell? ⟨nb, 6, none⟩ = some (.string d) ∧ w'.cell? ⟨nb, 7, none⟩ = some (.slice h.ak ks.length h.ck) ∧ w'.cell? ⟨b, off, none⟩ = some (.string nm)) (first | exact T5 | exact T6) (first | (go_at_call 114; refine Calls.mono HPL.out ?_; rintro e w2 ⟨rfl, b4⟩; have T6 : NNm w2 nb b off nm (.mk 2 m u g o at_ d ks) h := T5.below b4))
  all_goals
    have b2 : Below w1.heap.size w1 w2 := hq5.trans b4
    rw [HKF.out]
    have hB2 := hB1.trans (b2.mono hB1.size)
    have B2 := B1.below b2
    have X2 := X1.below b2
    have R2 := R1.below b2
    have c2 := T6.2.2.2.2.2.2.2.2
    clear T5 T6 b4 b2 B1 X1 R1 hB1 c0 HPL hq5 y0 y1 y2 y3 y4 y5 y6 y7 y8
    have bo : Below w2.heap.size w2 (w2.alloc (.cells #[.int .i64 2, .int .i64 m, .int .i64 u, .int .i64 g, .bool o, .slice h.aa at_.length h.ca, .string d, .slice h.ak ks.length h.ck] 25)) := (Below.refl _ _).alloc (Nat.le_refl _) _
    have O3 : NBw (w2.alloc (.cells #[.int .i64 2, .int .i64 m, .int .i64 u, .int .i64 g, .bool o, .slice h.aa at_.length h.ca, .string d, .slice h.ak ks.length h.ck] 25)) w2.heap.size (.mk 2 m u g o at_ d ks) h := NBw.new w2 2 m u g o at_ d ks h
    generalize hw3 : w2.alloc (.cells #[.int .i64 2, .int .i64 m, .int .i64 u, .int .i64 g, .bool o, .slice h.aa at_.length h.ca, .string d, .slice h.ak ks.length h.ck] 25) = w3 at bo O3
    have hob : nb + 1 + 1 < w2.heap.size := R2.1.lt
    have hs4 : w2.heap.size < w3.heap.size := O3.1.lt
    have O4 : NBw (w3.setCell ⟨w2.heap.size, 7, none⟩ (.slice none 0 0)) w2.heap.size (.mk 2 m u g o at_ d []) ⟨h.aa, h.ca, none, 0⟩ := O3.set7 [] none 0
    have b4 : But w2.heap.size w3 (w3.setCell ⟨w2.heap.size, 7, none⟩ (.slice none 0 0)) := (But.refl _ _).setCell _ _ _
    have B4 := (B2.below bo).but b4 (by omega)
    have X4 := (X2.below bo).but b4 (by omega)
    have R4 := (R2.below bo).but b4 (by omega)
    have hB3 := hB2.trans (bo.mono hB2.size)
    have hB4 := hB3.trans (b4.below (B := W.heap.size) (by omega) hB3.size)
    have hs5 := b4.size
    generalize hw4 : w3.setCell ⟨w2.heap.size, 7, none⟩ (.slice none 0 0) = w4 at b4 O4 B4 X4 R4 hB4 hs5
    have c4 : w4.cell? ⟨b, off, none⟩ = some (.string nm) := (hB4.cell (p := ⟨b, off, none⟩) (World.block_lt_of_cell? _ _ HNM.out)).trans HNM.out
    clear bo b4 hB3
    rw [show kidI nm ks 0 = (p : Int) from HA.out]
    have hplt : p < ks.length := (List.getElem?_eq_some_iff.1 HZ0.out).1
    have hpi2 : (p : Int) < (ks.length : Int) := by omega
    obtain ⟨L, hLb, hLK⟩ := ksV_ksH (ndV_iff.1 HN.out).2.2.2
    have HLB : Hid (bare L = ks) := hLb
    have HLL : Hid (L.length = ks.length) := by show _ = _; rw [← hLb, bare_length]
    have HLK : Hid (KsH (offS W.cell? S) h.ak L) := hLK
    obtain ⟨hz, hzL⟩ : ∃ hz, L[p]? = some (nm, z, hz) := by
      have h1 : (bare L)[p]? = some (nm, z) := by rw [hLb]; exact HZ0.out
      unfold bare at h1
      rw [List.getElem?_map] at h1
      cases he : L[p]? with
      | none => rw [he] at h1; cases h1
      | some e =>
        rw [he] at h1
        obtain ⟨e1, e2, e3⟩ := e
        obtain ⟨rfl, rfl⟩ : e1 = nm ∧ e2 = z := by simpa using h1
        exact ⟨e3, rfl⟩
    have HZL : Hid (L[p]? = some (nm, z, hz)) := hzL
    have hNz : NdV (offS W.cell? S) z hz := hLK.2 _ (List.mem_of_getElem? hzL)
    obtain ⟨b', off', hak, hKp⟩ : ∃ b' off', h.ak = some ⟨b', off', none⟩ ∧ KdAt W.cell? b' (off' + p * 9) nm z hz := by
      rcases hLK.1 with q | ⟨b', off', q, hc⟩
      · rw [q] at hzL; simp at hzL
      · refine ⟨b', off', q, kdAt_iff.2 fun r v hr => ?_⟩
        rw [Nat.add_assoc]
        exact offS_le _ _ _ _ (hc _ _ (kfl_get L p nm z hz hzL r v hr))
    clear hLb hLK hzL
    have hq9 : Below w4.heap.size w4 w4.drew := below_drewN (Below.refl _ _) 1
    have hq9a : Below w4.heap.size w4 (w4.alloc (.cells #[.int .i64 0, .int .i64 0, .int .i64 0, .int .i64 0, .bool false, .slice none 0 0, .string ⟨#[]⟩, .slice none 0 0] 25)).drew := below_drewN ((Below.refl _ w4).alloc (Nat.le_refl _) _) 1
    have hK4 := hKp.below hB4
    have HCALL0 : Hid (∀ (W1 : World) (S1 : Nat → Bool), (∀ k, S1 k = true → k < W1.heap.size) → (∀ k, k < W.heap.size → S k = false → S1 k = false) → Below w4.heap.size w4 W1 → Calls Try.prog 92 #[ndV z hz, .slice (some ⟨b, off + 1, none⟩) (n - 1) (cl - 1), ndV (Nd.mk k3 m3 u3 g3 o3 at3 d3 ks3) hx, .bool cut] W1 fun e W' => RdE W1 W' S1 e (.error f)) := by
      intro W1 S1 h1 h2 h3
      have hb1 := hB4.trans (h3.mono hB4.size)
      have mm : MLe (offS W.cell? S) (offS W1.cell? S1) := mle_step fun k hk hs => ⟨h2 k hk hs, hb1.block k hk⟩
      exact HIH.out W1 S1 h1 hb1 hz (hNz.on mm) (HXN.out.on mm)
    clear hKp hNz HIH
    have hw5 : w2.alloc (.cells #[.int .i64 2, .int .i64 m, .int .i64 u, .int .i64 g, .bool o, .slice h.aa at_.length h.ca, .string d, .slice none 0 0] 25) = w4 := by rw [← hw4, ← hw3]; simp [go_sem]
    have HW5 : Hid (w2.alloc (.cells #[.int .i64 2, .int .i64 m, .int .i64 u, .int .i64 g, .bool o, .slice h.aa at_.length h.ca, .string d, .slice none 0 0] 25) = w4) := hw5
    clear hw5 hw4 hw3
    have b41 := B4.1
    obtain ⟨k4, m4, u4, g4, o4, at4, d4, ks4⟩ := z

    have HCALL : Hid (∀ (W1 : World) (S1 : Nat → Bool), (∀ k, S1 k = true → k < W1.heap.size) → (∀ k, k < W.heap.size → S k = false → S1 k = false) → Below w4.heap.size w4 W1 → Calls Try.prog 92 #[.agg #[.int .i64 k4, .int .i64 m4, .int .i64 u4, .int .i64 g4, .bool o4, .slice hz.aa at4.length hz.ca, .string d4, .slice hz.ak ks4.length hz.ck], .slice (some ⟨b, off + 1, none⟩) (n - 1) (cl - 1), .agg #[.int .i64 k3, .int .i64 m3, .int .i64 u3, .int .i64 g3, .bool o3, .slice hx.aa at3.length hx.ca, .string d3, .slice hx.ak ks3.length hx.ck], .bool cut] W1 fun e W' => (∃ h' : Hd, e = .returned (.tuple #[.agg #[.int .i64 0, .int .i64 0, .int .i64 0, .int .i64 0, .bool false, .slice h'.aa 0 h'.ca, .string ⟨#[]⟩, .slice h'.ak 0 h'.ck], .int .i64 f]) ∧ NdV (offS W'.cell? S1) zN h') ∧ Below W1.heap.size W1 W') := HCALL0.out
    clear HCALL0
    obtain ⟨_, p1, p2, p3, p4, p5, p6, p7, p8⟩ := hK4.nine
    obtain ⟨x0, x1, x2, x3, x4, x5, x6, x7⟩ := id X4.1
    obtain ⟨_, _, _, _, _, _, _, v7⟩ := id b41
    rw [hak] at v7
    have HAK : Hid (h.ak = some ⟨b', off', none⟩) := hak
    clear hak
    have T4 : w4.cell? ⟨nb, 7, none⟩ = some (.slice (some ⟨b', off', none⟩) ks.length h.ck) ∧ w4.cell? ⟨nb + 1, 0, none⟩ = some (.int .i64 k3) ∧ w4.cell? ⟨nb + 1, 1, none⟩ = some (.int .i64 m3) ∧ w4.cell? ⟨nb + 1, 2, none⟩ = some (.int .i64 u3) ∧ w4.cell? ⟨nb + 1, 3, none⟩ = some (.int .i64 g3) ∧ w4.cell? ⟨nb + 1, 4, none⟩ = some (.bool o3) ∧ w4.cell? ⟨nb + 1, 5, none⟩ = some (.slice hx.aa at3.length hx.ca) ∧ w4.cell? ⟨nb + 1, 6, none⟩ = some (.string d3) ∧ w4.cell? ⟨nb + 1, 7, none⟩ = some (.slice hx.ak ks3.length hx.ck) ∧ w4.cell? ⟨b', off' + p * 9 + 1, none⟩ = some (.int .i64 k4) ∧ w4.cell? ⟨b', off' + p * 9 + 1 + 1, none⟩ = some (.int .i64 m4) ∧ w4.cell? ⟨b', off' + p * 9 + 1 + 2, none⟩ = some (.int .i64 u4) ∧ w4.cell? ⟨b', off' + p * 9 + 1 + 3, none⟩ = some (.int .i64 g4) ∧ w4.cell? ⟨b', off' + p * 9 + 1 + 4, none⟩ = some (.bool o4) ∧ w4.cell? ⟨b', off' + p * 9 + 1 + 5, none⟩ = some (.slice hz.aa at4.length hz.ca) ∧ w4.cell? ⟨b', off' + p * 9 + 1 + 6, none⟩ = some (.string d4) ∧ w4.cell? ⟨b', off' + p * 9 + 1 + 7, none⟩ = some (.slice hz.ak ks4.length hz.ck) := ⟨v7, x0, x1, x2, x3, x4, x5, x6, x7, p1, p2, p3, p4, p5, p6, p7, p8⟩
    have TB : ∀ w', Below w4.heap.size w4 w' → w'.cell? ⟨nb, 7, none⟩ = some (.slice (some ⟨b', off', none⟩) ks.length h.ck) ∧ w'.cell? ⟨nb + 1, 0, none⟩ = some (.int .i64 k3) ∧ w'.cell? ⟨nb + 1, 1, none⟩ = some (.int .i64 m3) ∧ w'.cell? ⟨nb + 1, 2, none⟩ = some (.int .i64 u3) ∧ w'.cell? ⟨nb + 1, 3, none⟩ = some (.int .i64 g3) ∧ w'.cell? ⟨nb + 1, 4, none⟩ = some (.bool o3) ∧ w'.cell? ⟨nb + 1, 5, none⟩ = some (.slice hx.aa at3.length hx.ca) ∧ w'.cell? ⟨nb + 1, 6, none⟩ = some (.string d3) ∧ w'.cell? ⟨nb + 1, 7, none⟩ = some (.slice hx.ak ks3.length hx.ck) ∧ w'.cell? ⟨b', off' + p * 9 + 1, none⟩ = some (.int .i64 k4) ∧ w'.cell? ⟨b', off' + p * 9 + 1 + 1, none⟩ = some (.int .i64 m4) ∧ w'.cell? ⟨b', off' + p * 9 + 1 + 2, none⟩ = some (.int .i64 u4) ∧ w'.cell? ⟨b', off' + p * 9 + 1 + 3, none⟩ = some (.int .i64 g4) ∧ w'.cell? ⟨b', off' + p * 9 + 1 + 4, none⟩ = some (.bool o4) ∧ w'.cell? ⟨b', off' + p * 9 + 1 + 5, none⟩ = some (.slice hz.aa at4.length hz.ca) ∧ w'.cell? ⟨b', off' + p * 9 + 1 + 6, none⟩ = some (.string d4) ∧ w'.cell? ⟨b', off' + p * 9 + 1 + 7, none⟩ = some (.slice hz.ak ks4.length hz.ck) := fun w' hb => by
      obtain ⟨v7, x0, x1, x2, x3, x4, x5, x6, x7, p1, p2, p3, p4, p5, p6, p7, p8⟩ := T4
      have q : ∀ a v, w4.cell? a = some v → w'.cell? a = some v := fun a v hv => (hb.cell (World.block_lt_of_cell? _ _ hv)).trans hv
      exact ⟨q _ _ v7, q _ _ x0, q _ _ x1, q _ _ x2, q _ _ x3, q _ _ x4, q _ _ x5, q _ _ x6, q _ _ x7, q _ _ p1, q _ _ p2, q _ _ p3, q _ _ p4, q _ _ p5, q _ _ p6, q _ _ p7, q _ _ p8⟩
    have T9 := TB _ hq9
    have T9a := TB _ hq9a
    clear x0 x1 x2 x3 x4 x5 x6 x7 p1 p2 p3 p4 p5 p6 p7 p8 v7 b41 hK4 T4
    have HTB : Hid _ := TB
    clear TB
    have hQ9a : NBw (w4.alloc (.cells #[.int .i64 0, .int .i64 0, .int .i64 0, .int .i64 0, .bool false, .slice none 0 0, .string ⟨#[]⟩, .slice none 0 0] 25)).drew w4.heap.size zN zH := NBw.zero w4
    have HQ9A : Hid (NBw (w4.alloc (.cells #[.int .i64 0, .int .i64 0, .int .i64 0, .int .i64 0, .bool false, .slice none 0 0, .string ⟨#[]⟩, .slice none 0 0] 25)).drew w4.heap.size zN zH) := hQ9a
    clear hQ9a
    obtain ⟨⟨y0, y1, y2, y3, y4, y5, y6, y7⟩, y8⟩ := id B2
    obtain ⟨⟨q0, q1, q2, q3, q4, q5, q6, q7⟩, q8⟩ := id O3
    have HSK : Hid (∀ k, S k = true → k < W.heap.size) := HS0.out
    have hsb := hB4.size
    go_wp2_with fail
    rw [HW5.out]
    clear y0 y1 y2 y3 y4 y5 y6 y7 y8 q0 q1 q2 q3 q4 q5 q6 q7 q8 HW5
    generalize hob2 : w2.heap.size = ob at hob hs4 hs5 O3 O4 ⊢
    have hobl : ob < w4.heap.size := O4.1.lt
    clear O3 B2 X2 R2 hB2 c2 c4
    have HC1 : Hid (Calls Try.prog 92 #[.agg #[.int .i64 k4, .int .i64 m4, .int .i64 u4, .int .i64 g4, .bool o4, .slice hz.aa at4.length hz.ca, .string d4, .slice hz.ak ks4.length hz.ck], .slice (some ⟨b, off + 1, none⟩) (n - 1) (cl - 1), .agg #[.int .i64 k3, .int .i64 m3, .int .i64 u3, .int .i64 g3, .bool o3, .slice hx.aa at3.length hx.ca, .string d3, .slice hx.ak ks3.length hx.ck], .bool cut] w4.drew fun e W' => (∃ h' : Hd, e = .returned (.tuple #[.agg #[.int .i64 0, .int .i64 0, .int .i64 0, .int .i64 0, .bool false, .slice h'.aa 0 h'.ca, .string ⟨#[]⟩, .slice h'.ak 0 h'.ck], .int .i64 f]) ∧ NdV (offS W'.cell? (orS (orS S (nb + 1 + 1)) ob)) zN h') ∧ Below w4.drew.heap.size w4.drew W') := by
      refine HCALL.out w4.drew (orS (orS S (nb + 1 + 1)) ob) (fun k hk => ?_) (fun k hk hs => ?_) hq9
      · simp only [orS, Bool.or_eq_true, beq_iff_eq] at hk
        show k < w4.heap.size
        rcases hk with hk | hk | hk
        · omega
        · omega
        · have := HSK.out k hk; omega
      · simp only [orS, Bool.or_eq_false_iff, beq_eq_false_iff_ne]
        refine ⟨?_, ?_, hs⟩ <;> omega
    have HC2 : Hid (Calls Try.prog 92 #[.agg #[.int .i64 k4, .int .i64 m4, .int .i64 u4, .int .i64 g4, .bool o4, .slice hz.aa at4.length hz.ca, .string d4, .slice hz.ak ks4.length hz.ck], .slice (some ⟨b, off + 1, none⟩) (n - 1) (cl - 1), .agg #[.int .i64 k3, .int .i64 m3, .int .i64 u3, .int .i64 g3, .bool o3, .slice hx.aa at3.length hx.ca, .string d3, .slice hx.ak ks3.length hx.ck], .bool cut] (w4.alloc (.cells #[.int .i64 0, .int .i64 0, .int .i64 0, .int .i64 0, .bool false, .slice none 0 0, .string ⟨#[]⟩, .slice none 0 0] 25)).drew fun e W' => (∃ h' : Hd, e = .returned (.tuple #[.agg #[.int .i64 0, .int .i64 0, .int .i64 0, .int .i64 0, .bool false, .slice h'.aa 0 h'.ca, .string ⟨#[]⟩, .slice h'.ak 0 h'.ck], .int .i64 f]) ∧ NdV (offS W'.cell? (orS (orS (orS S (nb + 1 + 1)) ob) w4.heap.size)) zN h') ∧ Below (w4.alloc (.cells #[.int .i64 0, .int .i64 0, .int .i64 0, .int .i64 0, .bool false, .slice none 0 0, .string ⟨#[]⟩, .slice none 0 0] 25)).drew.heap.size (w4.alloc (.cells #[.int .i64 0, .int .i64 0, .int .i64 0, .int .i64 0, .bool false, .slice none 0 0, .string ⟨#[]⟩, .slice none 0 0] 25)).drew W') := by
      refine HCALL.out (w4.alloc (.cells #[.int .i64 0, .int .i64 0, .int .i64 0, .int .i64 0, .bool false, .slice none 0 0, .string ⟨#[]⟩, .slice none 0 0] 25)).drew (orS (orS (orS S (nb + 1 + 1)) ob) w4.heap.size) (fun k hk => ?_) (fun k hk hs => ?_) hq9a
      · simp only [orS, Bool.or_eq_true, beq_iff_eq] at hk
        have hsA : (w4.alloc (.cells #[.int .i64 0, .int .i64 0, .int .i64 0, .int .i64 0, .bool false, .slice none 0 0, .string ⟨#[]⟩, .slice none 0 0] 25)).drew.heap.size = w4.heap.size + 1 := World.size_alloc _ _
        rw [hsA]
        rcases hk with hk | hk | hk | hk
        · omega
        · omega
        · omega
        · have := HSK.out k hk; omega
      · simp only [orS, Bool.or_eq_false_iff, beq_eq_false_iff_ne]
        refine ⟨?_, ?_, ?_, hs⟩ <;> omega
    clear HCALL
    have HK1 : Hid (∀ w5 h', Below w4.drew.heap.size w4.drew w5 → (w5.cell? ⟨nb, 7, none⟩ = some (.slice (some ⟨b', off', none⟩) ks.length h.ck) ∧ w5.cell? ⟨nb + 1, 0, none⟩ = some (.int .i64 k3) ∧ w5.cell? ⟨nb + 1, 1, none⟩ = some (.int .i64 m3) ∧ w5.cell? ⟨nb + 1, 2, none⟩ = some (.int .i64 u3) ∧ w5.cell? ⟨nb + 1, 3, none⟩ = some (.int .i64 g3) ∧ w5.cell? ⟨nb + 1, 4, none⟩ = some (.bool o3) ∧ w5.cell? ⟨nb + 1, 5, none⟩ = some (.slice hx.aa at3.length hx.ca) ∧ w5.cell? ⟨nb + 1, 6, none⟩ = some (.string d3) ∧ w5.cell? ⟨nb + 1, 7, none⟩ = some (.slice hx.ak ks3.length hx.ck) ∧ w5.cell? ⟨b', off' + p * 9 + 1, none⟩ = some (.int .i64 k4) ∧ w5.cell? ⟨b', off' + p * 9 + 1 + 1, none⟩ = some (.int .i64 m4) ∧ w5.cell? ⟨b', off' + p * 9 + 1 + 2, none⟩ = some (.int .i64 u4) ∧ w5.cell? ⟨b', off' + p * 9 + 1 + 3, none⟩ = some (.int .i64 g4) ∧ w5.cell? ⟨b', off' + p * 9 + 1 + 4, none⟩ = some (.bool o4) ∧ w5.cell? ⟨b', off' + p * 9 + 1 + 5, none⟩ = some (.slice hz.aa at4.length hz.ca) ∧ w5.cell? ⟨b', off' + p * 9 + 1 + 6, none⟩ = some (.string d4) ∧ w5.cell? ⟨b', off' + p * 9 + 1 + 7, none⟩ = some (.slice hz.ak ks4.length hz.ck)) ∧ ((w5.alloc (.cells #[.int .i64 0, .int .i64 0, .int .i64 0, .int .i64 0, .bool false, .slice none 0 0, .string ⟨#[]⟩, .slice none 0 0] 25)).cell? ⟨nb, 7, none⟩ = some (.slice (some ⟨b', off', none⟩) ks.length h.ck) ∧ (w5.alloc (.cells #[.int .i64 0, .int .i64 0, .int .i64 0, .int .i64 0, .bool false, .slice none 0 0, .string ⟨#[]⟩, .slice none 0 0] 25)).cell? ⟨nb + 1, 0, none⟩ = some (.int .i64 k3) ∧ (w5.alloc (.cells #[.int .i64 0, .int .i64 0, .int .i64 0, .int .i64 0, .bool false, .slice none 0 0, .string ⟨#[]⟩, .slice none 0 0] 25)).cell? ⟨nb + 1, 1, none⟩ = some (.int .i64 m3) ∧ (w5.alloc (.cells #[.int .i64 0, .int .i64 0, .int .i64 0, .int .i64 0, .bool false, .slice none 0 0, .string ⟨#[]⟩, .slice none 0 0] 25)).cell? ⟨nb + 1, 2, none⟩ = some (.int .i64 u3) ∧ (w5.alloc (.cells #[.int .i64 0, .int .i64 0, .int .i64 0, .int .i64 0, .bool false, .slice none 0 0, .string ⟨#[]⟩, .slice none 0 0] 25)).cell? ⟨nb + 1, 3, none⟩ = some (.int .i64 g3) ∧ (w5.alloc (.cells #[.int .i64 0, .int .i64 0, .int .i64 0, .int .i64 0, .bool false, .slice none 0 0, .string ⟨#[]⟩, .slice none 0 0] 25)).cell? ⟨nb + 1, 4, none⟩ = some (.bool o3) ∧ (w5.alloc (.cells #[.int .i64 0, .int .i64 0, .int .i64 0, .int .i64 0, .bool false, .slice none 0 0, .string ⟨#[]⟩, .slice none 0 0] 25)).cell? ⟨nb + 1, 5, none⟩ = some (.slice hx.aa at3.length hx.ca) ∧ (w5.alloc (.cells #[.int .i64 0, .int .i64 0, .int .i64 0, .int .i64 0, .bool false, .slice none 0 0, .string ⟨#[]⟩, .slice none 0 0] 25)).cell? ⟨nb + 1, 6, none⟩ = some (.string d3) ∧ (w5.alloc (.cells #[.int .i64 0, .int .i64 0, .int .i64 0, .int .i64 0, .bool false, .slice none 0 0, .string ⟨#[]⟩, .slice none 0 0] 25)).cell? ⟨nb + 1, 7, none⟩ = some (.slice hx.ak ks3.length hx.ck) ∧ (w5.alloc (.cells #[.int .i64 0, .int .i64 0, .int .i64 0, .int .i64 0, .bool false, .slice none 0 0, .string ⟨#[]⟩, .slice none 0 0] 25)).cell? ⟨b', off' + p * 9 + 1, none⟩ = some (.int .i64 k4) ∧ (w5.alloc (.cells #[.int .i64 0, .int .i64 0, .int .i64 0, .int .i64 0, .bool false, .slice none 0 0, .string ⟨#[]⟩, .slice none 0 0] 25)).cell? ⟨b', off' + p * 9 + 1 + 1, none⟩ = some (.int .i64 m4) ∧ (w5.alloc (.cells #[.int .i64 0, .int .i64 0, .int .i64 0, .int .i64 0, .bool false, .slice none 0 0, .string ⟨#[]⟩, .slice none 0 0] 25)).cell? ⟨b', off' + p * 9 + 1 + 2, none⟩ = some (.int .i64 u4) ∧ (w5.alloc (.cells #[.int .i64 0, .int .i64 0, .int .i64 0, .int .i64 0, .bool false, .slice none 0 0, .string ⟨#[]⟩, .slice none 0 0] 25)).cell? ⟨b', off' + p * 9 + 1 + 3, none⟩ = some (.int .i64 g4) ∧ (w5.alloc (.cells #[.int .i64 0, .int .i64 0, .int .i64 0, .int .i64 0, .bool false, .slice none 0 0, .string ⟨#[]⟩, .slice none 0 0] 25)).cell? ⟨b', off' + p * 9 + 1 + 4, none⟩ = some (.bool o4) ∧ (w5.alloc (.cells #[.int .i64 0, .int .i64 0, .int .i64 0, .int .i64 0, .bool false, .slice none 0 0, .string ⟨#[]⟩, .slice none 0 0] 25)).cell? ⟨b', off' + p * 9 + 1 + 5, none⟩ = some (.slice hz.aa at4.length hz.ca) ∧ (w5.alloc (.cells #[.int .i64 0, .int .i64 0, .int .i64 0, .int .i64 0, .bool false, .slice none 0 0, .string ⟨#[]⟩, .slice none 0 0] 25)).cell? ⟨b', off' + p * 9 + 1 + 6, none⟩ = some (.string d4) ∧ (w5.alloc (.cells #[.int .i64 0, .int .i64 0, .int .i64 0, .int .i64 0, .bool false, .slice none 0 0, .string ⟨#[]⟩, .slice none 0 0] 25)).cell? ⟨b', off' + p * 9 + 1 + 7, none⟩ = some (.slice hz.ak ks4.length hz.ck)) ∧ ((w5.alloc (.cells #[.int .i64 0, .int .i64 0, .int .i64 0, .int .i64 0, .bool false, .slice h'.aa 0 h'.ca, .string ⟨#[]⟩, .slice h'.ak 0 h'.ck] 25)).cell? ⟨nb, 7, none⟩ = some (.slice (some ⟨b', off', none⟩) ks.length h.ck) ∧ (w5.alloc (.cells #[.int .i64 0, .int .i64 0, .int .i64 0, .int .i64 0, .bool false, .slice h'.aa 0 h'.ca, .string ⟨#[]⟩, .slice h'.ak 0 h'.ck] 25)).cell? ⟨nb + 1, 0, none⟩ = some (.int .i64 k3) ∧ (w5.alloc (.cells #[.int .i64 0, .int .i64 0, .int .i64 0, .int .i64 0, .bool false, .slice h'.aa 0 h'.ca, .string ⟨#[]⟩, .slice h'.ak 0 h'.ck] 25)).cell? ⟨nb + 1, 1, none⟩ = some (.int .i64 m3) ∧ (w5.alloc (.cells #[.int .i64 0, .int .i64 0, .int .i64 0, .int .i64 0, .bool false, .slice h'.aa 0 h'.ca, .string ⟨#[]⟩, .slice h'.ak 0 h'.ck] 25)).cell? ⟨nb + 1, 2, none⟩ = some (.int .i64 u3) ∧ (w5.alloc (.cells #[.int .i64 0, .int .i64 0, .int .i64 0, .int .i64 0, .bool false, .slice h'.aa 0 h'.ca, .string ⟨#[]⟩, .slice h'.ak 0 h'.ck] 25)).cell? ⟨nb + 1, 3, none⟩ = some (.int .i64 g3) ∧ (w5.alloc (.cells #[.int .i64 0, .int .i64 0, .int .i64 0, .int .i64 0, .bool false, .slice h'.aa 0 h'.ca, .string ⟨#[]⟩, .slice h'.ak 0 h'.ck] 25)).cell? ⟨nb + 1, 4, none⟩ = some (.bool o3) ∧ (w5.alloc (.cells #[.int .i64 0, .int .i64 0, .int .i64 0, .int .i64 0, .bool false, .slice h'.aa 0 h'.ca, .string ⟨#[]⟩, .slice h'.ak 0 h'.ck] 25)).cell? ⟨nb + 1, 5, none⟩ = some (.slice hx.aa at3.length hx.ca) ∧ (w5.alloc (.cells #[.int .i64 0, .int .i64 0, .int .i64 0, .int .i64 0, .bool false, .slice h'.aa 0 h'.ca, .string ⟨#[]⟩, .slice h'.ak 0 h'.ck] 25)).cell? ⟨nb + 1, 6, none⟩ = some (.string d3) ∧ (w5.alloc (.cells #[.int .i64 0, .int .i64 0, .int .i64 0, .int .i64 0, .bool false, .slice h'.aa 0 h'.ca, .string ⟨#[]⟩, .slice h'.ak 0 h'.ck] 25)).cell? ⟨nb + 1, 7, none⟩ = some (.slice hx.ak ks3.length hx.ck) ∧ (w5.alloc (.cells #[.int .i64 0, .int .i64 0, .int .i64 0, .int .i64 0, .bool false, .slice h'.aa 0 h'.ca, .string ⟨#[]⟩, .slice h'.ak 0 h'.ck] 25)).cell? ⟨b', off' + p * 9 + 1, none⟩ = some (.int .i64 k4) ∧ (w5.alloc (.cells #[.int .i64 0, .int .i64 0, .int .i64 0, .int .i64 0, .bool false, .slice h'.aa 0 h'.ca, .string ⟨#[]⟩, .slice h'.ak 0 h'.ck] 25)).cell? ⟨b', off' + p * 9 + 1 + 1, none⟩ = some (.int .i64 m4) ∧ (w5.alloc (.cells #[.int .i64 0, .int .i64 0, .int .i64 0, .int .i64 0, .bool false, .slice h'.aa 0 h'.ca, .string ⟨#[]⟩, .slice h'.ak 0 h'.ck] 25)).cell? ⟨b', off' + p * 9 + 1 + 2, none⟩ = some (.int .i64 u4) ∧ (w5.alloc (.cells #[.int .i64 0, .int .i64 0, .int .i64 0, .int .i64 0, .bool false, .slice h'.aa 0 h'.ca, .string ⟨#[]⟩, .slice h'.ak 0 h'.ck] 25)).cell? ⟨b', off' + p * 9 + 1 + 3, none⟩ = some (.int .i64 g4) ∧ (w5.alloc (.cells #[.int .i64 0, .int .i64 0, .int .i64 0, .int .i64 0, .bool false, .slice h'.aa 0 h'.ca, .string ⟨#[]⟩, .slice h'.ak 0 h'.ck] 25)).cell? ⟨b', off' + p * 9 + 1 + 4, none⟩ = some (.bool o4) ∧ (w5.alloc (.cells #[.int .i64 0, .int .i64 0, .int .i64 0, .int .i64 0, .bool false, .slice h'.aa 0 h'.ca, .string ⟨#[]⟩, .slice h'.ak 0 h'.ck] 25)).cell? ⟨b', off' + p * 9 + 1 + 5, none⟩ = some (.slice hz.aa at4.length hz.ca) ∧ (w5.alloc (.cells #[.int .i64 0, .int .i64 0, .int .i64 0, .int .i64 0, .bool false, .slice h'.aa 0 h'.ca, .string ⟨#[]⟩, .slice h'.ak 0 h'.ck] 25)).cell? ⟨b', off' + p * 9 + 1 + 6, none⟩ = some (.string d4) ∧ (w5.alloc (.cells #[.int .i64 0, .int .i64 0, .int .i64 0, .int .i64 0, .bool false, .slice h'.aa 0 h'.ca, .string ⟨#[]⟩, .slice h'.ak 0 h'.ck] 25)).cell? ⟨b', off' + p * 9 + 1 + 7, none⟩ = some (.slice hz.ak ks4.length hz.ck)) ∧ NBw (w5.alloc (.cells #[.int .i64 0, .int .i64 0, .int .i64 0, .int .i64 0, .bool false, .slice h'.aa 0 h'.ca, .string ⟨#[]⟩, .slice h'.ak 0 h'.ck] 25)) w5.heap.size zN h' ∧ Below w4.heap.size w4 (w5.alloc (.cells #[.int .i64 0, .int .i64 0, .int .i64 0, .int .i64 0, .bool false, .slice h'.aa 0 h'.ca, .string ⟨#[]⟩, .slice h'.ak 0 h'.ck] 25)) ∧ w4.heap.size ≤ w5.heap.size) := by
      intro w5 h' b5
      have b45 : Below w4.heap.size w4 w5 := hq9.trans b5
      exact ⟨HTB.out w5 b45, HTB.out _ (b45.alloc b45.size _), HTB.out _ (b45.alloc b45.size _), NBw.new w5 0 0 0 0 false [] ⟨#[]⟩ [] h', b45.alloc b45.size _, b45.size⟩
    have HK2 : Hid (∀ w5 h', Below (w4.alloc (.cells #[.int .i64 0, .int .i64 0, .int .i64 0, .int .i64 0, .bool false, .slice none 0 0, .string ⟨#[]⟩, .slice none 0 0] 25)).drew.heap.size (w4.alloc (.cells #[.int .i64 0, .int .i64 0, .int .i64 0, .int .i64 0, .bool false, .slice none 0 0, .string ⟨#[]⟩, .slice none 0 0] 25)).drew w5 → (w5.cell? ⟨nb, 7, none⟩ = some (.slice (some ⟨b', off', none⟩) ks.length h.ck) ∧ w5.cell? ⟨nb + 1, 0, none⟩ = some (.int .i64 k3) ∧ w5.cell? ⟨nb + 1, 1, none⟩ = some (.int .i64 m3) ∧ w5.cell? ⟨nb + 1, 2, none⟩ = some (.int .i64 u3) ∧ w5.cell? ⟨nb + 1, 3, none⟩ = some (.int .i64 g3) ∧ w5.cell? ⟨nb + 1, 4, none⟩ = some (.bool o3) ∧ w5.cell? ⟨nb + 1, 5, none⟩ = some (.slice hx.aa at3.length hx.ca) ∧ w5.cell? ⟨nb + 1, 6, none⟩ = some (.string d3) ∧ w5.cell? ⟨nb + 1, 7, none⟩ = some (.slice hx.ak ks3.length hx.ck) ∧ w5.cell? ⟨b', off' + p * 9 + 1, none⟩ = some (.int .i64 k4) ∧ w5.cell? ⟨b', off' + p * 9 + 1 + 1, none⟩ = some (.int .i64 m4) ∧ w5.cell? ⟨b', off' + p * 9 + 1 + 2, none⟩ = some (.int .i64 u4) ∧ w5.cell? ⟨b', off' + p * 9 + 1 + 3, none⟩ = some (.int .i64 g4) ∧ w5.cell? ⟨b', off' + p * 9 + 1 + 4, none⟩ = some (.bool o4) ∧ w5.cell? ⟨b', off' + p * 9 + 1 + 5, none⟩ = some (.slice hz.aa at4.length hz.ca) ∧ w5.cell? ⟨b', off' + p * 9 + 1 + 6, none⟩ = some (.string d4) ∧ w5.cell? ⟨b', off' + p * 9 + 1 + 7, none⟩ = some (.slice hz.ak ks4.length hz.ck)) ∧ (((((((((w5.setCell ⟨w4.heap.size, 0, none⟩ (.int .i64 0)).setCell ⟨w4.heap.size, 1, none⟩ (.int .i64 0)).setCell ⟨w4.heap.size, 2, none⟩ (.int .i64 0)).setCell ⟨w4.heap.size, 3, none⟩ (.int .i64 0)).setCell ⟨w4.heap.size, 4, none⟩ (.bool false)).setCell ⟨w4.heap.size, 5, none⟩ (.slice h'.aa 0 h'.ca)).setCell ⟨w4.heap.size, 6, none⟩ (.string ⟨#[]⟩)).setCell ⟨w4.heap.size, 7, none⟩ (.slice h'.ak 0 h'.ck)).cell? ⟨nb, 7, none⟩ = some (.slice (some ⟨b', off', none⟩) ks.length h.ck) ∧ ((((((((w5.setCell ⟨w4.heap.size, 0, none⟩ (.int .i64 0)).setCell ⟨w4.heap.size, 1, none⟩ (.int .i64 0)).setCell ⟨w4.heap.size, 2, none⟩ (.int .i64 0)).setCell ⟨w4.heap.size, 3, none⟩ (.int .i64 0)).setCell ⟨w4.heap.size, 4, none⟩ (.bool false)).setCell ⟨w4.heap.size, 5, none⟩ (.slice h'.aa 0 h'.ca)).setCell ⟨w4.heap.size, 6, none⟩ (.string ⟨#[]⟩)).setCell ⟨w4.heap.size, 7, none⟩ (.slice h'.ak 0 h'.ck)).cell? ⟨nb + 1, 0, none⟩ = some (.int .i64 k3) ∧ ((((((((w5.setCell ⟨w4.heap.size, 0, none⟩ (.int .i64 0)).setCell ⟨w4.heap.size, 1, none⟩ (.int .i64 0)).setCell ⟨w4.heap.size, 2, none⟩ (.int .i64 0)).setCell ⟨w4.heap.size, 3, none⟩ (.int .i64 0)).setCell ⟨w4.heap.size, 4, none⟩ (.bool false)).setCell ⟨w4.heap.size, 5, none⟩ (.slice h'.aa 0 h'.ca)).setCell ⟨w4.heap.size, 6, none⟩ (.string ⟨#[]⟩)).setCell ⟨w4.heap.size, 7, none⟩ (.slice h'.ak 0 h'.ck)).cell? ⟨nb + 1, 1, none⟩ = some (.int .i64 m3) ∧ ((((((((w5.setCell ⟨w4.heap.size, 0, none⟩ (.int .i64 0)).setCell ⟨w4.heap.size, 1, none⟩ (.int .i64 0)).setCell ⟨w4.heap.size, 2, none⟩ (.int .i64 0)).setCell ⟨w4.heap.size, 3, none⟩ (.int .i64 0)).setCell ⟨w4.heap.size, 4, none⟩ (.bool false)).setCell ⟨w4.heap.size, 5, none⟩ (.slice h'.aa 0 h'.ca)).setCell ⟨w4.heap.size, 6, none⟩ (.string ⟨#[]⟩)).setCell ⟨w4.heap.size, 7, none⟩ (.slice h'.ak 0 h'.ck)).cell? ⟨nb + 1, 2, none⟩ = some (.int .i64 u3) ∧ ((((((((w5.setCell ⟨w4.heap.size, 0, none⟩ (.int .i64 0)).setCell ⟨w4.heap.size, 1, none⟩ (.int .i64 0)).setCell ⟨w4.heap.size, 2, none⟩ (.int .i64 0)).setCell ⟨w4.heap.size, 3, none⟩ (.int .i64 0)).setCell ⟨w4.heap.size, 4, none⟩ (.bool false)).setCell ⟨w4.heap.size, 5, none⟩ (.slice h'.aa 0 h'.ca)).setCell ⟨w4.heap.size, 6, none⟩ (.string ⟨#[]⟩)).setCell ⟨w4.heap.size, 7, none⟩ (.slice h'.ak 0 h'.ck)).cell? ⟨nb + 1, 3, none⟩ = some (.int .i64 g3) ∧ ((((((((w5.setCell ⟨w4.heap.size, 0, none⟩ (.int .i64 0)).setCell ⟨w4.heap.size, 1, none⟩ (.int .i64 0)).setCell ⟨w4.heap.size, 2, none⟩ (.int .i64 0)).setCell ⟨w4.heap.size, 3, none⟩ (.int .i64 0)).setCell ⟨w4.heap.size, 4, none⟩ (.bool false)).setCell ⟨w4.heap.size, 5, none⟩ (.slice h'.aa 0 h'.ca)).setCell ⟨w4.heap.size, 6, none⟩ (.string ⟨#[]⟩)).setCell ⟨w4.heap.size, 7, none⟩ (.slice h'.ak 0 h'.ck)).cell? ⟨nb + 1, 4, none⟩ = some (.bool o3) ∧ ((((((((w5.setCell ⟨w4.heap.size, 0, none⟩ (.int .i64 0)).setCell ⟨w4.heap.size, 1, none⟩ (.int .i64 0)).setCell ⟨w4.heap.size, 2, none⟩ (.int .i64 0)).setCell ⟨w4.heap.size, 3, none⟩ (.int .i64 0)).setCell ⟨w4.heap.size, 4, none⟩ (.bool false)).setCell ⟨w4.heap.size, 5, none⟩ (.slice h'.aa 0 h'.ca)).setCell ⟨w4.heap.size, 6, none⟩ (.string ⟨#[]⟩)).setCell ⟨w4.heap.size, 7, none⟩ (.slice h'.ak 0 h'.ck)).cell? ⟨nb + 1, 5, none⟩ = some (.slice hx.aa at3.length hx.ca) ∧ ((((((((w5.setCell ⟨w4.heap.size, 0, none⟩ (.int .i64 0)).setCell ⟨w4.heap.size, 1, none⟩ (.int .i64 0)).setCell ⟨w4.heap.size, 2, none⟩ (.int .i64 0)).setCell ⟨w4.heap.size, 3, none⟩ (.int .i64 0)).setCell ⟨w4.heap.size, 4, none⟩ (.bool false)).setCell ⟨w4.heap.size, 5, none⟩ (.slice h'.aa 0 h'.ca)).setCell ⟨w4.heap.size, 6, none⟩ (.string ⟨#[]⟩)).setCell ⟨w4.heap.size, 7, none⟩ (.slice h'.ak 0 h'.ck)).cell? ⟨nb + 1, 6, none⟩ = some (.string d3) ∧ ((((((((w5.setCell ⟨w4.heap.size, 0, none⟩ (.int .i64 0)).setCell ⟨w4.heap.size, 1, none⟩ (.int .i64 0)).setCell ⟨w4.heap.size, 2, none⟩ (.int .i64 0)).setCell ⟨w4.heap.size, 3, none⟩ (.int .i64 0)).setCell ⟨w4.heap.size, 4, none⟩ (.bool false)).setCell ⟨w4.heap.size, 5, none⟩ (.slice h'.aa 0 h'.ca)).setCell ⟨w4.heap.size, 6, none⟩ (.string ⟨#[]⟩)).setCell ⟨w4.heap.size, 7, none⟩ (.slice h'.ak 0 h'.ck)).cell? ⟨nb + 1, 7, none⟩ = some (.slice hx.ak ks3.length hx.ck) ∧ ((((((((w5.setCell ⟨w4.heap.size, 0, none⟩ (.int .i64 0)).setCell ⟨w4.heap.size, 1, none⟩ (.int .i64 0)).setCell ⟨w4.heap.size, 2, none⟩ (.int .i64 0)).setCell ⟨w4.heap.size, 3, none⟩ (.int .i64 0)).setCell ⟨w4.heap.size, 4, none⟩ (.bool false)).setCell ⟨w4.heap.size, 5, none⟩ (.slice h'.aa 0 h'.ca)).setCell ⟨w4.heap.size, 6, none⟩ (.string ⟨#[]⟩)).setCell ⟨w4.heap.size, 7, none⟩ (.slice h'.ak 0 h'.ck)).cell? ⟨b', off' + p * 9 + 1, none⟩ = some (.int .i64 k4) ∧ ((((((((w5.setCell ⟨w4.heap.size, 0, none⟩ (.int .i64 0)).setCell ⟨w4.heap.size, 1, none⟩ (.int .i64 0)).setCell ⟨w4.heap.size, 2, none⟩ (.int .i64 0)).setCell ⟨w4.heap.size, 3, none⟩ (.int .i64 0)).setCell ⟨w4.heap.size, 4, none⟩ (.bool false)).setCell ⟨w4.heap.size, 5, none⟩ (.slice h'.aa 0 h'.ca)).setCell ⟨w4.heap.size, 6, none⟩ (.string ⟨#[]⟩)).setCell ⟨w4.heap.size, 7, none⟩ (.slice h'.ak 0 h'.ck)).cell? ⟨b', off' + p * 9 + 1 + 1, none⟩ = some (.int .i64 m4) ∧ ((((((((w5.setCell ⟨w4.heap.size, 0, none⟩ (.int .i64 0)).setCell ⟨w4.heap.size, 1, none⟩ (.int .i64 0)).setCell ⟨w4.heap.size, 2, none⟩ (.int .i64 0)).setCell ⟨w4.heap.size, 3, none⟩ (.int .i64 0)).setCell ⟨w4.heap.size, 4, none⟩ (.bool false)).setCell ⟨w4.heap.size, 5, none⟩ (.slice h'.aa 0 h'.ca)).setCell ⟨w4.heap.size, 6, none⟩ (.string ⟨#[]⟩)).setCell ⟨w4.heap.size, 7, none⟩ (.slice h'.ak 0 h'.ck)).cell? ⟨b', off' + p * 9 + 1 + 2, none⟩ = some (.int .i64 u4) ∧ ((((((((w5.setCell ⟨w4.heap.size, 0, none⟩ (.int .i64 0)).setCell ⟨w4.heap.size, 1, none⟩ (.int .i64 0)).setCell ⟨w4.heap.size, 2, none⟩ (.int .i64 0)).setCell ⟨w4.heap.size, 3, none⟩ (.int .i64 0)).setCell ⟨w4.heap.size, 4, none⟩ (.bool false)).setCell ⟨w4.heap.size, 5, none⟩ (.slice h'.aa 0 h'.ca)).setCell ⟨w4.heap.size, 6, none⟩ (.string ⟨#[]⟩)).setCell ⟨w4.heap.size, 7, none⟩ (.slice h'.ak 0 h'.ck)).cell? ⟨b', off' + p * 9 + 1 + 3, none⟩ = some (.int .i64 g4) ∧ ((((((((w5.setCell ⟨w4.heap.size, 0, none⟩ (.int .i64 0)).setCell ⟨w4.heap.size, 1, none⟩ (.int .i64 0)).setCell ⟨w4.heap.size, 2, none⟩ (.int .i64 0)).setCell ⟨w4.heap.size, 3, none⟩ (.int .i64 0)).setCell ⟨w4.heap.size, 4, none⟩ (.bool false)).setCell ⟨w4.heap.size, 5, none⟩ (.slice h'.aa 0 h'.ca)).setCell ⟨w4.heap.size, 6, none⟩ (.string ⟨#[]⟩)).setCell ⟨w4.heap.size, 7, none⟩ (.slice h'.ak 0 h'.ck)).cell? ⟨b', off' + p * 9 + 1 + 4, none⟩ = some (.bool o4) ∧ ((((((((w5.setCell ⟨w4.heap.size, 0, none⟩ (.int .i64 0)).setCell ⟨w4.heap.size, 1, none⟩ (.int .i64 0)).setCell ⟨w4.heap.size, 2, none⟩ (.int .i64 0)).setCell ⟨w4.heap.size, 3, none⟩ (.int .i64 0)).setCell ⟨w4.heap.size, 4, none⟩ (.bool false)).setCell ⟨w4.heap.size, 5, none⟩ (.slice h'.aa 0 h'.ca)).setCell ⟨w4.heap.size, 6, none⟩ (.string ⟨#[]⟩)).setCell ⟨w4.heap.size, 7, none⟩ (.slice h'.ak 0 h'.ck)).cell? ⟨b', off' + p * 9 + 1 + 5, none⟩ = some (.slice hz.aa at4.length hz.ca) ∧ ((((((((w5.setCell ⟨w4.heap.size, 0, none⟩ (.int .i64 0)).setCell ⟨w4.heap.size, 1, none⟩ (.int .i64 0)).setCell ⟨w4.heap.size, 2, none⟩ (.int .i64 0)).setCell ⟨w4.heap.size, 3, none⟩ (.int .i64 0)).setCell ⟨w4.heap.size, 4, none⟩ (.bool false)).setCell ⟨w4.heap.size, 5, none⟩ (.slice h'.aa 0 h'.ca)).setCell ⟨w4.heap.size, 6, none⟩ (.string ⟨#[]⟩)).setCell ⟨w4.heap.size, 7, none⟩ (.slice h'.ak 0 h'.ck)).cell? ⟨b', off' + p * 9 + 1 + 6, none⟩ = some (.string d4) ∧ ((((((((w5.setCell ⟨w4.heap.size, 0, none⟩ (.int .i64 0)).setCell ⟨w4.heap.size, 1, none⟩ (.int .i64 0)).setCell ⟨w4.heap.size, 2, none⟩ (.int .i64 0)).setCell ⟨w4.heap.size, 3, none⟩ (.int .i64 0)).setCell ⟨w4.heap.size, 4, none⟩ (.bool false)).setCell ⟨w4.heap.size, 5, none⟩ (.slice h'.aa 0 h'.ca)).setCell ⟨w4.heap.size, 6, none⟩ (.string ⟨#[]⟩)).setCell ⟨w4.heap.size, 7, none⟩ (.slice h'.ak 0 h'.ck)).cell? ⟨b', off' + p * 9 + 1 + 7, none⟩ = some (.slice hz.ak ks4.length hz.ck)) ∧ NBw w5 w4.heap.size zN zH ∧ NBw (stB w5 w4.heap.size zN h') w4.heap.size zN h' ∧ Below w4.heap.size w4 (stB w5 w4.heap.size zN h') ∧ w4.heap.size < w5.heap.size) := by
      intro w5 h' b5
      have b45 : Below w4.heap.size w4 w5 := hq9a.trans (b5.mono hq9a.size)
      have hQ5 := HQ9A.out.below b5
      have bY : But w4.heap.size w5 (stB w5 w4.heap.size zN h') := stB_but
      have b46 : Below w4.heap.size w4 (stB w5 w4.heap.size zN h') := b45.trans (bY.below (Nat.le_refl _) b45.size)
      exact ⟨HTB.out w5 b45, HTB.out _ b46, hQ5, hQ5.store zN h', b46, hQ5.1.lt⟩
    clear HTB
    go_region_held3 (fun w' => w'.cell? ⟨nb, 7, none⟩ = some (.slice (some ⟨b', off', none⟩) ks.length h.ck) ∧ w'.cell? ⟨nb + 1, 0, none⟩ = some (.int .i64 k3) ∧ w'.cell? ⟨nb + 1, 1, none⟩ = some (.int .i64 m3) ∧ w'.cell? ⟨nb + 1, 2, none⟩ = some (.int .i64 u3) ∧ w'.cell? ⟨nb + 1, 3, none⟩ = some (.int .i64 g3) ∧ w'.cell? ⟨nb + 1, 4, none⟩ = some (.bool o3) ∧ w'.cell? ⟨nb + 1, 5, none⟩ = some (.slice hx.aa at3.length hx.ca) ∧ w'.cell? ⟨nb + 1, 6, none⟩ = some (.string d3) ∧ w'.cell? ⟨nb + 1, 7, none⟩ = some (.slice hx.ak ks3.length hx.ck) ∧ w'.cell? ⟨b', off' + p * 9 + 1, none⟩ = some (.int .i64 k4) ∧ w'.cell? ⟨b', off' + p * 9 + 1 + 1, none⟩ = some (.int .i64 m4) ∧ w'.cell? ⟨b', off' + p * 9 + 1 + 2, none⟩ = some (.int .i64 u4) ∧ w'.cell? ⟨b', off' + p * 9 + 1 + 3, none⟩ = some (.int .i64 g4) ∧ w'.cell? ⟨b', off' + p * 9 + 1 + 4, none⟩ = some (.bool o4) ∧ w'.cell? ⟨b', off' + p * 9 + 1 + 5, none⟩ = some (.slice hz.aa at4.length hz.ca) ∧ w'.cell? ⟨b', off' + p * 9 + 1 + 6, none⟩ = some (.string d4) ∧ w'.cell? ⟨b', off' + p * 9 + 1 + 7, none⟩ = some (.slice hz.ak ks4.length hz.ck)) (first | with_reducible exact T9 | with_reducible exact T10 | with_reducible exact T11 | with_reducible exact T12 | with_reducible exact T9a) (first | (go_at_call 92; (with_reducible refine Calls.mono HC1.out ?_); rintro e w5 ⟨⟨h', rfl, HNY⟩, b5⟩; obtain ⟨T10, T11, T12, hYB, b46, hs45⟩ := HK1.out w5 h' b5) | (go_at_call 92; (with_reducible refine Calls.mono HC2.out ?_); rintro e w5 ⟨⟨h', rfl, HNY⟩, b5⟩; obtain ⟨T10, T12, hQ5, hYB, b46, hs45⟩ := HK2.out w5 h' b5; obtain ⟨⟨z0, z1, z2, z3, z4, z5, z6, z7⟩, z8⟩ := id hQ5; clear hQ5))
    · have R6 := R4.low b46 (by omega)
      have hB6 := hB4.trans (b46.mono hB4.size)


      generalize w5.alloc (.cells #[.int .i64 0, .int .i64 0, .int .i64 0, .int .i64 0, .bool false, .slice h'.aa 0 h'.ca, .string ⟨#[]⟩, .slice h'.ak 0 h'.ck] 25) = w6 at R6 hB6 ⊢
      have R7 := R6.store zN zH
      have b7 : But (nb + 1 + 1) w6 (stB w6 (nb + 1 + 1) zN zH) := stB_but
      have hB7 := hB6.trans (b7.below (B := W.heap.size) (by omega) hB6.size)
      generalize hw7 : stB w6 (nb + 1 + 1) zN zH = w7 at R7 hB7
      have HW7 : Hid (stB w6 (nb + 1 + 1) zN zH = w7) := hw7
      clear hw7 b7 T9 T9a T10 T11 T12 HC1 HC2 HK1 HK2 b5 HNY hYB
      obtain ⟨⟨z0, z1, z2, z3, z4, z5, z6, z7⟩, z8⟩ := id R6
      go_wp2
      have hw7 := HW7.out
      simp only [stB, zN, zH, List.length_nil] at hw7
      rw [hw7]
      obtain ⟨r0, r1, r2, r3, r4, r5, r6, r7⟩ := R7.1
      refine bodyPost_ret (v := .tuple #[ndV zN zH, .int .i64 f]) (by simp [results, Try.results92, go_sem, ndV, zN, zH, r0, r1, r2, r3, r4, r5, r6, r7]) rfl ⟨⟨zH, rfl, zN_in _⟩, hB7⟩
    · have R6 := R4.low b46 (by omega)
      have hB6 := hB4.trans (b46.mono hB4.size)
      clear z0 z1 z2 z3 z4 z5 z6 z7 z8
      generalize hw6 : stB w5 w4.heap.size zN h' = w6 at R6 hB6
      simp only [stB, zN, List.length_nil] at hw6
      rw [hw6]
      have R7 := R6.store zN zH
      have b7 : But (nb + 1 + 1) w6 (stB w6 (nb + 1 + 1) zN zH) := stB_but
      have hB7 := hB6.trans (b7.below (B := W.heap.size) (by omega) hB6.size)
      generalize hw7 : stB w6 (nb + 1 + 1) zN zH = w7 at R7 hB7
      have HW7 : Hid (stB w6 (nb + 1 + 1) zN zH = w7) := hw7
      clear hw7 b7 T9 T9a T10 T12 HC1 HC2 HK1 HK2 b5 HNY hYB
      obtain ⟨⟨z0, z1, z2, z3, z4, z5, z6, z7⟩, z8⟩ := id R6
      go_wp2
      have hw7 := HW7.out
      simp only [stB, zN, zH, List.length_nil] at hw7
      rw [hw7]
      obtain ⟨r0, r1, r2, r3, r4, r5, r6, r7⟩ := R7.1
      refine bodyPost_ret (v := .tuple #[ndV zN zH, .int .i64 f]) (by simp [results, Try.results92, go_sem, ndV, zN, zH, r0, r1, r2, r3, r4, r5, r6, r7]) rfl ⟨⟨zH, rfl, zN_in _⟩, hB7⟩
end Go.Proofs.Ytkkhfnkmfkdhiab

namespace Go.Proofs.Ytkkhfnkmfkdhiab
open Go.RowKit

set_option maxRecDepth 100000 in
set_option maxHeartbeats 4000000 in
theorem rput_downO {W : World} {S : Nat → Bool} (hS0 : ∀ k, S k = true → k < W.heap.size) {x0 : Nd} {h : Hd} (hN : NdV (offS W.cell? S) x0 h) {xp : Nd} {hx : Hd} (hXN : NdV (offS W.cell? S) xp hx) (cut : Bool) (b off n cl : Nat) (nm : ByteArray) (hnm : W.cell? ⟨b, off, none⟩ = some (.string nm)) (hn : 1 < n) (hn2 : n ≤ 1000) (hcl : n ≤ cl) (hk2 : x0.kind = 2) (hcnt : cnt x0 ≤ 800) (p : Nat) (z : Nd) (hA : kidI nm x0.kids 0 = (p : Int)) (hz0 : x0.kids[p]? = some (nm, z)) (y : Nd)
    (IH : ∀ (W1 : World) (S1 : Nat → Bool), (∀ k, S1 k = true → k < W1.heap.size) → Below W.heap.size W W1 → ∀ hz, NdV (offS W1.cell? S1) z hz → NdV (offS W1.cell? S1) xp hx → Calls Try.prog 92 #[ndV z hz, .slice (some ⟨b, off + 1, none⟩) (n - 1) (cl - 1), ndV xp hx, .bool cut] W1 fun e W' => RdE W1 W' S1 e (.ok y)) :
    Calls Try.prog 92 #[ndV x0 h, .slice (some ⟨b, off, none⟩) n cl, ndV xp hx, .bool cut] W fun e W' => RdE W W' S e (.ok (x0.with (x0.kids.set p (nm, y)))) := by
  have HA : Hid (kidI nm x0.kids 0 = (p : Int)) := hA
  have HIH : Hid _ := IH
  have HZ0 : Hid (x0.kids[p]? = some (nm, z)) := hz0
  have dn1 : decide ((1 : Int) < (n : Int)) = true := decide_eq_true (by omega)
  have dn2 : decide (1 < n) = true := decide_eq_true hn
  have dn3 : (1 : Int) ≤ (n : Int) := by omega
  have dn4 : (n : Int) ≤ (cl : Int) := by omega
  have ncl : ¬ cl = 1 := by omega
  have df : decide ((0 : Int) < 0) = false := rfl
  have dp : decide ((p : Int) < 0) = false := decide_eq_false (by omega)
  clear hA IH hz0
  obtain ⟨i0, hi0, hzz0, hzz1, hzz2⟩ := info_three Try.infoK
  have HI0 : Hid _ := hi0
  have HYtkkhfnkmfkdhiab0 : Hid _ := hzz0
  have HYtkkhfnkmfkdhiab1 : Hid _ := hzz1
  have HYtkkhfnkmfkdhiab2 : Hid _ := hzz2
  clear hi0 hzz0 hzz1 hzz2
  obtain ⟨k, m, u, g, o, at_, d, ks⟩ := x0
  obtain ⟨k3, m3, u3, g3, o3, at3, d3, ks3⟩ := xp
  have hk' : k = 2 := hk2
  subst hk'
  show Calls Try.prog 92 #[.agg #[.int .i64 2, .int .i64 m, .int .i64 u, .int .i64 g, .bool o, .slice h.aa at_.length h.ca, .string d, .slice h.ak ks.length h.ck], .slice (some ⟨b, off, none⟩) n cl, .agg #[.int .i64 k3, .int .i64 m3, .int .i64 u3, .int .i64 g3, .bool o3, .slice hx.aa at3.length hx.ca, .string d3, .slice hx.ak ks3.length hx.ck], .bool cut] _ _
  obtain ⟨B1, X1, R1, hB1⟩ := three W 2 m u g o at_ d ks h k3 m3 u3 g3 o3 at3 d3 ks3 hx
  have HS0 : Hid (∀ k, S k = true → k < W.heap.size) := hS0
  have HN : Hid (NdV (offS W.cell? S) (.mk 2 m u g o at_ d ks) h) := hN
  have HXN : Hid (NdV (offS W.cell? S) (.mk k3 m3 u3 g3 o3 at3 d3 ks3) hx) := hXN
  have HNM : Hid (W.cell? ⟨b, off, none⟩ = some (.string nm)) := hnm
  have HKF : Hid (kidF nm (.mk 2 m u g o at_ d ks) = kidI nm ks 0) := by show _ = _; rw [kidF, if_pos rfl]
  have hkl : ks.length ≤ 800 := kids_le hcnt
  have dz : ((n : Int) == 0) = false := by simp; omega
  have bk : ((2 : Int) != 2) = false := rfl
  have hn0 : (0 : Int) < (n : Int) := by omega
  have hn00 : 0 < n := by omega
  clear hS0 hN hXN hnm hk2
  obtain ⟨⟨y0, y1, y2, y3, y4, y5, y6, y7⟩, y8⟩ := id B1
  go_enter Try.func92, Try.ntmps92
  go_wp2_with fail
  clear y0 y1 y2 y3 y4 y5 y6 y7 y8
  generalize (((W.alloc (.cells #[.int .i64 2, .int .i64 m, .int .i64 u, .int .i64 g, .bool o, .slice h.aa at_.length h.ca, .string d, .slice h.ak ks.length h.ck] 25)).alloc (.cells #[.int .i64 k3, .int .i64 m3, .int .i64 u3, .int .i64 g3, .bool o3, .slice hx.aa at3.length hx.ca, .string d3, .slice hx.ak ks3.length hx.ck] 25)).alloc (.cells #[.int .i64 0, .int .i64 0, .int .i64 0, .int .i64 0, .bool false, .slice none 0 0, .string ⟨#[]⟩, .slice none 0 0] 25)) = w1 at B1 X1 R1 hB1 ⊢
  have c0 : w1.cell? ⟨b, off, none⟩ = some (.string nm) := (hB1.cell (p := ⟨b, off, none⟩) (World.block_lt_of_cell? _ _ HNM.out)).trans HNM.out
  have hq5 : Below w1.heap.size w1 w1.drew := below_drewN (Below.refl _ _) 1
  have hpl := kid_any (w := W) (HN.out.on (offS_le _ _)) nm w1.drew (hB1.trans (hq5.mono hB1.size)) (fun k1 m1 u1 g1 o1 a1 d1 ks1 e => by cases e; exact Nat.le_trans hkl (by decide))
  have HPL : Hid (Calls Try.prog 114 #[.agg #[.int .i64 2, .int .i64 m, .int .i64 u, .int .i64 g, .bool o, .slice h.aa at_.length h.ca, .string d, .slice h.ak ks.length h.ck], .string nm] w1.drew fun e w' => e = .returned (.int .i64 (kidF nm (.mk 2 m u g o at_ d ks))) ∧ Below w1.drew.heap.size w1.drew w') := hpl
  clear hpl
  generalize hsz : W.heap.size = nb at B1 X1 R1 ⊢
  have T5 : NNm w1.drew nb b off nm (.mk 2 m u g o at_ d ks) h := NNm.of B1.1 c0
  obtain ⟨⟨y0, y1, y2, y3, y4, y5, y6, y7⟩, y8⟩ := id B1
  go_region_held3 (fun w' => w'.cell? ⟨nb, 0, none⟩ = some (.int .i64 2) ∧ w'.cell? ⟨nb, 1, none⟩ = some (.int .i64 m) ∧ w'.cell? ⟨nb, 2, none⟩ = some (.int .i64 u) ∧ w'.cell? ⟨nb, 3, none⟩ = some (.int .i64 g) ∧ w'.cell? ⟨nb, 4, none⟩ = some (.bool o) ∧ w'.cell? ⟨nb, 5, none⟩ = some (.slice h.aa at_.length h.ca) ∧ w'.cell? ⟨nb, 6, none⟩ = some (.string d) ∧ w'.cell? ⟨nb, 7, none⟩ = some (.slice h.ak ks.length h.ck) ∧ w'.cell? ⟨b, off, none⟩ = some (.string nm)) (first | exact T5 | exact T6) (first | (go_at_call 114; refine Calls.mono HPL.out ?_; rintro e w2 ⟨rfl, b4⟩; have T6 : NNm w2 nb b off nm (.mk 2 m u g o at_ d ks) h := T5.below b4))
  all_goals
    have b2 : Below w1.heap.size w1 w2 := hq5.trans b4
    rw [HKF.out]
    have hB2 := hB1.trans (b2.mono hB1.size)
    have B2 := B1.below b2
    have X2 := X1.below b2
    have R2 := R1.below b2
    have c2 := T6.2.2.2.2.2.2.2.2
    clear T5 T6 b4 b2 B1 X1 R1 hB1 c0 HPL hq5 y0 y1 y2 y3 y4 y5 y6 y7 y8
    have bo : Below w2.heap.size w2 (w2.alloc (.cells #[.int .i64 2, .int .i64 m, .int .i64 u, .int .i64 g, .bool o, .slice h.aa at_.length h.ca, .string d, .slice h.ak ks.length h.ck] 25)) := (Below.refl _ _).alloc (Nat.le_refl _) _
    have O3 : NBw (w2.alloc (.cells #[.int .i64 2, .int .i64 m, .int .i64 u, .int .i64 g, .bool o, .slice h.aa at_.length h.ca, .string d, .slice h.ak ks.length h.ck] 25)) w2.heap.size (.mk 2 m u g o at_ d ks) h := NBw.new w2 2 m u g o at_ d ks h
    generalize hw3 : w2.alloc (.cells #[.int .i64 2, .int .i64 m, .int .i64 u, .int .i64 g, .bool o, .slice h.aa at_.length h.ca, .string d, .slice h.ak ks.length h.ck] 25) = w3 at bo O3
    have hob : nb + 1 + 1 < w2.heap.size := R2.1.lt
    have hs4 : w2.heap.size < w3.heap.size := O3.1.lt
    have O4 : NBw (w3.setCell ⟨w2.heap.size, 7, none⟩ (.slice none 0 0)) w2.heap.size (.mk 2 m u g o at_ d []) ⟨h.aa, h.ca, none, 0⟩ := O3.set7 [] none 0
    have b4 : But w2.heap.size w3 (w3.setCell ⟨w2.heap.size, 7, none⟩ (.slice none 0 0)) := (But.refl _ _).setCell _ _ _
    have B4 := (B2.below bo).but b4 (by omega)
    have X4 := (X2.below bo).but b4 (by omega)
    have R4 := (R2.below bo).but b4 (by omega)
    have hB3 := hB2.trans (bo.mono hB2.size)
    have hB4 := hB3.trans (b4.below (B := W.heap.size) (by omega) hB3.size)
    have hs5 := b4.size
    generalize hw4 : w3.setCell ⟨w2.heap.size, 7, none⟩ (.slice none 0 0) = w4 at b4 O4 B4 X4 R4 hB4 hs5
    have c4 : w4.cell? ⟨b, off, none⟩ = some (.string nm) := (hB4.cell (p := ⟨b, off, none⟩) (World.block_lt_of_cell? _ _ HNM.out)).trans HNM.out
    clear bo b4 hB3
    rw [show kidI nm ks 0 = (p : Int) from HA.out]
    have hplt : p < ks.length := (List.getElem?_eq_some_iff.1 HZ0.out).1
    have hpi2 : (p : Int) < (ks.length : Int) := by omega
    obtain ⟨L, hLb, hLK⟩ := ksV_ksH (ndV_iff.1 HN.out).2.2.2
    have HLB : Hid (bare L = ks) := hLb
    have HLL : Hid (L.length = ks.length) := by show _ = _; rw [← hLb, bare_length]
    have HLK : Hid (KsH (offS W.cell? S) h.ak L) := hLK
    obtain ⟨hz, hzL⟩ : ∃ hz, L[p]? = some (nm, z, hz) := by
      have h1 : (bare L)[p]? = some (nm, z) := by rw [hLb]; exact HZ0.out
      unfold bare at h1
      rw [List.getElem?_map] at h1
      cases he : L[p]? with
      | none => rw [he] at h1; cases h1
      | some e =>
        rw [he] at h1
        obtain ⟨e1, e2, e3⟩ := e
        obtain ⟨rfl, rfl⟩ : e1 = nm ∧ e2 = z := by simpa using h1
        exact ⟨e3, rfl⟩
    have HZL : Hid (L[p]? = some (nm, z, hz)) := hzL
    have hNz : NdV (offS W.cell? S) z hz := hLK.2 _ (List.mem_of_getElem? hzL)
    obtain ⟨b', off', hak, hKp⟩ : ∃ b' off', h.ak = some ⟨b', off', none⟩ ∧ KdAt W.cell? b' (off' + p * 9) nm z hz := by
      rcases hLK.1 with q | ⟨b', off', q, hc⟩
      · rw [q] at hzL; simp at hzL
      · refine ⟨b', off', q, kdAt_iff.2 fun r v hr => ?_⟩
        rw [Nat.add_assoc]
        exact offS_le _ _ _ _ (hc _ _ (kfl_get L p nm z hz hzL r v hr))
    clear hLb hLK hzL
    have hq9 : Below w4.heap.size w4 w4.drew := below_drewN (Below.refl _ _) 1
    have hq9a : Below w4.heap.size w4 (w4.alloc (.cells #[.int .i64 0, .int .i64 0, .int .i64 0, .int .i64 0, .bool false, .slice none 0 0, .string ⟨#[]⟩, .slice none 0 0] 25)).drew := below_drewN ((Below.refl _ w4).alloc (Nat.le_refl _) _) 1
    have hK4 := hKp.below hB4
    have HCALL0 : Hid (∀ (W1 : World) (S1 : Nat → Bool), (∀ k, S1 k = true → k < W1.heap.size) → (∀ k, k < W.heap.size → S k = false → S1 k = false) → Below w4.heap.size w4 W1 → Calls Try.prog 92 #[ndV z hz, .slice (some ⟨b, off + 1, none⟩) (n - 1) (cl - 1), ndV (Nd.mk k3 m3 u3 g3 o3 at3 d3 ks3) hx, .bool cut] W1 fun e W' => RdE W1 W' S1 e (.ok y)) := by
      intro W1 S1 h1 h2 h3
      have hb1 := hB4.trans (h3.mono hB4.size)
      have mm : MLe (offS W.cell? S) (offS W1.cell? S1) := mle_step fun k hk hs => ⟨h2 k hk hs, hb1.block k hk⟩
      exact HIH.out W1 S1 h1 hb1 hz (hNz.on mm) (HXN.out.on mm)
    clear hKp hNz HIH
    have hw5 : w2.alloc (.cells #[.int .i64 2, .int .i64 m, .int .i64 u, .int .i64 g, .bool o, .slice h.aa at_.length h.ca, .string d, .slice none 0 0] 25) = w4 := by rw [← hw4, ← hw3]; simp [go_sem]
    have HW5 : Hid (w2.alloc (.cells #[.int .i64 2, .int .i64 m, .int .i64 u, .int .i64 g, .bool o, .slice h.aa at_.length h.ca, .string d, .slice none 0 0] 25) = w4) := hw5
    clear hw5 hw4 hw3
    have b41 := B4.1
    obtain ⟨k4, m4, u4, g4, o4, at4, d4, ks4⟩ := z
    obtain ⟨k6, m6, u6, g6, o6, at6, d6, ks6⟩ := y
    have HCALL : Hid (∀ (W1 : World) (S1 : Nat → Bool), (∀ k, S1 k = true → k < W1.heap.size) → (∀ k, k < W.heap.size → S k = false → S1 k = false) → Below w4.heap.size w4 W1 → Calls Try.prog 92 #[.agg #[.int .i64 k4, .int .i64 m4, .int .i64 u4, .int .i64 g4, .bool o4, .slice hz.aa at4.length hz.ca, .string d4, .slice hz.ak ks4.length hz.ck], .slice (some ⟨b, off + 1, none⟩) (n - 1) (cl - 1), .agg #[.int .i64 k3, .int .i64 m3, .int .i64 u3, .int .i64 g3, .bool o3, .slice hx.aa at3.length hx.ca, .string d3, .slice hx.ak ks3.length hx.ck], .bool cut] W1 fun e W' => (∃ h' : Hd, e = .returned (.tuple #[.agg #[.int .i64 k6, .int .i64 m6, .int .i64 u6, .int .i64 g6, .bool o6, .slice h'.aa at6.length h'.ca, .string d6, .slice h'.ak ks6.length h'.ck], .int .i64 0]) ∧ NdV (offS W'.cell? S1) (Nd.mk k6 m6 u6 g6 o6 at6 d6 ks6) h') ∧ Below W1.heap.size W1 W') := HCALL0.out
    clear HCALL0
    obtain ⟨_, p1, p2, p3, p4, p5, p6, p7, p8⟩ := hK4.nine
    obtain ⟨x0, x1, x2, x3, x4, x5, x6, x7⟩ := id X4.1
    obtain ⟨_, _, _, _, _, _, _, v7⟩ := id b41
    rw [hak] at v7
    have HAK : Hid (h.ak = some ⟨b', off', none⟩) := hak
    clear hak
    have T4 : w4.cell? ⟨nb, 7, none⟩ = some (.slice (some ⟨b', off', none⟩) ks.length h.ck) ∧ w4.cell? ⟨nb + 1, 0, none⟩ = some (.int .i64 k3) ∧ w4.cell? ⟨nb + 1, 1, none⟩ = some (.int .i64 m3) ∧ w4.cell? ⟨nb + 1, 2, none⟩ = some (.int .i64 u3) ∧ w4.cell? ⟨nb + 1, 3, none⟩ = some (.int .i64 g3) ∧ w4.cell? ⟨nb + 1, 4, none⟩ = some (.bool o3) ∧ w4.cell? ⟨nb + 1, 5, none⟩ = some (.slice hx.aa at3.length hx.ca) ∧ w4.cell? ⟨nb + 1, 6, none⟩ = some (.string d3) ∧ w4.cell? ⟨nb + 1, 7, none⟩ = some (.slice hx.ak ks3.length hx.ck) ∧ w4.cell? ⟨b', off' + p * 9 + 1, none⟩ = some (.int .i64 k4) ∧ w4.cell? ⟨b', off' + p * 9 + 1 + 1, none⟩ = some (.int .i64 m4) ∧ w4.cell? ⟨b', off' + p * 9 + 1 + 2, none⟩ = some (.int .i64 u4) ∧ w4.cell? ⟨b', off' + p * 9 + 1 + 3, none⟩ = some (.int .i64 g4) ∧ w4.cell? ⟨b', off' + p * 9 + 1 + 4, none⟩ = some (.bool o4) ∧ w4.cell? ⟨b', off' + p * 9 + 1 + 5, none⟩ = some (.slice hz.aa at4.length hz.ca) ∧ w4.cell? ⟨b', off' + p * 9 + 1 + 6, none⟩ = some (.string d4) ∧ w4.cell? ⟨b', off' + p * 9 + 1 + 7, none⟩ = some (.slice hz.ak ks4.length hz.ck) := ⟨v7, x0, x1, x2, x3, x4, x5, x6, x7, p1, p2, p3, p4, p5, p6, p7, p8⟩
    have TB : ∀ w', Below w4.heap.size w4 w' → w'.cell? ⟨nb, 7, none⟩ = some (.slice (some ⟨b', off', none⟩) ks.length h.ck) ∧ w'.cell? ⟨nb + 1, 0, none⟩ = some (.int .i64 k3) ∧ w'.cell? ⟨nb + 1, 1, none⟩ = some (.int .i64 m3) ∧ w'.cell? ⟨nb + 1, 2, none⟩ = some (.int .i64 u3) ∧ w'.cell? ⟨nb + 1, 3, none⟩ = some (.int .i64 g3) ∧ w'.cell? ⟨nb + 1, 4, none⟩ = some (.bool o3) ∧ w'.cell? ⟨nb + 1, 5, none⟩ = some (.slice hx.aa at3.length hx.ca) ∧ w'.cell? ⟨nb + 1, 6, none⟩ = some (.string d3) ∧ w'.cell? ⟨nb + 1, 7, none⟩ = some (.slice hx.ak ks3.length hx.ck) ∧ w'.cell? ⟨b', off' + p * 9 + 1, none⟩ = some (.int .i64 k4) ∧ w'.cell? ⟨b', off' + p * 9 + 1 + 1, none⟩ = some (.int .i64 m4) ∧ w'.cell? ⟨b', off' + p * 9 + 1 + 2, none⟩ = some (.int .i64 u4) ∧ w'.cell? ⟨b', off' + p * 9 + 1 + 3, none⟩ = some (.int .i64 g4) ∧ w'.cell? ⟨b', off' + p * 9 + 1 + 4, none⟩ = some (.bool o4) ∧ w'.cell? ⟨b', off' + p * 9 + 1 + 5, none⟩ = some (.slice hz.aa at4.length hz.ca) ∧ w'.cell? ⟨b', off' + p * 9 + 1 + 6, none⟩ = some (.string d4) ∧ w'.cell? ⟨b', off' + p * 9 + 1 + 7, none⟩ = some (.slice hz.ak ks4.length hz.ck) := fun w' hb => by
      obtain ⟨v7, x0, x1, x2, x3, x4, x5, x6, x7, p1, p2, p3, p4, p5, p6, p7, p8⟩ := T4
      have q : ∀ a v, w4.cell? a = some v → w'.cell? a = some v := fun a v hv => (hb.cell (World.block_lt_of_cell? _ _ hv)).trans hv
      exact ⟨q _ _ v7, q _ _ x0, q _ _ x1, q _ _ x2, q _ _ x3, q _ _ x4, q _ _ x5, q _ _ x6, q _ _ x7, q _ _ p1, q _ _ p2, q _ _ p3, q _ _ p4, q _ _ p5, q _ _ p6, q _ _ p7, q _ _ p8⟩
    have T9 := TB _ hq9
    have T9a := TB _ hq9a
    clear x0 x1 x2 x3 x4 x5 x6 x7 p1 p2 p3 p4 p5 p6 p7 p8 v7 b41 hK4 T4
    have HTB : Hid _ := TB
    clear TB
    have hQ9a : NBw (w4.alloc (.cells #[.int .i64 0, .int .i64 0, .int .i64 0, .int .i64 0, .bool false, .slice none 0 0, .string ⟨#[]⟩, .slice none 0 0] 25)).drew w4.heap.size zN zH := NBw.zero w4
    have HQ9A : Hid (NBw (w4.alloc (.cells #[.int .i64 0, .int .i64 0, .int .i64 0, .int .i64 0, .bool false, .slice none 0 0, .string ⟨#[]⟩, .slice none 0 0] 25)).drew w4.heap.size zN zH) := hQ9a
    clear hQ9a
    obtain ⟨⟨y0, y1, y2, y3, y4, y5, y6, y7⟩, y8⟩ := id B2
    obtain ⟨⟨q0, q1, q2, q3, q4, q5, q6, q7⟩, q8⟩ := id O3
    have HSK : Hid (∀ k, S k = true → k < W.heap.size) := HS0.out
    have hsb := hB4.size
    go_wp2_with fail
    rw [HW5.out]
    clear y0 y1 y2 y3 y4 y5 y6 y7 y8 q0 q1 q2 q3 q4 q5 q6 q7 q8 HW5
    generalize hob2 : w2.heap.size = ob at hob hs4 hs5 O3 O4 ⊢
    have hobl : ob < w4.heap.size := O4.1.lt
    clear O3 B2 X2 R2 hB2 c2 c4
    have HC1 : Hid (Calls Try.prog 92 #[.agg #[.int .i64 k4, .int .i64 m4, .int .i64 u4, .int .i64 g4, .bool o4, .slice hz.aa at4.length hz.ca, .string d4, .slice hz.ak ks4.length hz.ck], .slice (some ⟨b, off + 1, none⟩) (n - 1) (cl - 1), .agg #[.int .i64 k3, .int .i64 m3, .int .i64 u3, .int .i64 g3, .bool o3, .slice hx.aa at3.length hx.ca, .string d3, .slice hx.ak ks3.length hx.ck], .bool cut] w4.drew fun e W' => (∃ h' : Hd, e = .returned (.tuple #[.agg #[.int .i64 k6, .int .i64 m6, .int .i64 u6, .int .i64 g6, .bool o6, .slice h'.aa at6.length h'.ca, .string d6, .slice h'.ak ks6.length h'.ck], .int .i64 0]) ∧ NdV (offS W'.cell? (orS (orS S (nb + 1 + 1)) ob)) (Nd.mk k6 m6 u6 g6 o6 at6 d6 ks6) h') ∧ Below w4.drew.heap.size w4.drew W') := by
      refine HCALL.out w4.drew (orS (orS S (nb + 1 + 1)) ob) (fun k hk => ?_) (fun k hk hs => ?_) hq9
      · simp only [orS, Bool.or_eq_true, beq_iff_eq] at hk
        show k < w4.heap.size
        rcases hk with hk | hk | hk
        · omega
        · omega
        · have := HSK.out k hk; omega
      · simp only [orS, Bool.or_eq_false_iff, beq_eq_false_iff_ne]
        refine ⟨?_, ?_, hs⟩ <;> omega
    have HC2 : Hid (Calls Try.prog 92 #[.agg #[.int .i64 k4, .int .i64 m4, .int .i64 u4, .int .i64 g4, .bool o4, .slice hz.aa at4.length hz.ca, .string d4, .slice hz.ak ks4.length hz.ck], .slice (some ⟨b, off + 1, none⟩) (n - 1) (cl - 1), .agg #[.int .i64 k3, .int .i64 m3, .int .i64 u3, .int .i64 g3, .bool o3, .slice hx.aa at3.length hx.ca, .string d3, .slice hx.ak ks3.length hx.ck], .bool cut] (w4.alloc (.cells #[.int .i64 0, .int .i64 0, .int .i64 0, .int .i64 0, .bool false, .slice none 0 0, .string ⟨#[]⟩, .slice none 0 0] 25)).drew fun e W' => (∃ h' : Hd, e = .returned (.tuple #[.agg #[.int .i64 k6, .int .i64 m6, .int .i64 u6, .int .i64 g6, .bool o6, .slice h'.aa at6.length h'.ca, .string d6, .slice h'.ak ks6.length h'.ck], .int .i64 0]) ∧ NdV (offS W'.cell? (orS (orS (orS S (nb + 1 + 1)) ob) w4.heap.size)) (Nd.mk k6 m6 u6 g6 o6 at6 d6 ks6) h') ∧ Below (w4.alloc (.cells #[.int .i64 0, .int .i64 0, .int .i64 0, .int .i64 0, .bool false, .slice none 0 0, .string ⟨#[]⟩, .slice none 0 0] 25)).drew.heap.size (w4.alloc (.cells #[.int .i64 0, .int .i64 0, .int .i64 0, .int .i64 0, .bool false, .slice none 0 0, .string ⟨#[]⟩, .slice none 0 0] 25)).drew W') := by
      refine HCALL.out (w4.alloc (.cells #[.int .i64 0, .int .i64 0, .int .i64 0, .int .i64 0, .bool false, .slice none 0 0, .string ⟨#[]⟩, .slice none 0 0] 25)).drew (orS (orS (orS S (nb + 1 + 1)) ob) w4.heap.size) (fun k hk => ?_) (fun k hk hs => ?_) hq9a
      · simp only [orS, Bool.or_eq_true, beq_iff_eq] at hk
        have hsA : (w4.alloc (.cells #[.int .i64 0, .int .i64 0, .int .i64 0, .int .i64 0, .bool false, .slice none 0 0, .string ⟨#[]⟩, .slice none 0 0] 25)).drew.heap.size = w4.heap.size + 1 := World.size_alloc _ _
        rw [hsA]
        rcases hk with hk | hk | hk | hk
        · omega
        · omega
        · omega
        · have := HSK.out k hk; omega
      · simp only [orS, Bool.or_eq_false_iff, beq_eq_false_iff_ne]
        refine ⟨?_, ?_, ?_, hs⟩ <;> omega
    clear HCALL
    have HK1 : Hid (∀ w5 h', Below w4.drew.heap.size w4.drew w5 → (w5.cell? ⟨nb, 7, none⟩ = some (.slice (some ⟨b', off', none⟩) ks.length h.ck) ∧ w5.cell? ⟨nb + 1, 0, none⟩ = some (.int .i64 k3) ∧ w5.cell? ⟨nb + 1, 1, none⟩ = some (.int .i64 m3) ∧ w5.cell? ⟨nb + 1, 2, none⟩ = some (.int .i64 u3) ∧ w5.cell? ⟨nb + 1, 3, none⟩ = some (.int .i64 g3) ∧ w5.cell? ⟨nb + 1, 4, none⟩ = some (.bool o3) ∧ w5.cell? ⟨nb + 1, 5, none⟩ = some (.slice hx.aa at3.length hx.ca) ∧ w5.cell? ⟨nb + 1, 6, none⟩ = some (.string d3) ∧ w5.cell? ⟨nb + 1, 7, none⟩ = some (.slice hx.ak ks3.length hx.ck) ∧ w5.cell? ⟨b', off' + p * 9 + 1, none⟩ = some (.int .i64 k4) ∧ w5.cell? ⟨b', off' + p * 9 + 1 + 1, none⟩ = some (.int .i64 m4) ∧ w5.cell? ⟨b', off' + p * 9 + 1 + 2, none⟩ = some (.int .i64 u4) ∧ w5.cell? ⟨b', off' + p * 9 + 1 + 3, none⟩ = some (.int .i64 g4) ∧ w5.cell? ⟨b', off' + p * 9 + 1 + 4, none⟩ = some (.bool o4) ∧ w5.cell? ⟨b', off' + p * 9 + 1 + 5, none⟩ = some (.slice hz.aa at4.length hz.ca) ∧ w5.cell? ⟨b', off' + p * 9 + 1 + 6, none⟩ = some (.string d4) ∧ w5.cell? ⟨b', off' + p * 9 + 1 + 7, none⟩ = some (.slice hz.ak ks4.length hz.ck)) ∧ ((w5.alloc (.cells #[.int .i64 0, .int .i64 0, .int .i64 0, .int .i64 0, .bool false, .slice none 0 0, .string ⟨#[]⟩, .slice none 0 0] 25)).cell? ⟨nb, 7, none⟩ = some (.slice (some ⟨b', off', none⟩) ks.length h.ck) ∧ (w5.alloc (.cells #[.int .i64 0, .int .i64 0, .int .i64 0, .int .i64 0, .bool false, .slice none 0 0, .string ⟨#[]⟩, .slice none 0 0] 25)).cell? ⟨nb + 1, 0, none⟩ = some (.int .i64 k3) ∧ (w5.alloc (.cells #[.int .i64 0, .int .i64 0, .int .i64 0, .int .i64 0, .bool false, .slice none 0 0, .string ⟨#[]⟩, .slice none 0 0] 25)).cell? ⟨nb + 1, 1, none⟩ = some (.int .i64 m3) ∧ (w5.alloc (.cells #[.int .i64 0, .int .i64 0, .int .i64 0, .int .i64 0, .bool false, .slice none 0 0, .string ⟨#[]⟩, .slice none 0 0] 25)).cell? ⟨nb + 1, 2, none⟩ = some (.int .i64 u3) ∧ (w5.alloc (.cells #[.int .i64 0, .int .i64 0, .int .i64 0, .int .i64 0, .bool false, .slice none 0 0, .string ⟨#[]⟩, .slice none 0 0] 25)).cell? ⟨nb + 1, 3, none⟩ = some (.int .i64 g3) ∧ (w5.alloc (.cells #[.int .i64 0, .int .i64 0, .int .i64 0, .int .i64 0, .bool false, .slice none 0 0, .string ⟨#[]⟩, .slice none 0 0] 25)).cell? ⟨nb + 1, 4, none⟩ = some (.bool o3) ∧ (w5.alloc (.cells #[.int .i64 0, .int .i64 0, .int .i64 0, .int .i64 0, .bool false, .slice none 0 0, .string ⟨#[]⟩, .slice none 0 0] 25)).cell? ⟨nb + 1, 5, none⟩ = some (.slice hx.aa at3.length hx.ca) ∧ (w5.alloc (.cells #[.int .i64 0, .int .i64 0, .int .i64 0, .int .i64 0, .bool false, .slice none 0 0, .string ⟨#[]⟩, .slice none 0 0] 25)).cell? ⟨nb + 1, 6, none⟩ = some (.string d3) ∧ (w5.alloc (.cells #[.int .i64 0, .int .i64 0, .int .i64 0, .int .i64 0, .bool false, .slice none 0 0, .string ⟨#[]⟩, .slice none 0 0] 25)).cell? ⟨nb + 1, 7, none⟩ = some (.slice hx.ak ks3.length hx.ck) ∧ (w5.alloc (.cells #[.int .i64 0, .int .i64 0, .int .i64 0, .int .i64 0, .bool false, .slice none 0 0, .string ⟨#[]⟩, .slice none 0 0] 25)).cell? ⟨b', off' + p * 9 + 1, none⟩ = some (.int .i64 k4) ∧ (w5.alloc (.cells #[.int .i64 0, .int .i64 0, .int .i64 0, .int .i64 0, .bool false, .slice none 0 0, .string ⟨#[]⟩, .slice none 0 0] 25)).cell? ⟨b', off' + p * 9 + 1 + 1, none⟩ = some (.int .i64 m4) ∧ (w5.alloc (.cells #[.int .i64 0, .int .i64 0, .int .i64 0, .int .i64 0, .bool false, .slice none 0 0, .string ⟨#[]⟩, .slice none 0 0] 25)).cell? ⟨b', off' + p * 9 + 1 + 2, none⟩ = some (.int .i64 u4) ∧ (w5.alloc (.cells #[.int .i64 0, .int .i64 0, .int .i64 0, .int .i64 0, .bool false, .slice none 0 0, .string ⟨#[]⟩, .slice none 0 0] 25)).cell? ⟨b', off' + p * 9 + 1 + 3, none⟩ = some (.int .i64 g4) ∧ (w5.alloc (.cells #[.int .i64 0, .int .i64 0, .int .i64 0, .int .i64 0, .bool false, .slice none 0 0, .string ⟨#[]⟩, .slice none 0 0] 25)).cell? ⟨b', off' + p * 9 + 1 + 4, none⟩ = some (.bool o4) ∧ (w5.alloc (.cells #[.int .i64 0, .int .i64 0, .int .i64 0, .int .i64 0, .bool false, .slice none 0 0, .string ⟨#[]⟩, .slice none 0 0] 25)).cell? ⟨b', off' + p * 9 + 1 + 5, none⟩ = some (.slice hz.aa at4.length hz.ca) ∧ (w5.alloc (.cells #[.int .i64 0, .int .i64 0, .int .i64 0, .int .i64 0, .bool false, .slice none 0 0, .string ⟨#[]⟩, .slice none 0 0] 25)).cell? ⟨b', off' + p * 9 + 1 + 6, none⟩ = some (.string d4) ∧ (w5.alloc (.cells #[.int .i64 0, .int .i64 0, .int .i64 0, .int .i64 0, .bool false, .slice none 0 0, .string ⟨#[]⟩, .slice none 0 0] 25)).cell? ⟨b', off' + p * 9 + 1 + 7, none⟩ = some (.slice hz.ak ks4.length hz.ck)) ∧ ((w5.alloc (.cells #[.int .i64 k6, .int .i64 m6, .int .i64 u6, .int .i64 g6, .bool o6, .slice h'.aa at6.length h'.ca, .string d6, .slice h'.ak ks6.length h'.ck] 25)).cell? ⟨nb, 7, none⟩ = some (.slice (some ⟨b', off', none⟩) ks.length h.ck) ∧ (w5.alloc (.cells #[.int .i64 k6, .int .i64 m6, .int .i64 u6, .int .i64 g6, .bool o6, .slice h'.aa at6.length h'.ca, .string d6, .slice h'.ak ks6.length h'.ck] 25)).cell? ⟨nb + 1, 0, none⟩ = some (.int .i64 k3) ∧ (w5.alloc (.cells #[.int .i64 k6, .int .i64 m6, .int .i64 u6, .int .i64 g6, .bool o6, .slice h'.aa at6.length h'.ca, .string d6, .slice h'.ak ks6.length h'.ck] 25)).cell? ⟨nb + 1, 1, none⟩ = some (.int .i64 m3) ∧ (w5.alloc (.cells #[.int .i64 k6, .int .i64 m6, .int .i64 u6, .int .i64 g6, .bool o6, .slice h'.aa at6.length h'.ca, .string d6, .slice h'.ak ks6.length h'.ck] 25)).cell? ⟨nb + 1, 2, none⟩ = some (.int .i64 u3) ∧ (w5.alloc (.cells #[.int .i64 k6, .int .i64 m6, .int .i64 u6, .int .i64 g6, .bool o6, .slice h'.aa at6.length h'.ca, .string d6, .slice h'.ak ks6.length h'.ck] 25)).cell? ⟨nb + 1, 3, none⟩ = some (.int .i64 g3) ∧ (w5.alloc (.cells #[.int .i64 k6, .int .i64 m6, .int .i64 u6, .int .i64 g6, .bool o6, .slice h'.aa at6.length h'.ca, .string d6, .slice h'.ak ks6.length h'.ck] 25)).cell? ⟨nb + 1, 4, none⟩ = some (.bool o3) ∧ (w5.alloc (.cells #[.int .i64 k6, .int .i64 m6, .int .i64 u6, .int .i64 g6, .bool o6, .slice h'.aa at6.length h'.ca, .string d6, .slice h'.ak ks6.length h'.ck] 25)).cell? ⟨nb + 1, 5, none⟩ = some (.slice hx.aa at3.length hx.ca) ∧ (w5.alloc (.cells #[.int .i64 k6, .int .i64 m6, .int .i64 u6, .int .i64 g6, .bool o6, .slice h'.aa at6.length h'.ca, .string d6, .slice h'.ak ks6.length h'.ck] 25)).cell? ⟨nb + 1, 6, none⟩ = some (.string d3) ∧ (w5.alloc (.cells #[.int .i64 k6, .int .i64 m6, .int .i64 u6, .int .i64 g6, .bool o6, .slice h'.aa at6.length h'.ca, .string d6, .slice h'.ak ks6.length h'.ck] 25)).cell? ⟨nb + 1, 7, none⟩ = some (.slice hx.ak ks3.length hx.ck) ∧ (w5.alloc (.cells #[.int .i64 k6, .int .i64 m6, .int .i64 u6, .int .i64 g6, .bool o6, .slice h'.aa at6.length h'.ca, .string d6, .slice h'.ak ks6.length h'.ck] 25)).cell? ⟨b', off' + p * 9 + 1, none⟩ = some (.int .i64 k4) ∧ (w5.alloc (.cells #[.int .i64 k6, .int .i64 m6, .int .i64 u6, .int .i64 g6, .bool o6, .slice h'.aa at6.length h'.ca, .string d6, .slice h'.ak ks6.length h'.ck] 25)).cell? ⟨b', off' + p * 9 + 1 + 1, none⟩ = some (.int .i64 m4) ∧ (w5.alloc (.cells #[.int .i64 k6, .int .i64 m6, .int .i64 u6, .int .i64 g6, .bool o6, .slice h'.aa at6.length h'.ca, .string d6, .slice h'.ak ks6.length h'.ck] 25)).cell? ⟨b', off' + p * 9 + 1 + 2, none⟩ = some (.int .i64 u4) ∧ (w5.alloc (.cells #[.int .i64 k6, .int .i64 m6, .int .i64 u6, .int .i64 g6, .bool o6, .slice h'.aa at6.length h'.ca, .string d6, .slice h'.ak ks6.length h'.ck] 25)).cell? ⟨b', off' + p * 9 + 1 + 3, none⟩ = some (.int .i64 g4) ∧ (w5.alloc (.cells #[.int .i64 k6, .int .i64 m6, .int .i64 u6, .int .i64 g6, .bool o6, .slice h'.aa at6.length h'.ca, .string d6, .slice h'.ak ks6.length h'.ck] 25)).cell? ⟨b', off' + p * 9 + 1 + 4, none⟩ = some (.bool o4) ∧ (w5.alloc (.cells #[.int .i64 k6, .int .i64 m6, .int .i64 u6, .int .i64 g6, .bool o6, .slice h'.aa at6.length h'.ca, .string d6, .slice h'.ak ks6.length h'.ck] 25)).cell? ⟨b', off' + p * 9 + 1 + 5, none⟩ = some (.slice hz.aa at4.length hz.ca) ∧ (w5.alloc (.cells #[.int .i64 k6, .int .i64 m6, .int .i64 u6, .int .i64 g6, .bool o6, .slice h'.aa at6.length h'.ca, .string d6, .slice h'.ak ks6.length h'.ck] 25)).cell? ⟨b', off' + p * 9 + 1 + 6, none⟩ = some (.string d4) ∧ (w5.alloc (.cells #[.int .i64 k6, .int .i64 m6, .int .i64 u6, .int .i64 g6, .bool o6, .slice h'.aa at6.length h'.ca, .string d6, .slice h'.ak ks6.length h'.ck] 25)).cell? ⟨b', off' + p * 9 + 1 + 7, none⟩ = some (.slice hz.ak ks4.length hz.ck)) ∧ NBw (w5.alloc (.cells #[.int .i64 k6, .int .i64 m6, .int .i64 u6, .int .i64 g6, .bool o6, .slice h'.aa at6.length h'.ca, .string d6, .slice h'.ak ks6.length h'.ck] 25)) w5.heap.size (Nd.mk k6 m6 u6 g6 o6 at6 d6 ks6) h' ∧ Below w4.heap.size w4 (w5.alloc (.cells #[.int .i64 k6, .int .i64 m6, .int .i64 u6, .int .i64 g6, .bool o6, .slice h'.aa at6.length h'.ca, .string d6, .slice h'.ak ks6.length h'.ck] 25)) ∧ w4.heap.size ≤ w5.heap.size) := by
      intro w5 h' b5
      have b45 : Below w4.heap.size w4 w5 := hq9.trans b5
      exact ⟨HTB.out w5 b45, HTB.out _ (b45.alloc b45.size _), HTB.out _ (b45.alloc b45.size _), NBw.new w5 k6 m6 u6 g6 o6 at6 d6 ks6 h', b45.alloc b45.size _, b45.size⟩
    have HK2 : Hid (∀ w5 h', Below (w4.alloc (.cells #[.int .i64 0, .int .i64 0, .int .i64 0, .int .i64 0, .bool false, .slice none 0 0, .string ⟨#[]⟩, .slice none 0 0] 25)).drew.heap.size (w4.alloc (.cells #[.int .i64 0, .int .i64 0, .int .i64 0, .int .i64 0, .bool false, .slice none 0 0, .string ⟨#[]⟩, .slice none 0 0] 25)).drew w5 → (w5.cell? ⟨nb, 7, none⟩ = some (.slice (some ⟨b', off', none⟩) ks.length h.ck) ∧ w5.cell? ⟨nb + 1, 0, none⟩ = some (.int .i64 k3) ∧ w5.cell? ⟨nb + 1, 1, none⟩ = some (.int .i64 m3) ∧ w5.cell? ⟨nb + 1, 2, none⟩ = some (.int .i64 u3) ∧ w5.cell? ⟨nb + 1, 3, none⟩ = some (.int .i64 g3) ∧ w5.cell? ⟨nb + 1, 4, none⟩ = some (.bool o3) ∧ w5.cell? ⟨nb + 1, 5, none⟩ = some (.slice hx.aa at3.length hx.ca) ∧ w5.cell? ⟨nb + 1, 6, none⟩ = some (.string d3) ∧ w5.cell? ⟨nb + 1, 7, none⟩ = some (.slice hx.ak ks3.length hx.ck) ∧ w5.cell? ⟨b', off' + p * 9 + 1, none⟩ = some (.int .i64 k4) ∧ w5.cell? ⟨b', off' + p * 9 + 1 + 1, none⟩ = some (.int .i64 m4) ∧ w5.cell? ⟨b', off' + p * 9 + 1 + 2, none⟩ = some (.int .i64 u4) ∧ w5.cell? ⟨b', off' + p * 9 + 1 + 3, none⟩ = some (.int .i64 g4) ∧ w5.cell? ⟨b', off' + p * 9 + 1 + 4, none⟩ = some (.bool o4) ∧ w5.cell? ⟨b', off' + p * 9 + 1 + 5, none⟩ = some (.slice hz.aa at4.length hz.ca) ∧ w5.cell? ⟨b', off' + p * 9 + 1 + 6, none⟩ = some (.string d4) ∧ w5.cell? ⟨b', off' + p * 9 + 1 + 7, none⟩ = some (.slice hz.ak ks4.length hz.ck)) ∧ (((((((((w5.setCell ⟨w4.heap.size, 0, none⟩ (.int .i64 k6)).setCell ⟨w4.heap.size, 1, none⟩ (.int .i64 m6)).setCell ⟨w4.heap.size, 2, none⟩ (.int .i64 u6)).setCell ⟨w4.heap.size, 3, none⟩ (.int .i64 g6)).setCell ⟨w4.heap.size, 4, none⟩ (.bool o6)).setCell ⟨w4.heap.size, 5, none⟩ (.slice h'.aa at6.length h'.ca)).setCell ⟨w4.heap.size, 6, none⟩ (.string d6)).setCell ⟨w4.heap.size, 7, none⟩ (.slice h'.ak ks6.length h'.ck)).cell? ⟨nb, 7, none⟩ = some (.slice (some ⟨b', off', none⟩) ks.length h.ck) ∧ ((((((((w5.setCell ⟨w4.heap.size, 0, none⟩ (.int .i64 k6)).setCell ⟨w4.heap.size, 1, none⟩ (.int .i64 m6)).setCell ⟨w4.heap.size, 2, none⟩ (.int .i64 u6)).setCell ⟨w4.heap.size, 3, none⟩ (.int .i64 g6)).setCell ⟨w4.heap.size, 4, none⟩ (.bool o6)).setCell ⟨w4.heap.size, 5, none⟩ (.slice h'.aa at6.length h'.ca)).setCell ⟨w4.heap.size, 6, none⟩ (.string d6)).setCell ⟨w4.heap.size, 7, none⟩ (.slice h'.ak ks6.length h'.ck)).cell? ⟨nb + 1, 0, none⟩ = some (.int .i64 k3) ∧ ((((((((w5.setCell ⟨w4.heap.size, 0, none⟩ (.int .i64 k6)).setCell ⟨w4.heap.size, 1, none⟩ (.int .i64 m6)).setCell ⟨w4.heap.size, 2, none⟩ (.int .i64 u6)).setCell ⟨w4.heap.size, 3, none⟩ (.int .i64 g6)).setCell ⟨w4.heap.size, 4, none⟩ (.bool o6)).setCell ⟨w4.heap.size, 5, none⟩ (.slice h'.aa at6.length h'.ca)).setCell ⟨w4.heap.size, 6, none⟩ (.string d6)).setCell ⟨w4.heap.size, 7, none⟩ (.slice h'.ak ks6.length h'.ck)).cell? ⟨nb + 1, 1, none⟩ = some (.int .i64 m3) ∧ ((((((((w5.setCell ⟨w4.heap.size, 0, none⟩ (.int .i64 k6)).setCell ⟨w4.heap.size, 1, none⟩ (.int .i64 m6)).setCell ⟨w4.heap.size, 2, none⟩ (.int .i64 u6)).setCell ⟨w4.heap.size, 3, none⟩ (.int .i64 g6)).setCell ⟨w4.heap.size, 4, none⟩ (.bool o6)).setCell ⟨w4.heap.size, 5, none⟩ (.slice h'.aa at6.length h'.ca)).setCell ⟨w4.heap.size, 6, none⟩ (.string d6)).setCell ⟨w4.heap.size, 7, none⟩ (.slice h'.ak ks6.length h'.ck)).cell? ⟨nb + 1, 2, none⟩ = some (.int .i64 u3) ∧ ((((((((w5.setCell ⟨w4.heap.size, 0, none⟩ (.int .i64 k6)).setCell ⟨w4.heap.size, 1, none⟩ (.int .i64 m6)).setCell ⟨w4.heap.size, 2, none⟩ (.int .i64 u6)).setCell ⟨w4.heap.size, 3, none⟩ (.int .i64 g6)).setCell ⟨w4.heap.size, 4, none⟩ (.bool o6)).setCell ⟨w4.heap.size, 5, none⟩ (.slice h'.aa at6.length h'.ca)).setCell ⟨w4.heap.size, 6, none⟩ (.string d6)).setCell ⟨w4.heap.size, 7, none⟩ (.slice h'.ak ks6.length h'.ck)).cell? ⟨nb + 1, 3, none⟩ = some (.int .i64 g3) ∧ ((((((((w5.setCell ⟨w4.heap.size, 0, none⟩ (.int .i64 k6)).setCell ⟨w4.heap.size, 1, none⟩ (.int .i64 m6)).setCell ⟨w4.heap.size, 2, none⟩ (.int .i64 u6)).setCell ⟨w4.heap.size, 3, none⟩ (.int .i64 g6)).setCell ⟨w4.heap.size, 4, none⟩ (.bool o6)).setCell ⟨w4.heap.size, 5, none⟩ (.slice h'.aa at6.length h'.ca)).setCell ⟨w4.heap.size, 6, none⟩ (.string d6)).setCell ⟨w4.heap.size, 7, none⟩ (.slice h'.ak ks6.length h'.ck)).cell? ⟨nb + 1, 4, none⟩ = some (.bool o3) ∧ ((((((((w5.setCell ⟨w4.heap.size, 0, none⟩ (.int .i64 k6)).setCell ⟨w4.heap.size, 1, none⟩ (.int .i64 m6)).setCell ⟨w4.heap.size, 2, none⟩ (.int .i64 u6)).setCell ⟨w4.heap.size, 3, none⟩ (.int .i64 g6)).setCell ⟨w4.heap.size, 4, none⟩ (.bool o6)).setCell ⟨w4.heap.size, 5, none⟩ (.slice h'.aa at6.length h'.ca)).setCell ⟨w4.heap.size, 6, none⟩ (.string d6)).setCell ⟨w4.heap.size, 7, none⟩ (.slice h'.ak ks6.length h'.ck)).cell? ⟨nb + 1, 5, none⟩ = some (.slice hx.aa at3.length hx.ca) ∧ ((((((((w5.setCell ⟨w4.heap.size, 0, none⟩ (.int .i64 k6)).setCell ⟨w4.heap.size, 1, none⟩ (.int .i64 m6)).setCell ⟨w4.heap.size, 2, none⟩ (.int .i64 u6)).setCell ⟨w4.heap.size, 3, none⟩ (.int .i64 g6)).setCell ⟨w4.heap.size, 4, none⟩ (.bool o6)).setCell ⟨w4.heap.size, 5, none⟩ (.slice h'.aa at6.length h'.ca)).setCell ⟨w4.heap.size, 6, none⟩ (.string d6)).setCell ⟨w4.heap.size, 7, none⟩ (.slice h'.ak ks6.length h'.ck)).cell? ⟨nb + 1, 6, none⟩ = some (.string d3) ∧ ((((((((w5.setCell ⟨w4.heap.size, 0, none⟩ (.int .i64 k6)).setCell ⟨w4.heap.size, 1, none⟩ (.int .i64 m6)).setCell ⟨w4.heap.size, 2, none⟩ (.int .i64 u6)).setCell ⟨w4.heap.size, 3, none⟩ (.int .i64 g6)).setCell ⟨w4.heap.size, 4, none⟩ (.bool o6)).setCell ⟨w4.heap.size, 5, none⟩ (.slice h'.aa at6.length h'.ca)).setCell ⟨w4.heap.size, 6, none⟩ (.string d6)).setCell ⟨w4.heap.size, 7, none⟩ (.slice h'.ak ks6.length h'.ck)).cell? ⟨nb + 1, 7, none⟩ = some (.slice hx.ak ks3.length hx.ck) ∧ ((((((((w5.setCell ⟨w4.heap.size, 0, none⟩ (.int .i64 k6)).setCell ⟨w4.heap.size, 1, none⟩ (.int .i64 m6)).setCell ⟨w4.heap.size, 2, none⟩ (.int .i64 u6)).setCell ⟨w4.heap.size, 3, none⟩ (.int .i64 g6)).setCell ⟨w4.heap.size, 4, none⟩ (.bool o6)).setCell ⟨w4.heap.size, 5, none⟩ (.slice h'.aa at6.length h'.ca)).setCell ⟨w4.heap.size, 6, none⟩ (.string d6)).setCell ⟨w4.heap.size, 7, none⟩ (.slice h'.ak ks6.length h'.ck)).cell? ⟨b', off' + p * 9 + 1, none⟩ = some (.int .i64 k4) ∧ ((((((((w5.setCell ⟨w4.heap.size, 0, none⟩ (.int .i64 k6)).setCell ⟨w4.heap.size, 1, none⟩ (.int .i64 m6)).setCell ⟨w4.heap.size, 2, none⟩ (.int .i64 u6)).setCell ⟨w4.heap.size, 3, none⟩ (.int .i64 g6)).setCell ⟨w4.heap.size, 4, none⟩ (.bool o6)).setCell ⟨w4.heap.size, 5, none⟩ (.slice h'.aa at6.length h'.ca)).setCell ⟨w4.heap.size, 6, none⟩ (.string d6)).setCell ⟨w4.heap.size, 7, none⟩ (.slice h'.ak ks6.length h'.ck)).cell? ⟨b', off' + p * 9 + 1 + 1, none⟩ = some (.int .i64 m4) ∧ ((((((((w5.setCell ⟨w4.heap.size, 0, none⟩ (.int .i64 k6)).setCell ⟨w4.heap.size, 1, none⟩ (.int .i64 m6)).setCell ⟨w4.heap.size, 2, none⟩ (.int .i64 u6)).setCell ⟨w4.heap.size, 3, none⟩ (.int .i64 g6)).setCell ⟨w4.heap.size, 4, none⟩ (.bool o6)).setCell ⟨w4.heap.size, 5, none⟩ (.slice h'.aa at6.length h'.ca)).setCell ⟨w4.heap.size, 6, none⟩ (.string d6)).setCell ⟨w4.heap.size, 7, none⟩ (.slice h'.ak ks6.length h'.ck)).cell? ⟨b', off' + p * 9 + 1 + 2, none⟩ = some (.int .i64 u4) ∧ ((((((((w5.setCell ⟨w4.heap.size, 0, none⟩ (.int .i64 k6)).setCell ⟨w4.heap.size, 1, none⟩ (.int .i64 m6)).setCell ⟨w4.heap.size, 2, none⟩ (.int .i64 u6)).setCell ⟨w4.heap.size, 3, none⟩ (.int .i64 g6)).setCell ⟨w4.heap.size, 4, none⟩ (.bool o6)).setCell ⟨w4.heap.size, 5, none⟩ (.slice h'.aa at6.length h'.ca)).setCell ⟨w4.heap.size, 6, none⟩ (.string d6)).setCell ⟨w4.heap.size, 7, none⟩ (.slice h'.ak ks6.length h'.ck)).cell? ⟨b', off' + p * 9 + 1 + 3, none⟩ = some (.int .i64 g4) ∧ ((((((((w5.setCell ⟨w4.heap.size, 0, none⟩ (.int .i64 k6)).setCell ⟨w4.heap.size, 1, none⟩ (.int .i64 m6)).setCell ⟨w4.heap.size, 2, none⟩ (.int .i64 u6)).setCell ⟨w4.heap.size, 3, none⟩ (.int .i64 g6)).setCell ⟨w4.heap.size, 4, none⟩ (.bool o6)).setCell ⟨w4.heap.size, 5, none⟩ (.slice h'.aa at6.length h'.ca)).setCell ⟨w4.heap.size, 6, none⟩ (.string d6)).setCell ⟨w4.heap.size, 7, none⟩ (.slice h'.ak ks6.length h'.ck)).cell? ⟨b', off' + p * 9 + 1 + 4, none⟩ = some (.bool o4) ∧ ((((((((w5.setCell ⟨w4.heap.size, 0, none⟩ (.int .i64 k6)).setCell ⟨w4.heap.size, 1, none⟩ (.int .i64 m6)).setCell ⟨w4.heap.size, 2, none⟩ (.int .i64 u6)).setCell ⟨w4.heap.size, 3, none⟩ (.int .i64 g6)).setCell ⟨w4.heap.size, 4, none⟩ (.bool o6)).setCell ⟨w4.heap.size, 5, none⟩ (.slice h'.aa at6.length h'.ca)).setCell ⟨w4.heap.size, 6, none⟩ (.string d6)).setCell ⟨w4.heap.size, 7, none⟩ (.slice h'.ak ks6.length h'.ck)).cell? ⟨b', off' + p * 9 + 1 + 5, none⟩ = some (.slice hz.aa at4.length hz.ca) ∧ ((((((((w5.setCell ⟨w4.heap.size, 0, none⟩ (.int .i64 k6)).setCell ⟨w4.heap.size, 1, none⟩ (.int .i64 m6)).setCell ⟨w4.heap.size, 2, none⟩ (.int .i64 u6)).setCell ⟨w4.heap.size, 3, none⟩ (.int .i64 g6)).setCell ⟨w4.heap.size, 4, none⟩ (.bool o6)).setCell ⟨w4.heap.size, 5, none⟩ (.slice h'.aa at6.length h'.ca)).setCell ⟨w4.heap.size, 6, none⟩ (.string d6)).setCell ⟨w4.heap.size, 7, none⟩ (.slice h'.ak ks6.length h'.ck)).cell? ⟨b', off' + p * 9 + 1 + 6, none⟩ = some (.string d4) ∧ ((((((((w5.setCell ⟨w4.heap.size, 0, none⟩ (.int .i64 k6)).setCell ⟨w4.heap.size, 1, none⟩ (.int .i64 m6)).setCell ⟨w4.heap.size, 2, none⟩ (.int .i64 u6)).setCell ⟨w4.heap.size, 3, none⟩ (.int .i64 g6)).setCell ⟨w4.heap.size, 4, none⟩ (.bool o6)).setCell ⟨w4.heap.size, 5, none⟩ (.slice h'.aa at6.length h'.ca)).setCell ⟨w4.heap.size, 6, none⟩ (.string d6)).setCell ⟨w4.heap.size, 7, none⟩ (.slice h'.ak ks6.length h'.ck)).cell? ⟨b', off' + p * 9 + 1 + 7, none⟩ = some (.slice hz.ak ks4.length hz.ck)) ∧ NBw w5 w4.heap.size zN zH ∧ NBw (stB w5 w4.heap.size (Nd.mk k6 m6 u6 g6 o6 at6 d6 ks6) h') w4.heap.size (Nd.mk k6 m6 u6 g6 o6 at6 d6 ks6) h' ∧ Below w4.heap.size w4 (stB w5 w4.heap.size (Nd.mk k6 m6 u6 g6 o6 at6 d6 ks6) h') ∧ w4.heap.size < w5.heap.size) := by
      intro w5 h' b5
      have b45 : Below w4.heap.size w4 w5 := hq9a.trans (b5.mono hq9a.size)
      have hQ5 := HQ9A.out.below b5
      have bY : But w4.heap.size w5 (stB w5 w4.heap.size (Nd.mk k6 m6 u6 g6 o6 at6 d6 ks6) h') := stB_but
      have b46 : Below w4.heap.size w4 (stB w5 w4.heap.size (Nd.mk k6 m6 u6 g6 o6 at6 d6 ks6) h') := b45.trans (bY.below (Nat.le_refl _) b45.size)
      exact ⟨HTB.out w5 b45, HTB.out _ b46, hQ5, hQ5.store (Nd.mk k6 m6 u6 g6 o6 at6 d6 ks6) h', b46, hQ5.1.lt⟩
    clear HTB
    go_region_held3 (fun w' => w'.cell? ⟨nb, 7, none⟩ = some (.slice (some ⟨b', off', none⟩) ks.length h.ck) ∧ w'.cell? ⟨nb + 1, 0, none⟩ = some (.int .i64 k3) ∧ w'.cell? ⟨nb + 1, 1, none⟩ = some (.int .i64 m3) ∧ w'.cell? ⟨nb + 1, 2, none⟩ = some (.int .i64 u3) ∧ w'.cell? ⟨nb + 1, 3, none⟩ = some (.int .i64 g3) ∧ w'.cell? ⟨nb + 1, 4, none⟩ = some (.bool o3) ∧ w'.cell? ⟨nb + 1, 5, none⟩ = some (.slice hx.aa at3.length hx.ca) ∧ w'.cell? ⟨nb + 1, 6, none⟩ = some (.string d3) ∧ w'.cell? ⟨nb + 1, 7, none⟩ = some (.slice hx.ak ks3.length hx.ck) ∧ w'.cell? ⟨b', off' + p * 9 + 1, none⟩ = some (.int .i64 k4) ∧ w'.cell? ⟨b', off' + p * 9 + 1 + 1, none⟩ = some (.int .i64 m4) ∧ w'.cell? ⟨b', off' + p * 9 + 1 + 2, none⟩ = some (.int .i64 u4) ∧ w'.cell? ⟨b', off' + p * 9 + 1 + 3, none⟩ = some (.int .i64 g4) ∧ w'.cell? ⟨b', off' + p * 9 + 1 + 4, none⟩ = some (.bool o4) ∧ w'.cell? ⟨b', off' + p * 9 + 1 + 5, none⟩ = some (.slice hz.aa at4.length hz.ca) ∧ w'.cell? ⟨b', off' + p * 9 + 1 + 6, none⟩ = some (.string d4) ∧ w'.cell? ⟨b', off' + p * 9 + 1 + 7, none⟩ = some (.slice hz.ak ks4.length hz.ck)) (first | with_reducible exact T9 | with_reducible exact T10 | with_reducible exact T11 | with_reducible exact T12 | with_reducible exact T9a) (first | (go_at_call 92; (with_reducible refine Calls.mono HC1.out ?_); rintro e w5 ⟨⟨h', rfl, HNY⟩, b5⟩; obtain ⟨T10, T11, T12, hYB, b46, hs45⟩ := HK1.out w5 h' b5) | (go_at_call 92; (with_reducible refine Calls.mono HC2.out ?_); rintro e w5 ⟨⟨h', rfl, HNY⟩, b5⟩; obtain ⟨T10, T12, hQ5, hYB, b46, hs45⟩ := HK2.out w5 h' b5; obtain ⟨⟨z0, z1, z2, z3, z4, z5, z6, z7⟩, z8⟩ := id hQ5; clear hQ5))
    · have HY3 : NdV (offS (w5.alloc (.cells #[.int .i64 k6, .int .i64 m6, .int .i64 u6, .int .i64 g6, .bool o6, .slice h'.aa at6.length h'.ca, .string d6, .slice h'.ak ks6.length h'.ck] 25)).cell? (orS (orS (orS S (nb + 1 + 1)) ob) w5.heap.size)) (Nd.mk k6 m6 u6 g6 o6 at6 d6 ks6) h' := HNY.on (mle_step fun k hk hs => ⟨by simp only [orS, Bool.or_eq_false_iff, beq_eq_false_iff_ne] at hs ⊢; exact ⟨by omega, hs⟩, ((Below.refl _ w5).alloc (Nat.le_refl _) _).block k hk⟩)
      clear HNY T9 T9a T10 T11 T12 HC1 HC2 HK1 HK2 b5
      generalize hyb : w5.heap.size = yb at HY3 hYB hs45 ⊢
      generalize w5.alloc (.cells #[.int .i64 k6, .int .i64 m6, .int .i64 u6, .int .i64 g6, .bool o6, .slice h'.aa at6.length h'.ca, .string d6, .slice h'.ak ks6.length h'.ck] 25) = w6 at HY3 hYB b46 ⊢
      have hyb2 := hs45
      clear hs45 hyb
      have B6 := B4.low b46 (by omega)
      have R6 := R4.low b46 (by omega)
      have O6 := O4.low b46 hobl
      have hB6 := hB4.trans (b46.mono hB4.size)
      have hob6 : ob < w6.heap.size := O6.1.lt
      have hyb6 : yb < w6.heap.size := hYB.1.lt
      clear B4 R4 O4 hB4 X4 b46 hq9 hq9a
      have HK6 : Hid (KsH w6.cell? h.ak L) := HLK.out.on (fun q v hq => mle_below hB6 q v (offS_le _ _ q v hq))
      have HY3' : Hid (NdV (offS w6.cell? (orS (orS (orS S (nb + 1 + 1)) ob) yb)) (Nd.mk k6 m6 u6 g6 o6 at6 d6 ks6) h') := HY3
      have HYB : Hid (NBw w6 yb (Nd.mk k6 m6 u6 g6 o6 at6 d6 ks6) h') := hYB
      have HB6 : Hid (Below W.heap.size W w6) := hB6
      have HO6 : Hid (NBw w6 ob (.mk 2 m u g o at_ d []) ⟨h.aa, h.ca, none, 0⟩) := O6
      have HR6 : Hid (NBw w6 (nb + 1 + 1) zN zH) := R6
      clear HY3 hYB hB6 R6
      have y7 : w6.cell? ⟨nb, 7, none⟩ = some (.slice (some ⟨b', off', none⟩) ks.length h.ck) := by rw [← HAK.out]; exact B6.1.2.2.2.2.2.2.2
      have o7 : w6.cell? ⟨ob, 7, none⟩ = some (.slice none 0 0) := O6.1.2.2.2.2.2.2.2
      clear B6 O6
      go_wp2_with (at_builtin; refine wpList_append_src _ rfl (.tmp 58) (.tmp 60) 23 rfl w6.heap.size 102 i0 zK 9 120 Try.underlying23 HI0.out HYtkkhfnkmfkdhiab0.out HYtkkhfnkmfkdhiab1.out HYtkkhfnkmfkdhiab2.out rfl (by decide) (.slice none 0 0) 0 (kfl []) rfl (World.ownsRow_nil _ _ _ _) (some ⟨b', off', none⟩) ks.length h.ck (kfl L) rfl (by rw [← HLL.out]; exact kfl_length L) (by rw [← HLL.out, ← HAK.out]; exact src_of_ksH HK6.out) (kfl_one _) (by unfold maxLen; omega) (by omega) (Nat.le_refl _) ?_)
      intro v2 w7 hown7 hgrow7 _
      rw [show kfl [] ++ kfl L = kfl L from rfl] at hown7
      have b67 : Below w6.heap.size w6 w7 := (Below.refl _ _).grown hgrow7 (Nat.le_refl _) (fun q e => by cases e)
      clear hgrow7
      obtain ⟨a7, cap, rfl, hc1, hc2, hform⟩ := owns_cells hown7
      obtain ⟨gr, rfl, hgr, hgl, hrow7, hfr7⟩ : ∃ gr, a7 = some ⟨gr, 0, none⟩ ∧ w6.heap.size ≤ gr ∧ gr < w7.heap.size ∧ (∀ j u, (kfl L)[j]? = some u → w7.cell? ⟨gr, j, none⟩ = some u) ∧ ∀ j, w7.frozen? ⟨gr, j, none⟩ = false := by
        rcases hform with ⟨_, e, _⟩ | q
        · omega
        · exact q
      clear hown7 hform
      have O7 := HO6.out.below b67
      have o7' : w7.cell? ⟨ob, 7, none⟩ = some (.slice none 0 0) := O7.1.2.2.2.2.2.2.2
      have o8 := O7.2 7
      have O8 : NBw (w7.setCell ⟨ob, 7, none⟩ (.slice (some ⟨gr, 0, none⟩) ks.length cap)) ob (.mk 2 m u g o at_ d ks) ⟨h.aa, h.ca, some ⟨gr, 0, none⟩, cap⟩ := O7.set7 ks (some ⟨gr, 0, none⟩) cap
      have b78 : But ob w7 (w7.setCell ⟨ob, 7, none⟩ (.slice (some ⟨gr, 0, none⟩) ks.length cap)) := (But.refl _ _).setCell _ _ _
      have Y8 := (HYB.out.below b67).but b78 (by omega)
      have R8 := (HR6.out.below b67).but b78 (by omega)
      have row8 : ∀ j u, (kfl L)[j]? = some u → (w7.setCell ⟨ob, 7, none⟩ (.slice (some ⟨gr, 0, none⟩) ks.length cap)).cell? ⟨gr, j, none⟩ = some u := fun j u hj => (b78.cell (p := ⟨gr, j, none⟩) hgl (show gr ≠ ob by omega)).trans (hrow7 j u hj)
      have fr8 : ∀ j, (w7.setCell ⟨ob, 7, none⟩ (.slice (some ⟨gr, 0, none⟩) ks.length cap)).frozen? ⟨gr, j, none⟩ = false := fun j => (b78.frozen (p := ⟨gr, j, none⟩) hgl (show gr ≠ ob by omega)).trans (hfr7 j)
      have s78 := b78.size
      have blk8 : ∀ k, k < w6.heap.size → k ≠ ob → (w7.setCell ⟨ob, 7, none⟩ (.slice (some ⟨gr, 0, none⟩) ks.length cap)).heap[k]? = w6.heap[k]? := fun k hk hne => (b78.block k (Nat.lt_of_lt_of_le hk b67.size) hne).trans (b67.block k hk)
      have bel8 : Below W.heap.size W (w7.setCell ⟨ob, 7, none⟩ (.slice (some ⟨gr, 0, none⟩) ks.length cap)) := (HB6.out.trans (b67.mono HB6.out.size)).trans (b78.below (by omega) (by have := b67.size; have := HB6.out.size; omega))
      clear O7 b67 b78 hrow7 hfr7 HYB HR6 HO6 HK6 y7 o7
      go_upto_region 13 with fail
      clear o7' o8
      generalize w7.setCell ⟨ob, 7, none⟩ (.slice (some ⟨gr, 0, none⟩) ks.length cap) = w8 at O8 Y8 R8 row8 fr8 s78 blk8 bel8 ⊢
      have hgl8 : gr < w8.heap.size := by omega
      have N8 : NAt w8.cell? gr (p * 9 + 1) (Nd.mk k4 m4 u4 g4 o4 at4 d4 ks4) hz := nat_iff.2 fun q v hq => by
        have h9 := kfl_get L p nm (Nd.mk k4 m4 u4 g4 o4 at4 d4 ks4) hz HZL.out (q + 1) v (by simpa using hq)
        have := row8 _ _ h9
        rwa [show p * 9 + (q + 1) = p * 9 + 1 + q by omega] at this
      have N9 := st8_at (x := (Nd.mk k6 m6 u6 g6 o6 at6 d6 ks6)) (h := h') N8
      have b89 : But gr w8 (st8 w8 gr (p * 9 + 1) (Nd.mk k6 m6 u6 g6 o6 at6 d6 ks6) h') := st8_but
      have O9 := O8.but b89 (by omega)
      have R9 := R8.but b89 (by omega)
      have row9 := kfl_set (y := (Nd.mk k6 m6 u6 g6 o6 at6 d6 ks6)) (hy := h') (c' := (st8 w8 gr (p * 9 + 1) (Nd.mk k6 m6 u6 g6 o6 at6 d6 ks6) h').cell?) HZL.out row8 (fun j hj => st8_far fun i hi e => hj i hi (by simpa using congrArg Addr.off e)) N9
      have blk9 : ∀ k, k < w6.heap.size → k ≠ ob → (st8 w8 gr (p * 9 + 1) (Nd.mk k6 m6 u6 g6 o6 at6 d6 ks6) h').heap[k]? = w6.heap[k]? := fun k hk hne => (b89.block k (by omega) (by omega)).trans (blk8 k hk hne)
      have bel9 := bel8.trans (b89.below (B := W.heap.size) (by have := HB6.out.size; omega) bel8.size)
      have hgl9 : gr < (st8 w8 gr (p * 9 + 1) (Nd.mk k6 m6 u6 g6 o6 at6 d6 ks6) h').heap.size := Nat.lt_of_lt_of_le hgl8 b89.size
      generalize hw9 : st8 w8 gr (p * 9 + 1) (Nd.mk k6 m6 u6 g6 o6 at6 d6 ks6) h' = w9 at O9 R9 row9 blk9 bel9 hgl9
      have HW9 : Hid (st8 w8 gr (p * 9 + 1) (Nd.mk k6 m6 u6 g6 o6 at6 d6 ks6) h' = w9) := hw9
      clear hw9 N9 b89
      have o87 : w8.cell? ⟨ob, 7, none⟩ = some (.slice (some ⟨gr, 0, none⟩) ks.length cap) := O8.1.2.2.2.2.2.2.2
      have HROW9 : Hid _ := row9
      have HBLK9 : Hid _ := blk9
      clear row9 blk9 row8 blk8 O8 R8
      obtain ⟨⟨t0, t1, t2, t3, t4, t5, t6, t7⟩, t8⟩ := id Y8
      obtain ⟨n0, n1, n2, n3, n4, n5, n6, n7⟩ := id N8
      go_upto_region 14 with fail
      have hw9 := HW9.out
      simp only [st8] at hw9
      rw [hw9]
      clear hw9 HW9 t0 t1 t2 t3 t4 t5 t6 t7 t8 n0 n1 n2 n3 n4 n5 n6 n7 Y8 N8 fr8 o87
      have O9' : NBw w9 ob ((Nd.mk 2 m u g o at_ d ks).with (ks.set p (nm, (Nd.mk k6 m6 u6 g6 o6 at6 d6 ks6)))) ⟨h.aa, h.ca, some ⟨gr, 0, none⟩, cap⟩ := by
        obtain ⟨⟨e0, e1, e2, e3, e4, e5, e6, e7⟩, e8⟩ := O9
        exact ⟨⟨e0, e1, e2, e3, e4, e5, e6, by rw [List.length_set]; exact e7⟩, e8⟩
      clear O9
      have R10 := R9.store ((Nd.mk 2 m u g o at_ d ks).with (ks.set p (nm, (Nd.mk k6 m6 u6 g6 o6 at6 d6 ks6)))) ⟨h.aa, h.ca, some ⟨gr, 0, none⟩, cap⟩
      have b10 : But (nb + 1 + 1) w9 (stB w9 (nb + 1 + 1) ((Nd.mk 2 m u g o at_ d ks).with (ks.set p (nm, (Nd.mk k6 m6 u6 g6 o6 at6 d6 ks6)))) ⟨h.aa, h.ca, some ⟨gr, 0, none⟩, cap⟩) := stB_but
      have hb10 := bel9.trans (b10.below (B := W.heap.size) (by omega) bel9.size)
      have hfin : NdV (offS (stB w9 (nb + 1 + 1) ((Nd.mk 2 m u g o at_ d ks).with (ks.set p (nm, (Nd.mk k6 m6 u6 g6 o6 at6 d6 ks6)))) ⟨h.aa, h.ca, some ⟨gr, 0, none⟩, cap⟩).cell? S) ((Nd.mk 2 m u g o at_ d ks).with (ks.set p (nm, (Nd.mk k6 m6 u6 g6 o6 at6 d6 ks6)))) ⟨h.aa, h.ca, some ⟨gr, 0, none⟩, cap⟩ := down_fin (S3 := (orS (orS (orS S (nb + 1 + 1)) ob) yb)) (p := p) (nm := nm) (w9 := stB w9 (nb + 1 + 1) ((Nd.mk 2 m u g o at_ d ks).with (ks.set p (nm, (Nd.mk k6 m6 u6 g6 o6 at6 d6 ks6)))) ⟨h.aa, h.ca, some ⟨gr, 0, none⟩, cap⟩) HN.out HLK.out.2 HS0.out hb10 HY3'.out (fun k hk hs => by
        simp only [orS, Bool.or_eq_false_iff, beq_eq_false_iff_ne] at hs
        exact ⟨hs.2.2.2, (b10.block k (by omega) hs.2.2.1).trans (HBLK9.out k hk hs.2.1)⟩) hgr (by have := HB6.out.size; omega) ⟨by rw [HLL.out]; exact hc1, hc2⟩ HLB.out (fun j v hj => (b10.cell (p := ⟨gr, j, none⟩) hgl9 (show gr ≠ nb + 1 + 1 by omega)).trans (HROW9.out j v hj))
      generalize hw10 : stB w9 (nb + 1 + 1) ((Nd.mk 2 m u g o at_ d ks).with (ks.set p (nm, (Nd.mk k6 m6 u6 g6 o6 at6 d6 ks6)))) ⟨h.aa, h.ca, some ⟨gr, 0, none⟩, cap⟩ = w10 at R10 hb10 hfin
      have HW10 : Hid (stB w9 (nb + 1 + 1) ((Nd.mk 2 m u g o at_ d ks).with (ks.set p (nm, (Nd.mk k6 m6 u6 g6 o6 at6 d6 ks6)))) ⟨h.aa, h.ca, some ⟨gr, 0, none⟩, cap⟩ = w10) := hw10
      clear hw10 b10
      generalize hKQ : (ks.set p (nm, (Nd.mk k6 m6 u6 g6 o6 at6 d6 ks6))) = KQ at R10 hfin HW10 O9'
      have HKQ : Hid ((ks.set p (nm, (Nd.mk k6 m6 u6 g6 o6 at6 d6 ks6))) = KQ) := hKQ
      clear hKQ
      obtain ⟨⟨s0, s1, s2, s3, s4, s5, s6, s7⟩, s8⟩ := id O9'
      obtain ⟨⟨z0, z1, z2, z3, z4, z5, z6, z7⟩, z8⟩ := id R9
      go_wp2
      have hw10 := HW10.out
      simp only [stB, Nd.with] at hw10
      rw [hw10]
      obtain ⟨r0, r1, r2, r3, r4, r5, r6, r7⟩ := R10.1
      refine bodyPost_ret (v := .tuple #[ndV ((Nd.mk 2 m u g o at_ d ks).with KQ) ⟨h.aa, h.ca, some ⟨gr, 0, none⟩, cap⟩, .int .i64 0]) (by simp [results, Try.results92, go_sem, ndV, Nd.with, r0, r1, r2, r3, r4, r5, r6, r7]) rfl (by show RdE W _ S _ (.ok ((Nd.mk 2 m u g o at_ d ks).with (ks.set p (nm, (Nd.mk k6 m6 u6 g6 o6 at6 d6 ks6))))); rw [HKQ.out]; exact ⟨⟨_, rfl, hfin⟩, hb10⟩)
    · have HY3 : NdV (offS (stB w5 w4.heap.size (Nd.mk k6 m6 u6 g6 o6 at6 d6 ks6) h').cell? (orS (orS (orS S (nb + 1 + 1)) ob) w4.heap.size)) (Nd.mk k6 m6 u6 g6 o6 at6 d6 ks6) h' := HNY.on (mle_step fun k hk hs => ⟨hs, stB_but.block k hk (by simp only [orS, Bool.or_eq_false_iff, beq_eq_false_iff_ne] at hs; exact hs.1)⟩)
      clear HNY T9 T9a T10 T12 HC1 HC2 HK1 HK2 b5 z0 z1 z2 z3 z4 z5 z6 z7 z8
      generalize hw6 : stB w5 w4.heap.size (Nd.mk k6 m6 u6 g6 o6 at6 d6 ks6) h' = w6 at HY3 hYB b46
      simp only [stB] at hw6
      rw [hw6]
      clear hw6
      generalize hyb : w4.heap.size = yb at HY3 hYB ⊢
      have hyb2 : w4.heap.size ≤ yb := by omega
      clear hyb
      have B6 := B4.low b46 (by omega)
      have R6 := R4.low b46 (by omega)
      have O6 := O4.low b46 hobl
      have hB6 := hB4.trans (b46.mono hB4.size)
      have hob6 : ob < w6.heap.size := O6.1.lt
      have hyb6 : yb < w6.heap.size := hYB.1.lt
      clear B4 R4 O4 hB4 X4 b46 hq9 hq9a
      have HK6 : Hid (KsH w6.cell? h.ak L) := HLK.out.on (fun q v hq => mle_below hB6 q v (offS_le _ _ q v hq))
      have HY3' : Hid (NdV (offS w6.cell? (orS (orS (orS S (nb + 1 + 1)) ob) yb)) (Nd.mk k6 m6 u6 g6 o6 at6 d6 ks6) h') := HY3
      have HYB : Hid (NBw w6 yb (Nd.mk k6 m6 u6 g6 o6 at6 d6 ks6) h') := hYB
      have HB6 : Hid (Below W.heap.size W w6) := hB6
      have HO6 : Hid (NBw w6 ob (.mk 2 m u g o at_ d []) ⟨h.aa, h.ca, none, 0⟩) := O6
      have HR6 : Hid (NBw w6 (nb + 1 + 1) zN zH) := R6
      clear HY3 hYB hB6 R6
      have y7 : w6.cell? ⟨nb, 7, none⟩ = some (.slice (some ⟨b', off', none⟩) ks.length h.ck) := by rw [← HAK.out]; exact B6.1.2.2.2.2.2.2.2
      have o7 : w6.cell? ⟨ob, 7, none⟩ = some (.slice none 0 0) := O6.1.2.2.2.2.2.2.2
      clear B6 O6
      go_wp2_with (at_builtin; refine wpList_append_src _ rfl (.tmp 58) (.tmp 60) 23 rfl w6.heap.size 102 i0 zK 9 120 Try.underlying23 HI0.out HYtkkhfnkmfkdhiab0.out HYtkkhfnkmfkdhiab1.out HYtkkhfnkmfkdhiab2.out rfl (by decide) (.slice none 0 0) 0 (kfl []) rfl (World.ownsRow_nil _ _ _ _) (some ⟨b', off', none⟩) ks.length h.ck (kfl L) rfl (by rw [← HLL.out]; exact kfl_length L) (by rw [← HLL.out, ← HAK.out]; exact src_of_ksH HK6.out) (kfl_one _) (by unfold maxLen; omega) (by omega) (Nat.le_refl _) ?_)
      intro v2 w7 hown7 hgrow7 _
      rw [show kfl [] ++ kfl L = kfl L from rfl] at hown7
      have b67 : Below w6.heap.size w6 w7 := (Below.refl _ _).grown hgrow7 (Nat.le_refl _) (fun q e => by cases e)
      clear hgrow7
      obtain ⟨a7, cap, rfl, hc1, hc2, hform⟩ := owns_cells hown7
      obtain ⟨gr, rfl, hgr, hgl, hrow7, hfr7⟩ : ∃ gr, a7 = some ⟨gr, 0, none⟩ ∧ w6.heap.size ≤ gr ∧ gr < w7.heap.size ∧ (∀ j u, (kfl L)[j]? = some u → w7.cell? ⟨gr, j, none⟩ = some u) ∧ ∀ j, w7.frozen? ⟨gr, j, none⟩ = false := by
        rcases hform with ⟨_, e, _⟩ | q
        · omega
        · exact q
      clear hown7 hform
      have O7 := HO6.out.below b67
      have o7' : w7.cell? ⟨ob, 7, none⟩ = some (.slice none 0 0) := O7.1.2.2.2.2.2.2.2
      have o8 := O7.2 7
      have O8 : NBw (w7.setCell ⟨ob, 7, none⟩ (.slice (some ⟨gr, 0, none⟩) ks.length cap)) ob (.mk 2 m u g o at_ d ks) ⟨h.aa, h.ca, some ⟨gr, 0, none⟩, cap⟩ := O7.set7 ks (some ⟨gr, 0, none⟩) cap
      have b78 : But ob w7 (w7.setCell ⟨ob, 7, none⟩ (.slice (some ⟨gr, 0, none⟩) ks.length cap)) := (But.refl _ _).setCell _ _ _
      have Y8 := (HYB.out.below b67).but b78 (by omega)
      have R8 := (HR6.out.below b67).but b78 (by omega)
      have row8 : ∀ j u, (kfl L)[j]? = some u → (w7.setCell ⟨ob, 7, none⟩ (.slice (some ⟨gr, 0, none⟩) ks.length cap)).cell? ⟨gr, j, none⟩ = some u := fun j u hj => (b78.cell (p := ⟨gr, j, none⟩) hgl (show gr ≠ ob by omega)).trans (hrow7 j u hj)
      have fr8 : ∀ j, (w7.setCell ⟨ob, 7, none⟩ (.slice (some ⟨gr, 0, none⟩) ks.length cap)).frozen? ⟨gr, j, none⟩ = false := fun j => (b78.frozen (p := ⟨gr, j, none⟩) hgl (show gr ≠ ob by omega)).trans (hfr7 j)
      have s78 := b78.size
      have blk8 : ∀ k, k < w6.heap.size → k ≠ ob → (w7.setCell ⟨ob, 7, none⟩ (.slice (some ⟨gr, 0, none⟩) ks.length cap)).heap[k]? = w6.heap[k]? := fun k hk hne => (b78.block k (Nat.lt_of_lt_of_le hk b67.size) hne).trans (b67.block k hk)
      have bel8 : Below W.heap.size W (w7.setCell ⟨ob, 7, none⟩ (.slice (some ⟨gr, 0, none⟩) ks.length cap)) := (HB6.out.trans (b67.mono HB6.out.size)).trans (b78.below (by omega) (by have := b67.size; have := HB6.out.size; omega))
      clear O7 b67 b78 hrow7 hfr7 HYB HR6 HO6 HK6 y7 o7
      go_upto_region 13 with fail
      clear o7' o8
      generalize w7.setCell ⟨ob, 7, none⟩ (.slice (some ⟨gr, 0, none⟩) ks.length cap) = w8 at O8 Y8 R8 row8 fr8 s78 blk8 bel8 ⊢
      have hgl8 : gr < w8.heap.size := by omega
      have N8 : NAt w8.cell? gr (p * 9 + 1) (Nd.mk k4 m4 u4 g4 o4 at4 d4 ks4) hz := nat_iff.2 fun q v hq => by
        have h9 := kfl_get L p nm (Nd.mk k4 m4 u4 g4 o4 at4 d4 ks4) hz HZL.out (q + 1) v (by simpa using hq)
        have := row8 _ _ h9
        rwa [show p * 9 + (q + 1) = p * 9 + 1 + q by omega] at this
      have N9 := st8_at (x := (Nd.mk k6 m6 u6 g6 o6 at6 d6 ks6)) (h := h') N8
      have b89 : But gr w8 (st8 w8 gr (p * 9 + 1) (Nd.mk k6 m6 u6 g6 o6 at6 d6 ks6) h') := st8_but
      have O9 := O8.but b89 (by omega)
      have R9 := R8.but b89 (by omega)
      have row9 := kfl_set (y := (Nd.mk k6 m6 u6 g6 o6 at6 d6 ks6)) (hy := h') (c' := (st8 w8 gr (p * 9 + 1) (Nd.mk k6 m6 u6 g6 o6 at6 d6 ks6) h').cell?) HZL.out row8 (fun j hj => st8_far fun i hi e => hj i hi (by simpa using congrArg Addr.off e)) N9
      have blk9 : ∀ k, k < w6.heap.size → k ≠ ob → (st8 w8 gr (p * 9 + 1) (Nd.mk k6 m6 u6 g6 o6 at6 d6 ks6) h').heap[k]? = w6.heap[k]? := fun k hk hne => (b89.block k (by omega) (by omega)).trans (blk8 k hk hne)
      have bel9 := bel8.trans (b89.below (B := W.heap.size) (by have := HB6.out.size; omega) bel8.size)
      have hgl9 : gr < (st8 w8 gr (p * 9 + 1) (Nd.mk k6 m6 u6 g6 o6 at6 d6 ks6) h').heap.size := Nat.lt_of_lt_of_le hgl8 b89.size
      generalize hw9 : st8 w8 gr (p * 9 + 1) (Nd.mk k6 m6 u6 g6 o6 at6 d6 ks6) h' = w9 at O9 R9 row9 blk9 bel9 hgl9
      have HW9 : Hid (st8 w8 gr (p * 9 + 1) (Nd.mk k6 m6 u6 g6 o6 at6 d6 ks6) h' = w9) := hw9
      clear hw9 N9 b89
      have o87 : w8.cell? ⟨ob, 7, none⟩ = some (.slice (some ⟨gr, 0, none⟩) ks.length cap) := O8.1.2.2.2.2.2.2.2
      have HROW9 : Hid _ := row9
      have HBLK9 : Hid _ := blk9
      clear row9 blk9 row8 blk8 O8 R8
      obtain ⟨⟨t0, t1, t2, t3, t4, t5, t6, t7⟩, t8⟩ := id Y8
      obtain ⟨n0, n1, n2, n3, n4, n5, n6, n7⟩ := id N8
      go_upto_region 14 with fail
      have hw9 := HW9.out
      simp only [st8] at hw9
      rw [hw9]
      clear hw9 HW9 t0 t1 t2 t3 t4 t5 t6 t7 t8 n0 n1 n2 n3 n4 n5 n6 n7 Y8 N8 fr8 o87
      have O9' : NBw w9 ob ((Nd.mk 2 m u g o at_ d ks).with (ks.set p (nm, (Nd.mk k6 m6 u6 g6 o6 at6 d6 ks6)))) ⟨h.aa, h.ca, some ⟨gr, 0, none⟩, cap⟩ := by
        obtain ⟨⟨e0, e1, e2, e3, e4, e5, e6, e7⟩, e8⟩ := O9
        exact ⟨⟨e0, e1, e2, e3, e4, e5, e6, by rw [List.length_set]; exact e7⟩, e8⟩
      clear O9
      have R10 := R9.store ((Nd.mk 2 m u g o at_ d ks).with (ks.set p (nm, (Nd.mk k6 m6 u6 g6 o6 at6 d6 ks6)))) ⟨h.aa, h.ca, some ⟨gr, 0, none⟩, cap⟩
      have b10 : But (nb + 1 + 1) w9 (stB w9 (nb + 1 + 1) ((Nd.mk 2 m u g o at_ d ks).with (ks.set p (nm, (Nd.mk k6 m6 u6 g6 o6 at6 d6 ks6)))) ⟨h.aa, h.ca, some ⟨gr, 0, none⟩, cap⟩) := stB_but
      have hb10 := bel9.trans (b10.below (B := W.heap.size) (by omega) bel9.size)
      have hfin : NdV (offS (stB w9 (nb + 1 + 1) ((Nd.mk 2 m u g o at_ d ks).with (ks.set p (nm, (Nd.mk k6 m6 u6 g6 o6 at6 d6 ks6)))) ⟨h.aa, h.ca, some ⟨gr, 0, none⟩, cap⟩).cell? S) ((Nd.mk 2 m u g o at_ d ks).with (ks.set p (nm, (Nd.mk k6 m6 u6 g6 o6 at6 d6 ks6)))) ⟨h.aa, h.ca, some ⟨gr, 0, none⟩, cap⟩ := down_fin (S3 := (orS (orS (orS S (nb + 1 + 1)) ob) yb)) (p := p) (nm := nm) (w9 := stB w9 (nb + 1 + 1) ((Nd.mk 2 m u g o at_ d ks).with (ks.set p (nm, (Nd.mk k6 m6 u6 g6 o6 at6 d6 ks6)))) ⟨h.aa, h.ca, some ⟨gr, 0, none⟩, cap⟩) HN.out HLK.out.2 HS0.out hb10 HY3'.out (fun k hk hs => by
        simp only [orS, Bool.or_eq_false_iff, beq_eq_false_iff_ne] at hs
        exact ⟨hs.2.2.2, (b10.block k (by omega) hs.2.2.1).trans (HBLK9.out k hk hs.2.1)⟩) hgr (by have := HB6.out.size; omega) ⟨by rw [HLL.out]; exact hc1, hc2⟩ HLB.out (fun j v hj => (b10.cell (p := ⟨gr, j, none⟩) hgl9 (show gr ≠ nb + 1 + 1 by omega)).trans (HROW9.out j v hj))
      generalize hw10 : stB w9 (nb + 1 + 1) ((Nd.mk 2 m u g o at_ d ks).with (ks.set p (nm, (Nd.mk k6 m6 u6 g6 o6 at6 d6 ks6)))) ⟨h.aa, h.ca, some ⟨gr, 0, none⟩, cap⟩ = w10 at R10 hb10 hfin
      have HW10 : Hid (stB w9 (nb + 1 + 1) ((Nd.mk 2 m u g o at_ d ks).with (ks.set p (nm, (Nd.mk k6 m6 u6 g6 o6 at6 d6 ks6)))) ⟨h.aa, h.ca, some ⟨gr, 0, none⟩, cap⟩ = w10) := hw10
      clear hw10 b10
      generalize hKQ : (ks.set p (nm, (Nd.mk k6 m6 u6 g6 o6 at6 d6 ks6))) = KQ at R10 hfin HW10 O9'
      have HKQ : Hid ((ks.set p (nm, (Nd.mk k6 m6 u6 g6 o6 at6 d6 ks6))) = KQ) := hKQ
      clear hKQ
      obtain ⟨⟨s0, s1, s2, s3, s4, s5, s6, s7⟩, s8⟩ := id O9'
      obtain ⟨⟨z0, z1, z2, z3, z4, z5, z6, z7⟩, z8⟩ := id R9
      go_wp2
      have hw10 := HW10.out
      simp only [stB, Nd.with] at hw10
      rw [hw10]
      obtain ⟨r0, r1, r2, r3, r4, r5, r6, r7⟩ := R10.1
      refine bodyPost_ret (v := .tuple #[ndV ((Nd.mk 2 m u g o at_ d ks).with KQ) ⟨h.aa, h.ca, some ⟨gr, 0, none⟩, cap⟩, .int .i64 0]) (by simp [results, Try.results92, go_sem, ndV, Nd.with, r0, r1, r2, r3, r4, r5, r6, r7]) rfl (by show RdE W _ S _ (.ok ((Nd.mk 2 m u g o at_ d ks).with (ks.set p (nm, (Nd.mk k6 m6 u6 g6 o6 at6 d6 ks6))))); rw [HKQ.out]; exact ⟨⟨_, rfl, hfin⟩, hb10⟩)
end Go.Proofs.Ytkkhfnkmfkdhiab
