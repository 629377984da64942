/-
  WHAT THE DOCUMENT's Put DOES, one name that may not be: the walk.
-/
import Derived.Test.YtkkhfnkmfkdhiabZbaX
namespace Go.Proofs.Ytkkhfnkmfkdhiab
open Go.RowKit

set_option maxRecDepth 100000 in
set_option maxHeartbeats 4000000 in
theorem rput_miss {W : World} {S : Nat → Bool} (hS0 : ∀ k, S k = true → k < W.heap.size) {x0 : Nd} {h : Hd} (hN : NdV (offS W.cell? S) x0 h) {xp : Nd} {hx : Hd} (hXN : NdV (offS W.cell? S) xp hx) (cut : Bool) (hcut : cut = true) (b off n cl : Nat) (nm : ByteArray) (hnm : W.cell? ⟨b, off, none⟩ = some (.string nm)) (hn : n = 1) (hk2 : x0.kind = 2) (hcnt : cnt x0 ≤ 800) (hsz : nm.size ≤ 1000) (hA : kidI nm x0.kids 0 < 0) :
    Calls Try.prog 92 #[ndV x0 h, .slice (some ⟨b, off, none⟩) n cl, ndV xp hx, .bool cut] W fun e W' => RdE W W' S e (.error 5) := by
  subst hcut
  have hn2 : n ≤ 1000 := by omega
  have dn1 : decide ((1 : Int) < (n : Int)) = false := decide_eq_false (by omega)
  have dn2 : decide (1 < n) = false := decide_eq_false (by omega)
  have HNS : Hid (nm.size ≤ 9223372036854775807) := (by show _ ≤ _; omega)
  have HPRE : Hid (kidI nm x0.kids 0 < 0) := hA
  clear hsz hA
  obtain ⟨k, m, u, g, o, at_, d, ks⟩ := x0
  obtain ⟨k3, m3, u3, g3, o3, at3, d3, ks3⟩ := xp
  have hk' : k = 2 := hk2
  subst hk'
  show Calls Try.prog 92 #[.agg #[.int .i64 2, .int .i64 m, .int .i64 u, .int .i64 g, .bool o, .slice h.aa at_.length h.ca, .string d, .slice h.ak ks.length h.ck], .slice (some ⟨b, off, none⟩) n cl, .agg #[.int .i64 k3, .int .i64 m3, .int .i64 u3, .int .i64 g3, .bool o3, .slice hx.aa at3.length hx.ca, .string d3, .slice hx.ak ks3.length hx.ck], .bool true] _ _
  obtain ⟨B1, X1, R1, hB1⟩ := three W 2 m u g o at_ d ks h k3 m3 u3 g3 o3 at3 d3 ks3 hx
  have HS0 : Hid (∀ k, S k = true → k < W.heap.size) := hS0
  have HN : Hid (NdV (offS W.cell? S) (.mk 2 m u g o at_ d ks) h) := hN
  have HXN : Hid (NdV (offS W.cell? S) (.mk k3 m3 u3 g3 o3 at3 d3 ks3) hx) := hXN
  have HNM : Hid (W.cell? ⟨b, off, none⟩ = some (.string nm)) := hnm
  have HKF : Hid (kidF nm (.mk 2 m u g o at_ d ks) = kidI nm ks 0) := by show _ = _; rw [kidF, if_pos rfl]
  have hkl : ks.length ≤ 800 := kids_le hcnt
  have dz : ((n : Int) == 0) = false := by simp; omega
  have bk : ((2 : Int) != 2) = false := rfl
  have hn0 : (0 : Int) < (n : Int) := by omega
  have hn00 : 0 < n := by omega
  clear hn
  clear hS0 hN hXN hnm hk2
  obtain ⟨⟨y0, y1, y2, y3, y4, y5, y6, y7⟩, y8⟩ := id B1
  go_enter Try.func92, Try.ntmps92
  go_wp2_with fail
  clear y0 y1 y2 y3 y4 y5 y6 y7 y8
  generalize (((W.alloc (.cells #[.int .i64 2, .int .i64 m, .int .i64 u, .int .i64 g, .bool o, .slice h.aa at_.length h.ca, .string d, .slice h.ak ks.length h.ck] 25)).alloc (.cells #[.int .i64 k3, .int .i64 m3, .int .i64 u3, .int .i64 g3, .bool o3, .slice hx.aa at3.length hx.ca, .string d3, .slice hx.ak ks3.length hx.ck] 25)).alloc (.cells #[.int .i64 0, .int .i64 0, .int .i64 0, .int .i64 0, .bool false, .slice none 0 0, .string ⟨#[]⟩, .slice none 0 0] 25)) = w1 at B1 X1 R1 hB1 ⊢
  have c0 : w1.cell? ⟨b, off, none⟩ = some (.string nm) := (hB1.cell (p := ⟨b, off, none⟩) (World.block_lt_of_cell? _ _ HNM.out)).trans HNM.out
  have hq5 : Below w1.heap.size w1 w1.drew := below_drewN (Below.refl _ _) 1
  have hpl := kid_any (w := W) (HN.out.on (offS_le _ _)) nm w1.drew (hB1.trans (hq5.mono hB1.size)) (fun k1 m1 u1 g1 o1 a1 d1 ks1 e => by cases e; exact Nat.le_trans hkl (by decide))
  have HPL : Hid (Calls Try.prog 114 #[.agg #[.int .i64 2, .int .i64 m, .int .i64 u, .int .i64 g, .bool o, .slice h.aa at_.length h.ca, .string d, .slice h.ak ks.length h.ck], .string nm] w1.drew fun e w' => e = .returned (.int .i64 (kidF nm (.mk 2 m u g o at_ d ks))) ∧ Below w1.drew.heap.size w1.drew w') := hpl
  clear hpl
  generalize hsz : W.heap.size = nb at B1 X1 R1 ⊢
  have T5 : NNm w1.drew nb b off nm (.mk 2 m u g o at_ d ks) h := NNm.of B1.1 c0
  obtain ⟨⟨y0, y1, y2, y3, y4, y5, y6, y7⟩, y8⟩ := id B1
  go_region_held3 (fun w' => w'.cell? ⟨nb, 0, none⟩ = some (.int .i64 2) ∧ w'.cell? ⟨nb, 1, none⟩ = some (.int .i64 m) ∧ w'.cell? ⟨nb, 2, none⟩ = some (.int .i64 u) ∧ w'.cell? ⟨nb, 3, none⟩ = some (.int .i64 g) ∧ w'.cell? ⟨nb, 4, none⟩ = some (.bool o) ∧ w'.cell? ⟨nb, 5, none⟩ = some (.slice h.aa at_.length h.ca) ∧ w'.cell? ⟨nb, 6, none⟩ = some (.string d) ∧ w'.cell? ⟨nb, 7, none⟩ = some (.slice h.ak ks.length h.ck) ∧ w'.cell? ⟨b, off, none⟩ = some (.string nm)) (first | exact T5 | exact T6) (first | (go_at_call 114; refine Calls.mono HPL.out ?_; rintro e w2 ⟨rfl, b4⟩; have T6 : NNm w2 nb b off nm (.mk 2 m u g o at_ d ks) h := T5.below b4))
  all_goals
    have b2 : Below w1.heap.size w1 w2 := hq5.trans b4
    rw [HKF.out]
    have hB2 := hB1.trans (b2.mono hB1.size)
    have B2 := B1.below b2
    have X2 := X1.below b2
    have R2 := R1.below b2
    have c2 := T6.2.2.2.2.2.2.2.2
    clear T5 T6 b4 b2 B1 X1 R1 hB1 c0 HPL hq5 y0 y1 y2 y3 y4 y5 y6 y7 y8
    have bo : Below w2.heap.size w2 (w2.alloc (.cells #[.int .i64 2, .int .i64 m, .int .i64 u, .int .i64 g, .bool o, .slice h.aa at_.length h.ca, .string d, .slice h.ak ks.length h.ck] 25)) := (Below.refl _ _).alloc (Nat.le_refl _) _
    have O3 : NBw (w2.alloc (.cells #[.int .i64 2, .int .i64 m, .int .i64 u, .int .i64 g, .bool o, .slice h.aa at_.length h.ca, .string d, .slice h.ak ks.length h.ck] 25)) w2.heap.size (.mk 2 m u g o at_ d ks) h := NBw.new w2 2 m u g o at_ d ks h
    generalize hw3 : w2.alloc (.cells #[.int .i64 2, .int .i64 m, .int .i64 u, .int .i64 g, .bool o, .slice h.aa at_.length h.ca, .string d, .slice h.ak ks.length h.ck] 25) = w3 at bo O3
    have hob : nb + 1 + 1 < w2.heap.size := R2.1.lt
    have hs4 : w2.heap.size < w3.heap.size := O3.1.lt
    have O4 : NBw (w3.setCell ⟨w2.heap.size, 7, none⟩ (.slice none 0 0)) w2.heap.size (.mk 2 m u g o at_ d []) ⟨h.aa, h.ca, none, 0⟩ := O3.set7 [] none 0
    have b4 : But w2.heap.size w3 (w3.setCell ⟨w2.heap.size, 7, none⟩ (.slice none 0 0)) := (But.refl _ _).setCell _ _ _
    have B4 := (B2.below bo).but b4 (by omega)
    have X4 := (X2.below bo).but b4 (by omega)
    have R4 := (R2.below bo).but b4 (by omega)
    have hB3 := hB2.trans (bo.mono hB2.size)
    have hB4 := hB3.trans (b4.below (B := W.heap.size) (by omega) hB3.size)
    have hs5 := b4.size
    generalize hw4 : w3.setCell ⟨w2.heap.size, 7, none⟩ (.slice none 0 0) = w4 at b4 O4 B4 X4 R4 hB4 hs5
    have c4 : w4.cell? ⟨b, off, none⟩ = some (.string nm) := (hB4.cell (p := ⟨b, off, none⟩) (World.block_lt_of_cell? _ _ HNM.out)).trans HNM.out
    clear bo b4 hB3
    obtain ⟨A, HAe⟩ : ∃ A, Hid (kidI nm ks 0 = A) := ⟨_, rfl⟩
    rw [show kidI nm ks 0 = A from HAe.out]
    have hw5 : w2.alloc (.cells #[.int .i64 2, .int .i64 m, .int .i64 u, .int .i64 g, .bool o, .slice h.aa at_.length h.ca, .string d, .slice none 0 0] 25) = w4 := by rw [← hw4, ← hw3]; simp [go_sem]
    have HW5 : Hid (w2.alloc (.cells #[.int .i64 2, .int .i64 m, .int .i64 u, .int .i64 g, .bool o, .slice h.aa at_.length h.ca, .string d, .slice none 0 0] 25) = w4) := hw5
    have c5 : (w2.alloc (.cells #[.int .i64 2, .int .i64 m, .int .i64 u, .int .i64 g, .bool o, .slice h.aa at_.length h.ca, .string d, .slice none 0 0] 25)).cell? ⟨b, off, none⟩ = some (.string nm) := by rw [hw5]; exact c4
    clear hw5 hw4 hw3
    have R6 := R4.store zN zH
    have b6 : But (nb + 1 + 1) w4 (stB w4 (nb + 1 + 1) zN zH) := stB_but
    have hB6 := hB4.trans (b6.below (B := W.heap.size) (by omega) hB4.size)
    generalize hw6 : stB w4 (nb + 1 + 1) zN zH = w6 at R6 hB6
    have HW6 : Hid (stB w4 (nb + 1 + 1) zN zH = w6) := hw6
    clear hw6 b6
    obtain ⟨⟨y0, y1, y2, y3, y4, y5, y6, y7⟩, y8⟩ := id B2
    obtain ⟨⟨q0, q1, q2, q3, q4, q5, q6, q7⟩, q8⟩ := id O3
    go_wp2_with fail
    rw [HW5.out]
    clear y0 y1 y2 y3 y4 y5 y6 y7 y8 q0 q1 q2 q3 q4 q5 q6 q7 q8 HW5 B2 X2 R2 O3 O4 B4 X4 hB2 c2 hs4 hs5 hB4 c5
    refine (namer_any nm _ HNS.out).mono ?_
    rintro e w' ⟨rfl, rfl⟩
    have dA : decide (A < 0) = true := decide_eq_true (by rw [← HAe.out]; exact HPRE.out)
    obtain ⟨⟨z0, z1, z2, z3, z4, z5, z6, z7⟩, z8⟩ := id R4
    go_wp2
    have hw6 := HW6.out
    simp only [stB, zN, zH, List.length_nil] at hw6
    rw [hw6]
    obtain ⟨r0, r1, r2, r3, r4, r5, r6, r7⟩ := R6.1
    refine bodyPost_ret (v := .tuple #[ndV zN zH, .int .i64 5]) (by simp [results, Try.results92, go_sem, ndV, zN, zH, r0, r1, r2, r3, r4, r5, r6, r7]) rfl ⟨⟨zH, rfl, zN_in _⟩, hB6⟩

set_option maxRecDepth 100000 in
set_option maxHeartbeats 4000000 in
theorem rput_bad {W : World} {S : Nat → Bool} (hS0 : ∀ k, S k = true → k < W.heap.size) {x0 : Nd} {h : Hd} (hN : NdV (offS W.cell? S) x0 h) {xp : Nd} {hx : Hd} (hXN : NdV (offS W.cell? S) xp hx) (cut : Bool) (hcut : cut = false) (b off n cl : Nat) (nm : ByteArray) (hnm : W.cell? ⟨b, off, none⟩ = some (.string nm)) (hn : n = 1) (hk2 : x0.kind = 2) (hcnt : cnt x0 ≤ 800) (hsz : nm.size ≤ 1000) (hok : nameB nm = false) :
    Calls Try.prog 92 #[ndV x0 h, .slice (some ⟨b, off, none⟩) n cl, ndV xp hx, .bool cut] W fun e W' => RdE W W' S e (.error 4) := by
  subst hcut
  have hn2 : n ≤ 1000 := by omega
  have dn1 : decide ((1 : Int) < (n : Int)) = false := decide_eq_false (by omega)
  have dn2 : decide (1 < n) = false := decide_eq_false (by omega)
  have HNS : Hid (nm.size ≤ 9223372036854775807) := (by show _ ≤ _; omega)
  have HPRE : Hid (nameB nm = false) := hok
  clear hsz hok
  obtain ⟨k, m, u, g, o, at_, d, ks⟩ := x0
  obtain ⟨k3, m3, u3, g3, o3, at3, d3, ks3⟩ := xp
  have hk' : k = 2 := hk2
  subst hk'
  show Calls Try.prog 92 #[.agg #[.int .i64 2, .int .i64 m, .int .i64 u, .int .i64 g, .bool o, .slice h.aa at_.length h.ca, .string d, .slice h.ak ks.length h.ck], .slice (some ⟨b, off, none⟩) n cl, .agg #[.int .i64 k3, .int .i64 m3, .int .i64 u3, .int .i64 g3, .bool o3, .slice hx.aa at3.length hx.ca, .string d3, .slice hx.ak ks3.length hx.ck], .bool false] _ _
  obtain ⟨B1, X1, R1, hB1⟩ := three W 2 m u g o at_ d ks h k3 m3 u3 g3 o3 at3 d3 ks3 hx
  have HS0 : Hid (∀ k, S k = true → k < W.heap.size) := hS0
  have HN : Hid (NdV (offS W.cell? S) (.mk 2 m u g o at_ d ks) h) := hN
  have HXN : Hid (NdV (offS W.cell? S) (.mk k3 m3 u3 g3 o3 at3 d3 ks3) hx) := hXN
  have HNM : Hid (W.cell? ⟨b, off, none⟩ = some (.string nm)) := hnm
  have HKF : Hid (kidF nm (.mk 2 m u g o at_ d ks) = kidI nm ks 0) := by show _ = _; rw [kidF, if_pos rfl]
  have hkl : ks.length ≤ 800 := kids_le hcnt
  have dz : ((n : Int) == 0) = false := by simp; omega
  have bk : ((2 : Int) != 2) = false := rfl
  have hn0 : (0 : Int) < (n : Int) := by omega
  have hn00 : 0 < n := by omega
  clear hn
  clear hS0 hN hXN hnm hk2
  obtain ⟨⟨y0, y1, y2, y3, y4, y5, y6, y7⟩, y8⟩ := id B1
  go_enter Try.func92, Try.ntmps92
  go_wp2_with fail
  clear y0 y1 y2 y3 y4 y5 y6 y7 y8
  generalize (((W.alloc (.cells #[.int .i64 2, .int .i64 m, .int .i64 u, .int .i64 g, .bool o, .slice h.aa at_.length h.ca, .string d, .slice h.ak ks.length h.ck] 25)).alloc (.cells #[.int .i64 k3, .int .i64 m3, .int .i64 u3, .int .i64 g3, .bool o3, .slice hx.aa at3.length hx.ca, .string d3, .slice hx.ak ks3.length hx.ck] 25)).alloc (.cells #[.int .i64 0, .int .i64 0, .int .i64 0, .int .i64 0, .bool false, .slice none 0 0, .string ⟨#[]⟩, .slice none 0 0] 25)) = w1 at B1 X1 R1 hB1 ⊢
  have c0 : w1.cell? ⟨b, off, none⟩ = some (.string nm) := (hB1.cell (p := ⟨b, off, none⟩) (World.block_lt_of_cell? _ _ HNM.out)).trans HNM.out
  have hq5 : Below w1.heap.size w1 w1.drew := below_drewN (Below.refl _ _) 1
  have hpl := kid_any (w := W) (HN.out.on (offS_le _ _)) nm w1.drew (hB1.trans (hq5.mono hB1.size)) (fun k1 m1 u1 g1 o1 a1 d1 ks1 e => by cases e; exact Nat.le_trans hkl (by decide))
  have HPL : Hid (Calls Try.prog 114 #[.agg #[.int .i64 2, .int .i64 m, .int .i64 u, .int .i64 g, .bool o, .slice h.aa at_.length h.ca, .string d, .slice h.ak ks.length h.ck], .string nm] w1.drew fun e w' => e = .returned (.int .i64 (kidF nm (.mk 2 m u g o at_ d ks))) ∧ Below w1.drew.heap.size w1.drew w') := hpl
  clear hpl
  generalize hsz : W.heap.size = nb at B1 X1 R1 ⊢
  have T5 : NNm w1.drew nb b off nm (.mk 2 m u g o at_ d ks) h := NNm.of B1.1 c0
  obtain ⟨⟨y0, y1, y2, y3, y4, y5, y6, y7⟩, y8⟩ := id B1
  go_region_held3 (fun w' => w'.cell? ⟨nb, 0, none⟩ = some (.int .i64 2) ∧ w'.cell? ⟨nb, 1, none⟩ = some (.int .i64 m) ∧ w'.cell? ⟨nb, 2, none⟩ = some (.int .i64 u) ∧ w'.cell? ⟨nb, 3, none⟩ = some (.int .i64 g) ∧ w'.cell? ⟨nb, 4, none⟩ = some (.bool o) ∧ w'.cell? ⟨nb, 5, none⟩ = some (.slice h.aa at_.length h.ca) ∧ w'.cell? ⟨nb, 6, none⟩ = some (.string d) ∧ w'.cell? ⟨nb, 7, none⟩ = some (.slice h.ak ks.length h.ck) ∧ w'.cell? ⟨b, off, none⟩ = some (.string nm)) (first | exact T5 | exact T6) (first | (go_at_call 114; refine Calls.mono HPL.out ?_; rintro e w2 ⟨rfl, b4⟩; have T6 : NNm w2 nb b off nm (.mk 2 m u g o at_ d ks) h := T5.below b4))
  all_goals
    have b2 : Below w1.heap.size w1 w2 := hq5.trans b4
    rw [HKF.out]
    have hB2 := hB1.trans (b2.mono hB1.size)
    have B2 := B1.below b2
    have X2 := X1.below b2
    have R2 := R1.below b2
    have c2 := T6.2.2.2.2.2.2.2.2
    clear T5 T6 b4 b2 B1 X1 R1 hB1 c0 HPL hq5 y0 y1 y2 y3 y4 y5 y6 y7 y8
    have bo : Below w2.heap.size w2 (w2.alloc (.cells #[.int .i64 2, .int .i64 m, .int .i64 u, .int .i64 g, .bool o, .slice h.aa at_.length h.ca, .string d, .slice h.ak ks.length h.ck] 25)) := (Below.refl _ _).alloc (Nat.le_refl _) _
    have O3 : NBw (w2.alloc (.cells #[.int .i64 2, .int .i64 m, .int .i64 u, .int .i64 g, .bool o, .slice h.aa at_.length h.ca, .string d, .slice h.ak ks.length h.ck] 25)) w2.heap.size (.mk 2 m u g o at_ d ks) h := NBw.new w2 2 m u g o at_ d ks h
    generalize hw3 : w2.alloc (.cells #[.int .i64 2, .int .i64 m, .int .i64 u, .int .i64 g, .bool o, .slice h.aa at_.length h.ca, .string d, .slice h.ak ks.length h.ck] 25) = w3 at bo O3
    have hob : nb + 1 + 1 < w2.heap.size := R2.1.lt
    have hs4 : w2.heap.size < w3.heap.size := O3.1.lt
    have O4 : NBw (w3.setCell ⟨w2.heap.size, 7, none⟩ (.slice none 0 0)) w2.heap.size (.mk 2 m u g o at_ d []) ⟨h.aa, h.ca, none, 0⟩ := O3.set7 [] none 0
    have b4 : But w2.heap.size w3 (w3.setCell ⟨w2.heap.size, 7, none⟩ (.slice none 0 0)) := (But.refl _ _).setCell _ _ _
    have B4 := (B2.below bo).but b4 (by omega)
    have X4 := (X2.below bo).but b4 (by omega)
    have R4 := (R2.below bo).but b4 (by omega)
    have hB3 := hB2.trans (bo.mono hB2.size)
    have hB4 := hB3.trans (b4.below (B := W.heap.size) (by omega) hB3.size)
    have hs5 := b4.size
    generalize hw4 : w3.setCell ⟨w2.heap.size, 7, none⟩ (.slice none 0 0) = w4 at b4 O4 B4 X4 R4 hB4 hs5
    have c4 : w4.cell? ⟨b, off, none⟩ = some (.string nm) := (hB4.cell (p := ⟨b, off, none⟩) (World.block_lt_of_cell? _ _ HNM.out)).trans HNM.out
    clear bo b4 hB3
    obtain ⟨A, HAe⟩ : ∃ A, Hid (kidI nm ks 0 = A) := ⟨_, rfl⟩
    rw [show kidI nm ks 0 = A from HAe.out]
    have hw5 : w2.alloc (.cells #[.int .i64 2, .int .i64 m, .int .i64 u, .int .i64 g, .bool o, .slice h.aa at_.length h.ca, .string d, .slice none 0 0] 25) = w4 := by rw [← hw4, ← hw3]; simp [go_sem]
    have HW5 : Hid (w2.alloc (.cells #[.int .i64 2, .int .i64 m, .int .i64 u, .int .i64 g, .bool o, .slice h.aa at_.length h.ca, .string d, .slice none 0 0] 25) = w4) := hw5
    have c5 : (w2.alloc (.cells #[.int .i64 2, .int .i64 m, .int .i64 u, .int .i64 g, .bool o, .slice h.aa at_.length h.ca, .string d, .slice none 0 0] 25)).cell? ⟨b, off, none⟩ = some (.string nm) := by rw [hw5]; exact c4
    clear hw5 hw4 hw3
    have R6 := R4.store zN zH
    have b6 : But (nb + 1 + 1) w4 (stB w4 (nb + 1 + 1) zN zH) := stB_but
    have hB6 := hB4.trans (b6.below (B := W.heap.size) (by omega) hB4.size)
    generalize hw6 : stB w4 (nb + 1 + 1) zN zH = w6 at R6 hB6
    have HW6 : Hid (stB w4 (nb + 1 + 1) zN zH = w6) := hw6
    clear hw6 b6
    obtain ⟨⟨y0, y1, y2, y3, y4, y5, y6, y7⟩, y8⟩ := id B2
    obtain ⟨⟨q0, q1, q2, q3, q4, q5, q6, q7⟩, q8⟩ := id O3
    go_wp2_with fail
    rw [HW5.out]
    clear y0 y1 y2 y3 y4 y5 y6 y7 y8 q0 q1 q2 q3 q4 q5 q6 q7 q8 HW5 B2 X2 R2 O3 O4 B4 X4 hB2 c2 hs4 hs5 hB4 c5
    refine (namer_any nm _ HNS.out).mono ?_
    rintro e w' ⟨rfl, rfl⟩
    rw [HPRE.out]
    obtain ⟨⟨z0, z1, z2, z3, z4, z5, z6, z7⟩, z8⟩ := id R4
    go_wp2
    have hw6 := HW6.out
    simp only [stB, zN, zH, List.length_nil] at hw6
    rw [hw6]
    obtain ⟨r0, r1, r2, r3, r4, r5, r6, r7⟩ := R6.1
    refine bodyPost_ret (v := .tuple #[ndV zN zH, .int .i64 4]) (by simp [results, Try.results92, go_sem, ndV, zN, zH, r0, r1, r2, r3, r4, r5, r6, r7]) rfl ⟨⟨zH, rfl, zN_in _⟩, hB6⟩
end Go.Proofs.Ytkkhfnkmfkdhiab
