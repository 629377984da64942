/-
  WHAT Put OF PACKAGE tree DOES, some blocks hidden: the walk.
-/
import Derived.Test.YtkkhfnkmfkdhiabWqX
import Derived.Test.YtkkhfnkmfkdhiabZhX
namespace Go.Proofs.Ytkkhfnkmfkdhiab
open Go.RowKit

set_option maxRecDepth 100000 in
set_option maxHeartbeats 2000000 in
theorem tputS_any {W : World} {S : Nat → Bool} (hS0 : ∀ k, S k = true → k < W.heap.size) {x0 : Nd} {h : Hd} (hN : NdV (offS W.cell? S) x0 h) (a : Option Addr) (cl : Nat) (l : List ByteArray) (hSt : Strs W.cell? a l) (hll : l.length ≤ 1000) (hcl : l.length ≤ cl ∧ cl ≤ 9223372036854775807) (hcnt : cnt x0 ≤ 800) (xp : Nd) (hx : Hd) (hXN : NdV (offS W.cell? S) xp hx) (hres : ∀ r, chgF (some xp) l x0 = .ok r → Lim r ∧ cnt r ≤ 1000) :
    Calls Try.prog 23 #[ndV x0 h, .slice a l.length cl, ndV xp hx] W fun e W' => NdE W W' S e (chgF (some xp) l x0) := by
  obtain ⟨RR, HRR⟩ : ∃ RR, Hid (chgF (some xp) l x0 = RR) := ⟨_, rfl⟩
  obtain ⟨kx, mx, ux, gx, ox, atx, dx, ksx⟩ := xp
  obtain ⟨k, m, u, g, o, at_, d, ks⟩ := x0
  have B0 := NBw.new W k m u g o at_ d ks h
  have hB0 : Below W.heap.size W (W.alloc (.cells #[.int .i64 k, .int .i64 m, .int .i64 u, .int .i64 g, .bool o, .slice h.aa at_.length h.ca, .string d, .slice h.ak ks.length h.ck] 25)) := (Below.refl _ _).alloc (Nat.le_refl _) _
  have X0 := NBw.new (W.alloc (.cells #[.int .i64 k, .int .i64 m, .int .i64 u, .int .i64 g, .bool o, .slice h.aa at_.length h.ca, .string d, .slice h.ak ks.length h.ck] 25)) kx mx ux gx ox atx dx ksx hx
  rw [World.size_alloc] at X0
  have hBx : Below W.heap.size W ((W.alloc (.cells #[.int .i64 k, .int .i64 m, .int .i64 u, .int .i64 g, .bool o, .slice h.aa at_.length h.ca, .string d, .slice h.ak ks.length h.ck] 25)).alloc (.cells #[.int .i64 kx, .int .i64 mx, .int .i64 ux, .int .i64 gx, .bool ox, .slice hx.aa atx.length hx.ca, .string dx, .slice hx.ak ksx.length hx.ck] 25)) := hB0.alloc hB0.size _
  have R1 := NBw.zero ((W.alloc (.cells #[.int .i64 k, .int .i64 m, .int .i64 u, .int .i64 g, .bool o, .slice h.aa at_.length h.ca, .string d, .slice h.ak ks.length h.ck] 25)).alloc (.cells #[.int .i64 kx, .int .i64 mx, .int .i64 ux, .int .i64 gx, .bool ox, .slice hx.aa atx.length hx.ca, .string dx, .slice hx.ak ksx.length hx.ck] 25))
  rw [World.size_alloc, World.size_alloc] at R1
  have q1 := (Below.refl _ (W.alloc (.cells #[.int .i64 k, .int .i64 m, .int .i64 u, .int .i64 g, .bool o, .slice h.aa at_.length h.ca, .string d, .slice h.ak ks.length h.ck] 25))).alloc (Nat.le_refl _) (.cells #[.int .i64 kx, .int .i64 mx, .int .i64 ux, .int .i64 gx, .bool ox, .slice hx.aa atx.length hx.ca, .string dx, .slice hx.ak ksx.length hx.ck] 25)
  have q2 := (Below.refl _ ((W.alloc (.cells #[.int .i64 k, .int .i64 m, .int .i64 u, .int .i64 g, .bool o, .slice h.aa at_.length h.ca, .string d, .slice h.ak ks.length h.ck] 25)).alloc (.cells #[.int .i64 kx, .int .i64 mx, .int .i64 ux, .int .i64 gx, .bool ox, .slice hx.aa atx.length hx.ca, .string dx, .slice hx.ak ksx.length hx.ck] 25))).alloc (Nat.le_refl _) (.cells #[.int .i64 0, .int .i64 0, .int .i64 0, .int .i64 0, .bool false, .slice none 0 0, .string ⟨#[]⟩, .slice none 0 0] 25)
  have B1 := (B0.below q1).below q2
  have X1 := X0.below q2
  have hB1 : Below W.heap.size W (((W.alloc (.cells #[.int .i64 k, .int .i64 m, .int .i64 u, .int .i64 g, .bool o, .slice h.aa at_.length h.ca, .string d, .slice h.ak ks.length h.ck] 25)).alloc (.cells #[.int .i64 kx, .int .i64 mx, .int .i64 ux, .int .i64 gx, .bool ox, .slice hx.aa atx.length hx.ca, .string dx, .slice hx.ak ksx.length hx.ck] 25)).alloc (.cells #[.int .i64 0, .int .i64 0, .int .i64 0, .int .i64 0, .bool false, .slice none 0 0, .string ⟨#[]⟩, .slice none 0 0] 25)) := hBx.alloc hBx.size _
  have mle : MLe (offS W.cell? S) (offS (((W.alloc (.cells #[.int .i64 k, .int .i64 m, .int .i64 u, .int .i64 g, .bool o, .slice h.aa at_.length h.ca, .string d, .slice h.ak ks.length h.ck] 25)).alloc (.cells #[.int .i64 kx, .int .i64 mx, .int .i64 ux, .int .i64 gx, .bool ox, .slice hx.aa atx.length hx.ca, .string dx, .slice hx.ak ksx.length hx.ck] 25)).alloc (.cells #[.int .i64 0, .int .i64 0, .int .i64 0, .int .i64 0, .bool false, .slice none 0 0, .string ⟨#[]⟩, .slice none 0 0] 25)).cell? (orS S (W.heap.size + 1 + 1))) := mle_step fun k hk hs => ⟨by simp [orS, hs]; omega, hB1.block k hk⟩
  have hC : Calls Try.prog 70 #[ndV (.mk k m u g o at_ d ks) h, .slice a l.length cl, .func (.func 71) #[] #[.pointer (some ⟨W.heap.size + 1, 0, none⟩)]] (((W.alloc (.cells #[.int .i64 k, .int .i64 m, .int .i64 u, .int .i64 g, .bool o, .slice h.aa at_.length h.ca, .string d, .slice h.ak ks.length h.ck] 25)).alloc (.cells #[.int .i64 kx, .int .i64 mx, .int .i64 ux, .int .i64 gx, .bool ox, .slice hx.aa atx.length hx.ca, .string dx, .slice hx.ak ksx.length hx.ck] 25)).alloc (.cells #[.int .i64 0, .int .i64 0, .int .i64 0, .int .i64 0, .bool false, .slice none 0 0, .string ⟨#[]⟩, .slice none 0 0] 25)) fun e W' => NdE (((W.alloc (.cells #[.int .i64 k, .int .i64 m, .int .i64 u, .int .i64 g, .bool o, .slice h.aa at_.length h.ca, .string d, .slice h.ak ks.length h.ck] 25)).alloc (.cells #[.int .i64 kx, .int .i64 mx, .int .i64 ux, .int .i64 gx, .bool ox, .slice hx.aa atx.length hx.ca, .string dx, .slice hx.ak ksx.length hx.ck] 25)).alloc (.cells #[.int .i64 0, .int .i64 0, .int .i64 0, .int .i64 0, .bool false, .slice none 0 0, .string ⟨#[]⟩, .slice none 0 0] 25)) W' (orS S (W.heap.size + 1 + 1)) e RR := by
    rw [← HRR.out]
    exact changePut_any (S := orS S (W.heap.size + 1 + 1)) (fun q hq => by simp only [orS, Bool.or_eq_true, beq_iff_eq] at hq; rcases hq with hq | hq; (rw [hq]; exact R1.1.lt); (have h1 := hS0 q hq; have h2 := hB1.size; omega)) (hN.on mle) a cl l (hSt.on (mle_below hB1)) hll hcl hcnt (W.heap.size + 1) (.mk kx mx ux gx ox atx dx ksx) hx X1.1 (hXN.on mle) hres
  have HC : Hid _ := hC
  rw [HRR.out]
  show Calls Try.prog 23 #[.agg #[.int .i64 k, .int .i64 m, .int .i64 u, .int .i64 g, .bool o, .slice h.aa at_.length h.ca, .string d, .slice h.ak ks.length h.ck], .slice a l.length cl, .agg #[.int .i64 kx, .int .i64 mx, .int .i64 ux, .int .i64 gx, .bool ox, .slice hx.aa atx.length hx.ca, .string dx, .slice hx.ak ksx.length hx.ck]] _ _
  obtain ⟨⟨y0, y1, y2, y3, y4, y5, y6, y7⟩, y8⟩ := id B1
  clear hC hres mle hSt hN
  go_enter Try.func23, Try.ntmps23
  go_wp2_with fail
  refine Calls.mono HC.out ?_
  rintro e w2 ⟨⟨h', rfl, hN2⟩, b2⟩
  have R2 := R1.below b2
  have hB2 := hB1.trans (b2.mono hB1.size)
  clear y0 y1 y2 y3 y4 y5 y6 y7 y8 HC B0 B1 R1 hB0 hB1 b2 q2 X0 X1 hBx q1 hXN
  generalize hrb : (W.heap.size + 1 + 1) = rb at R2 hN2 ⊢
  generalize hr : xNd RR = r at hN2 ⊢
  have HXN : Hid (xNd RR = r) := hr
  clear hr
  obtain ⟨k2, m2, u2, g2, o2, at2, d2, ks2⟩ := r
  have R7 := R2.store (.mk k2 m2 u2 g2 o2 at2 d2 ks2) h'
  have b7 : But rb w2 (stB w2 rb (.mk k2 m2 u2 g2 o2 at2 d2 ks2) h') := stB_but
  have hB7 := hB2.trans (b7.below (B := W.heap.size) (by omega) hB2.size)
  have step : MLe (offS w2.cell? (orS S rb)) (offS (stB w2 rb (.mk k2 m2 u2 g2 o2 at2 d2 ks2) h').cell? S) := mle_step fun q hq hs => by simp only [orS, Bool.or_eq_false_iff, beq_eq_false_iff_ne] at hs; exact ⟨hs.2, b7.block q hq hs.1⟩
  have hN7 := hN2.on step
  generalize hw7 : stB w2 rb (.mk k2 m2 u2 g2 o2 at2 d2 ks2) h' = w7 at R7 hB7 hN7
  have HW7 : Hid (stB w2 rb (.mk k2 m2 u2 g2 o2 at2 d2 ks2) h' = w7) := hw7
  have ev : ndV (.mk k2 m2 u2 g2 o2 at2 d2 ks2) h' = .agg #[.int .i64 k2, .int .i64 m2, .int .i64 u2, .int .i64 g2, .bool o2, .slice h'.aa at2.length h'.ca, .string d2, .slice h'.ak ks2.length h'.ck] := rfl
  rw [ev]
  obtain ⟨⟨z0, z1, z2, z3, z4, z5, z6, z7⟩, z8⟩ := id R2
  clear hw7 step b7 hN2 ev
  generalize hev : errV (xErr RR) = ev
  have HEV : Hid (errV (xErr RR) = ev) := hev
  clear hev
  go_wp2
  have hw7 := HW7.out
  simp only [stB] at hw7
  rw [hw7]
  obtain ⟨r0, r1, r2, r3, r4, r5, r6, r7⟩ := R7.1
  refine bodyPost_ret (v := .tuple #[ndV (.mk k2 m2 u2 g2 o2 at2 d2 ks2) h', ev]) (by simp [results, Try.results23, go_sem, ndV, r0, r1, r2, r3, r4, r5, r6, r7]) rfl ⟨⟨h', by rw [HXN.out, HEV.out], by rw [HXN.out]; exact hN7⟩, hB7⟩

end Go.Proofs.Ytkkhfnkmfkdhiab
