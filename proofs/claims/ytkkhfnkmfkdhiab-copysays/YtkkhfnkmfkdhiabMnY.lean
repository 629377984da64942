/-
  THE DOCUMENT's Look: the walk.
-/
import Derived.Test.YtkkhfnkmfkdhiabMmY
import Derived.Test.YtkkhfnkmfkdhiabMjY
namespace Go.Proofs.Ytkkhfnkmfkdhiab
open Go.RowKit

theorem cell_drew (w : World) (p : Addr) : w.drew.cell? p = w.cell? p := rfl
set_option maxRecDepth 100000 in
set_option maxHeartbeats 1000000 in
theorem rlook_any {w : World} {S : Nat → Bool} (_hS0 : ∀ k, S k = true → k < w.heap.size) {a : Option Addr} {cap : Nat} {xs : List Nd} {an : Option Addr} {capn : Nat} {names : List ByteArray} (hx : NsV (offS w.cell? S) a xs) (hs : Strs w.cell? an names) (hlx : xs.length ≤ 1000) (hln : names.length ≤ 1000) (hsm : SmallP (layP xs)) :
    Calls Try.prog 30 #[.slice a xs.length cap, .slice an names.length capn] w fun e w' => LookR (offS w'.cell? S) e (stackP xs names) ∧ Below w.heap.size w w' := by
  have hal : Below w.heap.size w (w.alloc (.cells #[.int .i64 0, .int .i64 0, .int .i64 0, .int .i64 0, .bool false, .slice none 0 0, .string ⟨#[]⟩, .slice none 0 0] 25)) := (Below.refl _ _).alloc (Nat.le_refl _) _
  have hm0 : MLe (offS w.cell? S) (offS (w.alloc (.cells #[.int .i64 0, .int .i64 0, .int .i64 0, .int .i64 0, .bool false, .slice none 0 0, .string ⟨#[]⟩, .slice none 0 0] 25)).cell? (fun k => k == w.heap.size || S k)) := mle_step fun k hk hs => ⟨by simp [hs]; omega, hal.block k hk⟩
  have HW : Hid _ := rstack_any (cap := cap) (capn := capn) (hx.on hm0) (hs.on (mle_below hal)) hlx hln hsm false
  rw [stackB_no xs names _ (Nat.le_refl _), List.take_length] at HW
  have R1 := NBw.zero w
  obtain ⟨CN, HCN⟩ : ∃ CN, Hid (offS (w.alloc (.cells #[.int .i64 0, .int .i64 0, .int .i64 0, .int .i64 0, .bool false, .slice none 0 0, .string ⟨#[]⟩, .slice none 0 0] 25)).cell? (fun k => k == w.heap.size || S k) = CN) := ⟨_, rfl⟩
  rw [HCN.out] at HW
  generalize hst : stackP xs names = L at *
  clear hx hs hm0 hst
  go_enter Try.func30, Try.ntmps30
  go_wp2_with fail
  refine Calls.mono HW.out ?_
  rintro e w1 ⟨v, rfl, hv, hB1⟩
  have R2 := R1.below hB1
  have hB2 := hal.trans (hB1.mono hal.size)
  obtain ⟨va, vc, F, rfl, g1, g2, g3, g4, g5⟩ := hv
  clear HW R1
  cases F with
  | nil =>
    have HL : Hid (L = []) := by show L = []; rw [← g5]; rfl
    clear g3 g4 g5 HCN
    obtain ⟨⟨f0, f1, f2, f3, f4, f5, f6, f7⟩, ff⟩ := R2
    have z0 := ff 0
    have z1 := ff 1
    have z2 := ff 2
    have z3 := ff 3
    have z4 := ff 4
    have z5 := ff 5
    have z6 := ff 6
    have z7 := ff 7
    have R3 := NBw.store (w := w1) (b := w.heap.size) (y := zN) (h' := zH) ⟨⟨f0, f1, f2, f3, f4, f5, f6, f7⟩, ff⟩ zN zH
    have hB3 : Below w.heap.size w (stB w1 w.heap.size zN zH) := hB2.trans (stB_but.below (Nat.le_refl _) hB2.size)
    clear hal hB1
    go_wp2
    obtain ⟨W6, HW6⟩ : ∃ W6, Hid (stB w1 w.heap.size zN zH = W6) := ⟨_, rfl⟩
    rw [HW6.out] at R3 hB3
    have hw6 := HW6.out
    simp only [stB, zN, zH] at hw6
    simp only [List.length_nil] at hw6
    rw [hw6]
    obtain ⟨r0, r1, r2, r3, r4, r5, r6, r7⟩ := R3.1
    refine bodyPost_ret (v := .tuple #[ndV zN zH, .int .i64 0, .bool false]) (by simp [results, Try.results30, go_sem, ndV, zN, zH, r0, r1, r2, r3, r4, r5, r6, r7]) rfl ⟨by rw [HL.out]; rfl, hB3⟩
  | cons s F =>
    obtain ⟨⟨k, m, u, g, o, at_, d, ks⟩, h, ly⟩ := s
    have HND : Hid (NdV CN (.mk k m u g o at_ d ks) h) := g4 _ (List.mem_cons_self ..)
    obtain ⟨vb, vo, rfl, hvb, hrow⟩ : ∃ b off, va = some ⟨b, off, none⟩ ∧ (w.alloc (.cells #[.int .i64 0, .int .i64 0, .int .i64 0, .int .i64 0, .bool false, .slice none 0 0, .string ⟨#[]⟩, .slice none 0 0] 25)).heap.size ≤ b ∧ ∀ i f, ((⟨(.mk k m u g o at_ d ks), h, ly⟩ : Fl) :: F)[i]? = some f → FlAt w1.cell? b (off + i * 9) f := by
      rcases g3 with e | e
      · cases e
      · exact e
    obtain ⟨⟨n0, n1, n2, n3, n4, n5, n6, n7⟩, n8⟩ := hrow 0 _ rfl
    dsimp only at n0 n1 n2 n3 n4 n5 n6 n7 n8
    simp only [Nat.zero_mul, Nat.add_zero] at n0 n1 n2 n3 n4 n5 n6 n7 n8
    have HL : Hid (∃ r, L = ((.mk k m u g o at_ d ks), ly) :: r) := ⟨_, g5.symm⟩
    have hvn : vb ≠ w.heap.size := fun e => by rw [World.size_alloc] at hvb; omega
    have T4 : w1.cell? ⟨vb, vo, none⟩ = some (.int .i64 k) ∧ w1.cell? ⟨vb, vo + 1, none⟩ = some (.int .i64 m) ∧ w1.cell? ⟨vb, vo + 2, none⟩ = some (.int .i64 u) ∧ w1.cell? ⟨vb, vo + 3, none⟩ = some (.int .i64 g) ∧ w1.cell? ⟨vb, vo + 4, none⟩ = some (.bool o) ∧ w1.cell? ⟨vb, vo + 5, none⟩ = some (.slice h.aa at_.length h.ca) ∧ w1.cell? ⟨vb, vo + 6, none⟩ = some (.string d) ∧ w1.cell? ⟨vb, vo + 7, none⟩ = some (.slice h.ak ks.length h.ck) ∧ w1.cell? ⟨vb, vo + 8, none⟩ = some (.int .i64 ly) := ⟨n0, n1, n2, n3, n4, n5, n6, n7, n8⟩
    have T5 : w1.drew.cell? ⟨vb, vo, none⟩ = some (.int .i64 k) ∧ w1.drew.cell? ⟨vb, vo + 1, none⟩ = some (.int .i64 m) ∧ w1.drew.cell? ⟨vb, vo + 2, none⟩ = some (.int .i64 u) ∧ w1.drew.cell? ⟨vb, vo + 3, none⟩ = some (.int .i64 g) ∧ w1.drew.cell? ⟨vb, vo + 4, none⟩ = some (.bool o) ∧ w1.drew.cell? ⟨vb, vo + 5, none⟩ = some (.slice h.aa at_.length h.ca) ∧ w1.drew.cell? ⟨vb, vo + 6, none⟩ = some (.string d) ∧ w1.drew.cell? ⟨vb, vo + 7, none⟩ = some (.slice h.ak ks.length h.ck) ∧ w1.drew.cell? ⟨vb, vo + 8, none⟩ = some (.int .i64 ly) := T4
    have T7 : ((((((((w1.setCell ⟨w.heap.size, 0, none⟩ (.int .i64 k)).setCell ⟨w.heap.size, 1, none⟩ (.int .i64 m)).setCell ⟨w.heap.size, 2, none⟩ (.int .i64 u)).setCell ⟨w.heap.size, 3, none⟩ (.int .i64 g)).setCell ⟨w.heap.size, 4, none⟩ (.bool o)).setCell ⟨w.heap.size, 5, none⟩ (.slice h.aa at_.length h.ca)).setCell ⟨w.heap.size, 6, none⟩ (.string d)).setCell ⟨w.heap.size, 7, none⟩ (.slice h.ak ks.length h.ck)).drew.cell? ⟨vb, vo, none⟩ = some (.int .i64 k) ∧ ((((((((w1.setCell ⟨w.heap.size, 0, none⟩ (.int .i64 k)).setCell ⟨w.heap.size, 1, none⟩ (.int .i64 m)).setCell ⟨w.heap.size, 2, none⟩ (.int .i64 u)).setCell ⟨w.heap.size, 3, none⟩ (.int .i64 g)).setCell ⟨w.heap.size, 4, none⟩ (.bool o)).setCell ⟨w.heap.size, 5, none⟩ (.slice h.aa at_.length h.ca)).setCell ⟨w.heap.size, 6, none⟩ (.string d)).setCell ⟨w.heap.size, 7, none⟩ (.slice h.ak ks.length h.ck)).drew.cell? ⟨vb, vo + 1, none⟩ = some (.int .i64 m) ∧ ((((((((w1.setCell ⟨w.heap.size, 0, none⟩ (.int .i64 k)).setCell ⟨w.heap.size, 1, none⟩ (.int .i64 m)).setCell ⟨w.heap.size, 2, none⟩ (.int .i64 u)).setCell ⟨w.heap.size, 3, none⟩ (.int .i64 g)).setCell ⟨w.heap.size, 4, none⟩ (.bool o)).setCell ⟨w.heap.size, 5, none⟩ (.slice h.aa at_.length h.ca)).setCell ⟨w.heap.size, 6, none⟩ (.string d)).setCell ⟨w.heap.size, 7, none⟩ (.slice h.ak ks.length h.ck)).drew.cell? ⟨vb, vo + 2, none⟩ = some (.int .i64 u) ∧ ((((((((w1.setCell ⟨w.heap.size, 0, none⟩ (.int .i64 k)).setCell ⟨w.heap.size, 1, none⟩ (.int .i64 m)).setCell ⟨w.heap.size, 2, none⟩ (.int .i64 u)).setCell ⟨w.heap.size, 3, none⟩ (.int .i64 g)).setCell ⟨w.heap.size, 4, none⟩ (.bool o)).setCell ⟨w.heap.size, 5, none⟩ (.slice h.aa at_.length h.ca)).setCell ⟨w.heap.size, 6, none⟩ (.string d)).setCell ⟨w.heap.size, 7, none⟩ (.slice h.ak ks.length h.ck)).drew.cell? ⟨vb, vo + 3, none⟩ = some (.int .i64 g) ∧ ((((((((w1.setCell ⟨w.heap.size, 0, none⟩ (.int .i64 k)).setCell ⟨w.heap.size, 1, none⟩ (.int .i64 m)).setCell ⟨w.heap.size, 2, none⟩ (.int .i64 u)).setCell ⟨w.heap.size, 3, none⟩ (.int .i64 g)).setCell ⟨w.heap.size, 4, none⟩ (.bool o)).setCell ⟨w.heap.size, 5, none⟩ (.slice h.aa at_.length h.ca)).setCell ⟨w.heap.size, 6, none⟩ (.string d)).setCell ⟨w.heap.size, 7, none⟩ (.slice h.ak ks.length h.ck)).drew.cell? ⟨vb, vo + 4, none⟩ = some (.bool o) ∧ ((((((((w1.setCell ⟨w.heap.size, 0, none⟩ (.int .i64 k)).setCell ⟨w.heap.size, 1, none⟩ (.int .i64 m)).setCell ⟨w.heap.size, 2, none⟩ (.int .i64 u)).setCell ⟨w.heap.size, 3, none⟩ (.int .i64 g)).setCell ⟨w.heap.size, 4, none⟩ (.bool o)).setCell ⟨w.heap.size, 5, none⟩ (.slice h.aa at_.length h.ca)).setCell ⟨w.heap.size, 6, none⟩ (.string d)).setCell ⟨w.heap.size, 7, none⟩ (.slice h.ak ks.length h.ck)).drew.cell? ⟨vb, vo + 5, none⟩ = some (.slice h.aa at_.length h.ca) ∧ ((((((((w1.setCell ⟨w.heap.size, 0, none⟩ (.int .i64 k)).setCell ⟨w.heap.size, 1, none⟩ (.int .i64 m)).setCell ⟨w.heap.size, 2, none⟩ (.int .i64 u)).setCell ⟨w.heap.size, 3, none⟩ (.int .i64 g)).setCell ⟨w.heap.size, 4, none⟩ (.bool o)).setCell ⟨w.heap.size, 5, none⟩ (.slice h.aa at_.length h.ca)).setCell ⟨w.heap.size, 6, none⟩ (.string d)).setCell ⟨w.heap.size, 7, none⟩ (.slice h.ak ks.length h.ck)).drew.cell? ⟨vb, vo + 6, none⟩ = some (.string d) ∧ ((((((((w1.setCell ⟨w.heap.size, 0, none⟩ (.int .i64 k)).setCell ⟨w.heap.size, 1, none⟩ (.int .i64 m)).setCell ⟨w.heap.size, 2, none⟩ (.int .i64 u)).setCell ⟨w.heap.size, 3, none⟩ (.int .i64 g)).setCell ⟨w.heap.size, 4, none⟩ (.bool o)).setCell ⟨w.heap.size, 5, none⟩ (.slice h.aa at_.length h.ca)).setCell ⟨w.heap.size, 6, none⟩ (.string d)).setCell ⟨w.heap.size, 7, none⟩ (.slice h.ak ks.length h.ck)).drew.cell? ⟨vb, vo + 7, none⟩ = some (.slice h.ak ks.length h.ck) ∧ ((((((((w1.setCell ⟨w.heap.size, 0, none⟩ (.int .i64 k)).setCell ⟨w.heap.size, 1, none⟩ (.int .i64 m)).setCell ⟨w.heap.size, 2, none⟩ (.int .i64 u)).setCell ⟨w.heap.size, 3, none⟩ (.int .i64 g)).setCell ⟨w.heap.size, 4, none⟩ (.bool o)).setCell ⟨w.heap.size, 5, none⟩ (.slice h.aa at_.length h.ca)).setCell ⟨w.heap.size, 6, none⟩ (.string d)).setCell ⟨w.heap.size, 7, none⟩ (.slice h.ak ks.length h.ck)).drew.cell? ⟨vb, vo + 8, none⟩ = some (.int .i64 ly) := ⟨(cell_drew _ _).trans ((set8_cell hvn _ _ _ _ _ _ _ _).trans T4.1), (cell_drew _ _).trans ((set8_cell hvn _ _ _ _ _ _ _ _).trans T4.2.1), (cell_drew _ _).trans ((set8_cell hvn _ _ _ _ _ _ _ _).trans T4.2.2.1), (cell_drew _ _).trans ((set8_cell hvn _ _ _ _ _ _ _ _).trans T4.2.2.2.1), (cell_drew _ _).trans ((set8_cell hvn _ _ _ _ _ _ _ _).trans T4.2.2.2.2.1), (cell_drew _ _).trans ((set8_cell hvn _ _ _ _ _ _ _ _).trans T4.2.2.2.2.2.1), (cell_drew _ _).trans ((set8_cell hvn _ _ _ _ _ _ _ _).trans T4.2.2.2.2.2.2.1), (cell_drew _ _).trans ((set8_cell hvn _ _ _ _ _ _ _ _).trans T4.2.2.2.2.2.2.2.1), (cell_drew _ _).trans ((set8_cell hvn _ _ _ _ _ _ _ _).trans T4.2.2.2.2.2.2.2.2)⟩
    have R7 := NBw.store R2 (.mk k m u g o at_ d ks) h
    have hB7 : Below w.heap.size w (stB w1 w.heap.size (.mk k m u g o at_ d ks) h) := hB2.trans (stB_but.below (Nat.le_refl _) hB2.size)
    have HN7 : Hid (NdV (offS (stB w1 w.heap.size (.mk k m u g o at_ d ks) h).cell? S) (.mk k m u g o at_ d ks) h) := HND.out.on (by
      rw [← HCN.out]
      refine mle_step fun q hq hs => ?_
      simp at hs
      exact ⟨hs.2, (stB_but.block q (Nat.lt_of_lt_of_le hq hB1.size) hs.1).trans (hB1.block q hq)⟩)
    have z0 := R2.2 0
    have z1 := R2.2 1
    have z2 := R2.2 2
    have z3 := R2.2 3
    have z4 := R2.2 4
    have z5 := R2.2 5
    have z6 := R2.2 6
    have z7 := R2.2 7
    obtain ⟨f0, f1, f2, f3, f4, f5, f6, f7⟩ := R2.1
    clear T4 R2 hB2 hB1 g3 g4 g5 hrow n0 n1 n2 n3 n4 n5 n6 n7 n8 hal HND HCN hsm hvb
    go_upto_region 4 with fail
    go_region_held3 (fun w' => w'.cell? ⟨vb, vo, none⟩ = some (.int .i64 k) ∧ w'.cell? ⟨vb, vo + 1, none⟩ = some (.int .i64 m) ∧ w'.cell? ⟨vb, vo + 2, none⟩ = some (.int .i64 u) ∧ w'.cell? ⟨vb, vo + 3, none⟩ = some (.int .i64 g) ∧ w'.cell? ⟨vb, vo + 4, none⟩ = some (.bool o) ∧ w'.cell? ⟨vb, vo + 5, none⟩ = some (.slice h.aa at_.length h.ca) ∧ w'.cell? ⟨vb, vo + 6, none⟩ = some (.string d) ∧ w'.cell? ⟨vb, vo + 7, none⟩ = some (.slice h.ak ks.length h.ck) ∧ w'.cell? ⟨vb, vo + 8, none⟩ = some (.int .i64 ly)) (first | with_reducible exact T5 | with_reducible exact T7) (fail)
    all_goals
      clear T5 T7
      go_wp2
      obtain ⟨W6, HW6⟩ : ∃ W6, Hid (stB w1 w.heap.size (.mk k m u g o at_ d ks) h = W6) := ⟨_, rfl⟩
      rw [HW6.out] at R7 hB7 HN7
      have hw6 := HW6.out
      simp only [stB] at hw6
      rw [hw6]
      obtain ⟨r0, r1, r2, r3, r4, r5, r6, r7⟩ := R7.1
      refine bodyPost_ret (v := .tuple #[ndV (.mk k m u g o at_ d ks) h, .int .i64 ly, .bool true]) (by simp [results, Try.results30, go_sem, ndV, r0, r1, r2, r3, r4, r5, r6, r7]) rfl ⟨?_, hB7.drew⟩
      obtain ⟨r, e⟩ := HL.out
      rw [e]
      exact ⟨h, rfl, HN7.out⟩
end Go.Proofs.Ytkkhfnkmfkdhiab
