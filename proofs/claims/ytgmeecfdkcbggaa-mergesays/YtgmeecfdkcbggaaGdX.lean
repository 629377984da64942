/-
  WHAT Look AND Flat ANSWER, IN ONE FORM; what is seen of layers laid flat.
  THE DOCUMENT's Look: the walk.
  Lights, copies, sameNodes: the walks.
-/
import Derived.Test.YtgmeecfdkcbggaaFdX
import Derived.Test.YtgmeecfdkcbggaaFrY
import Derived.Test.YtgmeecfdkcbggaaMmY
import Derived.Test.YtgmeecfdkcbggaaFoX
import Derived.Test.YtgmeecfdkcbggaaNcX
import Derived.Deep.QuietTactic
import Derived.BigQuiet
import Derived.Test.YtgmeecfdkcbggaaWlY
import Derived.Test.YtgmeecfdkcbggaaFqX
import Derived.Test.YtgmeecfdkcbggaaWaY
namespace Go.Proofs.Ytgmeecfdkcbggaa
open Go.RowKit
theorem nZ0 (c : Mem) : NdV c zN zH := ndV_iff.2 ⟨.inl rfl, ⟨Nat.le_refl _, by decide⟩, ⟨Nat.le_refl _, by decide⟩, .inl rfl⟩
def lkX : Fls → Nd
  | [] => zN
  | q :: _ => q.1
def lkL : Fls → Nat
  | [] => 0
  | q :: _ => q.2
def lkB : Fls → Bool
  | [] => false
  | _ :: _ => true
theorem look_one {w : World} {S : Nat → Bool} (hS0 : ∀ k, S k = true → k < w.heap.size) {a : Option Addr} {cap : Nat} {xs : List Nd} {an : Option Addr} {capn : Nat} {names : List ByteArray} (hx : NsV (offS w.cell? S) a xs) (hs : Strs (offS w.cell? S) an names) (hok : LaysOk xs) (hln : names.length ≤ 1000) :
    Calls Try.prog 9 #[.slice a xs.length cap, .slice an names.length capn] w fun e w' => (∃ h, e = .returned (.tuple #[ndV (lkX (stackP xs names)) h, .int .i64 (lkL (stackP xs names)), .bool (lkB (stackP xs names))]) ∧ NdV (offS w'.cell? S) (lkX (stackP xs names)) h) ∧ Below w.heap.size w w' := by
  refine Calls.mono (look_any (cap := cap) (capn := capn) hS0 hx hs hok.len hln hok.small hok.lim) fun e w' ⟨h, hB⟩ => ⟨?_, hB⟩
  cases hst : stackP xs names with
  | nil => rw [hst] at h; exact ⟨zH, h, nZ0 _⟩
  | cons q r => rw [hst] at h; exact h
theorem mflat_one {w : World} {S : Nat → Bool} (hS0 : ∀ k, S k = true → k < w.heap.size) {a : Option Addr} {cap : Nat} {xs : List Nd} (hx : NsV (offS w.cell? S) a xs) (hok : LaysOk xs) {fv : Value} {F : Nd → Nat → Nd} (hF : FnOk w fv F) :
    Calls Try.prog 17 #[.slice a xs.length cap, fv] w fun e w' => (∃ h, e = .returned (.tuple #[ndV (flatD F (shP (layP xs))) h, .bool (lkB (shP (layP xs)))]) ∧ NdV (offS w'.cell? S) (flatD F (shP (layP xs))) h) ∧ Below w.heap.size w w' := by
  refine Calls.mono (flat_any (cap := cap) hS0 hx hok.len hok.small hok.seen hF) fun e w' ⟨h, hB⟩ => ⟨?_, hB⟩
  rcases h with ⟨h1, h2⟩ | ⟨h1, hd, h2, h3⟩
  · rw [h1]; exact ⟨zH, h2, nZ0 _⟩
  · refine ⟨hd, ?_, h3⟩
    rw [h2]
    cases ht : shP (layP xs) with
    | nil => exact absurd ht h1
    | cons q r => rfl
theorem lkX_lim {xs : List Nd} (h : LaysOk xs) (names : List ByteArray) : Lim (lkX (stackP xs names)) := by
  have h1 := stackP_lim h.lim names
  cases hst : stackP xs names with
  | nil => exact (by show Lim zN; unfold zN; rw [Lim]; exact ⟨Nat.zero_le _, Nat.zero_le _, by rw [LimL]; trivial⟩)
  | cons q r => rw [hst] at h1; exact h1 q (List.mem_cons_self ..)
end Go.Proofs.Ytgmeecfdkcbggaa
namespace Go.Proofs.Ytgmeecfdkcbggaa
open Go.RowKit
theorem cell_drew (w : World) (p : Addr) : w.drew.cell? p = w.cell? p := rfl
set_option maxRecDepth 100000 in
set_option maxHeartbeats 1000000 in
theorem rlook_any {w : World} {S : Nat → Bool} (_hS0 : ∀ k, S k = true → k < w.heap.size) {a : Option Addr} {cap : Nat} {xs : List Nd} {an : Option Addr} {capn : Nat} {names : List ByteArray} (hx : NsV (offS w.cell? S) a xs) (hs : Strs w.cell? an names) (hlx : xs.length ≤ 1000) (hln : names.length ≤ 1000) (hsm : SmallP (layP xs)) :
    Calls Try.prog 10 #[.slice a xs.length cap, .slice an names.length capn] w fun e w' => LookR (offS w'.cell? S) e (stackP xs names) ∧ Below w.heap.size w w' := by
  have hal : Below w.heap.size w (w.alloc (.cells #[.int .i64 0, .int .i64 0, .int .i64 0, .int .i64 0, .bool false, .slice none 0 0, .string ⟨#[]⟩, .slice none 0 0] 31)) := (Below.refl _ _).alloc (Nat.le_refl _) _
  have hm0 : MLe (offS w.cell? S) (offS (w.alloc (.cells #[.int .i64 0, .int .i64 0, .int .i64 0, .int .i64 0, .bool false, .slice none 0 0, .string ⟨#[]⟩, .slice none 0 0] 31)).cell? (fun k => k == w.heap.size || S k)) := mle_step fun k hk hs => ⟨by simp [hs]; omega, hal.block k hk⟩
  have HW : Hid _ := rstack_any (cap := cap) (capn := capn) (hx.on hm0) (hs.on (mle_below hal)) hlx hln hsm false
  rw [stackB_no xs names _ (Nat.le_refl _), List.take_length] at HW
  have R1 := NBw.zero w
  obtain ⟨CN, HCN⟩ : ∃ CN, Hid (offS (w.alloc (.cells #[.int .i64 0, .int .i64 0, .int .i64 0, .int .i64 0, .bool false, .slice none 0 0, .string ⟨#[]⟩, .slice none 0 0] 31)).cell? (fun k => k == w.heap.size || S k) = CN) := ⟨_, rfl⟩
  rw [HCN.out] at HW
  generalize hst : stackP xs names = L at *
  clear hx hs hm0 hst
  go_enter Try.func10, Try.ntmps10
  go_wp2_with fail
  refine Calls.mono HW.out ?_
  rintro e w1 ⟨v, rfl, hv, hB1⟩
  have R2 := R1.below hB1
  have hB2 := hal.trans (hB1.mono hal.size)
  obtain ⟨va, vc, F, rfl, g1, g2, g3, g4, g5⟩ := hv
  clear HW R1
  cases F with
  | nil =>
    have HL : Hid (L = []) := by show L = []; rw [← g5]; rfl
    clear g3 g4 g5 HCN
    obtain ⟨⟨f0, f1, f2, f3, f4, f5, f6, f7⟩, ff⟩ := R2
    have z0 := ff 0
    have z1 := ff 1
    have z2 := ff 2
    have z3 := ff 3
    have z4 := ff 4
    have z5 := ff 5
    have z6 := ff 6
    have z7 := ff 7
    have R3 := NBw.store (w := w1) (b := w.heap.size) (y := zN) (h' := zH) ⟨⟨f0, f1, f2, f3, f4, f5, f6, f7⟩, ff⟩ zN zH
    have hB3 : Below w.heap.size w (stB w1 w.heap.size zN zH) := hB2.trans (stB_but.below (Nat.le_refl _) hB2.size)
    clear hal hB1
    go_wp2
    obtain ⟨W6, HW6⟩ : ∃ W6, Hid (stB w1 w.heap.size zN zH = W6) := ⟨_, rfl⟩
    rw [HW6.out] at R3 hB3
    have hw6 := HW6.out
    simp only [stB, zN, zH] at hw6
    simp only [List.length_nil] at hw6
    rw [hw6]
    obtain ⟨r0, r1, r2, r3, r4, r5, r6, r7⟩ := R3.1
    refine bodyPost_ret (v := .tuple #[ndV zN zH, .int .i64 0, .bool false]) (by simp [results, Try.results10, go_sem, ndV, zN, zH, r0, r1, r2, r3, r4, r5, r6, r7]) rfl ⟨by rw [HL.out]; rfl, hB3⟩
  | cons s F =>
    obtain ⟨⟨k, m, u, g, o, at_, d, ks⟩, h, ly⟩ := s
    have HND : Hid (NdV CN (.mk k m u g o at_ d ks) h) := g4 _ (List.mem_cons_self ..)
    obtain ⟨vb, vo, rfl, hvb, hrow⟩ : ∃ b off, va = some ⟨b, off, none⟩ ∧ (w.alloc (.cells #[.int .i64 0, .int .i64 0, .int .i64 0, .int .i64 0, .bool false, .slice none 0 0, .string ⟨#[]⟩, .slice none 0 0] 31)).heap.size ≤ b ∧ ∀ i f, ((⟨(.mk k m u g o at_ d ks), h, ly⟩ : Fl) :: F)[i]? = some f → FlAt w1.cell? b (off + i * 9) f := by
      rcases g3 with e | e
      · cases e
      · exact e
    obtain ⟨⟨n0, n1, n2, n3, n4, n5, n6, n7⟩, n8⟩ := hrow 0 _ rfl
    dsimp only at n0 n1 n2 n3 n4 n5 n6 n7 n8
    simp only [Nat.zero_mul, Nat.add_zero] at n0 n1 n2 n3 n4 n5 n6 n7 n8
    have HL : Hid (∃ r, L = ((.mk k m u g o at_ d ks), ly) :: r) := ⟨_, g5.symm⟩
    have hvn : vb ≠ w.heap.size := fun e => by rw [World.size_alloc] at hvb; omega
    have T4 : w1.cell? ⟨vb, vo, none⟩ = some (.int .i64 k) ∧ w1.cell? ⟨vb, vo + 1, none⟩ = some (.int .i64 m) ∧ w1.cell? ⟨vb, vo + 2, none⟩ = some (.int .i64 u) ∧ w1.cell? ⟨vb, vo + 3, none⟩ = some (.int .i64 g) ∧ w1.cell? ⟨vb, vo + 4, none⟩ = some (.bool o) ∧ w1.cell? ⟨vb, vo + 5, none⟩ = some (.slice h.aa at_.length h.ca) ∧ w1.cell? ⟨vb, vo + 6, none⟩ = some (.string d) ∧ w1.cell? ⟨vb, vo + 7, none⟩ = some (.slice h.ak ks.length h.ck) ∧ w1.cell? ⟨vb, vo + 8, none⟩ = some (.int .i64 ly) := ⟨n0, n1, n2, n3, n4, n5, n6, n7, n8⟩
    have T5 : w1.drew.cell? ⟨vb, vo, none⟩ = some (.int .i64 k) ∧ w1.drew.cell? ⟨vb, vo + 1, none⟩ = some (.int .i64 m) ∧ w1.drew.cell? ⟨vb, vo + 2, none⟩ = some (.int .i64 u) ∧ w1.drew.cell? ⟨vb, vo + 3, none⟩ = some (.int .i64 g) ∧ w1.drew.cell? ⟨vb, vo + 4, none⟩ = some (.bool o) ∧ w1.drew.cell? ⟨vb, vo + 5, none⟩ = some (.slice h.aa at_.length h.ca) ∧ w1.drew.cell? ⟨vb, vo + 6, none⟩ = some (.string d) ∧ w1.drew.cell? ⟨vb, vo + 7, none⟩ = some (.slice h.ak ks.length h.ck) ∧ w1.drew.cell? ⟨vb, vo + 8, none⟩ = some (.int .i64 ly) := T4
    have T7 : ((((((((w1.setCell ⟨w.heap.size, 0, none⟩ (.int .i64 k)).setCell ⟨w.heap.size, 1, none⟩ (.int .i64 m)).setCell ⟨w.heap.size, 2, none⟩ (.int .i64 u)).setCell ⟨w.heap.size, 3, none⟩ (.int .i64 g)).setCell ⟨w.heap.size, 4, none⟩ (.bool o)).setCell ⟨w.heap.size, 5, none⟩ (.slice h.aa at_.length h.ca)).setCell ⟨w.heap.size, 6, none⟩ (.string d)).setCell ⟨w.heap.size, 7, none⟩ (.slice h.ak ks.length h.ck)).drew.cell? ⟨vb, vo, none⟩ = some (.int .i64 k) ∧ ((((((((w1.setCell ⟨w.heap.size, 0, none⟩ (.int .i64 k)).setCell ⟨w.heap.size, 1, none⟩ (.int .i64 m)).setCell ⟨w.heap.size, 2, none⟩ (.int .i64 u)).setCell ⟨w.heap.size, 3, none⟩ (.int .i64 g)).setCell ⟨w.heap.size, 4, none⟩ (.bool o)).setCell ⟨w.heap.size, 5, none⟩ (.slice h.aa at_.length h.ca)).setCell ⟨w.heap.size, 6, none⟩ (.string d)).setCell ⟨w.heap.size, 7, none⟩ (.slice h.ak ks.length h.ck)).drew.cell? ⟨vb, vo + 1, none⟩ = some (.int .i64 m) ∧ ((((((((w1.setCell ⟨w.heap.size, 0, none⟩ (.int .i64 k)).setCell ⟨w.heap.size, 1, none⟩ (.int .i64 m)).setCell ⟨w.heap.size, 2, none⟩ (.int .i64 u)).setCell ⟨w.heap.size, 3, none⟩ (.int .i64 g)).setCell ⟨w.heap.size, 4, none⟩ (.bool o)).setCell ⟨w.heap.size, 5, none⟩ (.slice h.aa at_.length h.ca)).setCell ⟨w.heap.size, 6, none⟩ (.string d)).setCell ⟨w.heap.size, 7, none⟩ (.slice h.ak ks.length h.ck)).drew.cell? ⟨vb, vo + 2, none⟩ = some (.int .i64 u) ∧ ((((((((w1.setCell ⟨w.heap.size, 0, none⟩ (.int .i64 k)).setCell ⟨w.heap.size, 1, none⟩ (.int .i64 m)).setCell ⟨w.heap.size, 2, none⟩ (.int .i64 u)).setCell ⟨w.heap.size, 3, none⟩ (.int .i64 g)).setCell ⟨w.heap.size, 4, none⟩ (.bool o)).setCell ⟨w.heap.size, 5, none⟩ (.slice h.aa at_.length h.ca)).setCell ⟨w.heap.size, 6, none⟩ (.string d)).setCell ⟨w.heap.size, 7, none⟩ (.slice h.ak ks.length h.ck)).drew.cell? ⟨vb, vo + 3, none⟩ = some (.int .i64 g) ∧ ((((((((w1.setCell ⟨w.heap.size, 0, none⟩ (.int .i64 k)).setCell ⟨w.heap.size, 1, none⟩ (.int .i64 m)).setCell ⟨w.heap.size, 2, none⟩ (.int .i64 u)).setCell ⟨w.heap.size, 3, none⟩ (.int .i64 g)).setCell ⟨w.heap.size, 4, none⟩ (.bool o)).setCell ⟨w.heap.size, 5, none⟩ (.slice h.aa at_.length h.ca)).setCell ⟨w.heap.size, 6, none⟩ (.string d)).setCell ⟨w.heap.size, 7, none⟩ (.slice h.ak ks.length h.ck)).drew.cell? ⟨vb, vo + 4, none⟩ = some (.bool o) ∧ ((((((((w1.setCell ⟨w.heap.size, 0, none⟩ (.int .i64 k)).setCell ⟨w.heap.size, 1, none⟩ (.int .i64 m)).setCell ⟨w.heap.size, 2, none⟩ (.int .i64 u)).setCell ⟨w.heap.size, 3, none⟩ (.int .i64 g)).setCell ⟨w.heap.size, 4, none⟩ (.bool o)).setCell ⟨w.heap.size, 5, none⟩ (.slice h.aa at_.length h.ca)).setCell ⟨w.heap.size, 6, none⟩ (.string d)).setCell ⟨w.heap.size, 7, none⟩ (.slice h.ak ks.length h.ck)).drew.cell? ⟨vb, vo + 5, none⟩ = some (.slice h.aa at_.length h.ca) ∧ ((((((((w1.setCell ⟨w.heap.size, 0, none⟩ (.int .i64 k)).setCell ⟨w.heap.size, 1, none⟩ (.int .i64 m)).setCell ⟨w.heap.size, 2, none⟩ (.int .i64 u)).setCell ⟨w.heap.size, 3, none⟩ (.int .i64 g)).setCell ⟨w.heap.size, 4, none⟩ (.bool o)).setCell ⟨w.heap.size, 5, none⟩ (.slice h.aa at_.length h.ca)).setCell ⟨w.heap.size, 6, none⟩ (.string d)).setCell ⟨w.heap.size, 7, none⟩ (.slice h.ak ks.length h.ck)).drew.cell? ⟨vb, vo + 6, none⟩ = some (.string d) ∧ ((((((((w1.setCell ⟨w.heap.size, 0, none⟩ (.int .i64 k)).setCell ⟨w.heap.size, 1, none⟩ (.int .i64 m)).setCell ⟨w.heap.size, 2, none⟩ (.int .i64 u)).setCell ⟨w.heap.size, 3, none⟩ (.int .i64 g)).setCell ⟨w.heap.size, 4, none⟩ (.bool o)).setCell ⟨w.heap.size, 5, none⟩ (.slice h.aa at_.length h.ca)).setCell ⟨w.heap.size, 6, none⟩ (.string d)).setCell ⟨w.heap.size, 7, none⟩ (.slice h.ak ks.length h.ck)).drew.cell? ⟨vb, vo + 7, none⟩ = some (.slice h.ak ks.length h.ck) ∧ ((((((((w1.setCell ⟨w.heap.size, 0, none⟩ (.int .i64 k)).setCell ⟨w.heap.size, 1, none⟩ (.int .i64 m)).setCell ⟨w.heap.size, 2, none⟩ (.int .i64 u)).setCell ⟨w.heap.size, 3, none⟩ (.int .i64 g)).setCell ⟨w.heap.size, 4, none⟩ (.bool o)).setCell ⟨w.heap.size, 5, none⟩ (.slice h.aa at_.length h.ca)).setCell ⟨w.heap.size, 6, none⟩ (.string d)).setCell ⟨w.heap.size, 7, none⟩ (.slice h.ak ks.length h.ck)).drew.cell? ⟨vb, vo + 8, none⟩ = some (.int .i64 ly) := ⟨(cell_drew _ _).trans ((set8_cell hvn _ _ _ _ _ _ _ _).trans T4.1), (cell_drew _ _).trans ((set8_cell hvn _ _ _ _ _ _ _ _).trans T4.2.1), (cell_drew _ _).trans ((set8_cell hvn _ _ _ _ _ _ _ _).trans T4.2.2.1), (cell_drew _ _).trans ((set8_cell hvn _ _ _ _ _ _ _ _).trans T4.2.2.2.1), (cell_drew _ _).trans ((set8_cell hvn _ _ _ _ _ _ _ _).trans T4.2.2.2.2.1), (cell_drew _ _).trans ((set8_cell hvn _ _ _ _ _ _ _ _).trans T4.2.2.2.2.2.1), (cell_drew _ _).trans ((set8_cell hvn _ _ _ _ _ _ _ _).trans T4.2.2.2.2.2.2.1), (cell_drew _ _).trans ((set8_cell hvn _ _ _ _ _ _ _ _).trans T4.2.2.2.2.2.2.2.1), (cell_drew _ _).trans ((set8_cell hvn _ _ _ _ _ _ _ _).trans T4.2.2.2.2.2.2.2.2)⟩
    have R7 := NBw.store R2 (.mk k m u g o at_ d ks) h
    have hB7 : Below w.heap.size w (stB w1 w.heap.size (.mk k m u g o at_ d ks) h) := hB2.trans (stB_but.below (Nat.le_refl _) hB2.size)
    have HN7 : Hid (NdV (offS (stB w1 w.heap.size (.mk k m u g o at_ d ks) h).cell? S) (.mk k m u g o at_ d ks) h) := HND.out.on (by
      rw [← HCN.out]
      refine mle_step fun q hq hs => ?_
      simp at hs
      exact ⟨hs.2, (stB_but.block q (Nat.lt_of_lt_of_le hq hB1.size) hs.1).trans (hB1.block q hq)⟩)
    have z0 := R2.2 0
    have z1 := R2.2 1
    have z2 := R2.2 2
    have z3 := R2.2 3
    have z4 := R2.2 4
    have z5 := R2.2 5
    have z6 := R2.2 6
    have z7 := R2.2 7
    obtain ⟨f0, f1, f2, f3, f4, f5, f6, f7⟩ := R2.1
    clear T4 R2 hB2 hB1 g3 g4 g5 hrow n0 n1 n2 n3 n4 n5 n6 n7 n8 hal HND HCN hsm hvb
    go_upto_region 4 with fail
    go_region_held3 (fun w' => w'.cell? ⟨vb, vo, none⟩ = some (.int .i64 k) ∧ w'.cell? ⟨vb, vo + 1, none⟩ = some (.int .i64 m) ∧ w'.cell? ⟨vb, vo + 2, none⟩ = some (.int .i64 u) ∧ w'.cell? ⟨vb, vo + 3, none⟩ = some (.int .i64 g) ∧ w'.cell? ⟨vb, vo + 4, none⟩ = some (.bool o) ∧ w'.cell? ⟨vb, vo + 5, none⟩ = some (.slice h.aa at_.length h.ca) ∧ w'.cell? ⟨vb, vo + 6, none⟩ = some (.string d) ∧ w'.cell? ⟨vb, vo + 7, none⟩ = some (.slice h.ak ks.length h.ck) ∧ w'.cell? ⟨vb, vo + 8, none⟩ = some (.int .i64 ly)) (first | with_reducible exact T5 | with_reducible exact T7) (fail)
    all_goals
      clear T5 T7
      go_wp2
      obtain ⟨W6, HW6⟩ : ∃ W6, Hid (stB w1 w.heap.size (.mk k m u g o at_ d ks) h = W6) := ⟨_, rfl⟩
      rw [HW6.out] at R7 hB7 HN7
      have hw6 := HW6.out
      simp only [stB] at hw6
      rw [hw6]
      obtain ⟨r0, r1, r2, r3, r4, r5, r6, r7⟩ := R7.1
      refine bodyPost_ret (v := .tuple #[ndV (.mk k m u g o at_ d ks) h, .int .i64 ly, .bool true]) (by simp [results, Try.results10, go_sem, ndV, r0, r1, r2, r3, r4, r5, r6, r7]) rfl ⟨?_, hB7.drew⟩
      obtain ⟨r, e⟩ := HL.out
      rw [e]
      exact ⟨h, rfl, HN7.out⟩
end Go.Proofs.Ytgmeecfdkcbggaa
namespace Go.Proofs.Ytgmeecfdkcbggaa
open Go.RowKit
theorem alloc_bel2 (w : World) (o : Obj) : Below w.heap.size w (w.alloc o) := (Below.refl _ _).alloc (Nat.le_refl _) _
theorem mle_hide {w w' : World} {S : Nat → Bool} (hb : Below w.heap.size w w') (hs : ∀ k, k < w.heap.size → S k = false) : MLe w.cell? (offS w'.cell? S) := fun q v h => by
  have hq := World.block_lt_of_cell? _ _ h
  rw [offS_ne (hs _ hq)]
  exact mle_below hb _ _ h
def lightsB (xs : List Nd) : Bool := decide (xs.length ≤ 5) && xs.all fun x => decide (0 < lightF x 80)
theorem ns_at {c : Mem} {a : Option Addr} {xs : List Nd} (h : NsV c a xs) {j : Nat} {x : Nd} (hj : xs[j]? = some x) : ∃ b off h, a = some ⟨b, off, none⟩ ∧ NAt c b (off + j * 8) x h ∧ NdV c x h := by
  rcases h with e | ⟨b, off, e, f, hf⟩
  · rw [e] at hj; simp at hj
  · exact ⟨b, off, f j, e, hf j x hj⟩
set_option maxRecDepth 100000 in
set_option maxHeartbeats 1000000 in
theorem lights_any {w : World} {a : Option Addr} {cap : Nat} {xs : List Nd} (hx : NsV w.cell? a xs) (hl : xs.length ≤ 9223372036854775807) :
    Calls Try.prog 6 #[.slice a xs.length cap] w fun e w' => e = .returned (.bool (lightsB xs)) ∧ Below w.heap.size w w' := by
  obtain ⟨R, HR⟩ : ∃ R, Hid (lightsB xs = R) := ⟨_, rfl⟩
  rw [HR.out]
  have HX : Hid (NsV w.cell? a xs) := hx
  by_cases h5 : 5 < xs.length
  · have HRF : Hid (R = false) := by show R = _; rw [← HR.out]; unfold lightsB; rw [decide_eq_false (by omega)]; rfl
    have hb : decide ((5 : Int) < (xs.length : Int)) = true := decide_eq_true (by omega)
    clear hx
    go_enter Try.func6, Try.ntmps6
    go_wp2
    go_ret
    exact ⟨ret_bool HRF.out.symm, Below.refl _ _⟩
  have HRA : Hid (R = xs.all fun x => decide (0 < lightF x 80)) := by show R = _; rw [← HR.out]; unfold lightsB; rw [decide_eq_true (by omega)]; rfl
  have hb : decide ((5 : Int) < (xs.length : Int)) = false := decide_eq_false (by omega)
  obtain ⟨N, HN⟩ : ∃ N, Hid (xs.length = N) := ⟨_, rfl⟩
  rw [HN.out] at hb h5 ⊢
  clear hx hl HR
  go_enter Try.func6, Try.ntmps6
  go_wp2
  go_loopw [3] (fun i wr => ∃ j : Nat, j ≤ N ∧ i = .int .i64 j ∧ Hid (∀ x ∈ xs.take j, 0 < lightF x 80) ∧ Below w.heap.size w wr) (fun i _ => N - (intOf i).toNat)
  case atStart => exact ⟨0, Nat.zero_le _, rfl, fun x hx => (by cases hx), Below.refl _ _⟩
  case round =>
    obtain ⟨j, hj, rfl, HA, hB⟩ := hrel
    by_cases hjl : j < N
    · have hb2 : decide ((j : Int) < (N : Int)) = true := decide_eq_true (by omega)
      obtain ⟨x, hxj⟩ : ∃ x, xs[j]? = some x := ⟨_, List.getElem?_eq_getElem (by rw [HN.out]; exact hjl)⟩
      obtain ⟨ab, ao, h, rfl, hn, hd⟩ := ns_at HX.out hxj
      have HTK : Hid (xs.take (j + 1) = xs.take j ++ [x]) := take_next2 hxj
      have HMEM : Hid (x ∈ xs) := List.mem_of_getElem? hxj
      have hn2 := hn.below hB
      obtain ⟨LF, HLF⟩ : ∃ LF, Hid (lightF x 80 = LF) := ⟨_, rfl⟩
      have HL0 := Light_any (hd.on (mle_below hB))
      rw [HLF.out] at HL0
      obtain ⟨k, m, u, g, o, at_, d, ks⟩ := x
      have HL : Hid (Calls Try.prog 22 #[.agg #[.int .i64 k, .int .i64 m, .int .i64 u, .int .i64 g, .bool o, .slice h.aa at_.length h.ca, .string d, .slice h.ak ks.length h.ck]] wr fun e W' => e = .returned (.bool (decide (0 < LF))) ∧ Below wr.heap.size wr W') := HL0
      obtain ⟨f0, f1, f2, f3, f4, f5, f6, f7⟩ := hn2
      clear hn hd hxj HL0
      go_wp2_with fail
      with_reducible refine Calls.mono HL.out ?_
      rintro e w2 ⟨rfl, hB2⟩
      have hB3 := hB.trans (hB2.mono hB.size)
      clear f0 f1 f2 f3 f4 f5 f6 f7 HL hB2
      by_cases hlf : 0 < LF
      · have hd1 : decide (0 < LF) = true := decide_eq_true hlf
        have HA2 : Hid (∀ x ∈ xs.take (j + 1), 0 < lightF x 80) := fun y hy => by
          rw [HTK.out] at hy
          rcases List.mem_append.1 hy with e | e
          · exact HA.out y e
          · rw [List.mem_singleton] at e; rw [e, HLF.out]; exact hlf
        rw [hd1]
        go_wp2
        go_roundw
        case rel => exact ⟨j + 1, by omega, by go_num, HA2.out, hB3⟩
        case measure => (simp [intOf]; try omega)
      · have hd1 : decide (0 < LF) = false := decide_eq_false hlf
        have HRF : Hid (R = false) := by
          show R = _
          rw [HRA.out]
          refine List.all_eq_false.2 ⟨_, HMEM.out, ?_⟩
          rw [HLF.out, hd1]
          simp
        rw [hd1]
        go_wp2
        go_ret
        exact ⟨ret_bool HRF.out.symm, hB3⟩
    · have hb2 : decide ((j : Int) < (N : Int)) = false := decide_eq_false (by omega)
      have HRT : Hid (R = true) := by
        show R = _
        rw [HRA.out]
        refine List.all_eq_true.2 fun x hx => decide_eq_true (HA.out x ?_)
        rw [List.take_of_length_le (by rw [HN.out]; omega)]
        exact hx
      go_wp2
      go_ret
      exact ⟨ret_bool HRT.out.symm, hB⟩
/-- What stands while nodes are copied. -/
structure CpI (w : World) (v : Value) (L : List Fl) (wr : World) : Prop where
  low : Below w.heap.size w wr
  row : wr.ownsRow w.heap.size 31 8 v L.length (flN L)
  nd : ∀ f ∈ L, NdV (offS wr.cell? (fun k => v.ownBlock == some k)) f.x f.h
theorem CpI.below {w : World} {v : Value} {L : List Fl} {wr w' : World} (h : CpI w v L wr) (hb : Below wr.heap.size wr w') : CpI w v L w' := ⟨h.low.trans (hb.mono h.low.size), ownsRow_bel h.row hb, fun f hf => (h.nd f hf).on (mle_S hb)⟩
theorem CpI.app {w : World} {v v' : Value} {L : List Fl} {wr w' : World} (h : CpI w v L wr) {f : Fl} (hf : NdV (offS wr.cell? (fun k => v.ownBlock == some k)) f.x f.h) (hown : w'.ownsRow w.heap.size 31 8 v' (L ++ [f]).length (flN (L ++ [f]))) (hg : wr.grownBy w' v.ownBlock) (ho : v'.ownBlock = v.ownBlock ∨ v'.ownBlock = some wr.heap.size) : CpI w v' (L ++ [f]) w' := by
  have hm : MLe (offS wr.cell? (fun k => v.ownBlock == some k)) (offS w'.cell? (fun k => v'.ownBlock == some k)) := mle_step fun k hk hs => by
    simp at hs
    refine ⟨?_, hg.block k hk (fun e => hs e.symm)⟩
    simp
    rcases ho with e | e
    · rw [e]; exact hs
    · rw [e]; intro e2; cases e2; omega
  refine ⟨h.low.grown hg h.low.size (fun g e => (h.row.lt g e).1), hown, fun f' hf' => ?_⟩
  rcases List.mem_append.1 hf' with e | e
  · exact (h.nd f' e).on hm
  · rw [List.mem_singleton] at e; rw [e]; exact hf.on hm
set_option maxRecDepth 100000 in
set_option maxHeartbeats 1000000 in
theorem copies_any {w : World} {a : Option Addr} {cap : Nat} {xs : List Nd} (hx : NsV w.cell? a xs) (hl : xs.length ≤ 5) (hok : ∀ x ∈ xs, Lim x ∧ cnt x ≤ 1000) :
    Calls Try.prog 8 #[.slice a xs.length cap] w fun e w' => ∃ a' cap', e = .returned (.slice a' xs.length cap') ∧ xs.length ≤ cap' ∧ NsV w'.cell? a' xs ∧ Below w.heap.size w w' := by
  obtain ⟨i0, hi0, hi1, hi2, hi3⟩ := info_three Try.infoNd
  have HI0 : Hid _ := hi0
  have HI1 : Hid _ := hi1
  have HI2 : Hid _ := hi2
  have HI3 : Hid _ := hi3
  clear hi0 hi1 hi2 hi3
  have HX : Hid (NsV w.cell? a xs) := hx
  have HOK : Hid (∀ x ∈ xs, Lim x ∧ cnt x ≤ 1000) := hok
  obtain ⟨N, HN⟩ : ∃ N, Hid (xs.length = N) := ⟨_, rfl⟩
  rw [HN.out] at hl ⊢
  clear hx hok
  go_enter Try.func8, Try.ntmps8
  go_wp2
  go_loopw [3, 4] (fun v i wr => ∃ (j : Nat) (L : List Fl), j ≤ N ∧ i = .int .i64 j ∧ Hid (L.map Fl.x = xs.take j) ∧ Hid (L.length = j) ∧ Hid (CpI w v L wr)) (fun _ i _ => N - (intOf i).toNat)
  case atStart => exact ⟨0, [], Nat.zero_le _, rfl, rfl, rfl, Below.refl _ _, World.ownsRow_nil _ _ _ _, fun f hf => by cases hf⟩
  case round =>
    obtain ⟨j, L, hj, rfl, HL, HLJ, HC⟩ := hrel
    by_cases hjl : j < N
    · have hb2 : decide ((j : Int) < (N : Int)) = true := decide_eq_true (by omega)
      obtain ⟨x, hxj⟩ : ∃ x, xs[j]? = some x := ⟨_, List.getElem?_eq_getElem (by rw [HN.out]; exact hjl)⟩
      obtain ⟨ab, ao, h, rfl, hn, hd⟩ := ns_at HX.out hxj
      have HTK : Hid (xs.take (j + 1) = xs.take j ++ [x]) := take_next2 hxj
      obtain ⟨hli, hcn⟩ := HOK.out x (List.mem_of_getElem? hxj)
      have hn2 := hn.below HC.out.low
      have hdw : NdV (offS wr.cell? (fun k => u3.ownBlock == some k)) x h := hd.on (mle_hide HC.out.low (fun k hk => by
        simp
        intro e
        have := (HC.out.row.lt k e).1
        omega))
      obtain ⟨k, m, u, g, o, at_, d, ks⟩ := x
      have HO : Hid (Calls Try.prog 23 #[.agg #[.int .i64 k, .int .i64 m, .int .i64 u, .int .i64 g, .bool o, .slice h.aa at_.length h.ca, .string d, .slice h.ak ks.length h.ck]] wr fun e W' => (∃ h', e = .returned (.agg #[.int .i64 k, .int .i64 m, .int .i64 u, .int .i64 g, .bool o, .slice h'.aa at_.length h'.ca, .string d, .slice h'.ak ks.length h'.ck]) ∧ NdV (offS W'.cell? (fun k => u3.ownBlock == some k)) (.mk k m u g o at_ d ks) h') ∧ Below wr.heap.size wr W') := own_any (x := (.mk k m u g o at_ d ks)) (h := h) (fun k hk => by simp at hk; exact (HC.out.row.lt k hk).2) hdw hli hcn
      obtain ⟨f0, f1, f2, f3, f4, f5, f6, f7⟩ := hn2
      have hLl : L.length ≤ 1000 := by have := HLJ.out; omega
      clear hn hd hxj hdw hli hcn
      go_wp2_with fail
      with_reducible refine Calls.mono HO.out ?_
      rintro e w2 ⟨⟨h', rfl, hn2⟩, hB2⟩
      have hb3 := alloc_bel2 w2 (.cells #[.int .i64 k, .int .i64 m, .int .i64 u, .int .i64 g, .bool o, .slice h'.aa at_.length h'.ca, .string d, .slice h'.ak ks.length h'.ck] 31)
      have CP := (HC.out.below hB2).below hb3
      have hn3 := hn2.on (mle_S hb3)
      have NB := NBw.new w2 k m u g o at_ d ks h'
      have HCP : Hid _ := CP
      have HN3 : Hid _ := hn3
      clear f0 f1 f2 f3 f4 f5 f6 f7 HO hB2 hb3 CP hn2 hn3 HC
      go_upto_region 6 with fail
      generalize w2.alloc (.cells #[.int .i64 k, .int .i64 m, .int .i64 u, .int .i64 g, .bool o, .slice h'.aa at_.length h'.ca, .string d, .slice h'.ak ks.length h'.ck] 31) = w3 at HCP HN3 NB ⊢
      generalize w2.heap.size = b5 at NB ⊢
      obtain ⟨f0, f1, f2, f3, f4, f5, f6, f7⟩ := NB.1
      have HCP : Hid (CpI w u3 L w3) := HCP
      go_wp2_with (at_builtin; refine wpList_append_src (w3.alloc (.cells #[.int .i64 k, .int .i64 m, .int .i64 u, .int .i64 g, .bool o, .slice h'.aa at_.length h'.ca, .string d, .slice h'.ak ks.length h'.ck] 31)) rfl (.tmp 17) (.tmp 19) 22 rfl w.heap.size 31 i0 (.agg #[.int .i64 0, .int .i64 0, .int .i64 0, .int .i64 0, .bool false, .slice none 0 0, .string ⟨#[]⟩, .slice none 0 0]) 8 104 Try.underlying22 HI0.out HI1.out HI2.out HI3.out rfl (by decide) u3 L.length (flN L) rfl (HCP.out.row.alloc _) (some ⟨w3.heap.size, 0, none⟩) 1 1 (ndL (.mk k m u g o at_ d ks) h') rfl rfl (.inr ⟨_, rfl, fun q t hq => by rw [addr_add, Nat.zero_add]; exact nd_newA w3 _ h' _ q t hq⟩) (ndL_one _ _) (by unfold maxLen; omega) (by omega) (by have := HCP.out.low.size; rw [World.size_alloc]; omega) ?_)
      intro v7 w7 hown7 hgr7 ho7
      have HB7 : Hid (CpI w v7 (L ++ [(⟨(.mk k m u g o at_ d ks), h', 0⟩ : Fl)]) w7) := (HCP.out.below (alloc_bel2 w3 _)).app (f := ⟨(.mk k m u g o at_ d ks), h', 0⟩) (NdV.on HN3.out (mle_S (alloc_bel2 w3 _))) (by rw [flN_app, List.length_append]; simpa [flN] using hown7) hgr7 (by rw [World.size_alloc]; exact ho7)
      have HL2 : Hid ((L ++ [(⟨(.mk k m u g o at_ d ks), h', 0⟩ : Fl)]).map Fl.x = xs.take (j + 1)) := by show _ = _; rw [List.map_append, HL.out, HTK.out]; rfl
      clear hown7 hgr7 ho7 HCP HN3 NB f0 f1 f2 f3 f4 f5 f6 f7
      go_wp2
      go_roundw
      case rel => exact ⟨j + 1, _, by omega, by go_num, HL2.out, (show _ = _ from by rw [List.length_append, HLJ.out]; rfl), HB7.out⟩
      case measure => (simp [intOf]; try omega)
    · obtain rfl : j = N := by omega
      have hb2 : decide ((j : Int) < (j : Int)) = false := decide_eq_false (by omega)
      have HLX : Hid (L.map Fl.x = xs) := by show _ = _; rw [HL.out, List.take_of_length_le (by rw [HN.out]; omega)]
      go_wp2
      go_ret
      rcases HC.out.row.2 with ⟨rfl, h0⟩ | ⟨g, cap, cur, rfl, hb, hg, h1, h2, h3, h4⟩
      · rw [HLJ.out] at h0
        exact ⟨none, 0, ret_val (show Value.slice none 0 0 = .slice none j 0 by rw [h0]), by rw [h0]; exact Nat.le_refl _, .inl (List.length_eq_zero_iff.1 (by rw [HN.out]; exact h0)), HC.out.low⟩
      · refine ⟨some ⟨g, 0, none⟩, cap, ret_val (show Value.slice (some ⟨g, 0, none⟩) L.length cap = .slice (some ⟨g, 0, none⟩) j cap by rw [HLJ.out]), by rw [← HLJ.out]; exact h1, .inr ⟨g, 0, rfl, fun i => (L.getD i ⟨zN, zH, 0⟩).h, fun i x hi => ?_⟩, HC.out.low⟩
        rw [← HLX.out, List.getElem?_map] at hi
        obtain ⟨f, hf, rfl⟩ := Option.map_eq_some_iff.1 hi
        have e : (L.getD i ⟨zN, zH, 0⟩) = f := by rw [List.getD_eq_getElem?_getD, hf]; rfl
        dsimp only
        rw [e]
        refine ⟨nat_iff.2 fun q u hq => ?_, (HC.out.nd f (List.mem_of_getElem? hf)).on (offS_le _ _)⟩
        rw [Nat.zero_add]
        exact ownsRow_cell hg h4 (flN_get L i f hf q u hq)
set_option maxRecDepth 100000 in
set_option maxHeartbeats 1000000 in
theorem sameNodes_any {w W : World} {a b : Option Addr} {ca cb : Nat} {xs : List Nd} (ha : NsV w.cell? a xs) (hb : NsV w.cell? b xs) (hW : Below w.heap.size w W) (hl : xs.length ≤ 1000) (hok : ∀ x ∈ xs, Lim x) :
    Calls Try.prog 20 #[.slice a xs.length ca, .slice b xs.length cb] W fun e w' => e = .returned (.bool true) ∧ Below W.heap.size W w' := by
  have HA : Hid (NsV w.cell? a xs) := ha
  have HB : Hid (NsV w.cell? b xs) := hb
  have HOK : Hid (∀ x ∈ xs, Lim x) := hok
  obtain ⟨N, HN⟩ : ∃ N, Hid (xs.length = N) := ⟨_, rfl⟩
  rw [HN.out] at hl ⊢
  clear ha hb hok
  go_enter Try.func20, Try.ntmps20
  go_wp2
  go_loopw [5] (fun i wr => ∃ j : Nat, j ≤ N ∧ i = .int .i64 j ∧ Below W.heap.size W wr) (fun i _ => N - (intOf i).toNat)
  case atStart => exact ⟨0, Nat.zero_le _, rfl, Below.refl _ _⟩
  case round =>
    obtain ⟨j, hj, rfl, hB⟩ := hrel
    by_cases hjl : j < N
    · have hb2 : decide ((j : Int) < (N : Int)) = true := decide_eq_true (by omega)
      obtain ⟨x, hxj⟩ : ∃ x, xs[j]? = some x := ⟨_, List.getElem?_eq_getElem (by rw [HN.out]; exact hjl)⟩
      obtain ⟨ab, ao, ha, rfl, hn, hd⟩ := ns_at HA.out hxj
      obtain ⟨bb, bo, hb, rfl, hm, he⟩ := ns_at HB.out hxj
      have hli := HOK.out x (List.mem_of_getElem? hxj)
      have hBw : Below w.heap.size w wr := hW.trans (hB.mono hW.size)
      have hn2 := hn.below hBw
      have hm2 := hm.below hBw
      have HS0 := sameNode_yes hd hb wr.drew hli he hBw.drew
      obtain ⟨k, m, u, g, o, at_, d, ks⟩ := x
      have HS : Hid (Calls Try.prog 11 #[.agg #[.int .i64 k, .int .i64 m, .int .i64 u, .int .i64 g, .bool o, .slice ha.aa at_.length ha.ca, .string d, .slice ha.ak ks.length ha.ck], .agg #[.int .i64 k, .int .i64 m, .int .i64 u, .int .i64 g, .bool o, .slice hb.aa at_.length hb.ca, .string d, .slice hb.ak ks.length hb.ck]] wr.drew fun e W' => e = .returned (.bool true) ∧ Below wr.heap.size wr W') := HS0.mono fun e W' q => ⟨q.1, ((Below.refl _ wr).drew).trans q.2⟩
      obtain ⟨e0, e1, e2, e3, e4, e5, e6, e7⟩ := hn2
      obtain ⟨d0, d1, d2, d3, d4, d5, d6, d7⟩ := hm2
      have T4 : wr.cell? ⟨ab, ao + j * 8, none⟩ = some (.int .i64 k) ∧ wr.cell? ⟨ab, ao + j * 8 + 1, none⟩ = some (.int .i64 m) ∧ wr.cell? ⟨ab, ao + j * 8 + 2, none⟩ = some (.int .i64 u) ∧ wr.cell? ⟨ab, ao + j * 8 + 3, none⟩ = some (.int .i64 g) ∧ wr.cell? ⟨ab, ao + j * 8 + 4, none⟩ = some (.bool o) ∧ wr.cell? ⟨ab, ao + j * 8 + 5, none⟩ = some (.slice ha.aa at_.length ha.ca) ∧ wr.cell? ⟨ab, ao + j * 8 + 6, none⟩ = some (.string d) ∧ wr.cell? ⟨ab, ao + j * 8 + 7, none⟩ = some (.slice ha.ak ks.length ha.ck) ∧ wr.cell? ⟨bb, bo + j * 8, none⟩ = some (.int .i64 k) ∧ wr.cell? ⟨bb, bo + j * 8 + 1, none⟩ = some (.int .i64 m) ∧ wr.cell? ⟨bb, bo + j * 8 + 2, none⟩ = some (.int .i64 u) ∧ wr.cell? ⟨bb, bo + j * 8 + 3, none⟩ = some (.int .i64 g) ∧ wr.cell? ⟨bb, bo + j * 8 + 4, none⟩ = some (.bool o) ∧ wr.cell? ⟨bb, bo + j * 8 + 5, none⟩ = some (.slice hb.aa at_.length hb.ca) ∧ wr.cell? ⟨bb, bo + j * 8 + 6, none⟩ = some (.string d) ∧ wr.cell? ⟨bb, bo + j * 8 + 7, none⟩ = some (.slice hb.ak ks.length hb.ck) := ⟨e0, e1, e2, e3, e4, e5, e6, e7, d0, d1, d2, d3, d4, d5, d6, d7⟩
      have T5 : wr.drew.cell? ⟨ab, ao + j * 8, none⟩ = some (.int .i64 k) ∧ wr.drew.cell? ⟨ab, ao + j * 8 + 1, none⟩ = some (.int .i64 m) ∧ wr.drew.cell? ⟨ab, ao + j * 8 + 2, none⟩ = some (.int .i64 u) ∧ wr.drew.cell? ⟨ab, ao + j * 8 + 3, none⟩ = some (.int .i64 g) ∧ wr.drew.cell? ⟨ab, ao + j * 8 + 4, none⟩ = some (.bool o) ∧ wr.drew.cell? ⟨ab, ao + j * 8 + 5, none⟩ = some (.slice ha.aa at_.length ha.ca) ∧ wr.drew.cell? ⟨ab, ao + j * 8 + 6, none⟩ = some (.string d) ∧ wr.drew.cell? ⟨ab, ao + j * 8 + 7, none⟩ = some (.slice ha.ak ks.length ha.ck) ∧ wr.drew.cell? ⟨bb, bo + j * 8, none⟩ = some (.int .i64 k) ∧ wr.drew.cell? ⟨bb, bo + j * 8 + 1, none⟩ = some (.int .i64 m) ∧ wr.drew.cell? ⟨bb, bo + j * 8 + 2, none⟩ = some (.int .i64 u) ∧ wr.drew.cell? ⟨bb, bo + j * 8 + 3, none⟩ = some (.int .i64 g) ∧ wr.drew.cell? ⟨bb, bo + j * 8 + 4, none⟩ = some (.bool o) ∧ wr.drew.cell? ⟨bb, bo + j * 8 + 5, none⟩ = some (.slice hb.aa at_.length hb.ca) ∧ wr.drew.cell? ⟨bb, bo + j * 8 + 6, none⟩ = some (.string d) ∧ wr.drew.cell? ⟨bb, bo + j * 8 + 7, none⟩ = some (.slice hb.ak ks.length hb.ck) := T4
      have HTB : Hid (∀ w' : World, Below wr.heap.size wr w' → w'.cell? ⟨ab, ao + j * 8, none⟩ = some (.int .i64 k) ∧ w'.cell? ⟨ab, ao + j * 8 + 1, none⟩ = some (.int .i64 m) ∧ w'.cell? ⟨ab, ao + j * 8 + 2, none⟩ = some (.int .i64 u) ∧ w'.cell? ⟨ab, ao + j * 8 + 3, none⟩ = some (.int .i64 g) ∧ w'.cell? ⟨ab, ao + j * 8 + 4, none⟩ = some (.bool o) ∧ w'.cell? ⟨ab, ao + j * 8 + 5, none⟩ = some (.slice ha.aa at_.length ha.ca) ∧ w'.cell? ⟨ab, ao + j * 8 + 6, none⟩ = some (.string d) ∧ w'.cell? ⟨ab, ao + j * 8 + 7, none⟩ = some (.slice ha.ak ks.length ha.ck) ∧ w'.cell? ⟨bb, bo + j * 8, none⟩ = some (.int .i64 k) ∧ w'.cell? ⟨bb, bo + j * 8 + 1, none⟩ = some (.int .i64 m) ∧ w'.cell? ⟨bb, bo + j * 8 + 2, none⟩ = some (.int .i64 u) ∧ w'.cell? ⟨bb, bo + j * 8 + 3, none⟩ = some (.int .i64 g) ∧ w'.cell? ⟨bb, bo + j * 8 + 4, none⟩ = some (.bool o) ∧ w'.cell? ⟨bb, bo + j * 8 + 5, none⟩ = some (.slice hb.aa at_.length hb.ca) ∧ w'.cell? ⟨bb, bo + j * 8 + 6, none⟩ = some (.string d) ∧ w'.cell? ⟨bb, bo + j * 8 + 7, none⟩ = some (.slice hb.ak ks.length hb.ck)) := fun w' hb => ⟨mle_below hb _ _ T4.1, mle_below hb _ _ T4.2.1, mle_below hb _ _ T4.2.2.1, mle_below hb _ _ T4.2.2.2.1, mle_below hb _ _ T4.2.2.2.2.1, mle_below hb _ _ T4.2.2.2.2.2.1, mle_below hb _ _ T4.2.2.2.2.2.2.1, mle_below hb _ _ T4.2.2.2.2.2.2.2.1, mle_below hb _ _ T4.2.2.2.2.2.2.2.2.1, mle_below hb _ _ T4.2.2.2.2.2.2.2.2.2.1, mle_below hb _ _ T4.2.2.2.2.2.2.2.2.2.2.1, mle_below hb _ _ T4.2.2.2.2.2.2.2.2.2.2.2.1, mle_below hb _ _ T4.2.2.2.2.2.2.2.2.2.2.2.2.1, mle_below hb _ _ T4.2.2.2.2.2.2.2.2.2.2.2.2.2.1, mle_below hb _ _ T4.2.2.2.2.2.2.2.2.2.2.2.2.2.2.1, mle_below hb _ _ T4.2.2.2.2.2.2.2.2.2.2.2.2.2.2.2⟩
      have k1 : (j : Int) < (N : Int) := by omega
      clear T4 e0 e1 e2 e3 e4 e5 e6 e7 d0 d1 d2 d3 d4 d5 d6 d7 hn hd hm he hli HS0 hxj
      go_upto_region 6 with fail
      go_region_held3 (fun w' => w'.cell? ⟨ab, ao + j * 8, none⟩ = some (.int .i64 k) ∧ w'.cell? ⟨ab, ao + j * 8 + 1, none⟩ = some (.int .i64 m) ∧ w'.cell? ⟨ab, ao + j * 8 + 2, none⟩ = some (.int .i64 u) ∧ w'.cell? ⟨ab, ao + j * 8 + 3, none⟩ = some (.int .i64 g) ∧ w'.cell? ⟨ab, ao + j * 8 + 4, none⟩ = some (.bool o) ∧ w'.cell? ⟨ab, ao + j * 8 + 5, none⟩ = some (.slice ha.aa at_.length ha.ca) ∧ w'.cell? ⟨ab, ao + j * 8 + 6, none⟩ = some (.string d) ∧ w'.cell? ⟨ab, ao + j * 8 + 7, none⟩ = some (.slice ha.ak ks.length ha.ck) ∧ w'.cell? ⟨bb, bo + j * 8, none⟩ = some (.int .i64 k) ∧ w'.cell? ⟨bb, bo + j * 8 + 1, none⟩ = some (.int .i64 m) ∧ w'.cell? ⟨bb, bo + j * 8 + 2, none⟩ = some (.int .i64 u) ∧ w'.cell? ⟨bb, bo + j * 8 + 3, none⟩ = some (.int .i64 g) ∧ w'.cell? ⟨bb, bo + j * 8 + 4, none⟩ = some (.bool o) ∧ w'.cell? ⟨bb, bo + j * 8 + 5, none⟩ = some (.slice hb.aa at_.length hb.ca) ∧ w'.cell? ⟨bb, bo + j * 8 + 6, none⟩ = some (.string d) ∧ w'.cell? ⟨bb, bo + j * 8 + 7, none⟩ = some (.slice hb.ak ks.length hb.ck)) (first | with_reducible exact T5 | with_reducible exact T6) (first | (go_at_call 11; (with_reducible refine Calls.mono HS.out ?_); rintro e w6 ⟨rfl, hB6⟩; have T6 := HTB.out w6 hB6))
      have hB7 := hB.trans (hB6.mono hB.size)
      clear T5 T6 HS HTB hB6
      go_wp2
      go_roundw
      case rel => exact ⟨j + 1, by omega, by go_num, hB7⟩
      case measure => (simp [intOf]; try omega)
    · have hb2 : decide ((j : Int) < (N : Int)) = false := decide_eq_false (by omega)
      go_wp2
      go_ret
      exact ⟨rfl, hB⟩
end Go.Proofs.Ytgmeecfdkcbggaa
