/-
  TopComes' within: what it makes of each node: the walks.
  WHAT IS LAID FLAT IS LITTLE AND NOT MORE THAN THERE WAS: the facts of no program.
  BOUNDS OF WHAT CAME UP, AND OF WHAT IS LAID FLAT AS IT IS WITHIN: the facts of no program.
  within: the walk.
  A BRANCH: what stands while it is made; no walk.
  Lights, copies, sameNodes: the walks.
  ONE LAYER, AND OTHERS BEHIND IT, IN MEMORY: no walk.
  A BRANCH: one node into the one ahead of it; no walk.
-/
import Derived.Test.YtlbabnffiibnpaaGreatZnX
import Derived.Test.YtlbabnffiibnpaaGreatHcX
import Derived.Test.YtlbabnffiibnpaaGreatFrY
import Derived.Test.YtlbabnffiibnpaaGreatFdX
import Derived.Test.YtlbabnffiibnpaaGreatMiX
import Derived.Test.YtlbabnffiibnpaaGreatUkX
import Derived.Test.YtlbabnffiibnpaaGreatWaY
import Derived.Test.YtlbabnffiibnpaaGreatUbX
import Derived.Test.YtlbabnffiibnpaaGreatWoX
import Derived.Test.YtlbabnffiibnpaaGreatNnX
import Derived.Test.YtlbabnffiibnpaaGreatApX
import Derived.Deep.RegionHeld3
import Derived.Deep.RegionLaw
import Derived.Deep.Cut
namespace Go.Proofs.YtlbabnffiibnpaaGreat
open Go.RowKit
theorem fW_zero {us gs : List Rg} {x : Nd} (h : mvF false us gs x = none) : fW us gs x 0 = zN := by unfold fW; rw [if_neg (by omega), h]; rfl
theorem fW_some {us gs : List Rg} {x y : Nd} (h : mvF false us gs x = some y) : fW us gs x 0 = y := by unfold fW; rw [if_neg (by omega), h]; rfl
theorem fW_pos {us gs : List Rg} {x : Nd} {ly : Nat} (h : 0 < ly) : fW us gs x ly = x := by unfold fW; rw [if_pos h]
theorem made_of {x : Nd} {h : Hd} {S : Nat → Bool} {W W' : World} {e : Ending} (hN : NdV (offS W'.cell? S) x h) (hb : h.ak = none ∧ h.ck = 0) (hk : x.kids = []) (hl : Lim x) (he : e = .returned (ndV x h)) (hB : Below W.heap.size W W') : MadeR x S W e W' := by
  obtain ⟨k, m, u, g, o, at_, d, ks⟩ := x
  obtain ⟨aa, ca, ak, ck⟩ := h
  obtain ⟨h2, h3⟩ := hb
  have h1 : ks = [] := hk
  have h2 : ak = none := h2
  have h3 : ck = 0 := h3
  subst h1 h2 h3
  obtain ⟨hka, hca, _, _⟩ := ndV_iff.1 hN
  rw [Lim] at hl
  exact ⟨k, m, u, g, o, at_, d, aa, ca, rfl, he, hca.1, hca.2, hl.1, hka, hB⟩
set_option maxRecDepth 100000 in
set_option maxHeartbeats 4000000 in
theorem within1_any {W : World} {S : Nat → Bool} (hS : ∀ k, S k = true → k < W.heap.size) {k m u g : Int} {o : Bool} {at_ : List Kv} {d : ByteArray} {aa : Option Addr} {ca ly mb : Nat} (hu : I64 u) (hg : I64 g) (h1 : at_.length ≤ ca) (h2 : ca ≤ 9223372036854775807) (hla : at_.length ≤ 1000) (hk : Kvm (offS W.cell? S) aa at_)
    {M : MapsV} (hM : MapsOk W M) (hb0 : W.cell? ⟨mb, 0, none⟩ = some (.slice M.ua M.us.length M.uc)) (hb1 : W.cell? ⟨mb, 1, none⟩ = some (.slice M.ga M.gs.length M.gc)) :
    Calls Tryz.prog 20 #[bv k m u g o at_ d aa ca, .int .i64 ly, .pointer (some ⟨mb, 0, none⟩)] W (MadeR (fW M.us M.gs (.mk k m u g o at_ d []) ly) S W) := by
  have hN : NdV (offS W.cell? S) (.mk k m u g o at_ d []) ⟨aa, ca, none, 0⟩ := ndV_iff.2 ⟨hk, ⟨h1, h2⟩, ⟨Nat.le_refl _, by show (0 : Nat) ≤ _; omega⟩, .inl rfl⟩
  have hlim : Lim (.mk k m u g o at_ d []) := by rw [Lim]; exact ⟨hla, by simp, by rw [LimL]; trivial⟩
  have hB1 : Below W.heap.size W (W.alloc (.cells #[.int .i64 k, .int .i64 m, .int .i64 u, .int .i64 g, .bool o, .slice aa at_.length ca, .string d, .slice none 0 0] 34)) := (Below.refl _ _).alloc (Nat.le_refl _) _
  have hB2 := hB1.alloc hB1.size (.cells #[.int .i64 0, .int .i64 0, .int .i64 0, .int .i64 0, .bool false, .slice none 0 0, .string ⟨#[]⟩, .slice none 0 0] 34)
  have hal : Below (W.alloc (.cells #[.int .i64 k, .int .i64 m, .int .i64 u, .int .i64 g, .bool o, .slice aa at_.length ca, .string d, .slice none 0 0] 34)).heap.size (W.alloc (.cells #[.int .i64 k, .int .i64 m, .int .i64 u, .int .i64 g, .bool o, .slice aa at_.length ca, .string d, .slice none 0 0] 34)) ((W.alloc (.cells #[.int .i64 k, .int .i64 m, .int .i64 u, .int .i64 g, .bool o, .slice aa at_.length ca, .string d, .slice none 0 0] 34)).alloc (.cells #[.int .i64 0, .int .i64 0, .int .i64 0, .int .i64 0, .bool false, .slice none 0 0, .string ⟨#[]⟩, .slice none 0 0] 34)) := (Below.refl _ _).alloc (Nat.le_refl _) _
  have B1 := NBw.new W k m u g o at_ d [] ⟨aa, ca, none, 0⟩
  simp only [List.length_nil] at B1
  have B1 := B1.below hal
  have R1 := NBw.zero (W.alloc (.cells #[.int .i64 k, .int .i64 m, .int .i64 u, .int .i64 g, .bool o, .slice aa at_.length ca, .string d, .slice none 0 0] 34))
  rw [World.size_alloc] at R1
  have c0 := mle_below hB2 _ _ hb0
  have c1 := mle_below hB2 _ _ hb1
  have hmb : mb < W.heap.size := World.block_lt_of_cell? _ _ hb0
  have hM2 := hM.below hB2
  have hsz2 : ((W.alloc (.cells #[.int .i64 k, .int .i64 m, .int .i64 u, .int .i64 g, .bool o, .slice aa at_.length ca, .string d, .slice none 0 0] 34)).alloc (.cells #[.int .i64 0, .int .i64 0, .int .i64 0, .int .i64 0, .bool false, .slice none 0 0, .string ⟨#[]⟩, .slice none 0 0] 34)).heap.size = W.heap.size + 1 + 1 := by rw [World.size_alloc, World.size_alloc]
  have HN2 : Hid (NdV (offS ((W.alloc (.cells #[.int .i64 k, .int .i64 m, .int .i64 u, .int .i64 g, .bool o, .slice aa at_.length ca, .string d, .slice none 0 0] 34)).alloc (.cells #[.int .i64 0, .int .i64 0, .int .i64 0, .int .i64 0, .bool false, .slice none 0 0, .string ⟨#[]⟩, .slice none 0 0] 34)).cell? (fun q => (q == W.heap.size || q == W.heap.size + 1) || S q)) (.mk k m u g o at_ d []) ⟨aa, ca, none, 0⟩) := hN.on (mle_step fun q hq hs => ⟨by simp [hs]; omega, hB2.block q hq⟩)
  have HS : Hid (∀ k, S k = true → k < W.heap.size) := hS
  have HLIM : Hid (Lim (.mk k m u g o at_ d [])) := hlim
  have HM2 : Hid (MapsOk _ M) := hM2
  have HID : Hid (I64 u ∧ I64 g) := ⟨hu, hg⟩
  clear hN hk hb0 hb1 hM hM2 hal hB1 hS hlim hu hg
  generalize hw2 : (W.alloc (.cells #[.int .i64 k, .int .i64 m, .int .i64 u, .int .i64 g, .bool o, .slice aa at_.length ca, .string d, .slice none 0 0] 34)).alloc (.cells #[.int .i64 0, .int .i64 0, .int .i64 0, .int .i64 0, .bool false, .slice none 0 0, .string ⟨#[]⟩, .slice none 0 0] 34) = w2 at hB2 B1 R1 c0 c1 hsz2 HN2 HM2
  by_cases hly : 0 < ly
  · rw [fW_pos hly]
    have hlI : (0 : Int) < (ly : Int) := by omega
    have R3 := R1.store (.mk k m u g o at_ d []) ⟨aa, ca, none, 0⟩
    have b3 : But (W.heap.size + 1) w2 (stB w2 (W.heap.size + 1) (.mk k m u g o at_ d []) ⟨aa, ca, none, 0⟩) := stB_but
    have hB3 := hB2.trans (b3.below (B := W.heap.size) (by omega) hB2.size)
    have HN3 : Hid (NdV (offS (stB w2 (W.heap.size + 1) (.mk k m u g o at_ d []) ⟨aa, ca, none, 0⟩).cell? S) (.mk k m u g o at_ d []) ⟨aa, ca, none, 0⟩) := HN2.out.on (mle_step fun q hq hs => by
      simp at hs
      exact ⟨hs.2, b3.block q hq hs.1.2⟩)
    obtain ⟨⟨f0, f1, f2, f3, f4, f5, f6, f7⟩, ff⟩ := B1
    obtain ⟨⟨z0, z1, z2, z3, z4, z5, z6, z7⟩, zz⟩ := R1
    simp only [List.length_nil] at f7
    have y0 := zz 0
    have y1 := zz 1
    have y2 := zz 2
    have y3 := zz 3
    have y4 := zz 4
    have y5 := zz 5
    have y6 := zz 6
    have y7 := zz 7
    clear b3 hsz2 c0 c1 HN2 HM2 ff zz
    go_enter Tryz.func20, Tryz.ntmps20
    go_wp2
    obtain ⟨W6, HW6⟩ : ∃ W6, Hid (stB w2 (W.heap.size + 1) (.mk k m u g o at_ d []) ⟨aa, ca, none, 0⟩ = W6) := ⟨_, rfl⟩
    rw [HW6.out] at R3 hB3 HN3
    have hw6 := HW6.out
    simp only [stB, List.length_nil] at hw6
    rw [hw6]
    obtain ⟨r0, r1, r2, r3, r4, r5, r6, r7⟩ := R3.1
    simp only [List.length_nil] at r7
    exact bodyPost_ret (v := bv k m u g o at_ d aa ca) (by simp [results, Tryz.results20, go_sem, r0, r1, r2, r3, r4, r5, r6, r7]) rfl (made_of HN3.out ⟨rfl, rfl⟩ rfl HLIM.out rfl hB3)
  · have hl0 : ly = 0 := by omega
    subst hl0
    have hcn : cnt (.mk k m u g o at_ d []) ≤ 1000 := by rw [cnt, cntL]; omega
    obtain ⟨OX, HOX⟩ : ∃ OX, Hid (mvF false M.us M.gs (.mk k m u g o at_ d []) = OX) := ⟨_, rfl⟩
    have HC1 : Hid (Calls Tryz.prog 21 #[.agg #[.slice M.ua M.us.length M.uc, .slice M.ga M.gs.length M.gc], .agg #[.int .i64 k, .int .i64 m, .int .i64 u, .int .i64 g, .bool o, .slice aa at_.length ca, .string d, .slice none 0 0]] w2 fun e W' => MvB w2 W' (fun q => (q == W.heap.size || q == W.heap.size + 1) || S q) e OX) := by
      have := inside_bare (W := w2) (S := fun q => (q == W.heap.size || q == W.heap.size + 1) || S q) (M := M) (fun q hq => by
        rw [hsz2]
        simp at hq
        rcases hq with (e | e) | e
        · omega
        · omega
        · have := HS.out q e; omega) HN2.out HLIM.out hcn HID.out ⟨rfl, rfl, rfl⟩ HM2.out
      rw [HOX.out] at this
      exact this
    obtain ⟨⟨f0, f1, f2, f3, f4, f5, f6, f7⟩, ff⟩ := id B1
    simp only [List.length_nil] at f7
    go_enter Tryz.func20, Tryz.ntmps20
    go_wp2_with fail
    clear hw2
    refine Calls.mono HC1.out ?_
    intro e w4 hE
    clear f0 f1 f2 f3 f4 f5 f6 f7 ff c0 c1 HC1 B1
    cases OX with
    | none =>
      obtain ⟨rfl, hB4⟩ := hE
      rw [fW_zero HOX.out]
      have R4 := R1.below hB4
      have hB04 := hB2.trans (hB4.mono hB2.size)
      have hal5 : Below w4.heap.size w4 (w4.alloc (.cells #[.int .i64 0, .int .i64 0, .int .i64 0, .int .i64 0, .bool false, .slice none 0 0, .string ⟨#[]⟩, .slice none 0 0] 34)) := (Below.refl _ _).alloc (Nat.le_refl _) _
      have R5 := R4.below hal5
      have hB05 := hB04.trans (hal5.mono hB04.size)
      have Z5 := NBw.zero w4
      have R6 := R5.store zN zH
      have hB6 : Below W.heap.size W (stB (w4.alloc (.cells #[.int .i64 0, .int .i64 0, .int .i64 0, .int .i64 0, .bool false, .slice none 0 0, .string ⟨#[]⟩, .slice none 0 0] 34)) (W.heap.size + 1) zN zH) := hB05.trans (stB_but.below (by omega) hB05.size)
      have hne : w4.heap.size ≠ W.heap.size + 1 := by have := hB4.size; omega
      rw [show ndV zN zH = .agg #[.int .i64 0, .int .i64 0, .int .i64 0, .int .i64 0, .bool false, .slice none 0 0, .string ⟨#[]⟩, .slice none 0 0] from rfl]
      obtain ⟨⟨z0, z1, z2, z3, z4, z5, z6, z7⟩, zz⟩ := R4
      obtain ⟨⟨x0, x1, x2, x3, x4, x5, x6, x7⟩, xx⟩ := R5
      have y0 := xx 0
      have y1 := xx 1
      have y2 := xx 2
      have y3 := xx 3
      have y4 := xx 4
      have y5 := xx 5
      have y6 := xx 6
      have y7 := xx 7
      clear R1 Z5 hal5 hB4 xx zz
      go_wp2
      obtain ⟨W6, HW6⟩ : ∃ W6, Hid (stB (w4.alloc (.cells #[.int .i64 0, .int .i64 0, .int .i64 0, .int .i64 0, .bool false, .slice none 0 0, .string ⟨#[]⟩, .slice none 0 0] 34)) (W.heap.size + 1) zN zH = W6) := ⟨_, rfl⟩
      rw [HW6.out] at R6 hB6
      have hw6 := HW6.out
      simp only [stB, zN, zH, List.length_nil] at hw6
      rw [hw6]
      obtain ⟨r0, r1, r2, r3, r4, r5, r6, r7⟩ := R6.1
      have hfin : MadeR (fW M.us M.gs (.mk k m u g o at_ d []) 0) S W (.returned (bv 0 0 0 0 false [] ⟨#[]⟩ none 0)) W6 := by
        rw [fW_zero HOX.out]
        exact made_of (x := zN) (h := zH) (nZ _) ⟨rfl, rfl⟩ rfl (by rw [zN, Lim]; exact ⟨Nat.zero_le _, Nat.zero_le _, by rw [LimL]; trivial⟩) rfl hB6
      exact bodyPost_ret (v := bv 0 0 0 0 false [] ⟨#[]⟩ none 0) (by simp [results, Tryz.results20, go_sem, zH, r0, r1, r2, r3, r4, r5, r6, r7]) rfl hfin
    | some y =>
      obtain ⟨⟨hx, rfl, hN4, hbx⟩, hB4⟩ := hE
      have hyk : y.kids = [] := (mv_keep HOX.out).2
      have hyl : Lim y := by
        have h5 := HOX.out
        rw [mvF] at h5
        split at h5
        · cases h5; exact lim_ids HLIM.out
        · cases h5
      obtain ⟨k2, m2, u2, g2, o2, at2, d2, ks2⟩ := y
      have hyk : ks2 = [] := hyk
      subst hyk
      obtain ⟨aa2, ca2, ak2, ck2⟩ := hx
      obtain ⟨hb1, hb2⟩ := hbx
      have hb1 : ak2 = none := hb1
      have hb2 : ck2 = 0 := hb2
      subst hb1 hb2
      have HOX2 : Hid (mvF false M.us M.gs (.mk k m u g o at_ d []) = some (.mk k2 m2 u2 g2 o2 at2 d2 [])) := HOX.out
      have HYL : Hid (Lim (.mk k2 m2 u2 g2 o2 at2 d2 [])) := hyl
      have R4 := R1.below hB4
      have hB04 := hB2.trans (hB4.mono hB2.size)
      have hal5 : Below w4.heap.size w4 (w4.alloc (.cells #[.int .i64 k2, .int .i64 m2, .int .i64 u2, .int .i64 g2, .bool o2, .slice aa2 at2.length ca2, .string d2, .slice none 0 0] 34)) := (Below.refl _ _).alloc (Nat.le_refl _) _
      have R5 := R4.below hal5
      have hB05 := hB04.trans (hal5.mono hB04.size)
      have R6 := R5.store (.mk k2 m2 u2 g2 o2 at2 d2 []) ⟨aa2, ca2, none, 0⟩
      have b6 : But (W.heap.size + 1) (w4.alloc (.cells #[.int .i64 k2, .int .i64 m2, .int .i64 u2, .int .i64 g2, .bool o2, .slice aa2 at2.length ca2, .string d2, .slice none 0 0] 34)) (stB (w4.alloc (.cells #[.int .i64 k2, .int .i64 m2, .int .i64 u2, .int .i64 g2, .bool o2, .slice aa2 at2.length ca2, .string d2, .slice none 0 0] 34)) (W.heap.size + 1) (.mk k2 m2 u2 g2 o2 at2 d2 []) ⟨aa2, ca2, none, 0⟩) := stB_but
      have hB6 : Below W.heap.size W (stB (w4.alloc (.cells #[.int .i64 k2, .int .i64 m2, .int .i64 u2, .int .i64 g2, .bool o2, .slice aa2 at2.length ca2, .string d2, .slice none 0 0] 34)) (W.heap.size + 1) (.mk k2 m2 u2 g2 o2 at2 d2 []) ⟨aa2, ca2, none, 0⟩) := hB05.trans (b6.below (by omega) hB05.size)
      have HN6 : Hid (NdV (offS (stB (w4.alloc (.cells #[.int .i64 k2, .int .i64 m2, .int .i64 u2, .int .i64 g2, .bool o2, .slice aa2 at2.length ca2, .string d2, .slice none 0 0] 34)) (W.heap.size + 1) (.mk k2 m2 u2 g2 o2 at2 d2 []) ⟨aa2, ca2, none, 0⟩).cell? S) (.mk k2 m2 u2 g2 o2 at2 d2 []) ⟨aa2, ca2, none, 0⟩) := hN4.on (mle_step fun q hq hs => by
        simp at hs
        exact ⟨hs.2, (b6.block q (Nat.lt_of_lt_of_le hq hal5.size) hs.1.2).trans (hal5.block q hq)⟩)
      have hne : w4.heap.size ≠ W.heap.size + 1 := by have := hB4.size; omega
      rw [show ndV (.mk k2 m2 u2 g2 o2 at2 d2 []) ⟨aa2, ca2, none, 0⟩ = .agg #[.int .i64 k2, .int .i64 m2, .int .i64 u2, .int .i64 g2, .bool o2, .slice aa2 at2.length ca2, .string d2, .slice none 0 0] from rfl]
      obtain ⟨⟨z0, z1, z2, z3, z4, z5, z6, z7⟩, zz⟩ := R4
      obtain ⟨⟨x0, x1, x2, x3, x4, x5, x6, x7⟩, xx⟩ := R5
      have y0 := xx 0
      have y1 := xx 1
      have y2 := xx 2
      have y3 := xx 3
      have y4 := xx 4
      have y5 := xx 5
      have y6 := xx 6
      have y7 := xx 7
      clear R1 hal5 hB4 xx zz b6 hN4 HOX hyl
      go_wp2
      obtain ⟨W6, HW6⟩ : ∃ W6, Hid (stB (w4.alloc (.cells #[.int .i64 k2, .int .i64 m2, .int .i64 u2, .int .i64 g2, .bool o2, .slice aa2 at2.length ca2, .string d2, .slice none 0 0] 34)) (W.heap.size + 1) (.mk k2 m2 u2 g2 o2 at2 d2 []) ⟨aa2, ca2, none, 0⟩ = W6) := ⟨_, rfl⟩
      rw [HW6.out] at R6 hB6 HN6
      have hw6 := HW6.out
      simp only [stB, List.length_nil] at hw6
      rw [hw6]
      obtain ⟨r0, r1, r2, r3, r4, r5, r6, r7⟩ := R6.1
      simp only [List.length_nil] at r7
      have hfin : MadeR (fW M.us M.gs (.mk k m u g o at_ d []) 0) S W (.returned (bv k2 m2 u2 g2 o2 at2 d2 aa2 ca2)) W6 := by
        rw [fW_some HOX2.out]
        exact made_of (h := ⟨aa2, ca2, none, 0⟩) HN6.out ⟨rfl, rfl⟩ rfl HYL.out rfl hB6
      exact bodyPost_ret (v := bv k2 m2 u2 g2 o2 at2 d2 aa2 ca2) (by simp [results, Tryz.results20, go_sem, r0, r1, r2, r3, r4, r5, r6, r7]) rfl hfin
theorem within_fn {w : World} {mb : Nat} {M : MapsV} (hM : MapsOk w M) (hb0 : w.cell? ⟨mb, 0, none⟩ = some (.slice M.ua M.us.length M.uc)) (hb1 : w.cell? ⟨mb, 1, none⟩ = some (.slice M.ga M.gs.length M.gc)) :
    FnOk w (.func (.func 20) #[] #[.pointer (some ⟨mb, 0, none⟩)]) (fW M.us M.gs) := by
  have hlt : mb < w.heap.size := World.block_lt_of_cell? _ _ hb0
  refine .inr ⟨20, #[.pointer (some ⟨mb, 0, none⟩)], rfl, fun args w => by kernel_rfl, fun W S k m u g o at_ d aa ca ly hu hg hW hS h1 h2 h3 hk => ?_⟩
  exact within1_any hS hu hg h1 h2 h3 hk (hM.below hW) ((hW.cell (p := ⟨mb, 0, none⟩) hlt).trans hb0) ((hW.cell (p := ⟨mb, 1, none⟩) hlt).trans hb1)
end Go.Proofs.YtlbabnffiibnpaaGreat
namespace Go.Proofs.YtlbabnffiibnpaaGreat
open Go.RowKit
theorem lilL_of : ∀ {ks : Kds}, (∀ p ∈ ks, p.1.size ≤ 255 ∧ Lil p.2) → LilL ks
  | [], _ => by rw [LilL]; trivial
  | (n, x) :: l, h => by
    rw [LilL]
    have h1 := h (n, x) (List.mem_cons_self ..)
    exact ⟨h1.1, h1.2, lilL_of fun p hp => h p (List.mem_cons_of_mem _ hp)⟩
theorem cntL_map (g : ByteArray → Nd) : ∀ N : List ByteArray, cntL (N.map fun nm => (nm, g nm)) = (N.map fun nm => cnt (g nm)).sum
  | [] => rfl
  | n :: N => by
    rw [List.map_cons, List.map_cons, List.sum_cons, cntL, cntL_map g N]
theorem sum_leM {g h : ByteArray → Nat} : ∀ {N : List ByteArray}, (∀ n ∈ N, g n ≤ h n) → (N.map g).sum ≤ (N.map h).sum
  | [], _ => Nat.le_refl _
  | n :: N, hg => by
    have h1 := sum_leM fun m hm => hg m (List.mem_cons_of_mem _ hm)
    have h2 := hg n (List.mem_cons_self ..)
    simp only [List.map_cons, List.sum_cons]
    omega
theorem cnt_withF (x : Nd) (ks : Kds) : cnt (x.with ks) = cntL ks + 1 := by
  obtain ⟨k, m, u, g, o, at_, d, k0⟩ := x
  rw [Nd.with, cnt]
theorem flat0_cnt : ∀ (N : Nat) (l : Fls), tot l ≤ N → l ≠ [] → cnt (flat0 l) ≤ tot l
  | N, [], _, h => absurd rfl h
  | 0, q :: r, h, _ => by have := cnt_posF q.1; simp [tot] at h; omega
  | N + 1, q :: r, h, _ => by
    rw [flat0_cons, cnt_withF, cntL_map]
    have h1 := tot_nxt (q :: r) (listP (q :: r)) (rise_nodup (listP_rise _))
    rw [List.length_cons] at h1
    have h2 : ((listP (q :: r)).map fun nm => cnt (flat0 (nxt (q :: r) nm))).sum ≤ ((listP (q :: r)).map fun nm => tot (nxt (q :: r) nm)).sum := sum_leM fun nm hm => by
      have h3 := tot_nxt1 (q :: r) nm
      rw [List.length_cons] at h3
      exact flat0_cnt N _ (by omega) (mem_listP.1 hm)
    omega
theorem lil_nak {x : Nd} (h : Lil x) {ks : Kds} (hk : LilL ks) : Lil ((nakN x).with ks) := by
  obtain ⟨k, m, u, g, o, at_, d, k0⟩ := x
  rw [Lil] at h
  rw [nakN, Nd.with, Lil]
  exact ⟨h.1, h.2.1, hk⟩
theorem lil_name {x y : Nd} {nm : ByteArray} (h : Lil x) (hy : kidO nm x = some y) : nm.size ≤ 255 := by
  rw [kidO_eq] at hy
  obtain ⟨i, hi⟩ := List.getElem?_of_mem (dirKs_sub (fstK_mem hy))
  obtain ⟨k, m, u, g, o, at_, d, ks⟩ := x
  rw [Lil] at h
  exact (lilL_get h.2.2 hi).1
theorem flat0_lil : ∀ (N : Nat) (l : Fls), tot l ≤ N → l ≠ [] → (∀ q ∈ l, Lil q.1) → Lil (flat0 l)
  | N, [], _, h, _ => absurd rfl h
  | 0, q :: r, h, _, _ => by have := cnt_posF q.1; simp [tot] at h; omega
  | N + 1, q :: r, h, _, hl => by
    rw [flat0_cons]
    refine lil_nak (hl q (List.mem_cons_self ..)) (lilL_of fun p hp => ?_)
    obtain ⟨nm, hm, rfl⟩ := List.mem_map.1 hp
    have hne := mem_listP.1 hm
    have h3 := tot_nxt1 (q :: r) nm
    rw [List.length_cons] at h3
    refine ⟨?_, flat0_lil N _ (by omega) hne fun q2 hq => ?_⟩
    · cases e : nxt (q :: r) nm with
      | nil => exact absurd e hne
      | cons q2 r2 =>
        obtain ⟨p, hp, e2⟩ := nxt_mem (show q2 ∈ nxt (q :: r) nm by rw [e]; exact List.mem_cons_self ..)
        exact lil_name (hl p hp) e2
    · obtain ⟨p, hp, e2⟩ := nxt_mem hq
      exact lil_kid (hl p hp) e2
theorem idL_ofF : ∀ {ks : Kds}, (∀ p ∈ ks, IdN p.2) → IdL ks
  | [], _ => by rw [IdL]; trivial
  | (n, x) :: l, h => by
    rw [IdL]
    exact ⟨h (n, x) (List.mem_cons_self ..), idL_ofF fun p hp => h p (List.mem_cons_of_mem _ hp)⟩
theorem id_nak {x : Nd} (h : IdN x) {ks : Kds} (hk : IdL ks) : IdN ((nakN x).with ks) := by
  obtain ⟨k, m, u, g, o, at_, d, k0⟩ := x
  rw [IdN] at h
  rw [nakN, Nd.with, IdN]
  exact ⟨h.1, h.2.1, hk⟩
theorem flat0_ids : ∀ (N : Nat) (l : Fls), tot l ≤ N → l ≠ [] → (∀ q ∈ l, IdN q.1) → IdN (flat0 l)
  | N, [], _, h, _ => absurd rfl h
  | 0, q :: r, h, _, _ => by have := cnt_posF q.1; simp [tot] at h; omega
  | N + 1, q :: r, h, _, hl => by
    rw [flat0_cons]
    refine id_nak (hl q (List.mem_cons_self ..)) (idL_ofF fun p hp => ?_)
    obtain ⟨nm, hm, rfl⟩ := List.mem_map.1 hp
    have hne := mem_listP.1 hm
    have h3 := tot_nxt1 (q :: r) nm
    rw [List.length_cons] at h3
    exact flat0_ids N _ (by omega) hne fun q2 hq => IdP.sh (IdP.kid hl nm) q2 hq
/-- Layers that may be gone over. -/
structure LaysOk (xs : List Nd) : Prop where
  lil : ∀ x ∈ xs, Lil x
  tot : tot (layP xs) ≤ 1000
  ids : ∀ x ∈ xs, IdN x
theorem layP_mem {xs : List Nd} {q : Nd × Nat} (h : q ∈ layP xs) : q.1 ∈ xs := by
  unfold layP at h
  obtain ⟨x, i⟩ := q
  exact (List.mem_zipIdx' h).2 ▸ List.getElem_mem _
theorem cnt_tot : ∀ {l : Fls} {q : Nd × Nat}, q ∈ l → cnt q.1 ≤ tot l
  | p :: l, q, h => by
    rw [tot]
    rcases List.mem_cons.1 h with e | e
    · rw [e]; omega
    · have := cnt_tot e; omega
theorem layP_len (xs : List Nd) : (layP xs).length = xs.length := by unfold layP; rw [List.length_zipIdx]
theorem LaysOk.len {xs : List Nd} (h : LaysOk xs) : xs.length ≤ 1000 := by
  have h1 := len_tot (layP xs)
  rw [layP_len] at h1
  have := h.tot
  omega
theorem LaysOk.small {xs : List Nd} (h : LaysOk xs) : SmallP (layP xs) := ⟨by rw [layP_len]; exact h.len, fun q hq => by have := cnt_tot hq; have := h.tot; omega⟩
theorem LaysOk.lim {xs : List Nd} (h : LaysOk xs) : LimP (layP xs) := fun q hq => lim_of q.1 (h.small.2 q hq) (h.lil _ (layP_mem hq))
theorem LaysOk.seen {xs : List Nd} (h : LaysOk xs) (hne : shP (layP xs) ≠ []) : SeenOk (shP (layP xs)) := by
  refine ⟨hne, ?_, fun q hq => h.lil _ (layP_mem (shP_sub _ _ hq)), fun q hq => h.lim q (shP_sub _ _ hq), ?_, fun q hq => h.ids _ (layP_mem (shP_sub _ _ hq))⟩
  · refine List.Nodup.sublist ((shP_pre _).map _) ?_
    unfold layP
    rw [List.zipIdx_map_snd]
    exact List.nodup_range'
  · have := tot_shP (layP xs); have := h.tot; omega
theorem tot_one (x : Nd) : tot (layP [x]) = cnt x := by
  show cnt x + 0 = cnt x
  rfl
theorem LaysOk.flat {xs : List Nd} (h : LaysOk xs) (hne : shP (layP xs) ≠ []) : LaysOk [flat0 (shP (layP xs))] := by
  have h1 := tot_shP (layP xs)
  have h2 := h.tot
  refine ⟨fun x hx => ?_, ?_, fun x hx => ?_⟩
  · rw [List.mem_singleton] at hx
    rw [hx]
    exact flat0_lil _ _ (Nat.le_refl _) hne fun q hq => h.lil _ (layP_mem (shP_sub _ _ hq))
  · rw [tot_one]
    have := flat0_cnt _ _ (Nat.le_refl _) hne
    omega
  · rw [List.mem_singleton] at hx
    rw [hx]
    exact flat0_ids _ _ (Nat.le_refl _) hne fun q hq => h.ids _ (layP_mem (shP_sub _ _ hq))
theorem tot_zip (xs : List Nd) : ∀ n m : Nat, Go.Proofs.YtlbabnffiibnpaaGreat.tot (xs.zipIdx n) = Go.Proofs.YtlbabnffiibnpaaGreat.tot (xs.zipIdx m) := by
  induction xs with
  | nil => intro n m; rfl
  | cons x xs ih =>
    intro n m
    rw [List.zipIdx_cons, List.zipIdx_cons, Go.Proofs.YtlbabnffiibnpaaGreat.tot, Go.Proofs.YtlbabnffiibnpaaGreat.tot, ih (n + 1) (m + 1)]
theorem tot_lay (x : Nd) (xs : List Nd) : Go.Proofs.YtlbabnffiibnpaaGreat.tot (layP (x :: xs)) = cnt x + Go.Proofs.YtlbabnffiibnpaaGreat.tot (layP xs) := by
  unfold layP
  rw [List.zipIdx_cons, Go.Proofs.YtlbabnffiibnpaaGreat.tot, tot_zip xs 1 0]
theorem LaysOk.tail {x : Nd} {xs : List Nd} (h : LaysOk (x :: xs)) : LaysOk xs := by
  have h1 := h.tot
  rw [tot_lay] at h1
  exact ⟨fun y hy => h.lil y (List.mem_cons_of_mem _ hy), by omega, fun y hy => h.ids y (List.mem_cons_of_mem _ hy)⟩
end Go.Proofs.YtlbabnffiibnpaaGreat
namespace Go.Proofs.YtlbabnffiibnpaaGreat
open Go.RowKit
theorem name_size {m : ByteArray} (h : nameB m = true) : m.size ≤ 12 := by
  unfold nameB nameL at h
  simp only [Bool.and_eq_true, decide_eq_true_eq] at h
  have hl : m.data.toList.length = m.size := by simp
  omega
theorem lilL_ins {m : ByteArray} {z : Nd} (hm : m.size ≤ 255) (hz : Lil z) : ∀ {ks : Kds}, LilL ks → LilL (insk m z ks)
  | [], _ => by rw [insk, LilL, LilL]; exact ⟨hm, hz, trivial⟩
  | (n, x) :: l, ha => by
    rw [insk]
    split
    · rw [LilL]; exact ⟨hm, hz, ha⟩
    · rw [LilL] at ha ⊢; exact ⟨ha.1, ha.2.1, lilL_ins hm hz ha.2.2⟩
theorem put_lil {x : Nd} {l : List ByteArray} {n r : Nd} (h : chgF (some x) l n = .ok r) (hx : Lil x) : Lil n → Lil r := by
  refine chg_ind (c := some x) (fun n r => Lil n → Lil r) ?_ ?_ h
  · intro m n ks _ hl hn
    rw [← with_self n, lil_with] at hn
    rw [lil_with]
    refine ⟨hn.1, ?_⟩
    rcases last_parts hl with ⟨x', q, hm, hc⟩ | ⟨q, _⟩
    · injection q with q
      subst q
      have := name_size hm
      rcases hc with ⟨_, rfl⟩ | ⟨_, rfl⟩
      · exact lilL_ins (by omega) hx hn.2
      · exact lilL_set hx hn.2
    · cases q
  · intro m n y z _ hf hz hn
    rw [← with_self n, lil_with] at hn
    rw [lil_with]
    exact ⟨hn.1, lilL_set (hz (lilL_fk hn.2 hf)) hn.2⟩
theorem idL_fk {m : ByteArray} {y : Nd} : ∀ {ks : Kds}, IdL ks → fk m ks = some y → IdN y
  | [], _, h => by cases h
  | (n, x) :: l, ha, h => by
    rw [IdL] at ha
    rw [fk] at h
    split at h
    · cases h; exact ha.1
    · exact idL_fk ha.2 h
theorem idL_set {m : ByteArray} {z : Nd} (hz : IdN z) : ∀ {ks : Kds}, IdL ks → IdL (setk m z ks)
  | [], _ => by rw [setk, IdL]; trivial
  | (n, x) :: l, ha => by
    rw [IdL] at ha
    rw [setk]
    split
    · rw [IdL]; exact ⟨hz, ha.2⟩
    · rw [IdL]; exact ⟨ha.1, idL_set hz ha.2⟩
theorem idL_ins {m : ByteArray} {z : Nd} (hz : IdN z) : ∀ {ks : Kds}, IdL ks → IdL (insk m z ks)
  | [], _ => by rw [insk, IdL, IdL]; exact ⟨hz, trivial⟩
  | (n, x) :: l, ha => by
    rw [insk]
    split
    · rw [IdL]; exact ⟨hz, ha⟩
    · rw [IdL] at ha ⊢; exact ⟨ha.1, idL_ins hz ha.2⟩
theorem id_with {x : Nd} {ks : Kds} : IdN (x.with ks) ↔ IdN (x.with []) ∧ IdL ks := by
  obtain ⟨k, m, u, g, o, at_, d, ks'⟩ := x
  show IdN (.mk k m u g o at_ d ks) ↔ IdN (.mk k m u g o at_ d []) ∧ IdL ks
  rw [IdN, IdN, IdL]
  exact ⟨fun h => ⟨⟨h.1, h.2.1, trivial⟩, h.2.2⟩, fun h => ⟨h.1.1, h.1.2.1, h.2⟩⟩
theorem put_ids {x : Nd} {l : List ByteArray} {n r : Nd} (h : chgF (some x) l n = .ok r) (hx : IdN x) : IdN n → IdN r := by
  refine chg_ind (c := some x) (fun n r => IdN n → IdN r) ?_ ?_ h
  · intro m n ks _ hl hn
    rw [← with_self n, id_with] at hn
    rw [id_with]
    refine ⟨hn.1, ?_⟩
    rcases last_parts hl with ⟨x', q, hm, hc⟩ | ⟨q, _⟩
    · injection q with q
      subst q
      rcases hc with ⟨_, rfl⟩ | ⟨_, rfl⟩
      · exact idL_ins hx hn.2
      · exact idL_set hx hn.2
    · cases q
  · intro m n y z _ hf hz hn
    rw [← with_self n, id_with] at hn
    rw [id_with]
    exact ⟨hn.1, idL_set (hz (idL_fk hn.2 hf)) hn.2⟩
theorem to_id {L : List Rg} {x y : Int} (h : toM L x = some y) : I64 y := by
  unfold toM at h
  by_cases hm : mapF L = 0
  · rw [if_pos hm] at h
    obtain ⟨r, hr, h1, h2, rfl⟩ := walk_mem h
    have hb := mapF_bd hm r hr
    unfold Rg.bd at hb
    unfold I64
    omega
  · rw [if_neg hm] at h; cases h
theorem mv_lil {us gs : List Rg} {x y : Nd} (h : mvF true us gs (bareN x) = some y) (hl : Lil x) : Lil y ∧ IdN y := by
  obtain ⟨k, m, u, g, o, at_, d, ks⟩ := x
  rw [bareN, mvF] at h
  simp only [if_true] at h
  split at h
  · rename_i u' g' e1 e2
    cases h
    rw [Lil] at hl
    rw [Lil, LilL, IdN, IdL]
    exact ⟨⟨hl.1, hl.2.1, trivial⟩, to_id e1, to_id e2, trivial⟩
  · cases h
theorem stack_lil {xs : List Nd} (h : ∀ x ∈ xs, Lil x) : ∀ names : List ByteArray, ∀ q ∈ stackP xs names, Lil q.1 := by
  intro names
  unfold stackP
  have h0 : ∀ q ∈ shP (layP xs), Lil q.1 := fun q hq => h _ (layP_mem (shP_sub _ _ hq))
  generalize shP (layP xs) = l at h0
  induction names generalizing l with
  | nil => exact h0
  | cons nm names ih =>
    rw [List.foldl_cons]
    refine ih _ fun q hq => ?_
    obtain ⟨p, hp, e⟩ := nxt_mem (show q ∈ nxt l nm from hq)
    exact lil_kid (h0 p hp) e
theorem upN_ok {us gs : List Rg} {xs : List Nd} {names : List ByteArray} {U : Nd} (hl : ∀ x ∈ xs, Lil x) (hU : Lil U) (hI : IdN U) : ∀ {k : Nat} {V : Nd}, upN us gs xs names U k = .ok V → Lil V ∧ IdN V ∧ cnt V ≤ cnt U + k
  | 0, V, h => by cases h; exact ⟨hU, hI, Nat.le_refl _⟩
  | k + 1, V, h => by
    rw [upN] at h
    cases hk : upN us gs xs names U k with
    | error f => rw [hk] at h; cases h
    | ok V' =>
      rw [hk] at h
      obtain ⟨h1, h2, h3⟩ := upN_ok hl hU hI hk
      dsimp only at h
      cases hs : stackP xs (names.take (k + 1)) with
      | nil => rw [hs] at h; cases h; exact ⟨h1, h2, by omega⟩
      | cons q r =>
        rw [hs] at h
        dsimp only at h
        by_cases hz : q.2 = 0
        · rw [if_pos hz] at h; cases h; exact ⟨h1, h2, by omega⟩
        · rw [if_neg hz] at h
          cases hm : mvF true us gs (bareN q.1) with
          | none => rw [hm] at h; cases h
          | some y =>
            rw [hm] at h
            dsimp only at h
            have hq : Lil q.1 := stack_lil hl _ q (by rw [hs]; exact List.mem_cons_self ..)
            obtain ⟨y1, y2⟩ := mv_lil hm hq
            have c := chg_cnt h
            have e : cntO (some y) = 1 := (cnt_mv hm).trans (cnt_bare _)
            exact ⟨put_lil h y1 h1, put_ids h y2 h2, by omega⟩
theorem upR_ok {us gs : List Rg} {xs : List Nd} {names : List ByteArray} {U V : Nd} (hl : ∀ x ∈ xs, Lil x) (hU : Lil U) (hI : IdN U) (h : UpR us gs xs names U = .ok V) : Lil V ∧ IdN V ∧ cnt V ≤ cnt U + names.length := by
  unfold UpR at h
  split at h
  · cases h
  · exact upN_ok hl hU hI h
/-- What is laid flat has lists that are not too long. -/
theorem limL_ofM : ∀ {ks : Kds}, (∀ p ∈ ks, Lim p.2) → LimL ks
  | [], _ => by rw [LimL]; trivial
  | (n, x) :: l, h => by rw [LimL]; exact ⟨h (n, x) (List.mem_cons_self ..), limL_ofM fun p hp => h p (List.mem_cons_of_mem _ hp)⟩
def FLim (F : Nd → Nat → Nd) : Prop := ∀ x ly, x.kids = [] → Lim x → (F x ly).kids = [] ∧ Lim (F x ly)
theorem lim_nak {x : Nd} (h : Lim x) : Lim (nakN x) := by
  obtain ⟨k, m, u, g, o, at_, d, k0⟩ := x
  rw [Lim] at h
  rw [nakN, Lim, LimL]
  exact ⟨h.1, Nat.zero_le _, trivial⟩
theorem lim_withF {x : Nd} (h : Lim x) {ks : Kds} (h1 : ks.length ≤ 1000) (h2 : LimL ks) : Lim (x.with ks) := by
  obtain ⟨k, m, u, g, o, at_, d, k0⟩ := x
  rw [Lim] at h
  rw [Nd.with, Lim]
  exact ⟨h.1, h1, h2⟩
theorem flatD_lim {F : Nd → Nat → Nd} (hF : FLim F) : ∀ (N : Nat) (l : Fls), tot l ≤ N → N ≤ 1000 → l ≠ [] → (∀ q ∈ l, Lim q.1) → Lim (flatD F l)
  | N, [], _, _, h, _ => absurd rfl h
  | 0, q :: r, h, _, _, _ => by have := cnt_posF q.1; simp [tot] at h; omega
  | N + 1, q :: r, h, hN, _, hl => by
    rw [flatD_cons]
    obtain ⟨f1, f2⟩ := hF (nakN q.1) q.2 (bareN_kids _) (lim_nak (hl q (List.mem_cons_self ..)))
    rw [f1, List.nil_append]
    refine lim_withF f2 ?_ (limL_ofM fun p hp => ?_)
    · rw [List.length_map]; have := listP_len (q :: r); omega
    · obtain ⟨nm, hm, rfl⟩ := List.mem_map.1 hp
      have hne := mem_listP.1 hm
      have h3 := tot_nxt1 (q :: r) nm
      rw [List.length_cons] at h3
      refine flatD_lim hF N _ (by omega) (by omega) hne fun q2 hq => ?_
      obtain ⟨p, hp, e2⟩ := nxt_mem hq
      exact lim_kid (hl p hp) e2
theorem zN_limE : Lim zN := by rw [zN, Lim, LimL]; exact ⟨Nat.zero_le _, Nat.zero_le _, trivial⟩
theorem fW_lim (us gs : List Rg) : FLim (fW us gs) := by
  intro x ly hk hl
  unfold fW
  split
  · exact ⟨hk, hl⟩
  · cases hm : mvF false us gs x with
    | none => exact ⟨rfl, zN_limE⟩
    | some y =>
      refine ⟨(mv_keep hm).2.trans hk, ?_⟩
      show Lim y
      obtain ⟨k, m, u, g, o, at_, d, ks⟩ := x
      rw [mvF] at hm
      split at hm
      · cases hm; exact lim_ids hl
      · cases hm
theorem flatW_lim {us gs : List Rg} {xs : List Nd} (h : LaysOk xs) : Lim (flatD (fW us gs) (shP (layP xs))) := by
  by_cases hne : shP (layP xs) = []
  · rw [hne]; exact zN_limE
  · have h1 := tot_shP (layP xs)
    have h2 := h.tot
    exact flatD_lim (fW_lim us gs) 1000 _ (by omega) (Nat.le_refl _) hne fun q hq => h.lim q (shP_sub _ _ hq)
end Go.Proofs.YtlbabnffiibnpaaGreat
namespace Go.Proofs.YtlbabnffiibnpaaGreat
open Go.RowKit
set_option maxRecDepth 100000 in
set_option maxHeartbeats 4000000 in
theorem within_any {W : World} {S : Nat → Bool} (hS : ∀ k, S k = true → k < W.heap.size) {a : Option Addr} {cap : Nat} {xs : List Nd} (hx : NsV (offS W.cell? S) a xs) (hok : LaysOk xs) {M : MapsV} (hM : MapsOk W M) :
    Calls Tryz.prog 10 #[.slice a xs.length cap, M.v] W fun e W' => (∃ h, e = .returned (ndV (flatD (fW M.us M.gs) (shP (layP xs))) h) ∧ NdV (offS W'.cell? S) (flatD (fW M.us M.gs) (shP (layP xs))) h) ∧ Below W.heap.size W W' := by
  obtain ⟨FD, HFD⟩ : ∃ FD, Hid (flatD (fW M.us M.gs) (shP (layP xs)) = FD) := ⟨_, rfl⟩
  rw [HFD.out]
  obtain ⟨ua, ga, uc, gc, us, gs⟩ := M
  have hB1 : Below W.heap.size W (W.alloc (.cells #[.slice ua us.length uc, .slice ga gs.length gc] 25)) := (Below.refl _ _).alloc (Nat.le_refl _) _
  have hB2 := hB1.alloc hB1.size (.cells #[.int .i64 0, .int .i64 0, .int .i64 0, .int .i64 0, .bool false, .slice none 0 0, .string ⟨#[]⟩, .slice none 0 0] 34)
  obtain ⟨c0, c1, RB, _, hz2⟩ := two_up W _ _ ua ga us.length gs.length uc gc rfl rfl
  have HFL : Hid (Calls Tryz.prog 19 #[.slice a xs.length cap, .func (.func 20) #[] #[.pointer (some ⟨W.heap.size, 0, none⟩)]] ((W.alloc (.cells #[.slice ua us.length uc, .slice ga gs.length gc] 25)).alloc (.cells #[.int .i64 0, .int .i64 0, .int .i64 0, .int .i64 0, .bool false, .slice none 0 0, .string ⟨#[]⟩, .slice none 0 0] 34)) fun e w' => (∃ h b, e = .returned (.tuple #[ndV FD h, .bool b]) ∧ NdV (offS w'.cell? (fun q => (q == W.heap.size || q == W.heap.size + 1) || S q)) FD h) ∧ Below ((W.alloc (.cells #[.slice ua us.length uc, .slice ga gs.length gc] 25)).alloc (.cells #[.int .i64 0, .int .i64 0, .int .i64 0, .int .i64 0, .bool false, .slice none 0 0, .string ⟨#[]⟩, .slice none 0 0] 34)).heap.size ((W.alloc (.cells #[.slice ua us.length uc, .slice ga gs.length gc] 25)).alloc (.cells #[.int .i64 0, .int .i64 0, .int .i64 0, .int .i64 0, .bool false, .slice none 0 0, .string ⟨#[]⟩, .slice none 0 0] 34)) w') := by
    have h1 := flat_any (w := (W.alloc (.cells #[.slice ua us.length uc, .slice ga gs.length gc] 25)).alloc (.cells #[.int .i64 0, .int .i64 0, .int .i64 0, .int .i64 0, .bool false, .slice none 0 0, .string ⟨#[]⟩, .slice none 0 0] 34)) (S := fun q => (q == W.heap.size || q == W.heap.size + 1) || S q) (cap := cap) (fun q hq => by
      rw [hz2]
      simp at hq
      rcases hq with (e | e) | e
      · omega
      · omega
      · have := hS q e; omega) (hx.on (mle_step fun q hq hs => ⟨by simp [hs]; omega, hB2.block q hq⟩)) hok.len hok.small hok.seen (within_fn (M := ⟨ua, ga, uc, gc, us, gs⟩) (hM.below hB2) c0 c1)
    rw [HFD.out] at h1
    refine Calls.mono h1 fun e w' ⟨h, hB⟩ => ⟨?_, hB⟩
    rcases h with ⟨h1, h2⟩ | ⟨h1, hd, h2, h3⟩
    · have e0 : FD = zN := by rw [← HFD.out, h1]; rfl
      rw [e0]
      exact ⟨zH, false, h2, nZ _⟩
    · exact ⟨hd, true, h2, h3⟩
  show Calls Tryz.prog 10 #[.slice a xs.length cap, .agg #[.slice ua us.length uc, .slice ga gs.length gc]] W _
  clear hx hM hok HFD hB1
  go_enter Tryz.func10, Tryz.ntmps10
  go_wp2_with fail
  refine Calls.mono HFL.out ?_
  rintro e w4 ⟨⟨hd, bb, rfl, hN4⟩, hB4⟩
  obtain ⟨k2, m2, u2, g2, o2, at2, d2, ks2⟩ := FD
  have R4 := RB.below hB4
  have hB04 := hB2.trans (hB4.mono hB2.size)
  have hal5 : Below w4.heap.size w4 (w4.alloc (.cells #[.int .i64 k2, .int .i64 m2, .int .i64 u2, .int .i64 g2, .bool o2, .slice hd.aa at2.length hd.ca, .string d2, .slice hd.ak ks2.length hd.ck] 34)) := (Below.refl _ _).alloc (Nat.le_refl _) _
  have R5 := R4.below hal5
  have hB05 := hB04.trans (hal5.mono hB04.size)
  have R6 := R5.store (.mk k2 m2 u2 g2 o2 at2 d2 ks2) hd
  have b6 : But (W.heap.size + 1) (w4.alloc (.cells #[.int .i64 k2, .int .i64 m2, .int .i64 u2, .int .i64 g2, .bool o2, .slice hd.aa at2.length hd.ca, .string d2, .slice hd.ak ks2.length hd.ck] 34)) (stB (w4.alloc (.cells #[.int .i64 k2, .int .i64 m2, .int .i64 u2, .int .i64 g2, .bool o2, .slice hd.aa at2.length hd.ca, .string d2, .slice hd.ak ks2.length hd.ck] 34)) (W.heap.size + 1) (.mk k2 m2 u2 g2 o2 at2 d2 ks2) hd) := stB_but
  have hB6 := hB05.trans (b6.below (B := W.heap.size) (by omega) hB05.size)
  have HN6 : Hid (NdV (offS (stB (w4.alloc (.cells #[.int .i64 k2, .int .i64 m2, .int .i64 u2, .int .i64 g2, .bool o2, .slice hd.aa at2.length hd.ca, .string d2, .slice hd.ak ks2.length hd.ck] 34)) (W.heap.size + 1) (.mk k2 m2 u2 g2 o2 at2 d2 ks2) hd).cell? S) (.mk k2 m2 u2 g2 o2 at2 d2 ks2) hd) := hN4.on (mle_step fun q hq hs => by
    simp at hs
    exact ⟨hs.2, (b6.block q (Nat.lt_of_lt_of_le hq hal5.size) hs.1.2).trans (hal5.block q hq)⟩)
  have hne : w4.heap.size ≠ W.heap.size + 1 := by have := hB4.size; rw [hz2] at this; omega
  rw [show ndV (.mk k2 m2 u2 g2 o2 at2 d2 ks2) hd = .agg #[.int .i64 k2, .int .i64 m2, .int .i64 u2, .int .i64 g2, .bool o2, .slice hd.aa at2.length hd.ca, .string d2, .slice hd.ak ks2.length hd.ck] from rfl]
  obtain ⟨⟨z0, z1, z2, z3, z4, z5, z6, z7⟩, zz⟩ := R4
  obtain ⟨⟨x0, x1, x2, x3, x4, x5, x6, x7⟩, xx⟩ := R5
  have y0 := xx 0
  have y1 := xx 1
  have y2 := xx 2
  have y3 := xx 3
  have y4 := xx 4
  have y5 := xx 5
  have y6 := xx 6
  have y7 := xx 7
  clear RB hal5 hB4 xx zz b6 hN4 HFL c0 c1 hB2 hz2
  go_wp2
  obtain ⟨W6, HW6⟩ : ∃ W6, Hid (stB (w4.alloc (.cells #[.int .i64 k2, .int .i64 m2, .int .i64 u2, .int .i64 g2, .bool o2, .slice hd.aa at2.length hd.ca, .string d2, .slice hd.ak ks2.length hd.ck] 34)) (W.heap.size + 1) (.mk k2 m2 u2 g2 o2 at2 d2 ks2) hd = W6) := ⟨_, rfl⟩
  rw [HW6.out] at R6 hB6 HN6
  have hw6 := HW6.out
  simp only [stB] at hw6
  rw [hw6]
  obtain ⟨r0, r1, r2, r3, r4, r5, r6, r7⟩ := R6.1
  exact bodyPost_ret (v := ndV (.mk k2 m2 u2 g2 o2 at2 d2 ks2) hd) (by simp [results, Tryz.results10, go_sem, ndV, r0, r1, r2, r3, r4, r5, r6, r7]) rfl ⟨⟨hd, rfl, HN6.out⟩, hB6⟩
end Go.Proofs.YtlbabnffiibnpaaGreat
namespace Go.Proofs.YtlbabnffiibnpaaGreat
open Go.RowKit
theorem brF_err {us gs : List Rg} {f : Int} : ∀ {A : List (Nd × ByteArray)} (B : List (Nd × ByteArray)), brF us gs A = .error f → brF us gs (A ++ B) = .error f
  | [], B, h => by cases h
  | (x, m) :: r, B, h => by
    rw [List.cons_append, brF]
    rw [brF] at h
    cases hm : mvF true us gs x with
    | none => rw [hm] at h; exact h
    | some y =>
      rw [hm] at h
      dsimp only at h ⊢
      by_cases hn : nameB m = false
      · rw [if_pos hn] at h ⊢; exact h
      · rw [if_neg hn] at h ⊢
        cases hb : brF us gs r with
        | error f' =>
          rw [hb] at h
          rw [brF_err B hb]
          exact h
        | ok L => rw [hb] at h; cases h
/-- What is to come up, each with its name. -/
def prsF (ys : List Nd) (nms : List ByteArray) : List (Nd × ByteArray) := (ys.zip nms).map fun p => (bareN p.1, p.2)
theorem prs_len {ys : List Nd} {nms : List ByteArray} (h : ys.length ≤ nms.length) : (prsF ys nms).length = ys.length := by
  unfold prsF
  rw [List.length_map, List.length_zip, Nat.min_eq_left h]
theorem prs_at {ys : List Nd} {nms : List ByteArray} {j : Nat} {y : Nd} {nm : ByteArray} (hy : ys[j]? = some y) (hn : nms[j]? = some nm) : (prsF ys nms)[j]? = some (bareN y, nm) := by
  unfold prsF
  rw [List.getElem?_map, (List.getElem?_zip_eq_some (z := (y, nm))).2 ⟨hy, hn⟩]
  rfl
theorem prs_next {ys : List Nd} {nms : List ByteArray} {j : Nat} {y : Nd} {nm : ByteArray} (hy : ys[j]? = some y) (hn : nms[j]? = some nm) : (prsF ys nms).take (j + 1) = (prsF ys nms).take j ++ [(bareN y, nm)] := take_next2 (prs_at hy hn)
def brS (n₀ : Nat) (v : Value) (S : Nat → Bool) : Nat → Bool := fun k => (k == n₀ || k == n₀ + 1) || v.ownBlock == some k || S k
/-- What stands while the nodes come in. -/
structure BrI (S : Nat → Bool) (W : World) (ua ga : Option Addr) (nu ng uc gc : Nat) (v : Value) (L : List Fl) (wr : World) : Prop where
  low : Below W.heap.size W wr
  m0 : wr.cell? ⟨W.heap.size, 0, none⟩ = some (.slice ua nu uc)
  m1 : wr.cell? ⟨W.heap.size, 1, none⟩ = some (.slice ga ng gc)
  rb : NBw wr (W.heap.size + 1) zN zH
  row : wr.ownsRow (W.heap.size + 1 + 1) 34 8 v L.length (flN L)
  nd : ∀ f ∈ L, NdV (offS wr.cell? (brS W.heap.size v S)) f.x f.h
theorem BrI.below {S : Nat → Bool} {W : World} {ua ga : Option Addr} {nu ng uc gc : Nat} {v : Value} {L : List Fl} {wr w' : World} (h : BrI S W ua ga nu ng uc gc v L wr) (hb : Below wr.heap.size wr w') : BrI S W ua ga nu ng uc gc v L w' :=
  ⟨h.low.trans (hb.mono h.low.size), mle_below hb _ _ h.m0, mle_below hb _ _ h.m1, h.rb.below hb, ownsRow_bel h.row hb, fun f hf => (h.nd f hf).on (mle_S hb)⟩
theorem BrI.hid {S : Nat → Bool} {W : World} {ua ga : Option Addr} {nu ng uc gc : Nat} {v : Value} {L : List Fl} {wr : World} (hS0 : ∀ k, S k = true → k < W.heap.size) (h : BrI S W ua ga nu ng uc gc v L wr) : ∀ k, brS W.heap.size v S k = true → k < wr.heap.size := fun k hk => by
  simp [brS] at hk
  have e3 := h.rb.1.lt
  rcases hk with ((e | e) | e) | e
  · omega
  · omega
  · exact (h.row.lt k e).2
  · exact Nat.lt_of_lt_of_le (hS0 k e) h.low.size
theorem BrI.app {S : Nat → Bool} {W : World} {ua ga : Option Addr} {nu ng uc gc : Nat} {v v' : Value} {L : List Fl} {wr w' : World} (h : BrI S W ua ga nu ng uc gc v L wr) {f : Fl} (hf : NdV (offS wr.cell? (brS W.heap.size v S)) f.x f.h) (hown : w'.ownsRow (W.heap.size + 1 + 1) 34 8 v' (L ++ [f]).length (flN (L ++ [f]))) (hg : wr.grownBy w' v.ownBlock) (ho : v'.ownBlock = v.ownBlock ∨ v'.ownBlock = some wr.heap.size) : BrI S W ua ga nu ng uc gc v' (L ++ [f]) w' := by
  have hlow : ∀ g, v.ownBlock = some g → W.heap.size + 1 + 1 ≤ g ∧ g < wr.heap.size := fun g e => h.row.lt g e
  have hm : MLe (offS wr.cell? (brS W.heap.size v S)) (offS w'.cell? (brS W.heap.size v' S)) := mle_step fun k hk hs => by
    simp [brS] at hs
    refine ⟨?_, hg.block k hk (fun e => hs.1.2 e.symm)⟩
    simp [brS]
    refine ⟨⟨hs.1.1, ?_⟩, hs.2⟩
    rcases ho with e | e
    · rw [e]; exact hs.1.2
    · rw [e]; intro e2; cases e2; omega
  have hc : ∀ q : Addr, q.block < W.heap.size + 1 + 1 → q.block < wr.heap.size → w'.cell? q = wr.cell? q := fun q hq hq2 => World.cell?_of_block (hg.block q.block hq2 (fun e => by have := hlow _ e.symm; omega))
  have hfz : ∀ q : Addr, q.block < W.heap.size + 1 + 1 → q.block < wr.heap.size → w'.frozen? q = wr.frozen? q := fun q hq hq2 => World.frozen?_of_block (hg.block q.block hq2 (fun e => by have := hlow _ e.symm; omega))
  have hl := h.rb.1.lt
  refine ⟨h.low.grown hg h.low.size (fun g e => by have := hlow g e; omega), (hc ⟨W.heap.size, 0, none⟩ (by show W.heap.size < _; omega) (World.block_lt_of_cell? _ _ h.m0)).trans h.m0, (hc ⟨W.heap.size, 1, none⟩ (by show W.heap.size < _; omega) (World.block_lt_of_cell? _ _ h.m1)).trans h.m1, ⟨?_, fun j => (hfz ⟨W.heap.size + 1, j, none⟩ (by show W.heap.size + 1 < _; omega) hl).trans (h.rb.2 j)⟩, hown, ?_⟩
  · obtain ⟨e0, e1, e2, e3, e4, e5, e6, e7⟩ := h.rb.1
    have k : ∀ j u, wr.cell? ⟨W.heap.size + 1, j, none⟩ = some u → w'.cell? ⟨W.heap.size + 1, j, none⟩ = some u := fun j u e => (hc ⟨W.heap.size + 1, j, none⟩ (by show W.heap.size + 1 < _; omega) hl).trans e
    exact ⟨k _ _ e0, k _ _ e1, k _ _ e2, k _ _ e3, k _ _ e4, k _ _ e5, k _ _ e6, k _ _ e7⟩
  · intro f' hf'
    rcases List.mem_append.1 hf' with e | e
    · exact (h.nd f' e).on hm
    · rw [List.mem_singleton] at e; rw [e]; exact hf.on hm
theorem row_nat {w : World} {base : Nat} {v : Value} {L : List Fl} (h : w.ownsRow base 34 8 v L.length (flN L)) : L = [] ∨ ∃ g cap, v = .slice (some ⟨g, 0, none⟩) L.length cap ∧ base ≤ g ∧ L.length ≤ cap ∧ (∀ (i : Nat) f, L[i]? = some f → NAt w.cell? g (i * 8) f.x f.h) ∧ ∀ j, w.frozen? ⟨g, j, none⟩ = false := by
  rcases h.2 with ⟨_, h0⟩ | ⟨g, cap, cur, rfl, hb, hg, h1, h2, h3, h4⟩
  · exact .inl (List.length_eq_zero_iff.1 h0)
  · refine .inr ⟨g, cap, rfl, hb, h1, fun i f hi => nat_iff.2 fun q u hq => ?_, fun j => by simp [World.frozen?, hg]⟩
    exact ownsRow_cell hg h4 (flN_get L i f hi q u hq)
end Go.Proofs.YtlbabnffiibnpaaGreat
namespace Go.Proofs.YtlbabnffiibnpaaGreat
open Go.RowKit
theorem alloc_bel2 (w : World) (o : Obj) : Below w.heap.size w (w.alloc o) := (Below.refl _ _).alloc (Nat.le_refl _) _
theorem mle_hide {w w' : World} {S : Nat → Bool} (hb : Below w.heap.size w w') (hs : ∀ k, k < w.heap.size → S k = false) : MLe w.cell? (offS w'.cell? S) := fun q v h => by
  have hq := World.block_lt_of_cell? _ _ h
  rw [offS_ne (hs _ hq)]
  exact mle_below hb _ _ h
def lightsB (xs : List Nd) : Bool := decide (xs.length ≤ 5) && xs.all fun x => decide (0 < lightF x 80)
theorem ns_at {c : Mem} {a : Option Addr} {xs : List Nd} (h : NsV c a xs) {j : Nat} {x : Nd} (hj : xs[j]? = some x) : ∃ b off h, a = some ⟨b, off, none⟩ ∧ NAt c b (off + j * 8) x h ∧ NdV c x h := by
  rcases h with e | ⟨b, off, e, f, hf⟩
  · rw [e] at hj; simp at hj
  · exact ⟨b, off, f j, e, hf j x hj⟩
set_option maxRecDepth 100000 in
set_option maxHeartbeats 1000000 in
theorem lights_any {w : World} {a : Option Addr} {cap : Nat} {xs : List Nd} (hx : NsV w.cell? a xs) (hl : xs.length ≤ 9223372036854775807) :
    Calls Tryz.prog 4 #[.slice a xs.length cap] w fun e w' => e = .returned (.bool (lightsB xs)) ∧ Below w.heap.size w w' := by
  obtain ⟨R, HR⟩ : ∃ R, Hid (lightsB xs = R) := ⟨_, rfl⟩
  rw [HR.out]
  have HX : Hid (NsV w.cell? a xs) := hx
  by_cases h5 : 5 < xs.length
  · have HRF : Hid (R = false) := by show R = _; rw [← HR.out]; unfold lightsB; rw [decide_eq_false (by omega)]; rfl
    have hb : decide ((5 : Int) < (xs.length : Int)) = true := decide_eq_true (by omega)
    clear hx
    go_enter Tryz.func4, Tryz.ntmps4
    go_wp2
    go_ret
    exact ⟨ret_bool HRF.out.symm, Below.refl _ _⟩
  have HRA : Hid (R = xs.all fun x => decide (0 < lightF x 80)) := by show R = _; rw [← HR.out]; unfold lightsB; rw [decide_eq_true (by omega)]; rfl
  have hb : decide ((5 : Int) < (xs.length : Int)) = false := decide_eq_false (by omega)
  obtain ⟨N, HN⟩ : ∃ N, Hid (xs.length = N) := ⟨_, rfl⟩
  rw [HN.out] at hb h5 ⊢
  clear hx hl HR
  go_enter Tryz.func4, Tryz.ntmps4
  go_wp2
  go_loopw [3] (fun i wr => ∃ j : Nat, j ≤ N ∧ i = .int .i64 j ∧ Hid (∀ x ∈ xs.take j, 0 < lightF x 80) ∧ Below w.heap.size w wr) (fun i _ => N - (intOf i).toNat)
  case atStart => exact ⟨0, Nat.zero_le _, rfl, fun x hx => (by cases hx), Below.refl _ _⟩
  case round =>
    obtain ⟨j, hj, rfl, HA, hB⟩ := hrel
    by_cases hjl : j < N
    · have hb2 : decide ((j : Int) < (N : Int)) = true := decide_eq_true (by omega)
      obtain ⟨x, hxj⟩ : ∃ x, xs[j]? = some x := ⟨_, List.getElem?_eq_getElem (by rw [HN.out]; exact hjl)⟩
      obtain ⟨ab, ao, h, rfl, hn, hd⟩ := ns_at HX.out hxj
      have HTK : Hid (xs.take (j + 1) = xs.take j ++ [x]) := take_next2 hxj
      have HMEM : Hid (x ∈ xs) := List.mem_of_getElem? hxj
      have hn2 := hn.below hB
      obtain ⟨LF, HLF⟩ : ∃ LF, Hid (lightF x 80 = LF) := ⟨_, rfl⟩
      have HL0 := Light_any (hd.on (mle_below hB))
      rw [HLF.out] at HL0
      obtain ⟨k, m, u, g, o, at_, d, ks⟩ := x
      have HL : Hid (Calls Tryz.prog 11 #[.agg #[.int .i64 k, .int .i64 m, .int .i64 u, .int .i64 g, .bool o, .slice h.aa at_.length h.ca, .string d, .slice h.ak ks.length h.ck]] wr fun e W' => e = .returned (.bool (decide (0 < LF))) ∧ Below wr.heap.size wr W') := HL0
      obtain ⟨f0, f1, f2, f3, f4, f5, f6, f7⟩ := hn2
      clear hn hd hxj HL0
      go_wp2_with fail
      with_reducible refine Calls.mono HL.out ?_
      rintro e w2 ⟨rfl, hB2⟩
      have hB3 := hB.trans (hB2.mono hB.size)
      clear f0 f1 f2 f3 f4 f5 f6 f7 HL hB2
      by_cases hlf : 0 < LF
      · have hd1 : decide (0 < LF) = true := decide_eq_true hlf
        have HA2 : Hid (∀ x ∈ xs.take (j + 1), 0 < lightF x 80) := fun y hy => by
          rw [HTK.out] at hy
          rcases List.mem_append.1 hy with e | e
          · exact HA.out y e
          · rw [List.mem_singleton] at e; rw [e, HLF.out]; exact hlf
        rw [hd1]
        go_wp2
        go_roundw
        case rel => exact ⟨j + 1, by omega, by go_num, HA2.out, hB3⟩
        case measure => (simp [intOf]; try omega)
      · have hd1 : decide (0 < LF) = false := decide_eq_false hlf
        have HRF : Hid (R = false) := by
          show R = _
          rw [HRA.out]
          refine List.all_eq_false.2 ⟨_, HMEM.out, ?_⟩
          rw [HLF.out, hd1]
          simp
        rw [hd1]
        go_wp2
        go_ret
        exact ⟨ret_bool HRF.out.symm, hB3⟩
    · have hb2 : decide ((j : Int) < (N : Int)) = false := decide_eq_false (by omega)
      have HRT : Hid (R = true) := by
        show R = _
        rw [HRA.out]
        refine List.all_eq_true.2 fun x hx => decide_eq_true (HA.out x ?_)
        rw [List.take_of_length_le (by rw [HN.out]; omega)]
        exact hx
      go_wp2
      go_ret
      exact ⟨ret_bool HRT.out.symm, hB⟩
/-- What stands while nodes are copied. -/
structure CpI (w : World) (v : Value) (L : List Fl) (wr : World) : Prop where
  low : Below w.heap.size w wr
  row : wr.ownsRow w.heap.size 34 8 v L.length (flN L)
  nd : ∀ f ∈ L, NdV (offS wr.cell? (fun k => v.ownBlock == some k)) f.x f.h
theorem CpI.below {w : World} {v : Value} {L : List Fl} {wr w' : World} (h : CpI w v L wr) (hb : Below wr.heap.size wr w') : CpI w v L w' := ⟨h.low.trans (hb.mono h.low.size), ownsRow_bel h.row hb, fun f hf => (h.nd f hf).on (mle_S hb)⟩
theorem CpI.app {w : World} {v v' : Value} {L : List Fl} {wr w' : World} (h : CpI w v L wr) {f : Fl} (hf : NdV (offS wr.cell? (fun k => v.ownBlock == some k)) f.x f.h) (hown : w'.ownsRow w.heap.size 34 8 v' (L ++ [f]).length (flN (L ++ [f]))) (hg : wr.grownBy w' v.ownBlock) (ho : v'.ownBlock = v.ownBlock ∨ v'.ownBlock = some wr.heap.size) : CpI w v' (L ++ [f]) w' := by
  have hm : MLe (offS wr.cell? (fun k => v.ownBlock == some k)) (offS w'.cell? (fun k => v'.ownBlock == some k)) := mle_step fun k hk hs => by
    simp at hs
    refine ⟨?_, hg.block k hk (fun e => hs e.symm)⟩
    simp
    rcases ho with e | e
    · rw [e]; exact hs
    · rw [e]; intro e2; cases e2; omega
  refine ⟨h.low.grown hg h.low.size (fun g e => (h.row.lt g e).1), hown, fun f' hf' => ?_⟩
  rcases List.mem_append.1 hf' with e | e
  · exact (h.nd f' e).on hm
  · rw [List.mem_singleton] at e; rw [e]; exact hf.on hm
end Go.Proofs.YtlbabnffiibnpaaGreat
namespace Go.Proofs.YtlbabnffiibnpaaGreat
open Go.RowKit
theorem owns_oneN (w : World) (k m u g : Int) (o : Bool) (at_ : List Kv) (d : ByteArray) (ks : Kds) (h : Hd) : (w.alloc (.cells #[.int .i64 k, .int .i64 m, .int .i64 u, .int .i64 g, .bool o, .slice h.aa at_.length h.ca, .string d, .slice h.ak ks.length h.ck] 34)).ownsRow w.heap.size 34 8 (.slice (some ⟨w.heap.size, 0, none⟩) 1 1) 1 (flN [(⟨(.mk k m u g o at_ d ks), h, 0⟩ : Fl)]) :=
  ⟨rfl, .inr ⟨w.heap.size, 1, _, rfl, Nat.le_refl _, heap_alloc_new w _, Nat.le_refl _, by decide, rfl, rfl⟩⟩
theorem cpI_one (w : World) (k m u g : Int) (o : Bool) (at_ : List Kv) (d : ByteArray) (ks : Kds) (h : Hd) (hn : NdV w.cell? (.mk k m u g o at_ d ks) h) : CpI w (.slice (some ⟨w.heap.size, 0, none⟩) 1 1) [⟨(.mk k m u g o at_ d ks), h, 0⟩] (w.alloc (.cells #[.int .i64 k, .int .i64 m, .int .i64 u, .int .i64 g, .bool o, .slice h.aa at_.length h.ca, .string d, .slice h.ak ks.length h.ck] 34)) :=
  ⟨alloc_bel2 w _, owns_oneN w k m u g o at_ d ks h, fun f hf => by
    rw [List.mem_singleton] at hf
    rw [hf]
    exact hn.on (mle_hide (alloc_bel2 w _) (fun q hq => by simp [Value.ownBlock]; omega))⟩
theorem cpI_ns {w wr : World} {v : Value} {L : List Fl} (h : CpI w v L wr) : ∃ a cap, v = .slice a L.length cap ∧ NsV wr.cell? a (L.map Fl.x) := by
  rcases h.row.2 with ⟨rfl, h0⟩ | ⟨g, cap, cur, rfl, hb, hg, h1, h2, h3, h4⟩
  · exact ⟨none, 0, by rw [h0], .inl (by rw [List.length_eq_zero_iff.1 h0]; rfl)⟩
  · refine ⟨some ⟨g, 0, none⟩, cap, rfl, .inr ⟨g, 0, rfl, fun i => (L.getD i ⟨zN, zH, 0⟩).h, fun i x hi => ?_⟩⟩
    rw [List.getElem?_map] at hi
    obtain ⟨f, hf, rfl⟩ := Option.map_eq_some_iff.1 hi
    have e : (L.getD i ⟨zN, zH, 0⟩) = f := by rw [List.getD_eq_getElem?_getD, hf]; rfl
    dsimp only
    rw [e]
    refine ⟨nat_iff.2 fun q u hq => ?_, (h.nd f (List.mem_of_getElem? hf)).on (offS_le _ _)⟩
    rw [Nat.zero_add]
    exact ownsRow_cell hg h4 (flN_get L i f hf q u hq)
end Go.Proofs.YtlbabnffiibnpaaGreat
namespace Go.Proofs.YtlbabnffiibnpaaGreat
open Go.RowKit
/-- What stands while the nodes are laid into one another. -/
structure BrJ (S : Nat → Bool) (W : World) (v : Value) (g : Nat) (L : List Fl) (P : List (Nd × ByteArray)) (t : Nat) (w2 : World) : Prop where
  low : Below W.heap.size W w2
  gl : W.heap.size + 1 < g
  gz : g < w2.heap.size
  rb : NBw w2 (W.heap.size + 1) zN zH
  fz : ∀ j, w2.frozen? ⟨g, j, none⟩ = false
  ab : ∀ (s : Nat) f, s < t → L[s]? = some f → NAt w2.cell? g (s * 8) f.x f.h ∧ NdV (offS w2.cell? (brS W.heap.size v S)) f.x f.h
  ch : ∃ hc, NAt w2.cell? g (t * 8) (chainF (P.drop t)) hc ∧ NdV (offS w2.cell? (brS W.heap.size v S)) (chainF (P.drop t)) hc
theorem BrJ.below {S : Nat → Bool} {W : World} {v : Value} {g : Nat} {L : List Fl} {P : List (Nd × ByteArray)} {t : Nat} {w2 w3 : World} (h : BrJ S W v g L P t w2) (hb : Below w2.heap.size w2 w3) : BrJ S W v g L P t w3 := by
  obtain ⟨hc, h1, h2⟩ := h.ch
  exact ⟨h.low.trans (hb.mono h.low.size), h.gl, Nat.lt_of_lt_of_le h.gz hb.size, h.rb.below hb, fun j => (hb.frozen (p := ⟨g, j, none⟩) h.gz).trans (h.fz j), fun s f hs hf => ⟨(h.ab s f hs hf).1.below hb, (h.ab s f hs hf).2.on (mle_S hb)⟩, hc, h1.below hb, h2.on (mle_S hb)⟩
theorem chain_cons {P : List (Nd × ByteArray)} {t : Nat} {p q : Nd × ByteArray} (hp : P[t]? = some p) (hq : P[t + 1]? = some q) : chainF (P.drop t) = p.1.with [(q.2, chainF (P.drop (t + 1)))] := by
  obtain ⟨h1, e1⟩ := List.getElem?_eq_some_iff.1 hp
  obtain ⟨h2, e2⟩ := List.getElem?_eq_some_iff.1 hq
  have a1 := List.drop_eq_getElem_cons h1
  have a2 := List.drop_eq_getElem_cons h2
  rw [e1] at a1
  rw [e2] at a2
  rw [a1, a2, chainF]
theorem BrJ.step {S : Nat → Bool} {W : World} {v : Value} {g : Nat} {L : List Fl} {P : List (Nd × ByteArray)} {t : Nat} {w2 : World} (h : BrJ S W v g L P (t + 1) w2) (hv : v.ownBlock = some g) {f : Fl} {p q : Nd × ByteArray} (hf : L[t]? = some f) (hp : P[t]? = some p) (hq : P[t + 1]? = some q) (hfp : f.x = p.1) {hc : Hd} (_hC1 : NAt w2.cell? g ((t + 1) * 8) (chainF (P.drop (t + 1))) hc) (hC2 : NdV (offS w2.cell? (brS W.heap.size v S)) (chainF (P.drop (t + 1))) hc)
    (hbs : brS W.heap.size v S w2.heap.size = false) : BrJ S W v g L P t ((w2.alloc (.cells (.string q.2 :: ndL (chainF (P.drop (t + 1))) hc).toArray 61)).setCell ⟨g, t * 8 + 7, none⟩ (.slice (some ⟨w2.heap.size, 0, none⟩) 1 1)) := by
  have hb := (Below.refl _ w2).alloc (Nat.le_refl _) (.cells (.string q.2 :: ndL (chainF (P.drop (t + 1))) hc).toArray 61)
  have h3 := h.below hb
  obtain ⟨fa, fn⟩ := h3.ab t f (by omega) hf
  have hcell : ∀ j u, (Value.string q.2 :: ndL (chainF (P.drop (t + 1))) hc)[j]? = some u → (w2.alloc (.cells (.string q.2 :: ndL (chainF (P.drop (t + 1))) hc).toArray 61)).cell? ⟨w2.heap.size, j, none⟩ = some u := fun j u hj => by
    refine (World.cell?_alloc_at _ _ _ _ rfl).trans ?_
    simpa using hj
  have hgz := h.gz
  have hN2 := hC2.on (mle_S hb)
  have hcn := chain_cons hp hq
  generalize w2.alloc (.cells (.string q.2 :: ndL (chainF (P.drop (t + 1))) hc).toArray 61) = w3 at h3 hcell fa fn hN2
  generalize w2.heap.size = b at hcell hgz hbs
  clear hb hC2 h
  have hoth : ∀ (k j : Nat), k ≠ g ∨ j ≠ t * 8 + 7 → (w3.setCell ⟨g, t * 8 + 7, none⟩ (.slice (some ⟨b, 0, none⟩) 1 1)).cell? ⟨k, j, none⟩ = w3.cell? ⟨k, j, none⟩ := fun k j hk => World.cell?_setCell_other _ _ _ _ (fun e => by cases e; rcases hk with e | e <;> exact e rfl)
  have hm : MLe (offS w3.cell? (brS W.heap.size v S)) (offS (w3.setCell ⟨g, t * 8 + 7, none⟩ (.slice (some ⟨b, 0, none⟩) 1 1)).cell? (brS W.heap.size v S)) := mle_step fun k _ hs => ⟨hs, Below.heap_setCell _ _ _ _ (by
    show k ≠ g
    intro e
    subst e
    simp [brS, hv] at hs)⟩
  refine ⟨h3.low.setCell (p := ⟨g, t * 8 + 7, none⟩) (by show W.heap.size ≤ g; have := h3.gl; omega) _, h3.gl, ?_, h3.rb.other (by show g ≠ _; have := h3.gl; omega) _, ?_, ?_, ?_⟩
  · have := h3.gz; simpa using this
  · intro j
    have e := h3.fz j
    simpa using e
  · intro s f' hs hf'
    obtain ⟨a1, a2⟩ := h3.ab s f' (by omega) hf'
    refine ⟨nat_iff.2 fun j u hj => ?_, a2.on hm⟩
    have hl := (List.getElem?_eq_some_iff.1 hj).1
    rw [ndL_length] at hl
    exact (hoth g _ (.inr (by omega))).trans (nat_iff.1 a1 j u hj)
  · rw [hcn, ← hfp]
    obtain ⟨⟨k, m, u, gg, o, at_, d, ks⟩, fh, fl⟩ := f
    refine ⟨⟨fh.aa, fh.ca, some ⟨b, 0, none⟩, 1⟩, ?_, ?_⟩
    · obtain ⟨e0, e1, e2, e3, e4, e5, e6, e7⟩ := fa
      refine ⟨(hoth g _ (.inr (by omega))).trans e0, (hoth g _ (.inr (by omega))).trans e1, (hoth g _ (.inr (by omega))).trans e2, (hoth g _ (.inr (by omega))).trans e3, (hoth g _ (.inr (by omega))).trans e4, (hoth g _ (.inr (by omega))).trans e5, (hoth g _ (.inr (by omega))).trans e6, ?_⟩
      exact World.cell?_setCell_same _ _ _ e7
    · obtain ⟨q1, q2, _, _⟩ := ndV_iff.1 (fn.on hm)
      refine ndV_iff.2 ⟨q1, q2, ⟨Nat.le_refl _, by show (1 : Nat) ≤ _; omega⟩, .inr ⟨b, 0, rfl, fun _ => hc, fun i n x hi => ?_⟩⟩
      cases i with
      | succ i => simp at hi
      | zero =>
        simp at hi
        obtain ⟨rfl, rfl⟩ := hi
        refine ⟨kdAt_iff.2 fun j uu hj => ?_, hN2.on hm⟩
        rw [show 0 + 0 * 9 + j = j by omega, offS_ne hbs]
        exact (hoth b j (.inl (by omega))).trans (hcell j uu hj)
end Go.Proofs.YtlbabnffiibnpaaGreat
