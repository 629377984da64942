/-
  Inside OF A NODE WITHOUT KIDS, whose answer's kids are nil: the walks.
  slices.Values OF SPOTS, cmp.Compare OF STRINGS, THE CLOSURES OF places: the walks.
  PLACES, what is gathered of kids, name by name: the facts of no program.
  A POOL: who has how many; a map and two lists that say the same; a world that has moved but at some blocks: the facts of no program.
  PLACES IN A ROW; slices.IndexFunc, slices.DeleteFunc OF THEM: the walks.
-/
import Derived.Test.YtlbabnffiibnpaaGreatMiX
import Derived.Test.YtlbabnffiibnpaaGreatZnX
import Derived.Test.YtlbabnffiibnpaaGreatWoX
import Derived.Below
import Derived.Maps.OwnSet
import Derived.Lib.SliceRun
import Derived.Deep.Upon
import Derived.Deep.LoopGhost
namespace Go.Proofs.YtlbabnffiibnpaaGreat
open Go.RowKit
theorem own_bare {W : World} {S : Nat → Bool} (hS : ∀ k, S k = true → k < W.heap.size) {x : Nd} {h : Hd} (hN : NdV (offS W.cell? S) x h) (hlim : Lim x) (_hcnt : cnt x ≤ 1000) (hb : x.kids = [] ∧ h.ak = none ∧ h.ck = 0) :
    Calls Tryz.prog 14 #[ndV x h] W fun e W' => (∃ h', e = .returned (ndV x h') ∧ NdV (offS W'.cell? S) x h' ∧ (h'.ak = none ∧ h'.ck = 0)) ∧ Below W.heap.size W W' := by
  obtain ⟨k, m, u, g, o, at_, d, ks⟩ := x
  obtain ⟨aa, ca, ak, ck⟩ := h
  obtain ⟨h1, h2, h3⟩ := hb
  have h1 : ks = [] := h1
  have h2 : ak = none := h2
  have h3 : ck = 0 := h3
  subst h1 h2 h3
  obtain ⟨hka, hca, _, _⟩ := ndV_iff.1 hN
  rw [Lim] at hlim
  refine Calls.mono (ownN_any (k := k) (m := m) (u := u) (g := g) (o := o) (d := d) (ca := ca) hS hka hlim.1) ?_
  rintro e w' ⟨a2, c2, rfl, l1, l2, hk, hb⟩
  exact ⟨⟨⟨a2, c2, none, 0⟩, rfl, ndV_iff.2 ⟨hk, ⟨l1, l2⟩, ⟨Nat.le_refl _, by show (0 : Nat) ≤ _; omega⟩, .inl rfl⟩, rfl, rfl⟩, hb⟩
def MvB (W W' : World) (S : Nat → Bool) (e : Ending) : Option Nd → Prop
  | none => e = .returned (.tuple #[ndV zN zH, .iface 44 (.int .i64 11)]) ∧ Below W.heap.size W W'
  | some y => (∃ h', e = .returned (.tuple #[ndV y h', .nilIface]) ∧ NdV (offS W'.cell? S) y h' ∧ (h'.ak = none ∧ h'.ck = 0)) ∧ Below W.heap.size W W'
set_option maxRecDepth 100000 in
set_option maxHeartbeats 2000000 in
theorem cacrossFromB {W : World} {S : Nat → Bool} (hS0 : ∀ k, S k = true → k < W.heap.size) {x : Nd} {h : Hd} (hN : NdV (offS W.cell? S) x h) (hlim : Lim x) (hcnt : cnt x ≤ 1000) (hid : IdT x) (hbare : x.kids = [] ∧ h.ak = none ∧ h.ck = 0) {M : MapsV} (hM : MapsOk W M) :
    Calls Tryz.prog 39 #[M.v, ndV x h, .func (.func 40) #[] #[]] W fun e W' => MvB W W' S e (mvF false M.us M.gs x) := by
  obtain ⟨k, m, u, g, o, at_, d, ks⟩ := x
  obtain ⟨ua, ga, uc, gc, us, gs⟩ := M
  obtain ⟨hu, hg, ul, gl, cu, cg, ou, og⟩ := hM
  dsimp only at hu hg ul gl cu cg ou og
  obtain ⟨hid1, hid2⟩ := hid
  have HBA : Hid (ks = [] ∧ h.ak = none ∧ h.ck = 0) := hbare
  clear hbare
  obtain ⟨OU, HOU⟩ : ∃ OU, Hid (fromM us u = OU) := ⟨_, rfl⟩
  obtain ⟨OG, HOG⟩ : ∃ OG, Hid (fromM gs g = OG) := ⟨_, rfl⟩
  have HMV : Hid (mvF false us gs (.mk k m u g o at_ d ks) = mvO OU OG k m o at_ d ks) := by show _ = _; rw [← HOU.out, ← HOG.out]; rfl
  rw [HMV.out]
  clear HMV
  obtain ⟨c0, c1, NB, RB, hB3, hz3⟩ := three_boxes W _ _ _ ua ga us.length gs.length uc gc k m u g o at_ d ks h rfl rfl rfl
  have HC1 : Hid _ := fromHost_any ua uc us u (((W.alloc (.cells #[.slice ua us.length uc, .slice ga gs.length gc] 25)).alloc (.cells #[.int .i64 k, .int .i64 m, .int .i64 u, .int .i64 g, .bool o, .slice h.aa at_.length h.ca, .string d, .slice h.ak ks.length h.ck] 34)).alloc (.cells #[.int .i64 0, .int .i64 0, .int .i64 0, .int .i64 0, .bool false, .slice none 0 0, .string ⟨#[]⟩, .slice none 0 0] 34)) ul cu ou hid1 (hu.below hB3)
  rw [HOU.out] at HC1
  obtain ⟨f0, f1, f2, f3, f4, f5, f6, f7⟩ := NB.1
  show Calls Tryz.prog 39 #[.agg #[.slice ua us.length uc, .slice ga gs.length gc], .agg #[.int .i64 k, .int .i64 m, .int .i64 u, .int .i64 g, .bool o, .slice h.aa at_.length h.ca, .string d, .slice h.ak ks.length h.ck], .func (.func 40) #[] #[]] W _
  go_enter Tryz.func39, Tryz.ntmps39
  go_wp2_with fail
  refine Calls.mono HC1.out ?_
  rintro e w4 ⟨rfl, hB4⟩
  have hB04 := hB3.trans (hB4.mono hB3.size)
  have NB := NB.below hB4
  have RB := RB.below hB4
  have c1 := mle_below hB4 _ _ c1
  have HC2 : Hid _ := fromHost_any ga gc gs g w4 gl cg og hid2 (hg.below hB04)
  rw [HOG.out] at HC2
  have hz4 : W.heap.size + 1 + 1 + 1 ≤ w4.heap.size := by have := hB4.size; omega
  clear f0 f1 f2 f3 f4 f5 f6 f7 c0 HC1 hB3 hB4 hu hg ul gl cu cg ou og hz3
  obtain ⟨f0, f1, f2, f3, f4, f5, f6, f7⟩ := NB.1
  cases OU with
  | none =>
    rw [optV_none]
    go_wp2_with fail
    refine Calls.mono HC2.out ?_
    rintro e w5 ⟨rfl, hB5⟩
    have hB05 := hB04.trans (hB5.mono hB04.size)
    have NB := NB.below hB5
    have RB := RB.below hB5
    clear f0 f1 f2 f3 f4 f5 f6 f7 c1 HC2 hB04
    cases OG with
    | none =>
      rw [optV_none]
      obtain ⟨⟨f0, f1, f2, f3, f4, f5, f6, f7⟩, ff⟩ := RB
      have z0 := ff 0
      have z1 := ff 1
      have z2 := ff 2
      have z3 := ff 3
      have z4 := ff 4
      have z5 := ff 5
      have z6 := ff 6
      have z7 := ff 7
      have R3 := NBw.store (w := w5) (b := (W.heap.size + 1 + 1)) (y := zN) (h' := zH) ⟨⟨f0, f1, f2, f3, f4, f5, f6, f7⟩, ff⟩ zN zH
      have hB3 : Below W.heap.size W (stB w5 (W.heap.size + 1 + 1) zN zH) := hB05.trans (stB_but.below (by omega) hB05.size)
      go_wp2
      obtain ⟨W6, HW6⟩ : ∃ W6, Hid (stB w5 (W.heap.size + 1 + 1) zN zH = W6) := ⟨_, rfl⟩
      rw [HW6.out] at R3 hB3
      have hw6 := HW6.out
      simp only [stB, zN, zH] at hw6
      simp only [List.length_nil] at hw6
      rw [hw6]
      obtain ⟨r0, r1, r2, r3, r4, r5, r6, r7⟩ := R3.1
      refine bodyPost_ret (v := .tuple #[ndV zN zH, .iface 44 (.int .i64 11)]) (by simp [results, Tryz.results39, go_sem, ndV, zN, zH, r0, r1, r2, r3, r4, r5, r6, r7]) rfl ⟨rfl, hB3⟩
    | some g' =>
      rw [optV_some]
      obtain ⟨⟨f0, f1, f2, f3, f4, f5, f6, f7⟩, ff⟩ := RB
      have z0 := ff 0
      have z1 := ff 1
      have z2 := ff 2
      have z3 := ff 3
      have z4 := ff 4
      have z5 := ff 5
      have z6 := ff 6
      have z7 := ff 7
      have R3 := NBw.store (w := w5) (b := (W.heap.size + 1 + 1)) (y := zN) (h' := zH) ⟨⟨f0, f1, f2, f3, f4, f5, f6, f7⟩, ff⟩ zN zH
      have hB3 : Below W.heap.size W (stB w5 (W.heap.size + 1 + 1) zN zH) := hB05.trans (stB_but.below (by omega) hB05.size)
      go_wp2
      obtain ⟨W6, HW6⟩ : ∃ W6, Hid (stB w5 (W.heap.size + 1 + 1) zN zH = W6) := ⟨_, rfl⟩
      rw [HW6.out] at R3 hB3
      have hw6 := HW6.out
      simp only [stB, zN, zH] at hw6
      simp only [List.length_nil] at hw6
      rw [hw6]
      obtain ⟨r0, r1, r2, r3, r4, r5, r6, r7⟩ := R3.1
      refine bodyPost_ret (v := .tuple #[ndV zN zH, .iface 44 (.int .i64 11)]) (by simp [results, Tryz.results39, go_sem, ndV, zN, zH, r0, r1, r2, r3, r4, r5, r6, r7]) rfl ⟨rfl, hB3⟩
  
  | some u' =>
    rw [optV_some]
    go_wp2_with fail
    refine Calls.mono HC2.out ?_
    rintro e w5 ⟨rfl, hB5⟩
    have hB05 := hB04.trans (hB5.mono hB04.size)
    have NB := NB.below hB5
    have RB := RB.below hB5
    clear f0 f1 f2 f3 f4 f5 f6 f7 c1 HC2 hB04
    cases OG with
    | none =>
      rw [optV_none]
      obtain ⟨⟨f0, f1, f2, f3, f4, f5, f6, f7⟩, ff⟩ := RB
      have z0 := ff 0
      have z1 := ff 1
      have z2 := ff 2
      have z3 := ff 3
      have z4 := ff 4
      have z5 := ff 5
      have z6 := ff 6
      have z7 := ff 7
      have R3 := NBw.store (w := w5) (b := (W.heap.size + 1 + 1)) (y := zN) (h' := zH) ⟨⟨f0, f1, f2, f3, f4, f5, f6, f7⟩, ff⟩ zN zH
      have hB3 : Below W.heap.size W (stB w5 (W.heap.size + 1 + 1) zN zH) := hB05.trans (stB_but.below (by omega) hB05.size)
      go_wp2
      obtain ⟨W6, HW6⟩ : ∃ W6, Hid (stB w5 (W.heap.size + 1 + 1) zN zH = W6) := ⟨_, rfl⟩
      rw [HW6.out] at R3 hB3
      have hw6 := HW6.out
      simp only [stB, zN, zH] at hw6
      simp only [List.length_nil] at hw6
      rw [hw6]
      obtain ⟨r0, r1, r2, r3, r4, r5, r6, r7⟩ := R3.1
      refine bodyPost_ret (v := .tuple #[ndV zN zH, .iface 44 (.int .i64 11)]) (by simp [results, Tryz.results39, go_sem, ndV, zN, zH, r0, r1, r2, r3, r4, r5, r6, r7]) rfl ⟨rfl, hB3⟩
    | some g' =>
      rw [optV_some]
      have hB6 : Below W.heap.size W ((w5.setCell ⟨(W.heap.size + 1), 2, none⟩ (.int .i64 u')).setCell ⟨(W.heap.size + 1), 3, none⟩ (.int .i64 g')) := (hB05.setCell (p := ⟨(W.heap.size + 1), 2, none⟩) (by show W.heap.size ≤ W.heap.size + 1; omega) _).setCell (p := ⟨(W.heap.size + 1), 3, none⟩) (by show W.heap.size ≤ W.heap.size + 1; omega) _
      have NB6 := NB.ids u' g'
      have RB6 : NBw ((w5.setCell ⟨(W.heap.size + 1), 2, none⟩ (.int .i64 u')).setCell ⟨(W.heap.size + 1), 3, none⟩ (.int .i64 g')) (W.heap.size + 1 + 1) zN zH := (RB.other (by show W.heap.size + 1 ≠ W.heap.size + 1 + 1; omega) _).other (by show W.heap.size + 1 ≠ W.heap.size + 1 + 1; omega) _
      have hsz6 : ((w5.setCell ⟨(W.heap.size + 1), 2, none⟩ (.int .i64 u')).setCell ⟨(W.heap.size + 1), 3, none⟩ (.int .i64 g')).heap.size = w5.heap.size := by simp
      have HO : Hid _ := own_bare (W := ((w5.setCell ⟨(W.heap.size + 1), 2, none⟩ (.int .i64 u')).setCell ⟨(W.heap.size + 1), 3, none⟩ (.int .i64 g'))) (S := (fun k => k == W.heap.size || k == W.heap.size + 1 || k == W.heap.size + 1 + 1 || S k)) (x := (.mk k m u' g' o at_ d ks)) (h := h) (fun q hq => by
        rw [hsz6]
        have e5 := hB5.size
        simp at hq
        rcases hq with ((e | e) | e) | e
        · omega
        · omega
        · omega
        · have := hS0 q e; omega) ((nd_ids hN).on (mle_step fun q hq hs => ⟨by simp [hs]; omega, hB6.block q hq⟩)) (lim_ids hlim) (by rw [cnt_ids (u := u) (g := g)]; exact hcnt) HBA.out
      have g0 := NB.2 2
      have g1 := NB.2 3
      obtain ⟨f0, f1, f2, f3, f4, f5, f6, f7⟩ := NB.1
      go_wp2_with fail
      refine Calls.mono HO.out ?_
      rintro e w7 ⟨⟨hx, rfl, hN7, hbx⟩, hB7⟩
      have HBX : Hid (hx.ak = none ∧ hx.ck = 0) := hbx
      clear hbx
      have RB7 := RB6.below hB7
      have hB07 := hB6.trans (hB7.mono hB6.size)
      have R8 := RB7.store (.mk k m u' g' o at_ d ks) hx
      have hB8 : Below W.heap.size W (stB w7 (W.heap.size + 1 + 1) (.mk k m u' g' o at_ d ks) hx) := hB07.trans (stB_but.below (by omega) hB07.size)
      have HN8 : Hid (NdV (offS (stB w7 (W.heap.size + 1 + 1) (.mk k m u' g' o at_ d ks) hx).cell? S) (.mk k m u' g' o at_ d ks) hx) := hN7.on (mle_step fun q hq hs => by
        simp at hs
        exact ⟨hs.2, stB_but.block q hq hs.1.2⟩)
      clear f0 f1 f2 f3 f4 f5 f6 f7 g0 g1 HO NB NB6 RB RB6 hN7 hB7 hB6 hB5 hB05 hsz6
      have z0 := RB7.2 0
      have z1 := RB7.2 1
      have z2 := RB7.2 2
      have z3 := RB7.2 3
      have z4 := RB7.2 4
      have z5 := RB7.2 5
      have z6 := RB7.2 6
      have z7 := RB7.2 7
      obtain ⟨f0, f1, f2, f3, f4, f5, f6, f7⟩ := RB7.1
      rw [show ndV (.mk k m u' g' o at_ d ks) hx = .agg #[.int .i64 k, .int .i64 m, .int .i64 u', .int .i64 g', .bool o, .slice hx.aa at_.length hx.ca, .string d, .slice hx.ak ks.length hx.ck] from rfl]
      go_wp2
      obtain ⟨W9, HW9⟩ : ∃ W9, Hid (stB w7 (W.heap.size + 1 + 1) (.mk k m u' g' o at_ d ks) hx = W9) := ⟨_, rfl⟩
      rw [HW9.out] at R8 hB8 HN8
      have hw9 := HW9.out
      simp only [stB] at hw9
      rw [hw9]
      obtain ⟨r0, r1, r2, r3, r4, r5, r6, r7⟩ := R8.1
      refine bodyPost_ret (v := .tuple #[ndV (.mk k m u' g' o at_ d ks) hx, .nilIface]) (by simp [results, Tryz.results39, go_sem, ndV, r0, r1, r2, r3, r4, r5, r6, r7]) rfl ⟨⟨hx, rfl, HN8.out, HBX.out⟩, hB8⟩
set_option maxRecDepth 100000 in
set_option maxHeartbeats 4000000 in
theorem inside_bare {W : World} {S : Nat → Bool} (hS0 : ∀ k, S k = true → k < W.heap.size) {x : Nd} {h : Hd} (hN : NdV (offS W.cell? S) x h) (hlim : Lim x) (hcnt : cnt x ≤ 1000) (hid : IdT x) (hbare : x.kids = [] ∧ h.ak = none ∧ h.ck = 0) {M : MapsV} (hM : MapsOk W M) :
    Calls Tryz.prog 21 #[M.v, ndV x h] W fun e W' => MvB W W' S e (mvF false M.us M.gs x) := by
  obtain ⟨OX, HOX⟩ : ∃ OX, Hid (mvF false M.us M.gs x = OX) := ⟨_, rfl⟩
  rw [HOX.out]
  obtain ⟨k, m, u, g, o, at_, d, ks⟩ := x
  obtain ⟨ua, ga, uc, gc, us, gs⟩ := M
  have HBA : Hid (ks = [] ∧ h.ak = none ∧ h.ck = 0) := hbare
  clear hbare
  obtain ⟨c0, c1, NB, RB, hB3, hz3⟩ := three_boxes W _ _ _ ua ga us.length gs.length uc gc k m u g o at_ d ks h rfl rfl rfl
  have HC1 : Hid (Calls Tryz.prog 39 #[.agg #[.slice ua us.length uc, .slice ga gs.length gc], .agg #[.int .i64 k, .int .i64 m, .int .i64 u, .int .i64 g, .bool o, .slice h.aa at_.length h.ca, .string d, .slice h.ak ks.length h.ck], .func (.func 40) #[] #[]] (((W.alloc (.cells #[.slice ua us.length uc, .slice ga gs.length gc] 25)).alloc (.cells #[.int .i64 k, .int .i64 m, .int .i64 u, .int .i64 g, .bool o, .slice h.aa at_.length h.ca, .string d, .slice h.ak ks.length h.ck] 34)).alloc (.cells #[.int .i64 0, .int .i64 0, .int .i64 0, .int .i64 0, .bool false, .slice none 0 0, .string ⟨#[]⟩, .slice none 0 0] 34)) fun e W' => MvB (((W.alloc (.cells #[.slice ua us.length uc, .slice ga gs.length gc] 25)).alloc (.cells #[.int .i64 k, .int .i64 m, .int .i64 u, .int .i64 g, .bool o, .slice h.aa at_.length h.ca, .string d, .slice h.ak ks.length h.ck] 34)).alloc (.cells #[.int .i64 0, .int .i64 0, .int .i64 0, .int .i64 0, .bool false, .slice none 0 0, .string ⟨#[]⟩, .slice none 0 0] 34)) W' (fun k => k == W.heap.size + 1 + 1 || S k) e OX) := by
    have := cacrossFromB (W := (((W.alloc (.cells #[.slice ua us.length uc, .slice ga gs.length gc] 25)).alloc (.cells #[.int .i64 k, .int .i64 m, .int .i64 u, .int .i64 g, .bool o, .slice h.aa at_.length h.ca, .string d, .slice h.ak ks.length h.ck] 34)).alloc (.cells #[.int .i64 0, .int .i64 0, .int .i64 0, .int .i64 0, .bool false, .slice none 0 0, .string ⟨#[]⟩, .slice none 0 0] 34))) (S := fun k => k == W.heap.size + 1 + 1 || S k) (M := ⟨ua, ga, uc, gc, us, gs⟩) (h := h) (fun q hq => by
      rw [hz3]
      simp at hq
      rcases hq with e | e
      · omega
      · have := hS0 q e; omega) (hN.on (mle_step fun q hq hs => ⟨by simp [hs]; omega, hB3.block q hq⟩)) hlim hcnt hid HBA.out (hM.below hB3)
    rw [HOX.out] at this
    exact this
  obtain ⟨f0, f1, f2, f3, f4, f5, f6, f7⟩ := NB.1
  show Calls Tryz.prog 21 #[.agg #[.slice ua us.length uc, .slice ga gs.length gc], .agg #[.int .i64 k, .int .i64 m, .int .i64 u, .int .i64 g, .bool o, .slice h.aa at_.length h.ca, .string d, .slice h.ak ks.length h.ck]] W _
  clear hM HOX hN hlim hcnt hid
  go_enter Tryz.func21, Tryz.ntmps21
  go_wp2_with fail
  refine Calls.mono HC1.out ?_
  intro e w4 hE
  clear f0 f1 f2 f3 f4 f5 f6 f7 c0 c1 HC1 NB
  cases OX with
  | none =>
    obtain ⟨rfl, hB4⟩ := hE
    have RB := RB.below hB4
    have hB04 := hB3.trans (hB4.mono hB3.size)
    rw [show ndV zN zH = .agg #[.int .i64 0, .int .i64 0, .int .i64 0, .int .i64 0, .bool false, .slice none 0 0, .string ⟨#[]⟩, .slice none 0 0] from rfl]
    clear hB4 hB3
    obtain ⟨⟨f0, f1, f2, f3, f4, f5, f6, f7⟩, ff⟩ := RB
    have z0 := ff 0
    have z1 := ff 1
    have z2 := ff 2
    have z3 := ff 3
    have z4 := ff 4
    have z5 := ff 5
    have z6 := ff 6
    have z7 := ff 7
    have R3 := NBw.store (w := w4) (b := (W.heap.size + 1 + 1)) (y := zN) (h' := zH) ⟨⟨f0, f1, f2, f3, f4, f5, f6, f7⟩, ff⟩ zN zH
    have hB3 : Below W.heap.size W (stB w4 (W.heap.size + 1 + 1) zN zH) := hB04.trans (stB_but.below (by omega) hB04.size)
    go_wp2
    obtain ⟨W6, HW6⟩ : ∃ W6, Hid (stB w4 (W.heap.size + 1 + 1) zN zH = W6) := ⟨_, rfl⟩
    rw [HW6.out] at R3 hB3
    have hw6 := HW6.out
    simp only [stB, zN, zH] at hw6
    simp only [List.length_nil] at hw6
    rw [hw6]
    obtain ⟨r0, r1, r2, r3, r4, r5, r6, r7⟩ := R3.1
    refine bodyPost_ret (v := .tuple #[ndV zN zH, .iface 44 (.int .i64 11)]) (by simp [results, Tryz.results21, go_sem, ndV, zN, zH, r0, r1, r2, r3, r4, r5, r6, r7]) rfl ⟨rfl, hB3⟩
  | some y =>
    obtain ⟨⟨hx, rfl, hN4, hbx⟩, hB4⟩ := hE
    have HBX : Hid (hx.ak = none ∧ hx.ck = 0) := hbx
    clear hbx
    obtain ⟨k, m, u, g, o, at_, d, ks⟩ := y
    have RB := RB.below hB4
    have hB04 := hB3.trans (hB4.mono hB3.size)
    have R8 := RB.store (.mk k m u g o at_ d ks) hx
    have hB8 : Below W.heap.size W (stB w4 (W.heap.size + 1 + 1) (.mk k m u g o at_ d ks) hx) := hB04.trans (stB_but.below (by omega) hB04.size)
    have HN8 : Hid (NdV (offS (stB w4 (W.heap.size + 1 + 1) (.mk k m u g o at_ d ks) hx).cell? S) (.mk k m u g o at_ d ks) hx) := hN4.on (mle_step fun q hq hs => by
      simp at hs
      exact ⟨hs.2, stB_but.block q hq hs.1⟩)
    clear hN4 hB4 hB3 hB04
    have z0 := RB.2 0
    have z1 := RB.2 1
    have z2 := RB.2 2
    have z3 := RB.2 3
    have z4 := RB.2 4
    have z5 := RB.2 5
    have z6 := RB.2 6
    have z7 := RB.2 7
    obtain ⟨f0, f1, f2, f3, f4, f5, f6, f7⟩ := RB.1
    rw [show ndV (.mk k m u g o at_ d ks) hx = .agg #[.int .i64 k, .int .i64 m, .int .i64 u, .int .i64 g, .bool o, .slice hx.aa at_.length hx.ca, .string d, .slice hx.ak ks.length hx.ck] from rfl]
    go_wp2
    obtain ⟨W9, HW9⟩ : ∃ W9, Hid (stB w4 (W.heap.size + 1 + 1) (.mk k m u g o at_ d ks) hx = W9) := ⟨_, rfl⟩
    rw [HW9.out] at R8 hB8 HN8
    have hw9 := HW9.out
    simp only [stB] at hw9
    rw [hw9]
    obtain ⟨r0, r1, r2, r3, r4, r5, r6, r7⟩ := R8.1
    refine bodyPost_ret (v := .tuple #[ndV (.mk k m u g o at_ d ks) hx, .nilIface]) (by simp [results, Tryz.results21, go_sem, ndV, r0, r1, r2, r3, r4, r5, r6, r7]) rfl ⟨⟨hx, rfl, HN8.out, HBX.out⟩, hB8⟩
end Go.Proofs.YtlbabnffiibnpaaGreat
namespace Go.Proofs.YtlbabnffiibnpaaGreat
open Go.RowKit Go.Shelf
attribute [local go_sem] Oper.semAt_some
theorem values_any (w : World) (a : Option Addr) (n cap : Nat) :
    Calls Tryz.prog 57 #[.slice a n cap] w fun e w' => e = .returned (.func (.func 71) #[] #[.pointer (some ⟨w.heap.size, 0, none⟩)]) ∧ w' = w.alloc (.cells #[.slice a n cap] 55) := by
  go_enter Tryz.func57, Tryz.ntmps57
  go_wp2
  go_ret
  exact ⟨rfl, rfl⟩
set_option maxRecDepth 100000 in
set_option maxHeartbeats 2000000 in
theorem values1_any (bd n₀ : Nat) (a : Option Addr) (cap : Nat) (D : List Sp) (w : World) (hn : n₀ = w.heap.size) (hd : w.cell? ⟨bd, 0, none⟩ = some (.slice a D.length cap)) (hlen : D.length ≤ 1000) (hR : SpRow w.cell? a D) :
    Its 71 #[.pointer (some ⟨bd, 0, none⟩)] n₀ w D := by
  subst hn
  intro l J Jx W hW hJ hY h0
  have hbd : bd < w.heap.size := World.block_lt_of_cell? _ _ hd
  have hcW : W.cell? ⟨bd, 0, none⟩ = some (.slice a D.length cap) := (hW.cell (p := ⟨bd, 0, none⟩) hbd).trans hd
  show CallsIn Fence.wide 0 Tryz.prog 71 #[.func (.yield l) #[] #[], .pointer (some ⟨bd, 0, none⟩)] W _
  refine callsIn_of_wp Tryz.func71 rfl trivial ?_ rfl
  simp only [Tryz.ntmps71, List.size_toArray, List.length_cons, List.length_nil, Nat.reduceAdd, Nat.reduceSub, Array.replicate_succ, Array.replicate_zero, List.push_toArray, List.append_toArray, List.nil_append, List.cons_append]
  have HY : Hid _ := hY
  have HR : Hid _ := hR
  obtain ⟨N, HN⟩ : ∃ N, Hid (D.length = N) := ⟨_, rfl⟩
  rw [HN.out] at hcW hlen ⊢
  clear hY hR hd
  gi_wp2
  gi_loopw [4, 7] (fun _ i wr => ∃ j : Nat, j ≤ N ∧ i = .int .i64 j ∧ J j wr ∧ Below w.heap.size w wr) (fun _ i _ => N - (intOf i).toNat)
  case atStart => exact ⟨0, Nat.zero_le _, rfl, h0, hW⟩
  case round =>
    obtain ⟨j, hj, rfl, hJj, hBj⟩ := hrel
    by_cases hjl : j < N
    rotate_left
    · have hji : decide ((j : Int) < (N : Int)) = false := decide_eq_false (by omega)
      gi_wp2
      go_end0
      exact ⟨⟨_, rfl⟩, .inl (by rw [show N = j by omega]; exact hJj)⟩
    · have hji : decide ((j : Int) < (N : Int)) = true := decide_eq_true (by omega)
      obtain ⟨d, hd⟩ : ∃ d, D[j]? = some d := ⟨_, List.getElem?_eq_getElem (by rw [HN.out]; exact hjl)⟩
      obtain ⟨b, off, rfl, hrow⟩ : ∃ b off, a = some ⟨b, off, none⟩ ∧ ∀ i d, D[i]? = some d → w.cell? ⟨b, off + i * 2, none⟩ = some (.pointer (some ⟨d.b, d.p, none⟩)) ∧ w.cell? ⟨b, off + i * 2 + 1, none⟩ = some (.int .i64 d.ly) := by
        rcases HR.out with e | e
        · subst e; simp at hd
        · exact e
      obtain ⟨r0, r1⟩ := hrow j d hd
      have r0 := mle_below hBj _ _ r0
      have r1 := mle_below hBj _ _ r1
      have hal : Below wr.heap.size wr (wr.alloc (.cells #[.pointer (some ⟨d.b, d.p, none⟩), .int .i64 d.ly] 59)) := (Below.refl _ _).alloc (Nat.le_refl _) _
      obtain ⟨c0, c1⟩ := two_new wr (.pointer (some ⟨d.b, d.p, none⟩)) (.int .i64 d.ly) 59
      have hB2 := hBj.trans (hal.mono hBj.size)
      obtain ⟨fn, tmps, assign, body, hyy, hRR⟩ := HY.out j d _ hd (hJ _ _ _ hJj hal)
      rw [Sp.v] at hyy
      have HRR : Hid _ := hRR
      clear hRR hd hrow
      gi_wp2
      refine ⟨rfl, RoundIn.mono HRR.out ?_⟩
      rintro e W3 (⟨rfl, hJ3, hk3⟩ | ⟨rfl, hJx3⟩)
      · have hB3 := hB2.trans hk3
        gi_wp2
        go_roundw
        case rel => exact ⟨j + 1, by omega, by go_num, hJ3, hB3⟩
        case measure => (simp [intOf]; try omega)
      · gi_wp2
        refine bodyPost_ret (results_none rfl _ _ _) rfl ?_
        exact ⟨⟨_, rfl⟩, .inr hJx3⟩
theorem nan_any (a : ByteArray) (w : World) : Calls Tryz.prog 75 #[.string a] w fun e w' => e = .returned (.bool false) ∧ w' = w := by
  have h : (a.toList == a.toList) = true := by simp
  go_enter Tryz.func75, Tryz.ntmps75
  go_wp2
  go_ret
  exact ⟨rfl, rfl⟩
/-- How two strings lie. -/
def cmpB (a b : ByteArray) : Int := if ltB a b = true then -1 else if ltB b a = true then 1 else 0
set_option maxRecDepth 100000 in
set_option maxHeartbeats 1000000 in
theorem cmpS_any (a b : ByteArray) (w : World) : Calls Tryz.prog 62 #[.string a, .string b] w fun e w' => e = .returned (.int .i64 (cmpB a b)) ∧ w' = w := by
  have HN : Hid (∀ (x : ByteArray) (W : World), Calls Tryz.prog 75 #[.string x] W fun e w' => e = .returned (.bool false) ∧ w' = W) := nan_any
  cases h1 : ltB a b with
  | true =>
    have e : cmpB a b = -1 := by unfold cmpB; rw [if_pos h1]
    rw [e]
    have h1' : Op.bytesLess a.toList b.toList = true := h1
    clear h1 e
    go_enter Tryz.func62, Tryz.ntmps62
    go_wp2_with (go_at_call 75; refine (HN.out _ _).mono ?_; rintro e w' ⟨rfl, rfl⟩)
    go_ret
    exact ⟨rfl, rfl⟩
  | false =>
    have h1' : Op.bytesLess a.toList b.toList = false := h1
    cases h2 : ltB b a with
    | true =>
      have e : cmpB a b = 1 := by unfold cmpB; rw [if_neg (by rw [h1]; simp), if_pos h2]
      rw [e]
      have h3' : (a.toList == b.toList) = false := by
        rw [beq_eq_false_iff_ne]
        exact fun q => ltB_ne h2 (toList_inj q).symm
      clear h1 h2 e
      go_enter Tryz.func62, Tryz.ntmps62
      go_wp2_with (go_at_call 75; refine (HN.out _ _).mono ?_; rintro e w' ⟨rfl, rfl⟩)
      go_ret
      exact ⟨rfl, rfl⟩
    | false =>
      have e : cmpB a b = 0 := by unfold cmpB; rw [if_neg (by rw [h1]; simp), if_neg (by rw [h2]; simp)]
      rw [e]
      have h3' : (a.toList == b.toList) = true := by
        rw [beq_iff_eq]
        rcases ltB_total a b with q | q | q
        · rw [h1] at q; cases q
        · rw [q]
        · rw [h2] at q; cases q
      clear h1 h2 e
      go_enter Tryz.func62, Tryz.ntmps62
      go_wp2_with (go_at_call 75; refine (HN.out _ _).mono ?_; rintro e w' ⟨rfl, rfl⟩)
      go_ret
      exact ⟨rfl, rfl⟩
set_option maxRecDepth 100000 in
set_option maxHeartbeats 1000000 in
/-- Is nothing seen there? -/
theorem none_any (n : ByteArray) (a : Option Addr) (len cap : Nat) (w : World) (hl : len ≤ 1000) : Calls Tryz.prog 59 #[.agg #[.string n, .slice a len cap]] w fun e w' => e = .returned (.bool (decide (len = 0))) ∧ w' = w.alloc (.cells #[.string n, .slice a len cap] 92) := by
  obtain ⟨c0, c1⟩ := two_new w (.string n) (.slice a len cap) 92
  by_cases h : len = 0
  · subst h
    go_enter Tryz.func59, Tryz.ntmps59
    go_wp2
    go_ret
    exact ⟨rfl, rfl⟩
  · have e : decide (len = 0) = false := decide_eq_false h
    have e2 : ((len : Int) == 0) = false := by rw [beq_eq_false_iff_ne]; omega
    rw [e]
    go_enter Tryz.func59, Tryz.ntmps59
    go_wp2
    go_ret
    exact ⟨rfl, rfl⟩
set_option maxRecDepth 100000 in
set_option maxHeartbeats 1000000 in
theorem order_any (n n' : ByteArray) (a a' : Option Addr) (l c l' c' : Nat) (w : World) : Calls Tryz.prog 61 #[.agg #[.string n, .slice a l c], .agg #[.string n', .slice a' l' c']] w fun e w' => e = .returned (.int .i64 (cmpB n n')) ∧ w' = (w.alloc (.cells #[.string n, .slice a l c] 92)).alloc (.cells #[.string n', .slice a' l' c'] 92) := by
  have HC : Hid (∀ W : World, Calls Tryz.prog 62 #[.string n, .string n'] W fun e w' => e = .returned (.int .i64 (cmpB n n')) ∧ w' = W) := fun W => cmpS_any n n' W
  generalize cmpB n n' = r at HC ⊢
  go_enter Tryz.func61, Tryz.ntmps61
  go_wp2_with (go_at_call 62; refine (HC.out _).mono ?_; rintro e w' ⟨rfl, rfl⟩)
  go_ret
  exact ⟨rfl, rfl⟩
end Go.Proofs.YtlbabnffiibnpaaGreat
namespace Go.Proofs.YtlbabnffiibnpaaGreat
open Go.RowKit
abbrev KSf := ByteArray × Sp
abbrev Pls := List (ByteArray × List Sp)
def fstS (nm : ByteArray) : List KSf → Option Sp
  | [] => none
  | p :: l => if p.1 = nm then some p.2 else fstS nm l
theorem fstS_app (nm : ByteArray) : ∀ (c d : List KSf), fstS nm (c ++ d) = (fstS nm c).or (fstS nm d)
  | [], d => rfl
  | p :: c, d => by
    rw [List.cons_append, fstS, fstS]
    split
    · rfl
    · exact fstS_app nm c d
theorem fstS_mem {nm : ByteArray} {s : Sp} : ∀ {c : List KSf}, fstS nm c = some s → (nm, s) ∈ c
  | [], h => by cases h
  | p :: c, h => by
    rw [fstS] at h
    split at h
    · rename_i e; cases h; rw [← e]; exact List.mem_cons_self ..
    · exact List.mem_cons_of_mem _ (fstS_mem h)
/-- What is gathered of a name. -/
def wnt (nm : ByteArray) (P : List (List KSf)) (c : List KSf) : List Sp := P.filterMap (fstS nm) ++ (fstS nm c).toList
structure PlI (A : Pls) (P : List (List KSf)) (c : List KSf) : Prop where
  nd : (A.map (·.1)).Nodup
  eq : ∀ p ∈ A, p.2 = wnt p.1 P c ∧ p.2 ≠ []
  all : ∀ nm, wnt nm P c ≠ [] → nm ∈ A.map (·.1)
theorem PlI.start : PlI [] [] [] := ⟨List.nodup_nil, fun p hp => (by cases hp), fun nm h => absurd rfl h⟩
theorem wnt_other {nm nm' : ByteArray} (h : nm ≠ nm') (P : List (List KSf)) (c : List KSf) (s : Sp) : wnt nm' P (c ++ [(nm, s)]) = wnt nm' P c := by
  unfold wnt
  rw [fstS_app]
  have : fstS nm' [(nm, s)] = none := by rw [fstS, if_neg h]; rfl
  rw [this, Option.or_none]
theorem wnt_new {nm : ByteArray} {P : List (List KSf)} {c : List KSf} (h : fstS nm c = none) (s : Sp) : wnt nm P (c ++ [(nm, s)]) = wnt nm P c ++ [s] := by
  unfold wnt
  rw [fstS_app, h]
  simp [fstS]
theorem wnt_old {nm : ByteArray} {P : List (List KSf)} {c : List KSf} (h : fstS nm c ≠ none) (s : Sp) : wnt nm P (c ++ [(nm, s)]) = wnt nm P c := by
  unfold wnt
  rw [fstS_app]
  cases e : fstS nm c with
  | none => exact absurd e h
  | some t => rfl
theorem PlI.new {A : Pls} {P : List (List KSf)} {c : List KSf} (h : PlI A P c) {nm : ByteArray} {s : Sp} (hn : nm ∉ A.map (·.1)) : PlI (A ++ [(nm, [s])]) P (c ++ [(nm, s)]) := by
  have h0 : wnt nm P c = [] := by
    cases e : wnt nm P c with
    | nil => rfl
    | cons t r => exact absurd (h.all nm (by rw [e]; simp)) hn
  have hc : fstS nm c = none := by
    unfold wnt at h0
    have := (List.append_eq_nil_iff.1 h0).2
    cases e : fstS nm c with
    | none => rfl
    | some t => rw [e] at this; cases this
  refine ⟨?_, ?_, ?_⟩
  · rw [List.map_append, List.nodup_append]
    refine ⟨h.nd, by simp, fun a ha b hb => ?_⟩
    simp only [List.map_cons, List.map_nil, List.mem_singleton] at hb
    subst hb
    intro e; subst e; exact hn ha
  · intro p hp
    rcases List.mem_append.1 hp with hp | hp
    · have h1 := h.eq p hp
      have hne : nm ≠ p.1 := fun e => hn (by rw [e]; exact List.mem_map_of_mem hp)
      rw [wnt_other hne]; exact h1
    · rw [List.mem_singleton] at hp
      subst hp
      rw [wnt_new hc, h0]
      exact ⟨rfl, by simp⟩
  · intro nm' h'
    by_cases e : nm = nm'
    · subst e; simp
    · rw [wnt_other e] at h'
      rw [List.map_append]
      exact List.mem_append.2 (.inl (h.all nm' h'))
theorem set_names {A : Pls} {i : Nat} {nm : ByteArray} {L L' : List Sp} (hi : A[i]? = some (nm, L)) : (A.set i (nm, L')).map (·.1) = A.map (·.1) := by
  rw [List.map_set]
  obtain ⟨hlt, e⟩ := List.getElem?_eq_some_iff.1 hi
  apply List.ext_getElem?
  intro j
  rw [List.getElem?_set]
  split
  · rename_i e2
    subst e2
    simp [hlt, e]
  · rfl
theorem mem_set_other {A : Pls} {i : Nat} {q p : ByteArray × List Sp} (h : p ∈ A.set i q) : p = q ∨ ∃ j, j ≠ i ∧ A[j]? = some p := by
  obtain ⟨j, hj⟩ := List.getElem?_of_mem h
  rw [List.getElem?_set] at hj
  split at hj
  · split at hj
    · exact .inl (by cases hj; rfl)
    · cases hj
  · rename_i e
    exact .inr ⟨j, fun e2 => e e2.symm, hj⟩
theorem nodup_idx {A : Pls} (h : (A.map (·.1)).Nodup) {i j : Nat} {p q : ByteArray × List Sp} (hi : A[i]? = some p) (hj : A[j]? = some q) (e : p.1 = q.1) : i = j := by
  induction A generalizing i j with
  | nil => simp at hi
  | cons a A ih =>
    rw [List.map_cons, List.nodup_cons] at h
    cases i with
    | zero =>
      cases j with
      | zero => rfl
      | succ j =>
        simp at hi
        subst hi
        exact absurd (by rw [e]; exact List.mem_map_of_mem (List.mem_of_getElem? (i := j) (by simpa using hj))) h.1
    | succ i =>
      cases j with
      | zero =>
        simp at hj
        subst hj
        exact absurd (by rw [← e]; exact List.mem_map_of_mem (List.mem_of_getElem? (i := i) (by simpa using hi))) h.1
      | succ j => exact congrArg (· + 1) (ih (i := i) (j := j) h.2 (by simpa using hi) (by simpa using hj))
theorem PlI.add {A : Pls} {P : List (List KSf)} {c : List KSf} (h : PlI A P c) {i : Nat} {nm : ByteArray} {L : List Sp} {s : Sp} (hi : A[i]? = some (nm, L)) (hl : ∀ t, L.getLast? = some t → t.ly ≠ s.ly) (hc : ∀ q ∈ c, q.2.ly = s.ly) : PlI (A.set i (nm, L ++ [s])) P (c ++ [(nm, s)]) := by
  have h1 := h.eq _ (List.mem_of_getElem? hi)
  have hn : fstS nm c = none := by
    cases e : fstS nm c with
    | none => rfl
    | some t =>
      have h2 := h1.1
      simp only at h2
      unfold wnt at h2
      rw [e] at h2
      exact absurd (hc _ (fstS_mem e)) (hl t (by rw [h2]; simp))
  have hm := List.mem_of_getElem? hi
  refine ⟨by rw [set_names hi]; exact h.nd, ?_, ?_⟩
  · intro p hp
    rcases mem_set_other hp with rfl | ⟨j, hj, hpj⟩
    · simp only
      rw [wnt_new hn, ← h1.1]
      exact ⟨rfl, by simp⟩
    · have hne : nm ≠ p.1 := fun e => hj (nodup_idx h.nd hpj hi e.symm)
      rw [wnt_other hne]
      exact h.eq p (List.mem_of_getElem? hpj)
  · intro nm' h'
    rw [set_names hi]
    by_cases e : nm = nm'
    · subst e; exact List.mem_map_of_mem hm
    · rw [wnt_other e] at h'
      exact h.all nm' h'
theorem PlI.old {A : Pls} {P : List (List KSf)} {c : List KSf} (h : PlI A P c) {i : Nat} {nm : ByteArray} {L : List Sp} {s t : Sp} (hi : A[i]? = some (nm, L)) (ht : L.getLast? = some t) (hl : t.ly = s.ly) (hP : ∀ d ∈ P, ∀ q ∈ d, q.2.ly ≠ s.ly) : PlI A P (c ++ [(nm, s)]) := by
  have h1 := h.eq _ (List.mem_of_getElem? hi)
  have hn : fstS nm c ≠ none := fun e => by
    have h2 := h1.1
    simp only at h2
    unfold wnt at h2
    rw [e] at h2
    simp only [Option.toList_none, List.append_nil] at h2
    have : t ∈ L := List.mem_of_getLast? ht
    rw [h2] at this
    obtain ⟨d, hd, e2⟩ := List.mem_filterMap.1 this
    exact hP d hd _ (fstS_mem e2) hl
  refine ⟨h.nd, fun p hp => ?_, fun nm' h' => ?_⟩
  · by_cases e : nm = p.1
    · subst e; rw [wnt_old hn]; exact h.eq p hp
    · rw [wnt_other e]; exact h.eq p hp
  · by_cases e : nm = nm'
    · subst e; exact List.mem_map_of_mem (List.mem_of_getElem? hi)
    · rw [wnt_other e] at h'; exact h.all nm' h'
theorem wnt_dir (nm : ByteArray) (P : List (List KSf)) (c : List KSf) : wnt nm (P ++ [c]) [] = wnt nm P c := by
  unfold wnt
  rw [List.filterMap_append]
  show _ ++ _ ++ [] = _
  rw [List.append_nil]
  cases e : fstS nm c with
  | none => simp [e]
  | some t => simp [e]
theorem PlI.dir {A : Pls} {P : List (List KSf)} {c : List KSf} (h : PlI A P c) : PlI A (P ++ [c]) [] := ⟨h.nd, fun p hp => by rw [wnt_dir]; exact h.eq p hp, fun nm h' => h.all nm (by rw [wnt_dir] at h'; exact h')⟩
/-- What is left of places: those at which something is seen. -/
def lftP (A : Pls) : Pls := (A.map fun p => (p.1, shS p.2)).filter fun p => !p.2.isEmpty
def plP (p : ByteArray × List Sp) : ByteArray × Fls := (p.1, p.2.map Sp.pr)
/-- Sorted, they are the names of what is seen, each with what is seen there. -/
theorem places_end {A PL : Pls} {K : List (List KSf)} {l : Fls} (h : PlI A K []) (hw : ∀ nm, (wnt nm K []).map Sp.pr = kidsP nm l) (hp : PL.Perm (lftP A)) (hs : PL.Pairwise fun a b => ltB b.1 a.1 = false) :
    PL.map plP = (listP l).map fun nm => (nm, nxt l nm) := by
  have hnd : ((lftP A).map (·.1)).Nodup := by
    have h1 : ((A.map fun p => (p.1, shS p.2)).map (·.1)).Nodup := by
      rw [List.map_map]
      exact h.nd
    exact h1.sublist (List.Sublist.map _ List.filter_sublist)
  have hndP : (PL.map (·.1)).Nodup := (hp.map _).nodup_iff.2 hnd
  have hri : Rise (PL.map (·.1)) := by
    unfold Rise
    rw [List.pairwise_map]
    have h2 : PL.Pairwise fun a b => a.1 ≠ b.1 := by
      have := hndP
      unfold List.Nodup at this
      rwa [List.pairwise_map] at this
    refine (List.Pairwise.and hs h2).imp ?_
    rintro a b ⟨h3, h4⟩
    rcases ltB_total a.1 b.1 with e | e | e
    · exact e
    · exact absurd e h4
    · rw [e] at h3; cases h3
  have heq : ∀ p ∈ PL, p.2.map Sp.pr = nxt l p.1 ∧ nxt l p.1 ≠ [] := by
    intro p hpm
    have h1 := hp.mem_iff.1 hpm
    obtain ⟨h2, h3⟩ := List.mem_filter.1 h1
    obtain ⟨q, hq, rfl⟩ := List.mem_map.1 h2
    have h4 := (h.eq q hq).1
    have h5 : (shS q.2).map Sp.pr = nxt l q.1 := by
      rw [shS_pr, h4, hw]; rfl
    refine ⟨h5, fun e => ?_⟩
    rw [← h5] at e
    have e2 := List.map_eq_nil_iff.1 e
    simp [e2] at h3
  have hall : ∀ nm, nxt l nm ≠ [] → nm ∈ PL.map (·.1) := by
    intro nm hn
    have h1 : kidsP nm l ≠ [] := fun e => hn (by unfold nxt; rw [e]; rfl)
    have h2 : wnt nm K [] ≠ [] := fun e => h1 (by rw [← hw, e]; rfl)
    obtain ⟨q, hq, e⟩ := List.mem_map.1 (h.all nm h2)
    refine List.mem_map.2 ⟨(q.1, shS q.2), hp.mem_iff.2 (List.mem_filter.2 ⟨List.mem_map.2 ⟨q, hq, rfl⟩, ?_⟩), e⟩
    have h4 := (h.eq q hq).1
    have h5 : (shS q.2).map Sp.pr = nxt l q.1 := by rw [shS_pr, h4, hw]; rfl
    have h6 : shS q.2 ≠ [] := fun e2 => hn (by rw [← e]; show nxt l q.1 = []; rw [← h5, e2]; rfl)
    simp only [Bool.not_eq_true']
    cases e3 : (shS q.2) with
    | nil => exact absurd e3 h6
    | cons a b => rfl
  have hnames : PL.map (·.1) = listP l := rise_one hri (listP_rise l) fun nm => by
    rw [mem_listP]
    constructor
    · intro hm
      obtain ⟨p, hp2, rfl⟩ := List.mem_map.1 hm
      exact (heq p hp2).2
    · exact hall nm
  rw [← hnames, List.map_map]
  refine List.map_congr_left fun p hpm => ?_
  show (p.1, p.2.map Sp.pr) = (p.1, nxt l p.1)
  rw [(heq p hpm).1]
end Go.Proofs.YtlbabnffiibnpaaGreat
namespace Go.Proofs.YtlbabnffiibnpaaGreat
open Go.RowKit Go.Maps
/-- A world that has moved: of what was there just the blocks that are named may have turned. -/
structure Mv (S : Nat → Prop) (w w' : World) : Prop where
  os : w'.os = w.os
  tape : w'.tape = w.tape
  output : w'.output = w.output
  size : w.heap.size ≤ w'.heap.size
  block : ∀ k, k < w.heap.size → ¬ S k → w'.heap[k]? = w.heap[k]?
theorem Mv.refl (S : Nat → Prop) (w : World) : Mv S w w := ⟨rfl, rfl, rfl, Nat.le_refl _, fun _ _ _ => rfl⟩
theorem Mv.trans {S : Nat → Prop} {a b c : World} (h : Mv S a b) (k : Mv S b c) : Mv S a c :=
  ⟨k.os.trans h.os, k.tape.trans h.tape, k.output.trans h.output, Nat.le_trans h.size k.size, fun i hi hs => (k.block i (Nat.lt_of_lt_of_le hi h.size) hs).trans (h.block i hi hs)⟩
theorem Mv.of {S : Nat → Prop} {w w' : World} (h : Below w.heap.size w w') : Mv S w w' := ⟨h.os, h.tape, h.output, h.size, fun k hk _ => h.block k hk⟩
theorem Mv.drew {S : Nat → Prop} {w w' : World} (h : Mv S w w') : Mv S w w'.drew := ⟨h.os, h.tape, h.output, h.size, h.block⟩
theorem Mv.alloc {S : Nat → Prop} {w w' : World} (h : Mv S w w') (o : Obj) : Mv S w (w'.alloc o) := h.trans (Mv.of ((Below.refl _ _).alloc (Nat.le_refl _) o))
theorem Mv.setCell {S : Nat → Prop} {w w' : World} (h : Mv S w w') {p : Addr} (hp : S p.block) (u : Value) : Mv S w (w'.setCell p u) :=
  h.trans ⟨rfl, rfl, rfl, by simp [World.setCell], fun k _ hs => Below.heap_setCell _ _ _ _ (fun e => hs (e ▸ hp))⟩
theorem Mv.grown {S : Nat → Prop} {a w w' : World} {row : Option Nat} (h : Mv S a w) (hg : w.grownBy w' row) (hr : ∀ k, row = some k → S k) : Mv S a w' :=
  h.trans ⟨hg.os, hg.tape, hg.output, hg.size, fun k hk hs => hg.block k hk (fun e => hs (hr k e.symm))⟩
theorem Mv.below {S : Nat → Prop} {w w' : World} (h : Mv S w w') {B : Nat} (hB : B ≤ w.heap.size) (hS : ∀ k, S k → B ≤ k) : Below B w w' :=
  ⟨h.os, h.tape, h.output, h.size, fun k hk => h.block k (Nat.lt_of_lt_of_le hk hB) (fun hs => by have := hS k hs; omega)⟩
theorem Mv.mono {S T : Nat → Prop} {w w' : World} (h : Mv S w w') (hs : ∀ k, S k → T k) : Mv T w w' := ⟨h.os, h.tape, h.output, h.size, fun k hk ht => h.block k hk (fun e => ht (hs k e))⟩
theorem Mv.cell {S : Nat → Prop} {w w' : World} (h : Mv S w w') {p : Addr} (hp : p.block < w.heap.size) (hs : ¬ S p.block) : w'.cell? p = w.cell? p := World.cell?_of_block (w := w) (h.block _ hp hs)
theorem Mv.frozen {S : Nat → Prop} {w w' : World} (h : Mv S w w') {p : Addr} (hp : p.block < w.heap.size) (hs : ¬ S p.block) : w'.frozen? p = w.frozen? p := World.frozen?_of_block (w := w) (h.block _ hp hs)
end Go.Proofs.YtlbabnffiibnpaaGreat
namespace Go.Proofs.YtlbabnffiibnpaaGreat
open Go.RowKit
/-- A place, and where its list lies. -/
structure Pe where
  n : ByteArray
  a : Option Addr
  c : Nat
  L : List Sp
def Pe.pl (e : Pe) : ByteArray × List Sp := (e.n, e.L)
/-- A row of places that may be written. -/
structure PRow (w : World) (b : Nat) (G : List Pe) : Prop where
  cell : ∀ (i : Nat) e, G[i]? = some e → w.cell? ⟨b, i * 2, none⟩ = some (.string e.n) ∧ w.cell? ⟨b, i * 2 + 1, none⟩ = some (.slice e.a e.L.length e.c)
  free : ∀ j, w.frozen? ⟨b, j, none⟩ = false
  lt : b < w.heap.size
theorem PRow.mv {w w' : World} {b : Nat} {G : List Pe} {S : Nat → Prop} (h : PRow w b G) (hb : Mv S w w') (hs : ¬ S b) : PRow w' b G :=
  ⟨fun i e hi => ⟨(hb.cell (p := ⟨b, i * 2, none⟩) h.lt hs).trans (h.cell i e hi).1, (hb.cell (p := ⟨b, i * 2 + 1, none⟩) h.lt hs).trans (h.cell i e hi).2⟩, fun j => (hb.frozen (p := ⟨b, j, none⟩) h.lt hs).trans (h.free j), Nat.lt_of_lt_of_le h.lt hb.size⟩
theorem PRow.below {w w' : World} {b : Nat} {G : List Pe} (h : PRow w b G) (hb : Below w.heap.size w w') : PRow w' b G := h.mv (S := fun _ => False) (Mv.of hb) (fun e => e)
theorem PRow.set {w : World} {b : Nat} {G : List Pe} (h : PRow w b G) {i : Nat} {o : Pe} (hi : G[i]? = some o) (e : Pe) : PRow ((w.setCell ⟨b, i * 2, none⟩ (.string e.n)).setCell ⟨b, i * 2 + 1, none⟩ (.slice e.a e.L.length e.c)) b (G.set i e) := by
  obtain ⟨o1, o2⟩ := h.cell i o hi
  refine ⟨fun j f hj => ?_, fun j => by rw [World.frozen?_setCell, World.frozen?_setCell]; exact h.free j, by rw [World.size_setCell, World.size_setCell]; exact h.lt⟩
  rw [List.getElem?_set] at hj
  split at hj
  · rename_i e1
    subst e1
    split at hj
    · cases hj
      refine ⟨?_, ?_⟩
      · rw [World.cell?_setCell_other _ _ _ _ (by simp)]
        exact World.cell?_setCell_same _ _ _ o1
      · exact World.cell?_setCell_same _ _ _ ((World.cell?_setCell_other _ _ _ _ (by simp)).trans o2)
    · cases hj
  · rename_i e1
    obtain ⟨q1, q2⟩ := h.cell j f hj
    refine ⟨?_, ?_⟩
    · rw [World.cell?_setCell_other _ _ _ _ (fun e => by have := (Addr.mk.inj e).2.1; omega), World.cell?_setCell_other _ _ _ _ (fun e => by have := (Addr.mk.inj e).2.1; omega)]; exact q1
    · rw [World.cell?_setCell_other _ _ _ _ (fun e => by have := (Addr.mk.inj e).2.1; omega), World.cell?_setCell_other _ _ _ _ (fun e => by have := (Addr.mk.inj e).2.1; omega)]; exact q2
theorem PRow.sub {w : World} {b : Nat} {G G' : List Pe} (h : PRow w b G) (hs : ∀ (i : Nat) e, G'[i]? = some e → G[i]? = some e) : PRow w b G' := ⟨fun i e hi => h.cell i e (hs i e hi), h.free, h.lt⟩
set_option maxRecDepth 100000 in
set_option maxHeartbeats 1000000 in
theorem indexP_any {w : World} {b cap : Nat} {G : List Pe} (h : PRow w b G) (hl : G.length ≤ 1000) (hL : ∀ e ∈ G, e.L.length ≤ 1000) :
    Calls Tryz.prog 72 #[.slice (some ⟨b, 0, none⟩) G.length cap, .func (.func 59) #[] #[]] w fun e w' => ((e = .returned (.int .i64 (-1)) ∧ ∀ x ∈ G, x.L ≠ []) ∨ ∃ i x, e = .returned (.int .i64 (i : Nat)) ∧ G[i]? = some x ∧ x.L = [] ∧ ∀ x ∈ G.take i, x.L ≠ []) ∧ Below w.heap.size w w' := by
  obtain ⟨N, HN⟩ : ∃ N, Hid (G.length = N) := ⟨_, rfl⟩
  have HP : Hid _ := h
  have HL : Hid _ := hL
  rw [HN.out] at hl ⊢
  clear h hL
  go_enter Tryz.func72, Tryz.ntmps72
  go_wp2
  go_loopw [8] (fun i wr => ∃ j : Nat, j ≤ N ∧ i = .int .i64 j ∧ Hid (∀ x ∈ G.take j, x.L ≠ []) ∧ Below w.heap.size w wr) (fun i _ => N - (intOf i).toNat)
  case atStart => exact ⟨0, Nat.zero_le _, rfl, fun x hx => (by simp at hx), Below.refl _ _⟩
  case round =>
    obtain ⟨j, hj, rfl, HJ, hB⟩ := hrel
    by_cases hjl : j < N
    rotate_left
    · have hji : decide ((j : Int) < (N : Int)) = false := decide_eq_false (by omega)
      have HA : Hid (∀ x ∈ G, x.L ≠ []) := by
        have h1 := HJ.out
        rw [List.take_of_length_le (by rw [HN.out]; omega)] at h1
        exact h1
      go_wp2
      go_ret
      exact ⟨.inl ⟨rfl, HA.out⟩, hB⟩
    have hji : (j : Int) < (N : Int) := by omega
    obtain ⟨x, hx⟩ : ∃ x, G[j]? = some x := ⟨_, List.getElem?_eq_getElem (by rw [HN.out]; exact hjl)⟩
    obtain ⟨c0, c1⟩ := (HP.out.below hB).cell j x hx
    have hxl := HL.out x (List.mem_of_getElem? hx)
    have HX : Hid (G[j]? = some x) := hx
    have HC : Hid (Calls Tryz.prog 59 #[.agg #[.string x.n, .slice x.a x.L.length x.c]] wr fun e w' => e = .returned (.bool (decide (x.L.length = 0))) ∧ w' = wr.alloc (.cells #[.string x.n, .slice x.a x.L.length x.c] 92)) := none_any x.n x.a x.L.length x.c wr hxl
    obtain ⟨t, ht⟩ : ∃ t, (decide (x.L.length = 0)) = t := ⟨_, rfl⟩
    have HT : Hid (decide (x.L.length = 0) = t) := ht
    rw [ht] at HC
    have hal : Below wr.heap.size wr (wr.alloc (.cells #[.string x.n, .slice x.a x.L.length x.c] 92)) := (Below.refl _ _).alloc (Nat.le_refl _) _
    have hB2 := hB.trans (hal.mono hB.size)
    clear hx ht hal
    go_wp2_with fail
    refine HC.out.mono ?_
    rintro e w2 ⟨rfl, rfl⟩
    clear HC c0 c1
    cases t
    · have HN2 : Hid (∀ y ∈ G.take (j + 1), y.L ≠ []) := fun y hy => by
        rw [List.take_add_one, HX.out] at hy
        rcases List.mem_append.1 hy with h1 | h1
        · exact HJ.out y h1
        · simp at h1
          rw [h1]
          intro e
          have := HT.out
          rw [e] at this
          simp at this
      go_wp2
      go_roundw
      case rel => exact ⟨j + 1, by omega, by go_num, HN2.out, hB2⟩
      case measure => (simp [intOf]; try omega)
    · have HE : Hid (x.L = []) := List.eq_nil_of_length_eq_zero (of_decide_eq_true HT.out)
      go_wp2
      go_ret
      exact ⟨.inr ⟨j, x, rfl, HX.out, HE.out, HJ.out⟩, hB2⟩
/-- clear(s) of structs: some cells turn, and no others. -/
theorem run_clear_two {P : Program} (w : World) (t e ty : TypeId) (z1 z2 : Value) (ht : P.underlying t = some (.slice e)) (hv : ∀ w, (zeroValue e).run P w = .ok (.agg #[z1, z2]) w) (h1 : z1.oneCell' = true) (h2 : z2.oneCell' = true) (hz : (Value.agg #[z1, z2]).cells = #[z1, z2]) (b o n c : Nat)
    (hc : ∀ j, j < n * 2 → (w.cell? ⟨b, o + j, none⟩).isSome = true) (hf : ∀ j, j < n * 2 → w.frozen? ⟨b, o + j, none⟩ = false) :
    ∃ vs : List Value, vs.length = n * 2 ∧ (Builtin.clear_ #[t] ty #[.slice (some ⟨b, o, none⟩) n c]).run P w = .ok (.tuple #[]) (w.setCells b o vs) := by
  cases n with
  | zero => exact ⟨[], rfl, by simp [Builtin.clear_, run_underlying ht, World.setCells]⟩
  | succ m =>
    have hlen : (Builtin.zeroCells #[z1, z2] (m + 1)).toList.length = (m + 1) * 2 := by simp [Builtin.zeroCells]
    refine ⟨(Builtin.zeroCells #[z1, z2] (m + 1)).toList, hlen, ?_⟩
    have hst := run_storeCells_cells (P := P) b o (Builtin.zeroCells #[z1, z2] (m + 1)).toList 0 w (fun j hj => by rw [Nat.add_zero]; exact hc j (by omega)) (fun j hj => by rw [Nat.add_zero]; exact hf j (by omega)) (by
      intro v hv'
      simp only [Builtin.zeroCells, Array.toList_map, List.mem_map] at hv'
      obtain ⟨i, _, rfl⟩ := hv'
      have : i % (#[z1, z2] : Array Value).size < 2 := Nat.mod_lt _ (by simp)
      generalize i % (#[z1, z2] : Array Value).size = r at this
      match r, this with
      | 0, _ => exact h1
      | 1, _ => exact h2)
    rw [Nat.add_zero] at hst
    simp [Builtin.clear_, run_underlying ht, hv, hz, hst]
theorem mv_cells {w : World} {b o : Nat} (vs : List Value) : Mv (fun k => k = b) w (w.setCells b o vs) := by
  induction vs generalizing w o with
  | nil => exact Mv.refl _ _
  | cons v r ih => exact (Mv.setCell (S := fun k => k = b) (Mv.refl _ w) (p := ⟨b, o, none⟩) rfl v).trans ih
theorem zeroPl (w : World) : (zeroValue 92).run Tryz.prog w = .ok (.agg #[.string ⟨#[]⟩, .slice none 0 0]) w := by kernel_rfl
theorem take_set_at {α : Type} (R : List α) (k : Nat) (x : α) : (R.set k x).take k = R.take k := by
  apply List.ext_getElem?
  intro q
  rw [List.getElem?_take, List.getElem?_take]
  split
  · rw [List.getElem?_set_ne (by omega)]
  · rfl
/-- Those at which something is seen. -/
def someP (G : List Pe) : List Pe := G.filter fun e => !e.L.isEmpty
theorem someP_all {G : List Pe} (h : ∀ x ∈ G, x.L ≠ []) : someP G = G := List.filter_eq_self.2 fun x hx => by
  have := h x hx
  cases hL : x.L with
  | nil => exact absurd hL this
  | cons a b => rfl
theorem someP_next {G : List Pe} {j : Nat} {x : Pe} (h : G[j]? = some x) : someP (G.take (j + 1)) = someP (G.take j) ++ (if x.L = [] then [] else [x]) := by
  unfold someP
  rw [List.take_add_one, h, List.filter_append]
  congr 1
  show List.filter _ [x] = _
  rw [List.filter_cons]
  cases hL : x.L with
  | nil => simp
  | cons a b => simp
set_option maxRecDepth 100000 in
set_option maxHeartbeats 2000000 in
theorem delP_any {w : World} {b cap : Nat} {G : List Pe} (h : PRow w b G) (hl : G.length ≤ 1000) (hL : ∀ e ∈ G, e.L.length ≤ 1000) (hcap : G.length ≤ cap) (_hcap2 : cap ≤ 9223372036854775807) :
    Calls Tryz.prog 58 #[.slice (some ⟨b, 0, none⟩) G.length cap, .func (.func 59) #[] #[]] w fun e w' => e = .returned (.slice (some ⟨b, 0, none⟩) (someP G).length cap) ∧ PRow w' b (someP G) ∧ Mv (fun k => k = b) w w' := by
  have HI : Hid _ := indexP_any (cap := cap) h hl hL
  obtain ⟨N, HN⟩ : ∃ N, Hid (G.length = N) := ⟨_, rfl⟩
  have HP : Hid _ := h
  have HL : Hid _ := hL
  rw [HN.out] at hl hcap HI ⊢
  clear h hL
  go_enter Tryz.func58, Tryz.ntmps58
  go_wp2_with fail
  refine Calls.mono HI.out ?_
  rintro e w1 ⟨(⟨rfl, hno⟩ | ⟨i, x, rfl, hx, hxe, hfst⟩), hB1⟩
  · have HS : Hid (someP G = G) := someP_all hno
    have HP1 : Hid _ := HP.out.below hB1
    clear HI hno
    go_wp2
    go_ret
    refine ⟨?_, ?_, Mv.of hB1⟩
    · rw [HS.out, HN.out]; rfl
    · rw [HS.out]; exact HP1.out
  have hlt : i < N := by rw [← HN.out]; exact (List.getElem?_eq_some_iff.1 hx).1
  have HS0 : Hid (G.take i = someP (G.take (i + 1))) := by
    show _ = _
    rw [someP_next hx, if_pos hxe, List.append_nil, someP_all hfst]
  have HP1 : Hid _ := HP.out.below hB1
  have hne1 : ((i : Int) == -1) = false := by rw [beq_eq_false_iff_ne]; omega
  have HX0 : Hid (i < N) := hlt
  clear HI hx hxe hfst
  go_wp2
  go_loopg [5, 6, 7] (N - (i + 1)) (fun gg s5 s6 _ wr => ∃ (k j : Nat) (R : List Pe), s5 = .int .i64 k ∧ s6 = .int .i64 j ∧ k < j ∧ j ≤ N ∧ N - j ≤ gg ∧ R.length = N ∧ Hid (R.take k = someP (G.take j) ∧ R.drop j = G.drop j) ∧ Hid (PRow wr b R) ∧ Mv (fun q => q = b) w wr)
  case atStart => exact ⟨i, i + 1, G, rfl, by go_num, by omega, hlt, Nat.le_refl _, HN.out, ⟨HS0.out, rfl⟩, HP1.out, Mv.of hB1⟩
  case round =>
    obtain ⟨k, j, R, rfl, rfl, hkj, hjN, hgg, hRl, HR, HPR, hMv⟩ := hrel
    clear HP1 hB1 HS0 hlt hne1
    by_cases hjl : j < N
    · have hji : decide ((j : Int) < (N : Int)) = true := decide_eq_true (by omega)
      obtain ⟨x, hx⟩ : ∃ x, G[j]? = some x := ⟨_, List.getElem?_eq_getElem (by rw [HN.out]; exact hjl)⟩
      have hxR : R[j]? = some x := by
        have e1 := congrArg (fun l => l[0]?) HR.out.2
        simp only [List.getElem?_drop, Nat.add_zero] at e1
        rw [e1]; exact hx
      obtain ⟨o, ho⟩ : ∃ o, R[k]? = some o := ⟨_, List.getElem?_eq_getElem (by omega)⟩
      obtain ⟨c0, c1⟩ := HPR.out.cell j x hxR
      have hal : Below wr.heap.size wr (wr.alloc (.cells #[.string x.n, .slice x.a x.L.length x.c] 92)) := (Below.refl _ _).alloc (Nat.le_refl _) _
      have hal2 : Below wr.heap.size wr ((wr.alloc (.cells #[.string x.n, .slice x.a x.L.length x.c] 92)).alloc (.cells #[.string x.n, .slice x.a x.L.length x.c] 92)) := hal.alloc hal.size _
      obtain ⟨n0, n1⟩ := two_new wr (.string x.n) (.slice x.a x.L.length x.c) 92
      have m0 := mle_below ((Below.refl _ (wr.alloc (.cells #[.string x.n, .slice x.a x.L.length x.c] 92))).alloc (Nat.le_refl _) (.cells #[.string x.n, .slice x.a x.L.length x.c] 92)) _ _ n0
      have m1 := mle_below ((Below.refl _ (wr.alloc (.cells #[.string x.n, .slice x.a x.L.length x.c] 92))).alloc (Nat.le_refl _) (.cells #[.string x.n, .slice x.a x.L.length x.c] 92)) _ _ n1
      have hP2 := HPR.out.below hal2
      obtain ⟨d0, d1⟩ := hP2.cell k o ho
      have f0 := hP2.free (k * 2)
      have f1 := hP2.free (k * 2 + 1)
      have HP3 : Hid _ := hP2.set ho x
      have hMv2 := hMv.trans (Mv.of hal2)
      have hxl := HL.out x (List.mem_of_getElem? hx)
      have HC : Hid (Calls Tryz.prog 59 #[.agg #[.string x.n, .slice x.a x.L.length x.c]] (wr.alloc (.cells #[.string x.n, .slice x.a x.L.length x.c] 92)) fun e w' => e = .returned (.bool (decide (x.L.length = 0))) ∧ w' = (wr.alloc (.cells #[.string x.n, .slice x.a x.L.length x.c] 92)).alloc (.cells #[.string x.n, .slice x.a x.L.length x.c] 92)) := none_any x.n x.a x.L.length x.c _ hxl
      have HX : Hid (G[j]? = some x) := hx
      have HP2 : Hid _ := hP2
      have HO : Hid (R[k]? = some o) := ho
      have HD : Hid (R.drop (j + 1) = G.drop (j + 1)) := by
        show _ = _
        have e1 := congrArg (List.drop 1) HR.out.2
        rwa [List.drop_drop, List.drop_drop] at e1
      obtain ⟨t, ht⟩ : ∃ t, (decide (x.L.length = 0)) = t := ⟨_, rfl⟩
      have HT : Hid (decide (x.L.length = 0) = t) := ht
      rw [ht] at HC
      clear hx hxR ht hal hal2 hP2 ho HPR
      go_wp2_with fail
      refine HC.out.mono ?_
      rintro e w2 ⟨rfl, rfl⟩
      clear HC c0 c1 n0 n1
      cases t
      · have hne : x.L ≠ [] := fun e => by have := HT.out; rw [e] at this; simp at this
        have HR2 : Hid ((R.set k x).take (k + 1) = someP (G.take (j + 1)) ∧ (R.set k x).drop (j + 1) = G.drop (j + 1)) := by
          refine ⟨?_, ?_⟩
          · rw [someP_next HX.out, if_neg hne, ← HR.out.1, List.take_add_one, take_set_at, List.getElem?_set_self (by omega)]; rfl
          · rw [List.drop_set, if_pos (by omega)]; exact HD.out
        clear hne HR HD
        go_wp2
        go_roundg (N - (j + 1))
        case measure => omega
        case rel => exact ⟨k + 1, j + 1, R.set k x, by go_num, by go_num, by omega, by omega, Nat.le_refl _, by rw [List.length_set]; exact hRl, HR2.out, HP3.out, (hMv2.setCell (p := ⟨b, k * 2, none⟩) rfl _).setCell (p := ⟨b, k * 2 + 1, none⟩) rfl _⟩
      · have he : x.L = [] := List.eq_nil_of_length_eq_zero (of_decide_eq_true HT.out)
        have HR2 : Hid (R.take k = someP (G.take (j + 1)) ∧ R.drop (j + 1) = G.drop (j + 1)) := ⟨by rw [someP_next HX.out, if_pos he, List.append_nil]; exact HR.out.1, HD.out⟩
        clear he HR HD HP3 f0 f1 d0 d1 m0 m1
        go_wp2
        go_roundg (N - (j + 1))
        case measure => omega
        case rel => exact ⟨k, j + 1, R, rfl, by go_num, by omega, by omega, Nat.le_refl _, hRl, HR2.out, HP2.out, hMv2⟩
    · obtain rfl : j = N := by omega
      have hji : decide ((j : Int) < (j : Int)) = false := decide_eq_false (by omega)
      have HE : Hid (R.take k = someP G) := by
        have h1 := HR.out.1
        rwa [List.take_of_length_le (l := G) (by rw [HN.out]; omega)] at h1
      have HK : Hid (k = (someP G).length) := by
        show _ = _
        rw [← HE.out, List.length_take]; omega
      have hcs : ∀ q, q < (j - k) * 2 → (wr.cell? ⟨b, k * 2 + q, none⟩).isSome = true := fun q hq => by
        obtain ⟨y, hy⟩ : ∃ y, R[k + q / 2]? = some y := ⟨_, List.getElem?_eq_getElem (by omega)⟩
        obtain ⟨y0, y1⟩ := HPR.out.cell _ y hy
        rcases Nat.mod_two_eq_zero_or_one q with e | e
        · rw [show k * 2 + q = (k + q / 2) * 2 by omega, y0]; rfl
        · rw [show k * 2 + q = (k + q / 2) * 2 + 1 by omega, y1]; rfl
      obtain ⟨vs, hvs, hcl⟩ := run_clear_two (P := Tryz.prog) wr 88 92 0 (.string ⟨#[]⟩) (.slice none 0 0) Tryz.underlying88 zeroPl rfl rfl rfl b (k * 2) (j - k) (cap - k) hcs (fun q _ => HPR.out.free _)
      have HPE : Hid (PRow (wr.setCells b (k * 2) vs) b (someP G)) := by
        refine ⟨fun q e hq => ?_, fun q => by rw [World.frozen?_setCells]; exact HPR.out.free q, by have := (mv_cells (w := wr) (b := b) (o := k * 2) vs).size; exact Nat.lt_of_lt_of_le HPR.out.lt this⟩
        have hqk : q < k := by rw [HK.out]; exact (List.getElem?_eq_some_iff.1 hq).1
        rw [← HE.out, List.getElem?_take_of_lt hqk] at hq
        obtain ⟨y0, y1⟩ := HPR.out.cell q e hq
        exact ⟨(World.cell?_setCells_out b vs _ _ _ fun _ _ => .inl (by show q * 2 < k * 2; omega)).trans y0, (World.cell?_setCells_out b vs _ _ _ fun _ _ => .inl (by show q * 2 + 1 < k * 2; omega)).trans y1⟩
      have hMvE := hMv.trans (mv_cells (w := wr) (b := b) (o := k * 2) vs)
      clear hcs hvs HPR HR HE
      go_wp2
      go_ret
      exact ⟨by rw [← HK.out]; rfl, HPE.out, hMvE⟩
end Go.Proofs.YtlbabnffiibnpaaGreat
