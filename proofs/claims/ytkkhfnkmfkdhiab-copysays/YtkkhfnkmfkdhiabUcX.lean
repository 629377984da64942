/-
  A NODE WITH ITS IDS ON THE OTHER SIDE: the walks of across, Inside, Outside, Moved.
  Inside, Outside, the document's Moved: the walks.
  within, Seen of both: the walks.
-/
import Derived.Test.YtkkhfnkmfkdhiabUaX
import Derived.Test.YtkkhfnkmfkdhiabKeX
import Derived.Test.YtkkhfnkmfkdhiabWlY
import Derived.Test.YtkkhfnkmfkdhiabMjY
namespace Go.Proofs.Ytkkhfnkmfkdhiab
open Go.RowKit

/-- Maps as a value. -/
structure MapsV where
  ua : Option Addr
  ga : Option Addr
  uc : Nat
  gc : Nat
  us : List Rg
  gs : List Rg
def MapsV.v (M : MapsV) : Value := .agg #[.slice M.ua M.us.length M.uc, .slice M.ga M.gs.length M.gc]
structure MapsOk (W : World) (M : MapsV) : Prop where
  u : Rgs W M.ua M.us
  g : Rgs W M.ga M.gs
  ul : M.us.length ≤ 100
  gl : M.gs.length ≤ 100
  cu : M.us.length ≤ M.uc
  cg : M.gs.length ≤ M.gc
  ou : ∀ r ∈ M.us, r.ok
  og : ∀ r ∈ M.gs, r.ok
theorem MapsOk.below {W W' : World} {M : MapsV} (h : MapsOk W M) (hb : Below W.heap.size W W') : MapsOk W' M := ⟨h.u.below hb, h.g.below hb, h.ul, h.gl, h.cu, h.cg, h.ou, h.og⟩
def IdT : Nd → Prop
  | .mk _ _ u g _ _ _ _ => I64 u ∧ I64 g
theorem optV_some (v : Int) : optV (some v) = .tuple #[.int .i64 v, .bool true] := rfl
theorem optV_none : optV none = .tuple #[.int .i64 0, .bool false] := rfl
theorem nd_ids {c : Mem} {k m u g u' g' : Int} {o : Bool} {at_ : List Kv} {d : ByteArray} {ks : Kds} {h : Hd} (hN : NdV c (.mk k m u g o at_ d ks) h) : NdV c (.mk k m u' g' o at_ d ks) h := ndV_iff.2 (ndV_iff.1 hN)
theorem lim_ids {k m u g u' g' : Int} {o : Bool} {at_ : List Kv} {d : ByteArray} {ks : Kds} (h : Lim (.mk k m u g o at_ d ks)) : Lim (.mk k m u' g' o at_ d ks) := by rw [Lim] at h ⊢; exact h
theorem cnt_ids {k m u g u' g' : Int} {o : Bool} {at_ : List Kv} {d : ByteArray} {ks : Kds} : cnt (.mk k m u' g' o at_ d ks) = cnt (.mk k m u g o at_ d ks) := by rw [cnt, cnt]
theorem NBw.ids {w : World} {b : Nat} {k m u g : Int} {o : Bool} {at_ : List Kv} {d : ByteArray} {ks : Kds} {h : Hd} (hk : NBw w b (.mk k m u g o at_ d ks) h) (u' g' : Int) : NBw ((w.setCell ⟨b, 2, none⟩ (.int .i64 u')).setCell ⟨b, 3, none⟩ (.int .i64 g')) b (.mk k m u' g' o at_ d ks) h := by
  obtain ⟨⟨e0, e1, e2, e3, e4, e5, e6, e7⟩, ff⟩ := hk
  refine ⟨⟨?_, ?_, ?_, ?_, ?_, ?_, ?_, ?_⟩, fun j => ?_⟩
  all_goals first | (simp [go_sem, e0, e1, e2, e3, e4, e5, e6, e7]; done) | (simp [go_sem, ff j]; done)

theorem three_boxes (W A B C : World) (ua ga : Option Addr) (nu ng uc gc : Nat) (k m u g : Int) (o : Bool) (at_ : List Kv) (d : ByteArray) (ks : Kds) (h : Hd)
    (hA : A = W.alloc (.cells #[.slice ua nu uc, .slice ga ng gc] 62)) (hB : B = A.alloc (.cells #[.int .i64 k, .int .i64 m, .int .i64 u, .int .i64 g, .bool o, .slice h.aa at_.length h.ca, .string d, .slice h.ak ks.length h.ck] 25)) (hC : C = B.alloc (.cells #[.int .i64 0, .int .i64 0, .int .i64 0, .int .i64 0, .bool false, .slice none 0 0, .string ⟨#[]⟩, .slice none 0 0] 25)) :
    C.cell? ⟨W.heap.size, 0, none⟩ = some (.slice ua nu uc) ∧ C.cell? ⟨W.heap.size, 1, none⟩ = some (.slice ga ng gc) ∧ NBw C (W.heap.size + 1) (.mk k m u g o at_ d ks) h ∧ NBw C (W.heap.size + 1 + 1) zN zH ∧ Below W.heap.size W C ∧ C.heap.size = W.heap.size + 1 + 1 + 1 := by
  have s1 : A.heap.size = W.heap.size + 1 := by rw [hA, World.size_alloc]
  have s2 : B.heap.size = W.heap.size + 1 + 1 := by rw [hB, World.size_alloc, s1]
  have s3 : C.heap.size = W.heap.size + 1 + 1 + 1 := by rw [hC, World.size_alloc, s2]
  have bA : Below W.heap.size W A := by rw [hA]; exact (Below.refl _ _).alloc (Nat.le_refl _) _
  have bB : Below A.heap.size A B := by rw [hB]; exact (Below.refl _ _).alloc (Nat.le_refl _) _
  have bC : Below B.heap.size B C := by rw [hC]; exact (Below.refl _ _).alloc (Nat.le_refl _) _
  have c0 : A.cell? ⟨W.heap.size, 0, none⟩ = some (.slice ua nu uc) := by rw [hA]; exact World.cell?_alloc_at _ _ _ _ rfl
  have c1 : A.cell? ⟨W.heap.size, 1, none⟩ = some (.slice ga ng gc) := by rw [hA]; exact World.cell?_alloc_at _ _ _ _ rfl
  have m2 : MLe A.cell? C.cell? := (mle_below bB).trans (mle_below bC)
  have nB := NBw.new A k m u g o at_ d ks h
  rw [← hB, s1] at nB
  have nC := NBw.zero B
  rw [← hC, s2] at nC
  exact ⟨m2 _ _ c0, m2 _ _ c1, nB.below bC, nC, (bA.trans (bB.mono bA.size)).trans (bC.mono (by omega)), s3⟩

def mvO (OU OG : Option Int) (k m : Int) (o : Bool) (at_ : List Kv) (d : ByteArray) (ks : Kds) : Option Nd := match OU, OG with
  | some u', some g' => some (.mk k m u' g' o at_ d ks)
  | _, _ => none
def MvE (W W' : World) (S : Nat → Bool) (e : Ending) : Option Nd → Prop
  | none => e = .returned (.tuple #[ndV zN zH, .iface 96 (.int .i64 11)]) ∧ Below W.heap.size W W'
  | some y => (∃ h', e = .returned (.tuple #[ndV y h', .nilIface]) ∧ NdV (offS W'.cell? S) y h') ∧ Below W.heap.size W W'

set_option maxRecDepth 100000 in
set_option maxHeartbeats 2000000 in
theorem cacrossTo {W : World} {S : Nat → Bool} (hS0 : ∀ k, S k = true → k < W.heap.size) {x : Nd} {h : Hd} (hN : NdV (offS W.cell? S) x h) (hlim : Lim x) (hcnt : cnt x ≤ 1000) (hid : IdT x) {M : MapsV} (hM : MapsOk W M) :
    Calls Try.prog 84 #[M.v, ndV x h, .func (.func 86) #[] #[]] W fun e W' => MvE W W' S e (mvF true M.us M.gs x) := by
  obtain ⟨k, m, u, g, o, at_, d, ks⟩ := x
  obtain ⟨ua, ga, uc, gc, us, gs⟩ := M
  obtain ⟨hu, hg, ul, gl, cu, cg, ou, og⟩ := hM
  dsimp only at hu hg ul gl cu cg ou og
  obtain ⟨hid1, hid2⟩ := hid
  obtain ⟨OU, HOU⟩ : ∃ OU, Hid (toM us u = OU) := ⟨_, rfl⟩
  obtain ⟨OG, HOG⟩ : ∃ OG, Hid (toM gs g = OG) := ⟨_, rfl⟩
  have HMV : Hid (mvF true us gs (.mk k m u g o at_ d ks) = mvO OU OG k m o at_ d ks) := by show _ = _; rw [← HOU.out, ← HOG.out]; rfl
  rw [HMV.out]
  clear HMV
  obtain ⟨c0, c1, NB, RB, hB3, hz3⟩ := three_boxes W _ _ _ ua ga us.length gs.length uc gc k m u g o at_ d ks h rfl rfl rfl
  have HC1 : Hid _ := toHost_any ua uc us u (((W.alloc (.cells #[.slice ua us.length uc, .slice ga gs.length gc] 62)).alloc (.cells #[.int .i64 k, .int .i64 m, .int .i64 u, .int .i64 g, .bool o, .slice h.aa at_.length h.ca, .string d, .slice h.ak ks.length h.ck] 25)).alloc (.cells #[.int .i64 0, .int .i64 0, .int .i64 0, .int .i64 0, .bool false, .slice none 0 0, .string ⟨#[]⟩, .slice none 0 0] 25)) ul cu ou hid1 (hu.below hB3)
  rw [HOU.out] at HC1
  obtain ⟨f0, f1, f2, f3, f4, f5, f6, f7⟩ := NB.1
  show Calls Try.prog 84 #[.agg #[.slice ua us.length uc, .slice ga gs.length gc], .agg #[.int .i64 k, .int .i64 m, .int .i64 u, .int .i64 g, .bool o, .slice h.aa at_.length h.ca, .string d, .slice h.ak ks.length h.ck], .func (.func 86) #[] #[]] W _
  go_enter Try.func84, Try.ntmps84
  go_wp2_with fail
  refine Calls.mono HC1.out ?_
  rintro e w4 ⟨rfl, hB4⟩
  have hB04 := hB3.trans (hB4.mono hB3.size)
  have NB := NB.below hB4
  have RB := RB.below hB4
  have c1 := mle_below hB4 _ _ c1
  have HC2 : Hid _ := toHost_any ga gc gs g w4 gl cg og hid2 (hg.below hB04)
  rw [HOG.out] at HC2
  have hz4 : W.heap.size + 1 + 1 + 1 ≤ w4.heap.size := by have := hB4.size; omega
  clear f0 f1 f2 f3 f4 f5 f6 f7 c0 HC1 hB3 hB4 hu hg ul gl cu cg ou og hz3
  obtain ⟨f0, f1, f2, f3, f4, f5, f6, f7⟩ := NB.1
  cases OU with
  | none =>
    rw [optV_none]
    go_wp2_with fail
    refine Calls.mono HC2.out ?_
    rintro e w5 ⟨rfl, hB5⟩
    have hB05 := hB04.trans (hB5.mono hB04.size)
    have NB := NB.below hB5
    have RB := RB.below hB5
    clear f0 f1 f2 f3 f4 f5 f6 f7 c1 HC2 hB04
    cases OG with
    | none =>
      rw [optV_none]
      obtain ⟨⟨f0, f1, f2, f3, f4, f5, f6, f7⟩, ff⟩ := RB
      have z0 := ff 0
      have z1 := ff 1
      have z2 := ff 2
      have z3 := ff 3
      have z4 := ff 4
      have z5 := ff 5
      have z6 := ff 6
      have z7 := ff 7
      have R3 := NBw.store (w := w5) (b := (W.heap.size + 1 + 1)) (y := zN) (h' := zH) ⟨⟨f0, f1, f2, f3, f4, f5, f6, f7⟩, ff⟩ zN zH
      have hB3 : Below W.heap.size W (stB w5 (W.heap.size + 1 + 1) zN zH) := hB05.trans (stB_but.below (by omega) hB05.size)
      go_wp2
      obtain ⟨W6, HW6⟩ : ∃ W6, Hid (stB w5 (W.heap.size + 1 + 1) zN zH = W6) := ⟨_, rfl⟩
      rw [HW6.out] at R3 hB3
      have hw6 := HW6.out
      simp only [stB, zN, zH] at hw6
      simp only [List.length_nil] at hw6
      rw [hw6]
      obtain ⟨r0, r1, r2, r3, r4, r5, r6, r7⟩ := R3.1
      refine bodyPost_ret (v := .tuple #[ndV zN zH, .iface 96 (.int .i64 11)]) (by simp [results, Try.results84, go_sem, ndV, zN, zH, r0, r1, r2, r3, r4, r5, r6, r7]) rfl ⟨rfl, hB3⟩
    | some g' =>
      rw [optV_some]
      obtain ⟨⟨f0, f1, f2, f3, f4, f5, f6, f7⟩, ff⟩ := RB
      have z0 := ff 0
      have z1 := ff 1
      have z2 := ff 2
      have z3 := ff 3
      have z4 := ff 4
      have z5 := ff 5
      have z6 := ff 6
      have z7 := ff 7
      have R3 := NBw.store (w := w5) (b := (W.heap.size + 1 + 1)) (y := zN) (h' := zH) ⟨⟨f0, f1, f2, f3, f4, f5, f6, f7⟩, ff⟩ zN zH
      have hB3 : Below W.heap.size W (stB w5 (W.heap.size + 1 + 1) zN zH) := hB05.trans (stB_but.below (by omega) hB05.size)
      go_wp2
      obtain ⟨W6, HW6⟩ : ∃ W6, Hid (stB w5 (W.heap.size + 1 + 1) zN zH = W6) := ⟨_, rfl⟩
      rw [HW6.out] at R3 hB3
      have hw6 := HW6.out
      simp only [stB, zN, zH] at hw6
      simp only [List.length_nil] at hw6
      rw [hw6]
      obtain ⟨r0, r1, r2, r3, r4, r5, r6, r7⟩ := R3.1
      refine bodyPost_ret (v := .tuple #[ndV zN zH, .iface 96 (.int .i64 11)]) (by simp [results, Try.results84, go_sem, ndV, zN, zH, r0, r1, r2, r3, r4, r5, r6, r7]) rfl ⟨rfl, hB3⟩
  
  | some u' =>
    rw [optV_some]
    go_wp2_with fail
    refine Calls.mono HC2.out ?_
    rintro e w5 ⟨rfl, hB5⟩
    have hB05 := hB04.trans (hB5.mono hB04.size)
    have NB := NB.below hB5
    have RB := RB.below hB5
    clear f0 f1 f2 f3 f4 f5 f6 f7 c1 HC2 hB04
    cases OG with
    | none =>
      rw [optV_none]
      obtain ⟨⟨f0, f1, f2, f3, f4, f5, f6, f7⟩, ff⟩ := RB
      have z0 := ff 0
      have z1 := ff 1
      have z2 := ff 2
      have z3 := ff 3
      have z4 := ff 4
      have z5 := ff 5
      have z6 := ff 6
      have z7 := ff 7
      have R3 := NBw.store (w := w5) (b := (W.heap.size + 1 + 1)) (y := zN) (h' := zH) ⟨⟨f0, f1, f2, f3, f4, f5, f6, f7⟩, ff⟩ zN zH
      have hB3 : Below W.heap.size W (stB w5 (W.heap.size + 1 + 1) zN zH) := hB05.trans (stB_but.below (by omega) hB05.size)
      go_wp2
      obtain ⟨W6, HW6⟩ : ∃ W6, Hid (stB w5 (W.heap.size + 1 + 1) zN zH = W6) := ⟨_, rfl⟩
      rw [HW6.out] at R3 hB3
      have hw6 := HW6.out
      simp only [stB, zN, zH] at hw6
      simp only [List.length_nil] at hw6
      rw [hw6]
      obtain ⟨r0, r1, r2, r3, r4, r5, r6, r7⟩ := R3.1
      refine bodyPost_ret (v := .tuple #[ndV zN zH, .iface 96 (.int .i64 11)]) (by simp [results, Try.results84, go_sem, ndV, zN, zH, r0, r1, r2, r3, r4, r5, r6, r7]) rfl ⟨rfl, hB3⟩
    | some g' =>
      rw [optV_some]
      have hB6 : Below W.heap.size W ((w5.setCell ⟨(W.heap.size + 1), 2, none⟩ (.int .i64 u')).setCell ⟨(W.heap.size + 1), 3, none⟩ (.int .i64 g')) := (hB05.setCell (p := ⟨(W.heap.size + 1), 2, none⟩) (by show W.heap.size ≤ W.heap.size + 1; omega) _).setCell (p := ⟨(W.heap.size + 1), 3, none⟩) (by show W.heap.size ≤ W.heap.size + 1; omega) _
      have NB6 := NB.ids u' g'
      have RB6 : NBw ((w5.setCell ⟨(W.heap.size + 1), 2, none⟩ (.int .i64 u')).setCell ⟨(W.heap.size + 1), 3, none⟩ (.int .i64 g')) (W.heap.size + 1 + 1) zN zH := (RB.other (by show W.heap.size + 1 ≠ W.heap.size + 1 + 1; omega) _).other (by show W.heap.size + 1 ≠ W.heap.size + 1 + 1; omega) _
      have hsz6 : ((w5.setCell ⟨(W.heap.size + 1), 2, none⟩ (.int .i64 u')).setCell ⟨(W.heap.size + 1), 3, none⟩ (.int .i64 g')).heap.size = w5.heap.size := by simp
      have HO : Hid _ := own_any (W := ((w5.setCell ⟨(W.heap.size + 1), 2, none⟩ (.int .i64 u')).setCell ⟨(W.heap.size + 1), 3, none⟩ (.int .i64 g'))) (S := (fun k => k == W.heap.size || k == W.heap.size + 1 || k == W.heap.size + 1 + 1 || S k)) (x := (.mk k m u' g' o at_ d ks)) (h := h) (fun q hq => by
        rw [hsz6]
        have e5 := hB5.size
        simp at hq
        rcases hq with ((e | e) | e) | e
        · omega
        · omega
        · omega
        · have := hS0 q e; omega) ((nd_ids hN).on (mle_step fun q hq hs => ⟨by simp [hs]; omega, hB6.block q hq⟩)) (lim_ids hlim) (by rw [cnt_ids (u := u) (g := g)]; exact hcnt)
      have g0 := NB.2 2
      have g1 := NB.2 3
      obtain ⟨f0, f1, f2, f3, f4, f5, f6, f7⟩ := NB.1
      go_wp2_with fail
      refine Calls.mono HO.out ?_
      rintro e w7 ⟨⟨hx, rfl, hN7⟩, hB7⟩
      have RB7 := RB6.below hB7
      have hB07 := hB6.trans (hB7.mono hB6.size)
      have R8 := RB7.store (.mk k m u' g' o at_ d ks) hx
      have hB8 : Below W.heap.size W (stB w7 (W.heap.size + 1 + 1) (.mk k m u' g' o at_ d ks) hx) := hB07.trans (stB_but.below (by omega) hB07.size)
      have HN8 : Hid (NdV (offS (stB w7 (W.heap.size + 1 + 1) (.mk k m u' g' o at_ d ks) hx).cell? S) (.mk k m u' g' o at_ d ks) hx) := hN7.on (mle_step fun q hq hs => by
        simp at hs
        exact ⟨hs.2, stB_but.block q hq hs.1.2⟩)
      clear f0 f1 f2 f3 f4 f5 f6 f7 g0 g1 HO NB NB6 RB RB6 hN7 hB7 hB6 hB5 hB05 hsz6
      have z0 := RB7.2 0
      have z1 := RB7.2 1
      have z2 := RB7.2 2
      have z3 := RB7.2 3
      have z4 := RB7.2 4
      have z5 := RB7.2 5
      have z6 := RB7.2 6
      have z7 := RB7.2 7
      obtain ⟨f0, f1, f2, f3, f4, f5, f6, f7⟩ := RB7.1
      rw [show ndV (.mk k m u' g' o at_ d ks) hx = .agg #[.int .i64 k, .int .i64 m, .int .i64 u', .int .i64 g', .bool o, .slice hx.aa at_.length hx.ca, .string d, .slice hx.ak ks.length hx.ck] from rfl]
      go_wp2
      obtain ⟨W9, HW9⟩ : ∃ W9, Hid (stB w7 (W.heap.size + 1 + 1) (.mk k m u' g' o at_ d ks) hx = W9) := ⟨_, rfl⟩
      rw [HW9.out] at R8 hB8 HN8
      have hw9 := HW9.out
      simp only [stB] at hw9
      rw [hw9]
      obtain ⟨r0, r1, r2, r3, r4, r5, r6, r7⟩ := R8.1
      refine bodyPost_ret (v := .tuple #[ndV (.mk k m u' g' o at_ d ks) hx, .nilIface]) (by simp [results, Try.results84, go_sem, ndV, r0, r1, r2, r3, r4, r5, r6, r7]) rfl ⟨⟨hx, rfl, HN8.out⟩, hB8⟩

set_option maxRecDepth 100000 in
set_option maxHeartbeats 2000000 in
theorem cacrossFrom {W : World} {S : Nat → Bool} (hS0 : ∀ k, S k = true → k < W.heap.size) {x : Nd} {h : Hd} (hN : NdV (offS W.cell? S) x h) (hlim : Lim x) (hcnt : cnt x ≤ 1000) (hid : IdT x) {M : MapsV} (hM : MapsOk W M) :
    Calls Try.prog 84 #[M.v, ndV x h, .func (.func 85) #[] #[]] W fun e W' => MvE W W' S e (mvF false M.us M.gs x) := by
  obtain ⟨k, m, u, g, o, at_, d, ks⟩ := x
  obtain ⟨ua, ga, uc, gc, us, gs⟩ := M
  obtain ⟨hu, hg, ul, gl, cu, cg, ou, og⟩ := hM
  dsimp only at hu hg ul gl cu cg ou og
  obtain ⟨hid1, hid2⟩ := hid
  obtain ⟨OU, HOU⟩ : ∃ OU, Hid (fromM us u = OU) := ⟨_, rfl⟩
  obtain ⟨OG, HOG⟩ : ∃ OG, Hid (fromM gs g = OG) := ⟨_, rfl⟩
  have HMV : Hid (mvF false us gs (.mk k m u g o at_ d ks) = mvO OU OG k m o at_ d ks) := by show _ = _; rw [← HOU.out, ← HOG.out]; rfl
  rw [HMV.out]
  clear HMV
  obtain ⟨c0, c1, NB, RB, hB3, hz3⟩ := three_boxes W _ _ _ ua ga us.length gs.length uc gc k m u g o at_ d ks h rfl rfl rfl
  have HC1 : Hid _ := fromHost_any ua uc us u (((W.alloc (.cells #[.slice ua us.length uc, .slice ga gs.length gc] 62)).alloc (.cells #[.int .i64 k, .int .i64 m, .int .i64 u, .int .i64 g, .bool o, .slice h.aa at_.length h.ca, .string d, .slice h.ak ks.length h.ck] 25)).alloc (.cells #[.int .i64 0, .int .i64 0, .int .i64 0, .int .i64 0, .bool false, .slice none 0 0, .string ⟨#[]⟩, .slice none 0 0] 25)) ul cu ou hid1 (hu.below hB3)
  rw [HOU.out] at HC1
  obtain ⟨f0, f1, f2, f3, f4, f5, f6, f7⟩ := NB.1
  show Calls Try.prog 84 #[.agg #[.slice ua us.length uc, .slice ga gs.length gc], .agg #[.int .i64 k, .int .i64 m, .int .i64 u, .int .i64 g, .bool o, .slice h.aa at_.length h.ca, .string d, .slice h.ak ks.length h.ck], .func (.func 85) #[] #[]] W _
  go_enter Try.func84, Try.ntmps84
  go_wp2_with fail
  refine Calls.mono HC1.out ?_
  rintro e w4 ⟨rfl, hB4⟩
  have hB04 := hB3.trans (hB4.mono hB3.size)
  have NB := NB.below hB4
  have RB := RB.below hB4
  have c1 := mle_below hB4 _ _ c1
  have HC2 : Hid _ := fromHost_any ga gc gs g w4 gl cg og hid2 (hg.below hB04)
  rw [HOG.out] at HC2
  have hz4 : W.heap.size + 1 + 1 + 1 ≤ w4.heap.size := by have := hB4.size; omega
  clear f0 f1 f2 f3 f4 f5 f6 f7 c0 HC1 hB3 hB4 hu hg ul gl cu cg ou og hz3
  obtain ⟨f0, f1, f2, f3, f4, f5, f6, f7⟩ := NB.1
  cases OU with
  | none =>
    rw [optV_none]
    go_wp2_with fail
    refine Calls.mono HC2.out ?_
    rintro e w5 ⟨rfl, hB5⟩
    have hB05 := hB04.trans (hB5.mono hB04.size)
    have NB := NB.below hB5
    have RB := RB.below hB5
    clear f0 f1 f2 f3 f4 f5 f6 f7 c1 HC2 hB04
    cases OG with
    | none =>
      rw [optV_none]
      obtain ⟨⟨f0, f1, f2, f3, f4, f5, f6, f7⟩, ff⟩ := RB
      have z0 := ff 0
      have z1 := ff 1
      have z2 := ff 2
      have z3 := ff 3
      have z4 := ff 4
      have z5 := ff 5
      have z6 := ff 6
      have z7 := ff 7
      have R3 := NBw.store (w := w5) (b := (W.heap.size + 1 + 1)) (y := zN) (h' := zH) ⟨⟨f0, f1, f2, f3, f4, f5, f6, f7⟩, ff⟩ zN zH
      have hB3 : Below W.heap.size W (stB w5 (W.heap.size + 1 + 1) zN zH) := hB05.trans (stB_but.below (by omega) hB05.size)
      go_wp2
      obtain ⟨W6, HW6⟩ : ∃ W6, Hid (stB w5 (W.heap.size + 1 + 1) zN zH = W6) := ⟨_, rfl⟩
      rw [HW6.out] at R3 hB3
      have hw6 := HW6.out
      simp only [stB, zN, zH] at hw6
      simp only [List.length_nil] at hw6
      rw [hw6]
      obtain ⟨r0, r1, r2, r3, r4, r5, r6, r7⟩ := R3.1
      refine bodyPost_ret (v := .tuple #[ndV zN zH, .iface 96 (.int .i64 11)]) (by simp [results, Try.results84, go_sem, ndV, zN, zH, r0, r1, r2, r3, r4, r5, r6, r7]) rfl ⟨rfl, hB3⟩
    | some g' =>
      rw [optV_some]
      obtain ⟨⟨f0, f1, f2, f3, f4, f5, f6, f7⟩, ff⟩ := RB
      have z0 := ff 0
      have z1 := ff 1
      have z2 := ff 2
      have z3 := ff 3
      have z4 := ff 4
      have z5 := ff 5
      have z6 := ff 6
      have z7 := ff 7
      have R3 := NBw.store (w := w5) (b := (W.heap.size + 1 + 1)) (y := zN) (h' := zH) ⟨⟨f0, f1, f2, f3, f4, f5, f6, f7⟩, ff⟩ zN zH
      have hB3 : Below W.heap.size W (stB w5 (W.heap.size + 1 + 1) zN zH) := hB05.trans (stB_but.below (by omega) hB05.size)
      go_wp2
      obtain ⟨W6, HW6⟩ : ∃ W6, Hid (stB w5 (W.heap.size + 1 + 1) zN zH = W6) := ⟨_, rfl⟩
      rw [HW6.out] at R3 hB3
      have hw6 := HW6.out
      simp only [stB, zN, zH] at hw6
      simp only [List.length_nil] at hw6
      rw [hw6]
      obtain ⟨r0, r1, r2, r3, r4, r5, r6, r7⟩ := R3.1
      refine bodyPost_ret (v := .tuple #[ndV zN zH, .iface 96 (.int .i64 11)]) (by simp [results, Try.results84, go_sem, ndV, zN, zH, r0, r1, r2, r3, r4, r5, r6, r7]) rfl ⟨rfl, hB3⟩
  
  | some u' =>
    rw [optV_some]
    go_wp2_with fail
    refine Calls.mono HC2.out ?_
    rintro e w5 ⟨rfl, hB5⟩
    have hB05 := hB04.trans (hB5.mono hB04.size)
    have NB := NB.below hB5
    have RB := RB.below hB5
    clear f0 f1 f2 f3 f4 f5 f6 f7 c1 HC2 hB04
    cases OG with
    | none =>
      rw [optV_none]
      obtain ⟨⟨f0, f1, f2, f3, f4, f5, f6, f7⟩, ff⟩ := RB
      have z0 := ff 0
      have z1 := ff 1
      have z2 := ff 2
      have z3 := ff 3
      have z4 := ff 4
      have z5 := ff 5
      have z6 := ff 6
      have z7 := ff 7
      have R3 := NBw.store (w := w5) (b := (W.heap.size + 1 + 1)) (y := zN) (h' := zH) ⟨⟨f0, f1, f2, f3, f4, f5, f6, f7⟩, ff⟩ zN zH
      have hB3 : Below W.heap.size W (stB w5 (W.heap.size + 1 + 1) zN zH) := hB05.trans (stB_but.below (by omega) hB05.size)
      go_wp2
      obtain ⟨W6, HW6⟩ : ∃ W6, Hid (stB w5 (W.heap.size + 1 + 1) zN zH = W6) := ⟨_, rfl⟩
      rw [HW6.out] at R3 hB3
      have hw6 := HW6.out
      simp only [stB, zN, zH] at hw6
      simp only [List.length_nil] at hw6
      rw [hw6]
      obtain ⟨r0, r1, r2, r3, r4, r5, r6, r7⟩ := R3.1
      refine bodyPost_ret (v := .tuple #[ndV zN zH, .iface 96 (.int .i64 11)]) (by simp [results, Try.results84, go_sem, ndV, zN, zH, r0, r1, r2, r3, r4, r5, r6, r7]) rfl ⟨rfl, hB3⟩
    | some g' =>
      rw [optV_some]
      have hB6 : Below W.heap.size W ((w5.setCell ⟨(W.heap.size + 1), 2, none⟩ (.int .i64 u')).setCell ⟨(W.heap.size + 1), 3, none⟩ (.int .i64 g')) := (hB05.setCell (p := ⟨(W.heap.size + 1), 2, none⟩) (by show W.heap.size ≤ W.heap.size + 1; omega) _).setCell (p := ⟨(W.heap.size + 1), 3, none⟩) (by show W.heap.size ≤ W.heap.size + 1; omega) _
      have NB6 := NB.ids u' g'
      have RB6 : NBw ((w5.setCell ⟨(W.heap.size + 1), 2, none⟩ (.int .i64 u')).setCell ⟨(W.heap.size + 1), 3, none⟩ (.int .i64 g')) (W.heap.size + 1 + 1) zN zH := (RB.other (by show W.heap.size + 1 ≠ W.heap.size + 1 + 1; omega) _).other (by show W.heap.size + 1 ≠ W.heap.size + 1 + 1; omega) _
      have hsz6 : ((w5.setCell ⟨(W.heap.size + 1), 2, none⟩ (.int .i64 u')).setCell ⟨(W.heap.size + 1), 3, none⟩ (.int .i64 g')).heap.size = w5.heap.size := by simp
      have HO : Hid _ := own_any (W := ((w5.setCell ⟨(W.heap.size + 1), 2, none⟩ (.int .i64 u')).setCell ⟨(W.heap.size + 1), 3, none⟩ (.int .i64 g'))) (S := (fun k => k == W.heap.size || k == W.heap.size + 1 || k == W.heap.size + 1 + 1 || S k)) (x := (.mk k m u' g' o at_ d ks)) (h := h) (fun q hq => by
        rw [hsz6]
        have e5 := hB5.size
        simp at hq
        rcases hq with ((e | e) | e) | e
        · omega
        · omega
        · omega
        · have := hS0 q e; omega) ((nd_ids hN).on (mle_step fun q hq hs => ⟨by simp [hs]; omega, hB6.block q hq⟩)) (lim_ids hlim) (by rw [cnt_ids (u := u) (g := g)]; exact hcnt)
      have g0 := NB.2 2
      have g1 := NB.2 3
      obtain ⟨f0, f1, f2, f3, f4, f5, f6, f7⟩ := NB.1
      go_wp2_with fail
      refine Calls.mono HO.out ?_
      rintro e w7 ⟨⟨hx, rfl, hN7⟩, hB7⟩
      have RB7 := RB6.below hB7
      have hB07 := hB6.trans (hB7.mono hB6.size)
      have R8 := RB7.store (.mk k m u' g' o at_ d ks) hx
      have hB8 : Below W.heap.size W (stB w7 (W.heap.size + 1 + 1) (.mk k m u' g' o at_ d ks) hx) := hB07.trans (stB_but.below (by omega) hB07.size)
      have HN8 : Hid (NdV (offS (stB w7 (W.heap.size + 1 + 1) (.mk k m u' g' o at_ d ks) hx).cell? S) (.mk k m u' g' o at_ d ks) hx) := hN7.on (mle_step fun q hq hs => by
        simp at hs
        exact ⟨hs.2, stB_but.block q hq hs.1.2⟩)
      clear f0 f1 f2 f3 f4 f5 f6 f7 g0 g1 HO NB NB6 RB RB6 hN7 hB7 hB6 hB5 hB05 hsz6
      have z0 := RB7.2 0
      have z1 := RB7.2 1
      have z2 := RB7.2 2
      have z3 := RB7.2 3
      have z4 := RB7.2 4
      have z5 := RB7.2 5
      have z6 := RB7.2 6
      have z7 := RB7.2 7
      obtain ⟨f0, f1, f2, f3, f4, f5, f6, f7⟩ := RB7.1
      rw [show ndV (.mk k m u' g' o at_ d ks) hx = .agg #[.int .i64 k, .int .i64 m, .int .i64 u', .int .i64 g', .bool o, .slice hx.aa at_.length hx.ca, .string d, .slice hx.ak ks.length hx.ck] from rfl]
      go_wp2
      obtain ⟨W9, HW9⟩ : ∃ W9, Hid (stB w7 (W.heap.size + 1 + 1) (.mk k m u' g' o at_ d ks) hx = W9) := ⟨_, rfl⟩
      rw [HW9.out] at R8 hB8 HN8
      have hw9 := HW9.out
      simp only [stB] at hw9
      rw [hw9]
      obtain ⟨r0, r1, r2, r3, r4, r5, r6, r7⟩ := R8.1
      refine bodyPost_ret (v := .tuple #[ndV (.mk k m u' g' o at_ d ks) hx, .nilIface]) (by simp [results, Try.results84, go_sem, ndV, r0, r1, r2, r3, r4, r5, r6, r7]) rfl ⟨⟨hx, rfl, HN8.out⟩, hB8⟩
end Go.Proofs.Ytkkhfnkmfkdhiab

namespace Go.Proofs.Ytkkhfnkmfkdhiab
open Go.RowKit

set_option maxRecDepth 100000 in
set_option maxHeartbeats 2000000 in
theorem outside_co {W : World} {S : Nat → Bool} (hS0 : ∀ k, S k = true → k < W.heap.size) {x : Nd} {h : Hd} (hN : NdV (offS W.cell? S) x h) (hlim : Lim x) (hcnt : cnt x ≤ 1000) (hid : IdT x) {M : MapsV} (hM : MapsOk W M) :
    Calls Try.prog 43 #[M.v, ndV x h] W fun e W' => MvE W W' S e (mvF true M.us M.gs x) := by
  obtain ⟨OX, HOX⟩ : ∃ OX, Hid (mvF true M.us M.gs x = OX) := ⟨_, rfl⟩
  rw [HOX.out]
  obtain ⟨k, m, u, g, o, at_, d, ks⟩ := x
  obtain ⟨ua, ga, uc, gc, us, gs⟩ := M
  obtain ⟨c0, c1, NB, RB, hB3, hz3⟩ := three_boxes W _ _ _ ua ga us.length gs.length uc gc k m u g o at_ d ks h rfl rfl rfl
  have HC1 : Hid (Calls Try.prog 84 #[.agg #[.slice ua us.length uc, .slice ga gs.length gc], .agg #[.int .i64 k, .int .i64 m, .int .i64 u, .int .i64 g, .bool o, .slice h.aa at_.length h.ca, .string d, .slice h.ak ks.length h.ck], .func (.func 86) #[] #[]] (((W.alloc (.cells #[.slice ua us.length uc, .slice ga gs.length gc] 62)).alloc (.cells #[.int .i64 k, .int .i64 m, .int .i64 u, .int .i64 g, .bool o, .slice h.aa at_.length h.ca, .string d, .slice h.ak ks.length h.ck] 25)).alloc (.cells #[.int .i64 0, .int .i64 0, .int .i64 0, .int .i64 0, .bool false, .slice none 0 0, .string ⟨#[]⟩, .slice none 0 0] 25)) fun e W' => MvE (((W.alloc (.cells #[.slice ua us.length uc, .slice ga gs.length gc] 62)).alloc (.cells #[.int .i64 k, .int .i64 m, .int .i64 u, .int .i64 g, .bool o, .slice h.aa at_.length h.ca, .string d, .slice h.ak ks.length h.ck] 25)).alloc (.cells #[.int .i64 0, .int .i64 0, .int .i64 0, .int .i64 0, .bool false, .slice none 0 0, .string ⟨#[]⟩, .slice none 0 0] 25)) W' (fun k => k == W.heap.size + 1 + 1 || S k) e OX) := by
    have := cacrossTo (W := (((W.alloc (.cells #[.slice ua us.length uc, .slice ga gs.length gc] 62)).alloc (.cells #[.int .i64 k, .int .i64 m, .int .i64 u, .int .i64 g, .bool o, .slice h.aa at_.length h.ca, .string d, .slice h.ak ks.length h.ck] 25)).alloc (.cells #[.int .i64 0, .int .i64 0, .int .i64 0, .int .i64 0, .bool false, .slice none 0 0, .string ⟨#[]⟩, .slice none 0 0] 25))) (S := fun k => k == W.heap.size + 1 + 1 || S k) (M := ⟨ua, ga, uc, gc, us, gs⟩) (h := h) (fun q hq => by
      rw [hz3]
      simp at hq
      rcases hq with e | e
      · omega
      · have := hS0 q e; omega) (hN.on (mle_step fun q hq hs => ⟨by simp [hs]; omega, hB3.block q hq⟩)) hlim hcnt hid (hM.below hB3)
    rw [HOX.out] at this
    exact this
  obtain ⟨f0, f1, f2, f3, f4, f5, f6, f7⟩ := NB.1
  show Calls Try.prog 43 #[.agg #[.slice ua us.length uc, .slice ga gs.length gc], .agg #[.int .i64 k, .int .i64 m, .int .i64 u, .int .i64 g, .bool o, .slice h.aa at_.length h.ca, .string d, .slice h.ak ks.length h.ck]] W _
  clear hM HOX hN hlim hcnt hid
  go_enter Try.func43, Try.ntmps43
  go_wp2_with fail
  refine Calls.mono HC1.out ?_
  intro e w4 hE
  clear f0 f1 f2 f3 f4 f5 f6 f7 c0 c1 HC1 NB
  cases OX with
  | none =>
    obtain ⟨rfl, hB4⟩ := hE
    have RB := RB.below hB4
    have hB04 := hB3.trans (hB4.mono hB3.size)
    rw [show ndV zN zH = .agg #[.int .i64 0, .int .i64 0, .int .i64 0, .int .i64 0, .bool false, .slice none 0 0, .string ⟨#[]⟩, .slice none 0 0] from rfl]
    clear hB4 hB3
    obtain ⟨⟨f0, f1, f2, f3, f4, f5, f6, f7⟩, ff⟩ := RB
    have z0 := ff 0
    have z1 := ff 1
    have z2 := ff 2
    have z3 := ff 3
    have z4 := ff 4
    have z5 := ff 5
    have z6 := ff 6
    have z7 := ff 7
    have R3 := NBw.store (w := w4) (b := (W.heap.size + 1 + 1)) (y := zN) (h' := zH) ⟨⟨f0, f1, f2, f3, f4, f5, f6, f7⟩, ff⟩ zN zH
    have hB3 : Below W.heap.size W (stB w4 (W.heap.size + 1 + 1) zN zH) := hB04.trans (stB_but.below (by omega) hB04.size)
    go_wp2
    obtain ⟨W6, HW6⟩ : ∃ W6, Hid (stB w4 (W.heap.size + 1 + 1) zN zH = W6) := ⟨_, rfl⟩
    rw [HW6.out] at R3 hB3
    have hw6 := HW6.out
    simp only [stB, zN, zH] at hw6
    simp only [List.length_nil] at hw6
    rw [hw6]
    obtain ⟨r0, r1, r2, r3, r4, r5, r6, r7⟩ := R3.1
    refine bodyPost_ret (v := .tuple #[ndV zN zH, .iface 96 (.int .i64 11)]) (by simp [results, Try.results43, go_sem, ndV, zN, zH, r0, r1, r2, r3, r4, r5, r6, r7]) rfl ⟨rfl, hB3⟩
  | some y =>
    obtain ⟨⟨hx, rfl, hN4⟩, hB4⟩ := hE
    obtain ⟨k, m, u, g, o, at_, d, ks⟩ := y
    have RB := RB.below hB4
    have hB04 := hB3.trans (hB4.mono hB3.size)
    have R8 := RB.store (.mk k m u g o at_ d ks) hx
    have hB8 : Below W.heap.size W (stB w4 (W.heap.size + 1 + 1) (.mk k m u g o at_ d ks) hx) := hB04.trans (stB_but.below (by omega) hB04.size)
    have HN8 : Hid (NdV (offS (stB w4 (W.heap.size + 1 + 1) (.mk k m u g o at_ d ks) hx).cell? S) (.mk k m u g o at_ d ks) hx) := hN4.on (mle_step fun q hq hs => by
      simp at hs
      exact ⟨hs.2, stB_but.block q hq hs.1⟩)
    clear hN4 hB4 hB3 hB04
    have z0 := RB.2 0
    have z1 := RB.2 1
    have z2 := RB.2 2
    have z3 := RB.2 3
    have z4 := RB.2 4
    have z5 := RB.2 5
    have z6 := RB.2 6
    have z7 := RB.2 7
    obtain ⟨f0, f1, f2, f3, f4, f5, f6, f7⟩ := RB.1
    rw [show ndV (.mk k m u g o at_ d ks) hx = .agg #[.int .i64 k, .int .i64 m, .int .i64 u, .int .i64 g, .bool o, .slice hx.aa at_.length hx.ca, .string d, .slice hx.ak ks.length hx.ck] from rfl]
    go_wp2
    obtain ⟨W9, HW9⟩ : ∃ W9, Hid (stB w4 (W.heap.size + 1 + 1) (.mk k m u g o at_ d ks) hx = W9) := ⟨_, rfl⟩
    rw [HW9.out] at R8 hB8 HN8
    have hw9 := HW9.out
    simp only [stB] at hw9
    rw [hw9]
    obtain ⟨r0, r1, r2, r3, r4, r5, r6, r7⟩ := R8.1
    refine bodyPost_ret (v := .tuple #[ndV (.mk k m u g o at_ d ks) hx, .nilIface]) (by simp [results, Try.results43, go_sem, ndV, r0, r1, r2, r3, r4, r5, r6, r7]) rfl ⟨⟨hx, rfl, HN8.out⟩, hB8⟩

set_option maxRecDepth 100000 in
set_option maxHeartbeats 2000000 in
theorem inside_co {W : World} {S : Nat → Bool} (hS0 : ∀ k, S k = true → k < W.heap.size) {x : Nd} {h : Hd} (hN : NdV (offS W.cell? S) x h) (hlim : Lim x) (hcnt : cnt x ≤ 1000) (hid : IdT x) {M : MapsV} (hM : MapsOk W M) :
    Calls Try.prog 42 #[M.v, ndV x h] W fun e W' => MvE W W' S e (mvF false M.us M.gs x) := by
  obtain ⟨OX, HOX⟩ : ∃ OX, Hid (mvF false M.us M.gs x = OX) := ⟨_, rfl⟩
  rw [HOX.out]
  obtain ⟨k, m, u, g, o, at_, d, ks⟩ := x
  obtain ⟨ua, ga, uc, gc, us, gs⟩ := M
  obtain ⟨c0, c1, NB, RB, hB3, hz3⟩ := three_boxes W _ _ _ ua ga us.length gs.length uc gc k m u g o at_ d ks h rfl rfl rfl
  have HC1 : Hid (Calls Try.prog 84 #[.agg #[.slice ua us.length uc, .slice ga gs.length gc], .agg #[.int .i64 k, .int .i64 m, .int .i64 u, .int .i64 g, .bool o, .slice h.aa at_.length h.ca, .string d, .slice h.ak ks.length h.ck], .func (.func 85) #[] #[]] (((W.alloc (.cells #[.slice ua us.length uc, .slice ga gs.length gc] 62)).alloc (.cells #[.int .i64 k, .int .i64 m, .int .i64 u, .int .i64 g, .bool o, .slice h.aa at_.length h.ca, .string d, .slice h.ak ks.length h.ck] 25)).alloc (.cells #[.int .i64 0, .int .i64 0, .int .i64 0, .int .i64 0, .bool false, .slice none 0 0, .string ⟨#[]⟩, .slice none 0 0] 25)) fun e W' => MvE (((W.alloc (.cells #[.slice ua us.length uc, .slice ga gs.length gc] 62)).alloc (.cells #[.int .i64 k, .int .i64 m, .int .i64 u, .int .i64 g, .bool o, .slice h.aa at_.length h.ca, .string d, .slice h.ak ks.length h.ck] 25)).alloc (.cells #[.int .i64 0, .int .i64 0, .int .i64 0, .int .i64 0, .bool false, .slice none 0 0, .string ⟨#[]⟩, .slice none 0 0] 25)) W' (fun k => k == W.heap.size + 1 + 1 || S k) e OX) := by
    have := cacrossFrom (W := (((W.alloc (.cells #[.slice ua us.length uc, .slice ga gs.length gc] 62)).alloc (.cells #[.int .i64 k, .int .i64 m, .int .i64 u, .int .i64 g, .bool o, .slice h.aa at_.length h.ca, .string d, .slice h.ak ks.length h.ck] 25)).alloc (.cells #[.int .i64 0, .int .i64 0, .int .i64 0, .int .i64 0, .bool false, .slice none 0 0, .string ⟨#[]⟩, .slice none 0 0] 25))) (S := fun k => k == W.heap.size + 1 + 1 || S k) (M := ⟨ua, ga, uc, gc, us, gs⟩) (h := h) (fun q hq => by
      rw [hz3]
      simp at hq
      rcases hq with e | e
      · omega
      · have := hS0 q e; omega) (hN.on (mle_step fun q hq hs => ⟨by simp [hs]; omega, hB3.block q hq⟩)) hlim hcnt hid (hM.below hB3)
    rw [HOX.out] at this
    exact this
  obtain ⟨f0, f1, f2, f3, f4, f5, f6, f7⟩ := NB.1
  show Calls Try.prog 42 #[.agg #[.slice ua us.length uc, .slice ga gs.length gc], .agg #[.int .i64 k, .int .i64 m, .int .i64 u, .int .i64 g, .bool o, .slice h.aa at_.length h.ca, .string d, .slice h.ak ks.length h.ck]] W _
  clear hM HOX hN hlim hcnt hid
  go_enter Try.func42, Try.ntmps42
  go_wp2_with fail
  refine Calls.mono HC1.out ?_
  intro e w4 hE
  clear f0 f1 f2 f3 f4 f5 f6 f7 c0 c1 HC1 NB
  cases OX with
  | none =>
    obtain ⟨rfl, hB4⟩ := hE
    have RB := RB.below hB4
    have hB04 := hB3.trans (hB4.mono hB3.size)
    rw [show ndV zN zH = .agg #[.int .i64 0, .int .i64 0, .int .i64 0, .int .i64 0, .bool false, .slice none 0 0, .string ⟨#[]⟩, .slice none 0 0] from rfl]
    clear hB4 hB3
    obtain ⟨⟨f0, f1, f2, f3, f4, f5, f6, f7⟩, ff⟩ := RB
    have z0 := ff 0
    have z1 := ff 1
    have z2 := ff 2
    have z3 := ff 3
    have z4 := ff 4
    have z5 := ff 5
    have z6 := ff 6
    have z7 := ff 7
    have R3 := NBw.store (w := w4) (b := (W.heap.size + 1 + 1)) (y := zN) (h' := zH) ⟨⟨f0, f1, f2, f3, f4, f5, f6, f7⟩, ff⟩ zN zH
    have hB3 : Below W.heap.size W (stB w4 (W.heap.size + 1 + 1) zN zH) := hB04.trans (stB_but.below (by omega) hB04.size)
    go_wp2
    obtain ⟨W6, HW6⟩ : ∃ W6, Hid (stB w4 (W.heap.size + 1 + 1) zN zH = W6) := ⟨_, rfl⟩
    rw [HW6.out] at R3 hB3
    have hw6 := HW6.out
    simp only [stB, zN, zH] at hw6
    simp only [List.length_nil] at hw6
    rw [hw6]
    obtain ⟨r0, r1, r2, r3, r4, r5, r6, r7⟩ := R3.1
    refine bodyPost_ret (v := .tuple #[ndV zN zH, .iface 96 (.int .i64 11)]) (by simp [results, Try.results42, go_sem, ndV, zN, zH, r0, r1, r2, r3, r4, r5, r6, r7]) rfl ⟨rfl, hB3⟩
  | some y =>
    obtain ⟨⟨hx, rfl, hN4⟩, hB4⟩ := hE
    obtain ⟨k, m, u, g, o, at_, d, ks⟩ := y
    have RB := RB.below hB4
    have hB04 := hB3.trans (hB4.mono hB3.size)
    have R8 := RB.store (.mk k m u g o at_ d ks) hx
    have hB8 : Below W.heap.size W (stB w4 (W.heap.size + 1 + 1) (.mk k m u g o at_ d ks) hx) := hB04.trans (stB_but.below (by omega) hB04.size)
    have HN8 : Hid (NdV (offS (stB w4 (W.heap.size + 1 + 1) (.mk k m u g o at_ d ks) hx).cell? S) (.mk k m u g o at_ d ks) hx) := hN4.on (mle_step fun q hq hs => by
      simp at hs
      exact ⟨hs.2, stB_but.block q hq hs.1⟩)
    clear hN4 hB4 hB3 hB04
    have z0 := RB.2 0
    have z1 := RB.2 1
    have z2 := RB.2 2
    have z3 := RB.2 3
    have z4 := RB.2 4
    have z5 := RB.2 5
    have z6 := RB.2 6
    have z7 := RB.2 7
    obtain ⟨f0, f1, f2, f3, f4, f5, f6, f7⟩ := RB.1
    rw [show ndV (.mk k m u g o at_ d ks) hx = .agg #[.int .i64 k, .int .i64 m, .int .i64 u, .int .i64 g, .bool o, .slice hx.aa at_.length hx.ca, .string d, .slice hx.ak ks.length hx.ck] from rfl]
    go_wp2
    obtain ⟨W9, HW9⟩ : ∃ W9, Hid (stB w4 (W.heap.size + 1 + 1) (.mk k m u g o at_ d ks) hx = W9) := ⟨_, rfl⟩
    rw [HW9.out] at R8 hB8 HN8
    have hw9 := HW9.out
    simp only [stB] at hw9
    rw [hw9]
    obtain ⟨r0, r1, r2, r3, r4, r5, r6, r7⟩ := R8.1
    refine bodyPost_ret (v := .tuple #[ndV (.mk k m u g o at_ d ks) hx, .nilIface]) (by simp [results, Try.results42, go_sem, ndV, r0, r1, r2, r3, r4, r5, r6, r7]) rfl ⟨⟨hx, rfl, HN8.out⟩, hB8⟩

def MvR (W W' : World) (S : Nat → Bool) (e : Ending) : Option Nd → Prop
  | none => e = .returned (.tuple #[ndV zN zH, .bool false]) ∧ Below W.heap.size W W'
  | some y => (∃ h', e = .returned (.tuple #[ndV y h', .bool true]) ∧ NdV (offS W'.cell? S) y h') ∧ Below W.heap.size W W'

set_option maxRecDepth 100000 in
set_option maxHeartbeats 4000000 in
theorem rmoved_false {W : World} {S : Nat → Bool} {x : Nd} {h : Hd} (hN : NdV (offS W.cell? S) x h) (_hS0 : ∀ k, S k = true → k < W.heap.size) (hid : IdT x) {M : MapsV} (hM : MapsOk W M) :
    Calls Try.prog 44 #[M.v, ndV x h, .bool false] W fun e W' => MvR W W' S e (mvF false M.us M.gs x) := by
  obtain ⟨k, m, u, g, o, at_, d, ks⟩ := x
  obtain ⟨ua, ga, uc, gc, us, gs⟩ := M
  obtain ⟨Rus, Rgs, ul, gl, cu, cg, ou, og⟩ := hM
  dsimp only at Rus Rgs ul gl cu cg ou og
  obtain ⟨hid1, hid2⟩ := hid
  obtain ⟨FU, HFU⟩ : ∃ OU, Hid (fromM us u = OU) := ⟨_, rfl⟩
  obtain ⟨FG, HFG⟩ : ∃ OG, Hid (fromM gs g = OG) := ⟨_, rfl⟩
  have HMV : Hid (mvF false us gs (.mk k m u g o at_ d ks) = mvO FU FG k m o at_ d ks) := by show _ = _; rw [← HFU.out, ← HFG.out]; rfl
  rw [HMV.out]
  clear HMV
  obtain ⟨c0, c1, NB, RB, hB3, hz3⟩ := three_boxes W _ _ _ ua ga us.length gs.length uc gc k m u g o at_ d ks h rfl rfl rfl
  obtain ⟨f0, f1, f2, f3, f4, f5, f6, f7⟩ := NB.1
  have hz : W.heap.size < W.heap.size + 1 + 1 := by omega
  show Calls Try.prog 44 #[.agg #[.slice ua us.length uc, .slice ga gs.length gc], .agg #[.int .i64 k, .int .i64 m, .int .i64 u, .int .i64 g, .bool o, .slice h.aa at_.length h.ca, .string d, .slice h.ak ks.length h.ck], .bool false] W _
  clear hz3 cu cg
  go_enter Try.func44, Try.ntmps44
  go_wp2_with fail
  refine Calls.mono (rFromHost_any ua uc us u _ ul ou hid1 (Rus.below hB3) FU HFU) ?_
  rintro e w4 ⟨rfl, hq⟩
  have hB4 := hB3.trans (hq.mono hB3.size)
  have NB := NB.below hq
  have RB := RB.below hq
  have c0 := mle_below hq _ _ c0
  have c1 := mle_below hq _ _ c1
  clear f0 f1 f2 f3 f4 f5 f6 f7 hq hB3
  obtain ⟨f0, f1, f2, f3, f4, f5, f6, f7⟩ := NB.1
  rw [show optV FU = .tuple #[.int .i64 (FU.getD 0), .bool FU.isSome] from rfl]
  go_wp2_with fail
  refine Calls.mono (rFromHost_any ga gc gs g _ gl og hid2 (Rgs.below hB4) FG HFG) ?_
  rintro e w5 ⟨rfl, hq⟩
  have hB5 := hB4.trans (hq.mono hB4.size)
  have NB := NB.below hq
  have RB := RB.below hq
  have c0 := mle_below hq _ _ c0
  have c1 := mle_below hq _ _ c1
  clear f0 f1 f2 f3 f4 f5 f6 f7 hq hB4
  obtain ⟨f0, f1, f2, f3, f4, f5, f6, f7⟩ := NB.1
  rw [show optV FG = .tuple #[.int .i64 (FG.getD 0), .bool FG.isSome] from rfl]
  simp only [Option.getD, Option.isSome]
  cases FU with
  | none =>
    cases FG with
    | none =>
      clear f0 f1 f2 f3 f4 f5 f6 f7 NB
      obtain ⟨⟨f0, f1, f2, f3, f4, f5, f6, f7⟩, ff⟩ := RB
      have z0 := ff 0
      have z1 := ff 1
      have z2 := ff 2
      have z3 := ff 3
      have z4 := ff 4
      have z5 := ff 5
      have z6 := ff 6
      have z7 := ff 7
      have R3 := NBw.store (w := w5) (b := (W.heap.size + 1 + 1)) (y := zN) (h' := zH) ⟨⟨f0, f1, f2, f3, f4, f5, f6, f7⟩, ff⟩ zN zH
      have hB3 : Below W.heap.size W (stB w5 (W.heap.size + 1 + 1) zN zH) := hB5.trans (stB_but.below (by omega) hB5.size)
      go_wp2
      obtain ⟨W6, HW6⟩ : ∃ W6, Hid (stB w5 (W.heap.size + 1 + 1) zN zH = W6) := ⟨_, rfl⟩
      rw [HW6.out] at R3 hB3
      have hw6 := HW6.out
      simp only [stB, zN, zH] at hw6
      simp only [List.length_nil] at hw6
      rw [hw6]
      obtain ⟨r0, r1, r2, r3, r4, r5, r6, r7⟩ := R3.1
      refine bodyPost_ret (v := .tuple #[ndV zN zH, .bool false]) (by simp [results, Try.results44, go_sem, ndV, zN, zH, r0, r1, r2, r3, r4, r5, r6, r7]) rfl ⟨rfl, hB3⟩
    | some g' =>
      clear f0 f1 f2 f3 f4 f5 f6 f7 NB
      obtain ⟨⟨f0, f1, f2, f3, f4, f5, f6, f7⟩, ff⟩ := RB
      have z0 := ff 0
      have z1 := ff 1
      have z2 := ff 2
      have z3 := ff 3
      have z4 := ff 4
      have z5 := ff 5
      have z6 := ff 6
      have z7 := ff 7
      have R3 := NBw.store (w := w5) (b := (W.heap.size + 1 + 1)) (y := zN) (h' := zH) ⟨⟨f0, f1, f2, f3, f4, f5, f6, f7⟩, ff⟩ zN zH
      have hB3 : Below W.heap.size W (stB w5 (W.heap.size + 1 + 1) zN zH) := hB5.trans (stB_but.below (by omega) hB5.size)
      go_wp2
      obtain ⟨W6, HW6⟩ : ∃ W6, Hid (stB w5 (W.heap.size + 1 + 1) zN zH = W6) := ⟨_, rfl⟩
      rw [HW6.out] at R3 hB3
      have hw6 := HW6.out
      simp only [stB, zN, zH] at hw6
      simp only [List.length_nil] at hw6
      rw [hw6]
      obtain ⟨r0, r1, r2, r3, r4, r5, r6, r7⟩ := R3.1
      refine bodyPost_ret (v := .tuple #[ndV zN zH, .bool false]) (by simp [results, Try.results44, go_sem, ndV, zN, zH, r0, r1, r2, r3, r4, r5, r6, r7]) rfl ⟨rfl, hB3⟩
  | some u' =>
    cases FG with
    | none =>
      clear f0 f1 f2 f3 f4 f5 f6 f7 NB
      obtain ⟨⟨f0, f1, f2, f3, f4, f5, f6, f7⟩, ff⟩ := RB
      have z0 := ff 0
      have z1 := ff 1
      have z2 := ff 2
      have z3 := ff 3
      have z4 := ff 4
      have z5 := ff 5
      have z6 := ff 6
      have z7 := ff 7
      have R3 := NBw.store (w := w5) (b := (W.heap.size + 1 + 1)) (y := zN) (h' := zH) ⟨⟨f0, f1, f2, f3, f4, f5, f6, f7⟩, ff⟩ zN zH
      have hB3 : Below W.heap.size W (stB w5 (W.heap.size + 1 + 1) zN zH) := hB5.trans (stB_but.below (by omega) hB5.size)
      go_wp2
      obtain ⟨W6, HW6⟩ : ∃ W6, Hid (stB w5 (W.heap.size + 1 + 1) zN zH = W6) := ⟨_, rfl⟩
      rw [HW6.out] at R3 hB3
      have hw6 := HW6.out
      simp only [stB, zN, zH] at hw6
      simp only [List.length_nil] at hw6
      rw [hw6]
      obtain ⟨r0, r1, r2, r3, r4, r5, r6, r7⟩ := R3.1
      refine bodyPost_ret (v := .tuple #[ndV zN zH, .bool false]) (by simp [results, Try.results44, go_sem, ndV, zN, zH, r0, r1, r2, r3, r4, r5, r6, r7]) rfl ⟨rfl, hB3⟩
    | some g' =>
      have NB6 := NB.ids u' g'
      have RB6 : NBw ((w5.setCell ⟨(W.heap.size + 1), 2, none⟩ (.int .i64 u')).setCell ⟨(W.heap.size + 1), 3, none⟩ (.int .i64 g')) (W.heap.size + 1 + 1) zN zH := (RB.other (by show W.heap.size + 1 ≠ W.heap.size + 1 + 1; omega) _).other (by show W.heap.size + 1 ≠ W.heap.size + 1 + 1; omega) _
      have hB6 : Below W.heap.size W ((w5.setCell ⟨(W.heap.size + 1), 2, none⟩ (.int .i64 u')).setCell ⟨(W.heap.size + 1), 3, none⟩ (.int .i64 g')) := (hB5.setCell (p := ⟨(W.heap.size + 1), 2, none⟩) (by show W.heap.size ≤ W.heap.size + 1; omega) _).setCell (p := ⟨(W.heap.size + 1), 3, none⟩) (by show W.heap.size ≤ W.heap.size + 1; omega) _
      have g0 := NB.2 2
      have g1 := NB.2 3
      have R8 := RB6.store (.mk k m u' g' o at_ d ks) h
      have hB8 : Below W.heap.size W (stB ((w5.setCell ⟨(W.heap.size + 1), 2, none⟩ (.int .i64 u')).setCell ⟨(W.heap.size + 1), 3, none⟩ (.int .i64 g')) (W.heap.size + 1 + 1) (.mk k m u' g' o at_ d ks) h) := hB6.trans (stB_but.below (by omega) hB6.size)
      have HN8 : Hid (NdV (offS (stB ((w5.setCell ⟨(W.heap.size + 1), 2, none⟩ (.int .i64 u')).setCell ⟨(W.heap.size + 1), 3, none⟩ (.int .i64 g')) (W.heap.size + 1 + 1) (.mk k m u' g' o at_ d ks) h).cell? S) (.mk k m u' g' o at_ d ks) h) := (nd_ids hN).on (mle_step fun q hq hs => ⟨hs, hB8.block q hq⟩)
      have z0 := RB.2 0
      have z1 := RB.2 1
      have z2 := RB.2 2
      have z3 := RB.2 3
      have z4 := RB.2 4
      have z5 := RB.2 5
      have z6 := RB.2 6
      have z7 := RB.2 7
      obtain ⟨y0, y1, y2, y3, y4, y5, y6, y7⟩ := RB.1
      clear hN
      go_wp2
      obtain ⟨W9, HW9⟩ : ∃ W9, Hid (stB ((w5.setCell ⟨(W.heap.size + 1), 2, none⟩ (.int .i64 u')).setCell ⟨(W.heap.size + 1), 3, none⟩ (.int .i64 g')) (W.heap.size + 1 + 1) (.mk k m u' g' o at_ d ks) h = W9) := ⟨_, rfl⟩
      rw [HW9.out] at R8 hB8 HN8
      have hw9 := HW9.out
      simp only [stB] at hw9
      rw [hw9]
      obtain ⟨r0, r1, r2, r3, r4, r5, r6, r7⟩ := R8.1
      refine bodyPost_ret (v := .tuple #[ndV (.mk k m u' g' o at_ d ks) h, .bool true]) (by simp [results, Try.results44, go_sem, ndV, r0, r1, r2, r3, r4, r5, r6, r7]) rfl ⟨⟨h, rfl, HN8.out⟩, hB8⟩

set_option maxRecDepth 100000 in
set_option maxHeartbeats 4000000 in
theorem rmoved_true {W : World} {S : Nat → Bool} {x : Nd} {h : Hd} (hN : NdV (offS W.cell? S) x h) (_hS0 : ∀ k, S k = true → k < W.heap.size) (hid : IdT x) {M : MapsV} (hM : MapsOk W M) :
    Calls Try.prog 44 #[M.v, ndV x h, .bool true] W fun e W' => MvR W W' S e (mvF true M.us M.gs x) := by
  obtain ⟨k, m, u, g, o, at_, d, ks⟩ := x
  obtain ⟨ua, ga, uc, gc, us, gs⟩ := M
  obtain ⟨Rus, Rgs, ul, gl, cu, cg, ou, og⟩ := hM
  dsimp only at Rus Rgs ul gl cu cg ou og
  obtain ⟨hid1, hid2⟩ := hid
  obtain ⟨FU, HFU⟩ : ∃ OU, Hid (fromM us u = OU) := ⟨_, rfl⟩
  obtain ⟨FG, HFG⟩ : ∃ OG, Hid (fromM gs g = OG) := ⟨_, rfl⟩
  obtain ⟨OU, HOU⟩ : ∃ OU, Hid (toM us u = OU) := ⟨_, rfl⟩
  obtain ⟨OG, HOG⟩ : ∃ OG, Hid (toM gs g = OG) := ⟨_, rfl⟩
  have HMV : Hid (mvF true us gs (.mk k m u g o at_ d ks) = mvO OU OG k m o at_ d ks) := by show _ = _; rw [← HOU.out, ← HOG.out]; rfl
  rw [HMV.out]
  clear HMV
  obtain ⟨c0, c1, NB, RB, hB3, hz3⟩ := three_boxes W _ _ _ ua ga us.length gs.length uc gc k m u g o at_ d ks h rfl rfl rfl
  obtain ⟨f0, f1, f2, f3, f4, f5, f6, f7⟩ := NB.1
  have hz : W.heap.size < W.heap.size + 1 + 1 := by omega
  show Calls Try.prog 44 #[.agg #[.slice ua us.length uc, .slice ga gs.length gc], .agg #[.int .i64 k, .int .i64 m, .int .i64 u, .int .i64 g, .bool o, .slice h.aa at_.length h.ca, .string d, .slice h.ak ks.length h.ck], .bool true] W _
  clear hz3 cu cg
  go_enter Try.func44, Try.ntmps44
  go_wp2_with fail
  refine Calls.mono (rFromHost_any ua uc us u _ ul ou hid1 (Rus.below hB3) FU HFU) ?_
  rintro e w4 ⟨rfl, hq⟩
  have hB4 := hB3.trans (hq.mono hB3.size)
  have NB := NB.below hq
  have RB := RB.below hq
  have c0 := mle_below hq _ _ c0
  have c1 := mle_below hq _ _ c1
  clear f0 f1 f2 f3 f4 f5 f6 f7 hq hB3
  obtain ⟨f0, f1, f2, f3, f4, f5, f6, f7⟩ := NB.1
  rw [show optV FU = .tuple #[.int .i64 (FU.getD 0), .bool FU.isSome] from rfl]
  generalize FU.getD 0 = q1
  generalize FU.isSome = b1
  go_wp2_with fail
  refine Calls.mono (rFromHost_any ga gc gs g _ gl og hid2 (Rgs.below hB4) FG HFG) ?_
  rintro e w5 ⟨rfl, hq⟩
  have hB5 := hB4.trans (hq.mono hB4.size)
  have NB := NB.below hq
  have RB := RB.below hq
  have c0 := mle_below hq _ _ c0
  have c1 := mle_below hq _ _ c1
  clear f0 f1 f2 f3 f4 f5 f6 f7 hq hB4
  obtain ⟨f0, f1, f2, f3, f4, f5, f6, f7⟩ := NB.1
  rw [show optV FG = .tuple #[.int .i64 (FG.getD 0), .bool FG.isSome] from rfl]
  generalize FG.getD 0 = q2
  generalize FG.isSome = b2
  go_wp2_with fail
  refine Calls.mono (rToHost_any ua uc us u _ ul ou hid1 (Rus.below hB5) OU HOU) ?_
  rintro e w6 ⟨rfl, hq⟩
  have hB6 := hB5.trans (hq.mono hB5.size)
  have NB := NB.below hq
  have RB := RB.below hq
  have c0 := mle_below hq _ _ c0
  have c1 := mle_below hq _ _ c1
  clear f0 f1 f2 f3 f4 f5 f6 f7 hq hB5
  obtain ⟨f0, f1, f2, f3, f4, f5, f6, f7⟩ := NB.1
  rw [show optV OU = .tuple #[.int .i64 (OU.getD 0), .bool OU.isSome] from rfl]
  go_wp2_with fail
  refine Calls.mono (rToHost_any ga gc gs g _ gl og hid2 (Rgs.below hB6) OG HOG) ?_
  rintro e w7 ⟨rfl, hq⟩
  have hB7 := hB6.trans (hq.mono hB6.size)
  have NB := NB.below hq
  have RB := RB.below hq
  have c0 := mle_below hq _ _ c0
  have c1 := mle_below hq _ _ c1
  clear f0 f1 f2 f3 f4 f5 f6 f7 hq hB6
  obtain ⟨f0, f1, f2, f3, f4, f5, f6, f7⟩ := NB.1
  rw [show optV OG = .tuple #[.int .i64 (OG.getD 0), .bool OG.isSome] from rfl]
  simp only [Option.getD, Option.isSome]
  cases OU with
  | none =>
    cases OG with
    | none =>
      clear f0 f1 f2 f3 f4 f5 f6 f7 NB
      obtain ⟨⟨f0, f1, f2, f3, f4, f5, f6, f7⟩, ff⟩ := RB
      have z0 := ff 0
      have z1 := ff 1
      have z2 := ff 2
      have z3 := ff 3
      have z4 := ff 4
      have z5 := ff 5
      have z6 := ff 6
      have z7 := ff 7
      have R3 := NBw.store (w := w7) (b := (W.heap.size + 1 + 1)) (y := zN) (h' := zH) ⟨⟨f0, f1, f2, f3, f4, f5, f6, f7⟩, ff⟩ zN zH
      have hB3 : Below W.heap.size W (stB w7 (W.heap.size + 1 + 1) zN zH) := hB7.trans (stB_but.below (by omega) hB7.size)
      go_wp2
      obtain ⟨W6, HW6⟩ : ∃ W6, Hid (stB w7 (W.heap.size + 1 + 1) zN zH = W6) := ⟨_, rfl⟩
      rw [HW6.out] at R3 hB3
      have hw6 := HW6.out
      simp only [stB, zN, zH] at hw6
      simp only [List.length_nil] at hw6
      rw [hw6]
      obtain ⟨r0, r1, r2, r3, r4, r5, r6, r7⟩ := R3.1
      refine bodyPost_ret (v := .tuple #[ndV zN zH, .bool false]) (by simp [results, Try.results44, go_sem, ndV, zN, zH, r0, r1, r2, r3, r4, r5, r6, r7]) rfl ⟨rfl, hB3⟩
    | some g' =>
      clear f0 f1 f2 f3 f4 f5 f6 f7 NB
      obtain ⟨⟨f0, f1, f2, f3, f4, f5, f6, f7⟩, ff⟩ := RB
      have z0 := ff 0
      have z1 := ff 1
      have z2 := ff 2
      have z3 := ff 3
      have z4 := ff 4
      have z5 := ff 5
      have z6 := ff 6
      have z7 := ff 7
      have R3 := NBw.store (w := w7) (b := (W.heap.size + 1 + 1)) (y := zN) (h' := zH) ⟨⟨f0, f1, f2, f3, f4, f5, f6, f7⟩, ff⟩ zN zH
      have hB3 : Below W.heap.size W (stB w7 (W.heap.size + 1 + 1) zN zH) := hB7.trans (stB_but.below (by omega) hB7.size)
      go_wp2
      obtain ⟨W6, HW6⟩ : ∃ W6, Hid (stB w7 (W.heap.size + 1 + 1) zN zH = W6) := ⟨_, rfl⟩
      rw [HW6.out] at R3 hB3
      have hw6 := HW6.out
      simp only [stB, zN, zH] at hw6
      simp only [List.length_nil] at hw6
      rw [hw6]
      obtain ⟨r0, r1, r2, r3, r4, r5, r6, r7⟩ := R3.1
      refine bodyPost_ret (v := .tuple #[ndV zN zH, .bool false]) (by simp [results, Try.results44, go_sem, ndV, zN, zH, r0, r1, r2, r3, r4, r5, r6, r7]) rfl ⟨rfl, hB3⟩
  | some u' =>
    cases OG with
    | none =>
      clear f0 f1 f2 f3 f4 f5 f6 f7 NB
      obtain ⟨⟨f0, f1, f2, f3, f4, f5, f6, f7⟩, ff⟩ := RB
      have z0 := ff 0
      have z1 := ff 1
      have z2 := ff 2
      have z3 := ff 3
      have z4 := ff 4
      have z5 := ff 5
      have z6 := ff 6
      have z7 := ff 7
      have R3 := NBw.store (w := w7) (b := (W.heap.size + 1 + 1)) (y := zN) (h' := zH) ⟨⟨f0, f1, f2, f3, f4, f5, f6, f7⟩, ff⟩ zN zH
      have hB3 : Below W.heap.size W (stB w7 (W.heap.size + 1 + 1) zN zH) := hB7.trans (stB_but.below (by omega) hB7.size)
      go_wp2
      obtain ⟨W6, HW6⟩ : ∃ W6, Hid (stB w7 (W.heap.size + 1 + 1) zN zH = W6) := ⟨_, rfl⟩
      rw [HW6.out] at R3 hB3
      have hw6 := HW6.out
      simp only [stB, zN, zH] at hw6
      simp only [List.length_nil] at hw6
      rw [hw6]
      obtain ⟨r0, r1, r2, r3, r4, r5, r6, r7⟩ := R3.1
      refine bodyPost_ret (v := .tuple #[ndV zN zH, .bool false]) (by simp [results, Try.results44, go_sem, ndV, zN, zH, r0, r1, r2, r3, r4, r5, r6, r7]) rfl ⟨rfl, hB3⟩
    | some g' =>
      have NB6 := NB.ids u' g'
      have RB6 : NBw ((w7.setCell ⟨(W.heap.size + 1), 2, none⟩ (.int .i64 u')).setCell ⟨(W.heap.size + 1), 3, none⟩ (.int .i64 g')) (W.heap.size + 1 + 1) zN zH := (RB.other (by show W.heap.size + 1 ≠ W.heap.size + 1 + 1; omega) _).other (by show W.heap.size + 1 ≠ W.heap.size + 1 + 1; omega) _
      have hB6 : Below W.heap.size W ((w7.setCell ⟨(W.heap.size + 1), 2, none⟩ (.int .i64 u')).setCell ⟨(W.heap.size + 1), 3, none⟩ (.int .i64 g')) := (hB7.setCell (p := ⟨(W.heap.size + 1), 2, none⟩) (by show W.heap.size ≤ W.heap.size + 1; omega) _).setCell (p := ⟨(W.heap.size + 1), 3, none⟩) (by show W.heap.size ≤ W.heap.size + 1; omega) _
      have g0 := NB.2 2
      have g1 := NB.2 3
      have R8 := RB6.store (.mk k m u' g' o at_ d ks) h
      have hB8 : Below W.heap.size W (stB ((w7.setCell ⟨(W.heap.size + 1), 2, none⟩ (.int .i64 u')).setCell ⟨(W.heap.size + 1), 3, none⟩ (.int .i64 g')) (W.heap.size + 1 + 1) (.mk k m u' g' o at_ d ks) h) := hB6.trans (stB_but.below (by omega) hB6.size)
      have HN8 : Hid (NdV (offS (stB ((w7.setCell ⟨(W.heap.size + 1), 2, none⟩ (.int .i64 u')).setCell ⟨(W.heap.size + 1), 3, none⟩ (.int .i64 g')) (W.heap.size + 1 + 1) (.mk k m u' g' o at_ d ks) h).cell? S) (.mk k m u' g' o at_ d ks) h) := (nd_ids hN).on (mle_step fun q hq hs => ⟨hs, hB8.block q hq⟩)
      have z0 := RB.2 0
      have z1 := RB.2 1
      have z2 := RB.2 2
      have z3 := RB.2 3
      have z4 := RB.2 4
      have z5 := RB.2 5
      have z6 := RB.2 6
      have z7 := RB.2 7
      obtain ⟨y0, y1, y2, y3, y4, y5, y6, y7⟩ := RB.1
      clear hN
      go_wp2
      obtain ⟨W9, HW9⟩ : ∃ W9, Hid (stB ((w7.setCell ⟨(W.heap.size + 1), 2, none⟩ (.int .i64 u')).setCell ⟨(W.heap.size + 1), 3, none⟩ (.int .i64 g')) (W.heap.size + 1 + 1) (.mk k m u' g' o at_ d ks) h = W9) := ⟨_, rfl⟩
      rw [HW9.out] at R8 hB8 HN8
      have hw9 := HW9.out
      simp only [stB] at hw9
      rw [hw9]
      obtain ⟨r0, r1, r2, r3, r4, r5, r6, r7⟩ := R8.1
      refine bodyPost_ret (v := .tuple #[ndV (.mk k m u' g' o at_ d ks) h, .bool true]) (by simp [results, Try.results44, go_sem, ndV, r0, r1, r2, r3, r4, r5, r6, r7]) rfl ⟨⟨h, rfl, HN8.out⟩, hB8⟩
end Go.Proofs.Ytkkhfnkmfkdhiab

namespace Go.Proofs.Ytkkhfnkmfkdhiab
open Go.RowKit

/-- Who is told of an id of a node. -/
def tellF (upper : Bool) (rs : List Rg) (x : Int) : Option Int := if upper = true then fromM rs x else (toM rs x).map fun _ => x
def thingV (upper : Bool) (us gs : List Rg) : Nd → Value
  | .mk k m u g _ _ _ _ => .agg #[.bool (k == 2), .int .i64 m, .int .i64 ((tellF upper us u).getD 65534), .int .i64 ((tellF upper gs g).getD 65534), .bool ((tellF upper us u).isSome && (tellF upper gs g).isSome)]
/-- A thing's box. -/
def TBx (w : World) (b : Nat) (a : Bool) (m u g : Int) (c : Bool) : Prop := w.cell? ⟨b, 0, none⟩ = some (.bool a) ∧ w.cell? ⟨b, 1, none⟩ = some (.int .i64 m) ∧ w.cell? ⟨b, 2, none⟩ = some (.int .i64 u) ∧ w.cell? ⟨b, 3, none⟩ = some (.int .i64 g) ∧ w.cell? ⟨b, 4, none⟩ = some (.bool c) ∧ ∀ j, w.frozen? ⟨b, j, none⟩ = false
theorem TBx.new (w : World) (a : Bool) (m u g : Int) (c : Bool) : TBx (w.alloc (.cells #[.bool a, .int .i64 m, .int .i64 u, .int .i64 g, .bool c] 69)) w.heap.size a m u g c :=
  ⟨World.cell?_alloc_at _ _ _ _ rfl, World.cell?_alloc_at _ _ _ _ rfl, World.cell?_alloc_at _ _ _ _ rfl, World.cell?_alloc_at _ _ _ _ rfl, World.cell?_alloc_at _ _ _ _ rfl, fun _ => World.frozen?_alloc_at _ _ _ _ rfl⟩
theorem TBx.below {w w' : World} {b : Nat} {a : Bool} {m u g : Int} {c : Bool} (h : TBx w b a m u g c) (hb : Below w.heap.size w w') : TBx w' b a m u g c := by
  have hl := World.block_lt_of_cell? _ _ h.1
  obtain ⟨h0, h1, h2, h3, h4, h5⟩ := h
  exact ⟨mle_below hb _ _ h0, mle_below hb _ _ h1, mle_below hb _ _ h2, mle_below hb _ _ h3, mle_below hb _ _ h4, fun j => (hb.frozen (p := ⟨b, j, none⟩) hl).trans (h5 j)⟩
theorem two_boxes (W A B : World) (ua ga : Option Addr) (nu ng uc gc : Nat) (k m u g : Int) (o : Bool) (at_ : List Kv) (d : ByteArray) (ks : Kds) (h : Hd)
    (hA : A = W.alloc (.cells #[.slice ua nu uc, .slice ga ng gc] 62)) (hB : B = A.alloc (.cells #[.int .i64 k, .int .i64 m, .int .i64 u, .int .i64 g, .bool o, .slice h.aa at_.length h.ca, .string d, .slice h.ak ks.length h.ck] 25)) :
    B.cell? ⟨W.heap.size, 0, none⟩ = some (.slice ua nu uc) ∧ B.cell? ⟨W.heap.size, 1, none⟩ = some (.slice ga ng gc) ∧ NBw B (W.heap.size + 1) (.mk k m u g o at_ d ks) h ∧ Below W.heap.size W B ∧ B.heap.size = W.heap.size + 1 + 1 := by
  have s1 : A.heap.size = W.heap.size + 1 := by rw [hA, World.size_alloc]
  have s2 : B.heap.size = W.heap.size + 1 + 1 := by rw [hB, World.size_alloc, s1]
  have bA : Below W.heap.size W A := by rw [hA]; exact (Below.refl _ _).alloc (Nat.le_refl _) _
  have bB : Below A.heap.size A B := by rw [hB]; exact (Below.refl _ _).alloc (Nat.le_refl _) _
  have c0 : A.cell? ⟨W.heap.size, 0, none⟩ = some (.slice ua nu uc) := by rw [hA]; exact World.cell?_alloc_at _ _ _ _ rfl
  have c1 : A.cell? ⟨W.heap.size, 1, none⟩ = some (.slice ga ng gc) := by rw [hA]; exact World.cell?_alloc_at _ _ _ _ rfl
  have nB := NBw.new A k m u g o at_ d ks h
  rw [← hB, s1] at nB
  exact ⟨mle_below bB _ _ c0, mle_below bB _ _ c1, nB, bA.trans (bB.mono bA.size), s2⟩

set_option maxHeartbeats 400000 in
theorem within_true (a : Option Addr) (cap : Nat) (rs : List Rg) (x : Int) (w : World) (hl : rs.length ≤ 100) (hcap : rs.length ≤ cap) (hok : ∀ r ∈ rs, r.ok) (hx : I64 x) (h : Rgs w a rs) :
    Calls Try.prog 89 #[.slice a rs.length cap, .int .i64 x, .bool true] w fun e w' => e = .returned (.tuple #[.int .i64 ((tellF true rs x).getD 65534), .bool (tellF true rs x).isSome]) ∧ Below w.heap.size w w' := by
  obtain ⟨O, HO⟩ : ∃ O, Hid (fromM rs x = O) := ⟨_, rfl⟩
  have HT : Hid (tellF true rs x = O) := by show _ = _; rw [← HO.out]; rfl
  rw [HT.out]
  have HC : Hid _ := fromHost_any a cap rs x w hl hcap hok hx h
  rw [HO.out] at HC
  clear HT HO
  go_enter Try.func89, Try.ntmps89
  go_wp2_with fail
  refine Calls.mono HC.out ?_
  rintro e w1 ⟨rfl, hB1⟩
  cases O with
  | none =>
    rw [optV_none]
    go_wp2
    go_ret2
    exact ⟨rfl, hB1⟩
  | some v =>
    rw [optV_some]
    go_wp2
    go_ret2
    exact ⟨rfl, hB1⟩

set_option maxHeartbeats 400000 in
theorem within_false (a : Option Addr) (cap : Nat) (rs : List Rg) (x : Int) (w : World) (hl : rs.length ≤ 100) (hcap : rs.length ≤ cap) (hok : ∀ r ∈ rs, r.ok) (hx : I64 x) (h : Rgs w a rs) :
    Calls Try.prog 89 #[.slice a rs.length cap, .int .i64 x, .bool false] w fun e w' => e = .returned (.tuple #[.int .i64 ((tellF false rs x).getD 65534), .bool (tellF false rs x).isSome]) ∧ Below w.heap.size w w' := by
  obtain ⟨O, HO⟩ : ∃ O, Hid (toM rs x = O) := ⟨_, rfl⟩
  have HT : Hid (tellF false rs x = O.map fun _ => x) := by show _ = _; rw [← HO.out]; rfl
  rw [HT.out]
  have HC : Hid _ := toHost_any a cap rs x w hl hcap hok hx h
  rw [HO.out] at HC
  clear HT HO
  go_enter Try.func89, Try.ntmps89
  go_wp2_with fail
  refine Calls.mono HC.out ?_
  rintro e w1 ⟨rfl, hB1⟩
  cases O with
  | none =>
    rw [optV_none]
    go_wp2
    go_ret2
    exact ⟨rfl, hB1⟩
  | some v =>
    rw [optV_some]
    go_wp2
    go_ret2
    exact ⟨rfl, hB1⟩

set_option maxRecDepth 100000 in
set_option maxHeartbeats 2000000 in
theorem seen_true {W : World} {x : Nd} {h : Hd} (hid : IdT x) {M : MapsV} (hM : MapsOk W M) :
    Calls Try.prog 45 #[M.v, ndV x h, .bool true] W fun e W' => e = .returned (thingV true M.us M.gs x) ∧ Below W.heap.size W W' := by
  obtain ⟨k, m, u, g, o, at_, d, ks⟩ := x
  obtain ⟨ua, ga, uc, gc, us, gs⟩ := M
  obtain ⟨Rus, Rgs, ul, gl, cu, cg, ou, og⟩ := hM
  dsimp only at Rus Rgs ul gl cu cg ou og
  obtain ⟨hid1, hid2⟩ := hid
  unfold thingV
  dsimp only
  obtain ⟨c0, c1, NB, hB2, hz2⟩ := two_boxes W _ _ ua ga us.length gs.length uc gc k m u g o at_ d ks h rfl rfl
  have TB := TBx.new ((W.alloc (.cells #[.slice ua us.length uc, .slice ga gs.length gc] 62)).alloc (.cells #[.int .i64 k, .int .i64 m, .int .i64 u, .int .i64 g, .bool o, .slice h.aa at_.length h.ca, .string d, .slice h.ak ks.length h.ck] 25)) false 0 0 0 false
  rw [hz2] at TB
  have hb3 : Below ((W.alloc (.cells #[.slice ua us.length uc, .slice ga gs.length gc] 62)).alloc (.cells #[.int .i64 k, .int .i64 m, .int .i64 u, .int .i64 g, .bool o, .slice h.aa at_.length h.ca, .string d, .slice h.ak ks.length h.ck] 25)).heap.size ((W.alloc (.cells #[.slice ua us.length uc, .slice ga gs.length gc] 62)).alloc (.cells #[.int .i64 k, .int .i64 m, .int .i64 u, .int .i64 g, .bool o, .slice h.aa at_.length h.ca, .string d, .slice h.ak ks.length h.ck] 25)) (((W.alloc (.cells #[.slice ua us.length uc, .slice ga gs.length gc] 62)).alloc (.cells #[.int .i64 k, .int .i64 m, .int .i64 u, .int .i64 g, .bool o, .slice h.aa at_.length h.ca, .string d, .slice h.ak ks.length h.ck] 25)).alloc (.cells #[.bool false, .int .i64 0, .int .i64 0, .int .i64 0, .bool false] 69)) := (Below.refl _ _).alloc (Nat.le_refl _) _
  have hB3 := hB2.trans (hb3.mono hB2.size)
  have NB := NB.below hb3
  have c0 := mle_below hb3 _ _ c0
  have c1 := mle_below hb3 _ _ c1
  have HC1 : Hid _ := within_true ua uc us u (((W.alloc (.cells #[.slice ua us.length uc, .slice ga gs.length gc] 62)).alloc (.cells #[.int .i64 k, .int .i64 m, .int .i64 u, .int .i64 g, .bool o, .slice h.aa at_.length h.ca, .string d, .slice h.ak ks.length h.ck] 25)).alloc (.cells #[.bool false, .int .i64 0, .int .i64 0, .int .i64 0, .bool false] 69)) ul cu ou hid1 (Rus.below hB3)
  obtain ⟨f0, f1, f2, f3, f4, f5, f6, f7⟩ := NB.1
  obtain ⟨vg, HVG⟩ : ∃ vg, Hid ((tellF true gs g).getD 65534 = vg) := ⟨_, rfl⟩
  obtain ⟨bg, HBG⟩ : ∃ bg, Hid ((tellF true gs g).isSome = bg) := ⟨_, rfl⟩
  rw [HVG.out, HBG.out]
  generalize (tellF true us u).getD 65534 = vu at HC1 ⊢
  generalize (tellF true us u).isSome = bu at HC1 ⊢
  show Calls Try.prog 45 #[.agg #[.slice ua us.length uc, .slice ga gs.length gc], .agg #[.int .i64 k, .int .i64 m, .int .i64 u, .int .i64 g, .bool o, .slice h.aa at_.length h.ca, .string d, .slice h.ak ks.length h.ck], .bool true] W _
  clear hb3 hB2
  go_enter Try.func45, Try.ntmps45
  go_wp2_with fail
  refine Calls.mono HC1.out ?_
  rintro e w4 ⟨rfl, hB4⟩
  have hB04 := hB3.trans (hB4.mono hB3.size)
  have NB := NB.below hB4
  have TB := TB.below hB4
  have c1 := mle_below hB4 _ _ c1
  have HC2 : Hid _ := within_true ga gc gs g w4 gl cg og hid2 (Rgs.below hB04)
  rw [HVG.out, HBG.out] at HC2
  clear f0 f1 f2 f3 f4 f5 f6 f7 c0 HC1 hB3 hB4 Rus Rgs ul gl cu cg ou og hz2
  obtain ⟨f0, f1, f2, f3, f4, f5, f6, f7⟩ := NB.1
  go_wp2_with fail
  refine Calls.mono HC2.out ?_
  rintro e w5 ⟨rfl, hB5⟩
  have hB05 := hB04.trans (hB5.mono hB04.size)
  have NB := NB.below hB5
  have TB := TB.below hB5
  clear f0 f1 f2 f3 f4 f5 f6 f7 c1 HC2 hB04 hB5
  obtain ⟨f0, f1, f2, f3, f4, f5, f6, f7⟩ := NB.1
  obtain ⟨t0, t1, t2, t3, t4, tf⟩ := TB
  have y0 := tf 0
  have y1 := tf 1
  have y2 := tf 2
  have y3 := tf 3
  have y4 := tf 4
  have hle : W.heap.size ≤ W.heap.size + 1 + 1 := by omega
  cases bu
  · go_wp2
    refine bodyPost_ret (v := .agg #[.bool (k == 2), .int .i64 m, .int .i64 vu, .int .i64 vg, .bool false]) (by simp [results, Try.results45, go_sem, t0, t1, t2, t3, t4]) rfl ⟨rfl, ((((hB05.setCell hle _).setCell hle _).setCell hle _).setCell hle _).setCell hle _⟩
  · go_wp2
    refine bodyPost_ret (v := .agg #[.bool (k == 2), .int .i64 m, .int .i64 vu, .int .i64 vg, .bool bg]) (by simp [results, Try.results45, go_sem, t0, t1, t2, t3, t4]) rfl ⟨rfl, ((((hB05.setCell hle _).setCell hle _).setCell hle _).setCell hle _).setCell hle _⟩

set_option maxRecDepth 100000 in
set_option maxHeartbeats 2000000 in
theorem seen_false {W : World} {x : Nd} {h : Hd} (hid : IdT x) {M : MapsV} (hM : MapsOk W M) :
    Calls Try.prog 45 #[M.v, ndV x h, .bool false] W fun e W' => e = .returned (thingV false M.us M.gs x) ∧ Below W.heap.size W W' := by
  obtain ⟨k, m, u, g, o, at_, d, ks⟩ := x
  obtain ⟨ua, ga, uc, gc, us, gs⟩ := M
  obtain ⟨Rus, Rgs, ul, gl, cu, cg, ou, og⟩ := hM
  dsimp only at Rus Rgs ul gl cu cg ou og
  obtain ⟨hid1, hid2⟩ := hid
  unfold thingV
  dsimp only
  obtain ⟨c0, c1, NB, hB2, hz2⟩ := two_boxes W _ _ ua ga us.length gs.length uc gc k m u g o at_ d ks h rfl rfl
  have TB := TBx.new ((W.alloc (.cells #[.slice ua us.length uc, .slice ga gs.length gc] 62)).alloc (.cells #[.int .i64 k, .int .i64 m, .int .i64 u, .int .i64 g, .bool o, .slice h.aa at_.length h.ca, .string d, .slice h.ak ks.length h.ck] 25)) false 0 0 0 false
  rw [hz2] at TB
  have hb3 : Below ((W.alloc (.cells #[.slice ua us.length uc, .slice ga gs.length gc] 62)).alloc (.cells #[.int .i64 k, .int .i64 m, .int .i64 u, .int .i64 g, .bool o, .slice h.aa at_.length h.ca, .string d, .slice h.ak ks.length h.ck] 25)).heap.size ((W.alloc (.cells #[.slice ua us.length uc, .slice ga gs.length gc] 62)).alloc (.cells #[.int .i64 k, .int .i64 m, .int .i64 u, .int .i64 g, .bool o, .slice h.aa at_.length h.ca, .string d, .slice h.ak ks.length h.ck] 25)) (((W.alloc (.cells #[.slice ua us.length uc, .slice ga gs.length gc] 62)).alloc (.cells #[.int .i64 k, .int .i64 m, .int .i64 u, .int .i64 g, .bool o, .slice h.aa at_.length h.ca, .string d, .slice h.ak ks.length h.ck] 25)).alloc (.cells #[.bool false, .int .i64 0, .int .i64 0, .int .i64 0, .bool false] 69)) := (Below.refl _ _).alloc (Nat.le_refl _) _
  have hB3 := hB2.trans (hb3.mono hB2.size)
  have NB := NB.below hb3
  have c0 := mle_below hb3 _ _ c0
  have c1 := mle_below hb3 _ _ c1
  have HC1 : Hid _ := within_false ua uc us u (((W.alloc (.cells #[.slice ua us.length uc, .slice ga gs.length gc] 62)).alloc (.cells #[.int .i64 k, .int .i64 m, .int .i64 u, .int .i64 g, .bool o, .slice h.aa at_.length h.ca, .string d, .slice h.ak ks.length h.ck] 25)).alloc (.cells #[.bool false, .int .i64 0, .int .i64 0, .int .i64 0, .bool false] 69)) ul cu ou hid1 (Rus.below hB3)
  obtain ⟨f0, f1, f2, f3, f4, f5, f6, f7⟩ := NB.1
  obtain ⟨vg, HVG⟩ : ∃ vg, Hid ((tellF false gs g).getD 65534 = vg) := ⟨_, rfl⟩
  obtain ⟨bg, HBG⟩ : ∃ bg, Hid ((tellF false gs g).isSome = bg) := ⟨_, rfl⟩
  rw [HVG.out, HBG.out]
  generalize (tellF false us u).getD 65534 = vu at HC1 ⊢
  generalize (tellF false us u).isSome = bu at HC1 ⊢
  show Calls Try.prog 45 #[.agg #[.slice ua us.length uc, .slice ga gs.length gc], .agg #[.int .i64 k, .int .i64 m, .int .i64 u, .int .i64 g, .bool o, .slice h.aa at_.length h.ca, .string d, .slice h.ak ks.length h.ck], .bool false] W _
  clear hb3 hB2
  go_enter Try.func45, Try.ntmps45
  go_wp2_with fail
  refine Calls.mono HC1.out ?_
  rintro e w4 ⟨rfl, hB4⟩
  have hB04 := hB3.trans (hB4.mono hB3.size)
  have NB := NB.below hB4
  have TB := TB.below hB4
  have c1 := mle_below hB4 _ _ c1
  have HC2 : Hid _ := within_false ga gc gs g w4 gl cg og hid2 (Rgs.below hB04)
  rw [HVG.out, HBG.out] at HC2
  clear f0 f1 f2 f3 f4 f5 f6 f7 c0 HC1 hB3 hB4 Rus Rgs ul gl cu cg ou og hz2
  obtain ⟨f0, f1, f2, f3, f4, f5, f6, f7⟩ := NB.1
  go_wp2_with fail
  refine Calls.mono HC2.out ?_
  rintro e w5 ⟨rfl, hB5⟩
  have hB05 := hB04.trans (hB5.mono hB04.size)
  have NB := NB.below hB5
  have TB := TB.below hB5
  clear f0 f1 f2 f3 f4 f5 f6 f7 c1 HC2 hB04 hB5
  obtain ⟨f0, f1, f2, f3, f4, f5, f6, f7⟩ := NB.1
  obtain ⟨t0, t1, t2, t3, t4, tf⟩ := TB
  have y0 := tf 0
  have y1 := tf 1
  have y2 := tf 2
  have y3 := tf 3
  have y4 := tf 4
  have hle : W.heap.size ≤ W.heap.size + 1 + 1 := by omega
  cases bu
  · go_wp2
    refine bodyPost_ret (v := .agg #[.bool (k == 2), .int .i64 m, .int .i64 vu, .int .i64 vg, .bool false]) (by simp [results, Try.results45, go_sem, t0, t1, t2, t3, t4]) rfl ⟨rfl, ((((hB05.setCell hle _).setCell hle _).setCell hle _).setCell hle _).setCell hle _⟩
  · go_wp2
    refine bodyPost_ret (v := .agg #[.bool (k == 2), .int .i64 m, .int .i64 vu, .int .i64 vg, .bool bg]) (by simp [results, Try.results45, go_sem, t0, t1, t2, t3, t4]) rfl ⟨rfl, ((((hB05.setCell hle _).setCell hle _).setCell hle _).setCell hle _).setCell hle _⟩

set_option maxRecDepth 100000 in
set_option maxHeartbeats 4000000 in
theorem rseen_true {W : World} {x : Nd} {h : Hd} (hid : IdT x) {M : MapsV} (hM : MapsOk W M) :
    Calls Try.prog 46 #[M.v, ndV x h, .bool true] W fun e W' => e = .returned (thingV true M.us M.gs x) ∧ Below W.heap.size W W' := by
  obtain ⟨k, m, u, g, o, at_, d, ks⟩ := x
  obtain ⟨ua, ga, uc, gc, us, gs⟩ := M
  obtain ⟨Rus, Rgs, ul, gl, cu, cg, ou, og⟩ := hM
  dsimp only at Rus Rgs ul gl cu cg ou og
  obtain ⟨hid1, hid2⟩ := hid
  obtain ⟨OU, HOU⟩ : ∃ OU, Hid (fromM us u = OU) := ⟨_, rfl⟩
  obtain ⟨OG, HOG⟩ : ∃ OG, Hid (fromM gs g = OG) := ⟨_, rfl⟩
  have HT : Hid (tellF true us u = OU) := by show _ = _; rw [← HOU.out]; rfl
  have HT2 : Hid (tellF true gs g = OG) := by show _ = _; rw [← HOG.out]; rfl
  unfold thingV
  dsimp only
  rw [HT.out, HT2.out]
  clear HT HT2
  obtain ⟨c0, c1, NB, hB2, hz2⟩ := two_boxes W _ _ ua ga us.length gs.length uc gc k m u g o at_ d ks h rfl rfl
  have TB := TBx.new ((W.alloc (.cells #[.slice ua us.length uc, .slice ga gs.length gc] 62)).alloc (.cells #[.int .i64 k, .int .i64 m, .int .i64 u, .int .i64 g, .bool o, .slice h.aa at_.length h.ca, .string d, .slice h.ak ks.length h.ck] 25)) false 0 0 0 false
  have UB := TBx.new (((W.alloc (.cells #[.slice ua us.length uc, .slice ga gs.length gc] 62)).alloc (.cells #[.int .i64 k, .int .i64 m, .int .i64 u, .int .i64 g, .bool o, .slice h.aa at_.length h.ca, .string d, .slice h.ak ks.length h.ck] 25)).alloc (.cells #[.bool false, .int .i64 0, .int .i64 0, .int .i64 0, .bool false] 69)) (k == 2) m 65534 65534 false
  have hz3 : (((W.alloc (.cells #[.slice ua us.length uc, .slice ga gs.length gc] 62)).alloc (.cells #[.int .i64 k, .int .i64 m, .int .i64 u, .int .i64 g, .bool o, .slice h.aa at_.length h.ca, .string d, .slice h.ak ks.length h.ck] 25)).alloc (.cells #[.bool false, .int .i64 0, .int .i64 0, .int .i64 0, .bool false] 69)).heap.size = W.heap.size + 1 + 1 + 1 := by rw [World.size_alloc, hz2]
  rw [hz2] at TB
  rw [hz3] at UB
  have hb3 : Below ((W.alloc (.cells #[.slice ua us.length uc, .slice ga gs.length gc] 62)).alloc (.cells #[.int .i64 k, .int .i64 m, .int .i64 u, .int .i64 g, .bool o, .slice h.aa at_.length h.ca, .string d, .slice h.ak ks.length h.ck] 25)).heap.size ((W.alloc (.cells #[.slice ua us.length uc, .slice ga gs.length gc] 62)).alloc (.cells #[.int .i64 k, .int .i64 m, .int .i64 u, .int .i64 g, .bool o, .slice h.aa at_.length h.ca, .string d, .slice h.ak ks.length h.ck] 25)) (((W.alloc (.cells #[.slice ua us.length uc, .slice ga gs.length gc] 62)).alloc (.cells #[.int .i64 k, .int .i64 m, .int .i64 u, .int .i64 g, .bool o, .slice h.aa at_.length h.ca, .string d, .slice h.ak ks.length h.ck] 25)).alloc (.cells #[.bool false, .int .i64 0, .int .i64 0, .int .i64 0, .bool false] 69)) := (Below.refl _ _).alloc (Nat.le_refl _) _
  have hb4 : Below (((W.alloc (.cells #[.slice ua us.length uc, .slice ga gs.length gc] 62)).alloc (.cells #[.int .i64 k, .int .i64 m, .int .i64 u, .int .i64 g, .bool o, .slice h.aa at_.length h.ca, .string d, .slice h.ak ks.length h.ck] 25)).alloc (.cells #[.bool false, .int .i64 0, .int .i64 0, .int .i64 0, .bool false] 69)).heap.size (((W.alloc (.cells #[.slice ua us.length uc, .slice ga gs.length gc] 62)).alloc (.cells #[.int .i64 k, .int .i64 m, .int .i64 u, .int .i64 g, .bool o, .slice h.aa at_.length h.ca, .string d, .slice h.ak ks.length h.ck] 25)).alloc (.cells #[.bool false, .int .i64 0, .int .i64 0, .int .i64 0, .bool false] 69)) ((((W.alloc (.cells #[.slice ua us.length uc, .slice ga gs.length gc] 62)).alloc (.cells #[.int .i64 k, .int .i64 m, .int .i64 u, .int .i64 g, .bool o, .slice h.aa at_.length h.ca, .string d, .slice h.ak ks.length h.ck] 25)).alloc (.cells #[.bool false, .int .i64 0, .int .i64 0, .int .i64 0, .bool false] 69)).alloc (.cells #[.bool (k == 2), .int .i64 m, .int .i64 65534, .int .i64 65534, .bool false] 69)) := (Below.refl _ _).alloc (Nat.le_refl _) _
  have hB3 := (hB2.trans (hb3.mono hB2.size))
  have hB3 := hB3.trans (hb4.mono hB3.size)
  obtain ⟨f0, f1, f2, f3, f4, f5, f6, f7⟩ := (NB.below hb3).1
  have NB := (NB.below hb3).below hb4
  have TB := TB.below hb4
  have c0 := mle_below hb4 _ _ (mle_below hb3 _ _ c0)
  have c1 := mle_below hb4 _ _ (mle_below hb3 _ _ c1)
  show Calls Try.prog 46 #[.agg #[.slice ua us.length uc, .slice ga gs.length gc], .agg #[.int .i64 k, .int .i64 m, .int .i64 u, .int .i64 g, .bool o, .slice h.aa at_.length h.ca, .string d, .slice h.ak ks.length h.ck], .bool true] W _
  clear hb3 hB2 hb4 hz3 hz2
  go_enter Try.func46, Try.ntmps46
  obtain ⟨r0, r1, r2, r3, r4, r5, r6, r7⟩ := NB.1
  go_wp2_with fail
  refine Calls.mono (rFromHost_any ua uc us u _ ul ou hid1 (Rus.below hB3) OU HOU) ?_
  rintro e w4 ⟨rfl, hB4⟩
  have hB04 := hB3.trans (hB4.mono hB3.size)
  have NB := NB.below hB4
  have TB := TB.below hB4
  have UB := UB.below hB4
  have c1 := mle_below hB4 _ _ c1
  clear f0 f1 f2 f3 f4 f5 f6 f7 r0 r1 r2 r3 r4 r5 r6 r7 c0 hB3 hB4
  obtain ⟨f0, f1, f2, f3, f4, f5, f6, f7⟩ := NB.1
  rw [show optV OU = .tuple #[.int .i64 (OU.getD 0), .bool OU.isSome] from rfl]
  go_wp2_with fail
  refine Calls.mono (rFromHost_any ga gc gs g _ gl og hid2 (Rgs.below hB04) OG HOG) ?_
  rintro e w5 ⟨rfl, hB5⟩
  have hB05 := hB04.trans (hB5.mono hB04.size)
  have NB := NB.below hB5
  have TB := TB.below hB5
  have UB := UB.below hB5
  rw [show optV OG = .tuple #[.int .i64 (OG.getD 0), .bool OG.isSome] from rfl]
  clear f0 f1 f2 f3 f4 f5 f6 f7 c1 hB04 hB5 Rus Rgs HOU HOG
  obtain ⟨f0, f1, f2, f3, f4, f5, f6, f7⟩ := NB.1
  obtain ⟨t0, t1, t2, t3, t4, tf⟩ := TB
  obtain ⟨q0, q1, q2, q3, q4, qf⟩ := UB
  have y0 := tf 0
  have y1 := tf 1
  have y2 := tf 2
  have y3 := tf 3
  have y4 := tf 4
  have x2 := qf 2
  have x3 := qf 3
  have x4 := qf 4
  have hle : W.heap.size ≤ W.heap.size + 1 + 1 := by omega
  have hle2 : W.heap.size ≤ W.heap.size + 1 + 1 + 1 := by omega
  simp only [Option.getD, Option.isSome]
  cases OU with
  | none =>
    cases OG with
    | none =>
      go_wp2
      refine bodyPost_ret (v := .agg #[.bool (k == 2), .int .i64 m, .int .i64 65534, .int .i64 65534, .bool false]) (by simp [results, Try.results46, go_sem, t0, t1, t2, t3, t4]) rfl ⟨rfl, ((((((hB05.setCell hle2 _).setCell hle _).setCell hle _).setCell hle _).setCell hle _).setCell hle _)⟩
    | some g' =>
      go_wp2
      refine bodyPost_ret (v := .agg #[.bool (k == 2), .int .i64 m, .int .i64 65534, .int .i64 g', .bool false]) (by simp [results, Try.results46, go_sem, t0, t1, t2, t3, t4]) rfl ⟨rfl, (((((((hB05.setCell hle2 _).setCell hle2 _).setCell hle _).setCell hle _).setCell hle _).setCell hle _).setCell hle _)⟩
  | some u' =>
    cases OG with
    | none =>
      go_wp2
      refine bodyPost_ret (v := .agg #[.bool (k == 2), .int .i64 m, .int .i64 u', .int .i64 65534, .bool false]) (by simp [results, Try.results46, go_sem, t0, t1, t2, t3, t4]) rfl ⟨rfl, (((((((hB05.setCell hle2 _).setCell hle2 _).setCell hle _).setCell hle _).setCell hle _).setCell hle _).setCell hle _)⟩
    | some g' =>
      go_wp2
      refine bodyPost_ret (v := .agg #[.bool (k == 2), .int .i64 m, .int .i64 u', .int .i64 g', .bool true]) (by simp [results, Try.results46, go_sem, t0, t1, t2, t3, t4]) rfl ⟨rfl, ((((((((hB05.setCell hle2 _).setCell hle2 _).setCell hle2 _).setCell hle _).setCell hle _).setCell hle _).setCell hle _).setCell hle _)⟩

set_option maxRecDepth 100000 in
set_option maxHeartbeats 4000000 in
theorem rseen_false {W : World} {x : Nd} {h : Hd} (hid : IdT x) {M : MapsV} (hM : MapsOk W M) :
    Calls Try.prog 46 #[M.v, ndV x h, .bool false] W fun e W' => e = .returned (thingV false M.us M.gs x) ∧ Below W.heap.size W W' := by
  obtain ⟨k, m, u, g, o, at_, d, ks⟩ := x
  obtain ⟨ua, ga, uc, gc, us, gs⟩ := M
  obtain ⟨Rus, Rgs, ul, gl, cu, cg, ou, og⟩ := hM
  dsimp only at Rus Rgs ul gl cu cg ou og
  obtain ⟨hid1, hid2⟩ := hid
  obtain ⟨OU, HOU⟩ : ∃ OU, Hid (toM us u = OU) := ⟨_, rfl⟩
  obtain ⟨OG, HOG⟩ : ∃ OG, Hid (toM gs g = OG) := ⟨_, rfl⟩
  have HT : Hid (tellF false us u = OU.map fun _ => u) := by show _ = _; rw [← HOU.out]; rfl
  have HT2 : Hid (tellF false gs g = OG.map fun _ => g) := by show _ = _; rw [← HOG.out]; rfl
  unfold thingV
  dsimp only
  rw [HT.out, HT2.out]
  clear HT HT2
  obtain ⟨c0, c1, NB, hB2, hz2⟩ := two_boxes W _ _ ua ga us.length gs.length uc gc k m u g o at_ d ks h rfl rfl
  have TB := TBx.new ((W.alloc (.cells #[.slice ua us.length uc, .slice ga gs.length gc] 62)).alloc (.cells #[.int .i64 k, .int .i64 m, .int .i64 u, .int .i64 g, .bool o, .slice h.aa at_.length h.ca, .string d, .slice h.ak ks.length h.ck] 25)) false 0 0 0 false
  have UB := TBx.new (((W.alloc (.cells #[.slice ua us.length uc, .slice ga gs.length gc] 62)).alloc (.cells #[.int .i64 k, .int .i64 m, .int .i64 u, .int .i64 g, .bool o, .slice h.aa at_.length h.ca, .string d, .slice h.ak ks.length h.ck] 25)).alloc (.cells #[.bool false, .int .i64 0, .int .i64 0, .int .i64 0, .bool false] 69)) (k == 2) m 65534 65534 false
  have hz3 : (((W.alloc (.cells #[.slice ua us.length uc, .slice ga gs.length gc] 62)).alloc (.cells #[.int .i64 k, .int .i64 m, .int .i64 u, .int .i64 g, .bool o, .slice h.aa at_.length h.ca, .string d, .slice h.ak ks.length h.ck] 25)).alloc (.cells #[.bool false, .int .i64 0, .int .i64 0, .int .i64 0, .bool false] 69)).heap.size = W.heap.size + 1 + 1 + 1 := by rw [World.size_alloc, hz2]
  rw [hz2] at TB
  rw [hz3] at UB
  have hb3 : Below ((W.alloc (.cells #[.slice ua us.length uc, .slice ga gs.length gc] 62)).alloc (.cells #[.int .i64 k, .int .i64 m, .int .i64 u, .int .i64 g, .bool o, .slice h.aa at_.length h.ca, .string d, .slice h.ak ks.length h.ck] 25)).heap.size ((W.alloc (.cells #[.slice ua us.length uc, .slice ga gs.length gc] 62)).alloc (.cells #[.int .i64 k, .int .i64 m, .int .i64 u, .int .i64 g, .bool o, .slice h.aa at_.length h.ca, .string d, .slice h.ak ks.length h.ck] 25)) (((W.alloc (.cells #[.slice ua us.length uc, .slice ga gs.length gc] 62)).alloc (.cells #[.int .i64 k, .int .i64 m, .int .i64 u, .int .i64 g, .bool o, .slice h.aa at_.length h.ca, .string d, .slice h.ak ks.length h.ck] 25)).alloc (.cells #[.bool false, .int .i64 0, .int .i64 0, .int .i64 0, .bool false] 69)) := (Below.refl _ _).alloc (Nat.le_refl _) _
  have hb4 : Below (((W.alloc (.cells #[.slice ua us.length uc, .slice ga gs.length gc] 62)).alloc (.cells #[.int .i64 k, .int .i64 m, .int .i64 u, .int .i64 g, .bool o, .slice h.aa at_.length h.ca, .string d, .slice h.ak ks.length h.ck] 25)).alloc (.cells #[.bool false, .int .i64 0, .int .i64 0, .int .i64 0, .bool false] 69)).heap.size (((W.alloc (.cells #[.slice ua us.length uc, .slice ga gs.length gc] 62)).alloc (.cells #[.int .i64 k, .int .i64 m, .int .i64 u, .int .i64 g, .bool o, .slice h.aa at_.length h.ca, .string d, .slice h.ak ks.length h.ck] 25)).alloc (.cells #[.bool false, .int .i64 0, .int .i64 0, .int .i64 0, .bool false] 69)) ((((W.alloc (.cells #[.slice ua us.length uc, .slice ga gs.length gc] 62)).alloc (.cells #[.int .i64 k, .int .i64 m, .int .i64 u, .int .i64 g, .bool o, .slice h.aa at_.length h.ca, .string d, .slice h.ak ks.length h.ck] 25)).alloc (.cells #[.bool false, .int .i64 0, .int .i64 0, .int .i64 0, .bool false] 69)).alloc (.cells #[.bool (k == 2), .int .i64 m, .int .i64 65534, .int .i64 65534, .bool false] 69)) := (Below.refl _ _).alloc (Nat.le_refl _) _
  have hB3 := (hB2.trans (hb3.mono hB2.size))
  have hB3 := hB3.trans (hb4.mono hB3.size)
  obtain ⟨f0, f1, f2, f3, f4, f5, f6, f7⟩ := (NB.below hb3).1
  have NB := (NB.below hb3).below hb4
  have TB := TB.below hb4
  have c0 := mle_below hb4 _ _ (mle_below hb3 _ _ c0)
  have c1 := mle_below hb4 _ _ (mle_below hb3 _ _ c1)
  show Calls Try.prog 46 #[.agg #[.slice ua us.length uc, .slice ga gs.length gc], .agg #[.int .i64 k, .int .i64 m, .int .i64 u, .int .i64 g, .bool o, .slice h.aa at_.length h.ca, .string d, .slice h.ak ks.length h.ck], .bool false] W _
  clear hb3 hB2 hb4 hz3 hz2
  go_enter Try.func46, Try.ntmps46
  obtain ⟨r0, r1, r2, r3, r4, r5, r6, r7⟩ := NB.1
  go_wp2_with fail
  refine Calls.mono (rToHost_any ua uc us u _ ul ou hid1 (Rus.below hB3) OU HOU) ?_
  rintro e w4 ⟨rfl, hB4⟩
  have hB04 := hB3.trans (hB4.mono hB3.size)
  have NB := NB.below hB4
  have TB := TB.below hB4
  have UB := UB.below hB4
  have c1 := mle_below hB4 _ _ c1
  clear f0 f1 f2 f3 f4 f5 f6 f7 r0 r1 r2 r3 r4 r5 r6 r7 c0 hB3 hB4
  obtain ⟨f0, f1, f2, f3, f4, f5, f6, f7⟩ := NB.1
  rw [show optV OU = .tuple #[.int .i64 (OU.getD 0), .bool OU.isSome] from rfl]
  go_wp2_with fail
  refine Calls.mono (rToHost_any ga gc gs g _ gl og hid2 (Rgs.below hB04) OG HOG) ?_
  rintro e w5 ⟨rfl, hB5⟩
  have hB05 := hB04.trans (hB5.mono hB04.size)
  have NB := NB.below hB5
  have TB := TB.below hB5
  have UB := UB.below hB5
  rw [show optV OG = .tuple #[.int .i64 (OG.getD 0), .bool OG.isSome] from rfl]
  clear f0 f1 f2 f3 f4 f5 f6 f7 c1 hB04 hB5 Rus Rgs HOU HOG
  obtain ⟨f0, f1, f2, f3, f4, f5, f6, f7⟩ := NB.1
  obtain ⟨t0, t1, t2, t3, t4, tf⟩ := TB
  obtain ⟨q0, q1, q2, q3, q4, qf⟩ := UB
  have y0 := tf 0
  have y1 := tf 1
  have y2 := tf 2
  have y3 := tf 3
  have y4 := tf 4
  have x2 := qf 2
  have x3 := qf 3
  have x4 := qf 4
  have hle : W.heap.size ≤ W.heap.size + 1 + 1 := by omega
  have hle2 : W.heap.size ≤ W.heap.size + 1 + 1 + 1 := by omega
  simp only [Option.getD, Option.isSome]
  cases OU with
  | none =>
    cases OG with
    | none =>
      go_wp2
      refine bodyPost_ret (v := .agg #[.bool (k == 2), .int .i64 m, .int .i64 65534, .int .i64 65534, .bool false]) (by simp [results, Try.results46, go_sem, t0, t1, t2, t3, t4]) rfl ⟨rfl, ((((((hB05.setCell hle2 _).setCell hle _).setCell hle _).setCell hle _).setCell hle _).setCell hle _)⟩
    | some g' =>
      go_wp2
      refine bodyPost_ret (v := .agg #[.bool (k == 2), .int .i64 m, .int .i64 65534, .int .i64 g, .bool false]) (by simp [results, Try.results46, go_sem, t0, t1, t2, t3, t4]) rfl ⟨rfl, (((((((hB05.setCell hle2 _).setCell hle2 _).setCell hle _).setCell hle _).setCell hle _).setCell hle _).setCell hle _)⟩
  | some u' =>
    cases OG with
    | none =>
      go_wp2
      refine bodyPost_ret (v := .agg #[.bool (k == 2), .int .i64 m, .int .i64 u, .int .i64 65534, .bool false]) (by simp [results, Try.results46, go_sem, t0, t1, t2, t3, t4]) rfl ⟨rfl, (((((((hB05.setCell hle2 _).setCell hle2 _).setCell hle _).setCell hle _).setCell hle _).setCell hle _).setCell hle _)⟩
    | some g' =>
      go_wp2
      refine bodyPost_ret (v := .agg #[.bool (k == 2), .int .i64 m, .int .i64 u, .int .i64 g, .bool true]) (by simp [results, Try.results46, go_sem, t0, t1, t2, t3, t4]) rfl ⟨rfl, ((((((((hB05.setCell hle2 _).setCell hle2 _).setCell hle2 _).setCell hle _).setCell hle _).setCell hle _).setCell hle _).setCell hle _)⟩
end Go.Proofs.Ytkkhfnkmfkdhiab
