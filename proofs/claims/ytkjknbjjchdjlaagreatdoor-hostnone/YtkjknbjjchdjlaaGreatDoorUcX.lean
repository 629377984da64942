/-
  A NODE WITH ITS IDS ON THE OTHER SIDE: the walks of across, Inside, Outside, Moved.
  Inside, Outside, the document's Moved: the walks.
  FLOORS: the document's spots; what is shown of them: the walk.
  TREES, the facts of no program: trees that may be, and that stay so when something is cut.
  WHAT THE DOCUMENT's Put HOLDS WHILE IT LAYS KIDS, one more kid: the facts of no program.
  WHAT COMES UP IS SEEN AS IT WAS: the facts of no program.
  A POOL: who has how many; a map and two lists that say the same; a world that has moved but at some blocks: the facts of no program.
  PLACES IN A ROW; slices.IndexFunc, slices.DeleteFunc OF THEM: the walks.
  PLACES SORTED BY THEIR NAMES: the library contract, applied.
  AN UPPER IS ITS OWN: the facts of no program: what a node has below it, what a put, a cut, a branch that comes up and a move leave of it.
  CREDS: isID, Has, Can, Check of package cred: the walks.
  RIGHTS: Has, Can, isUsers: the walks.
-/
import Derived.Test.YtkjknbjjchdjlaaGreatDoorVeX
import Derived.Deep.QuietTactic
import Derived.BigQuiet
import Derived.Test.YtkjknbjjchdjlaaGreatDoorWlY
import Derived.Deep.RegionHeld3
import Derived.Test.YtkjknbjjchdjlaaGreatDoorApX
import Derived.Test.YtkjknbjjchdjlaaGreatDoorWbY
import Derived.Test.YtkjknbjjchdjlaaGreatDoorWaY
import Derived.Test.YtkjknbjjchdjlaaGreatDoorNnX
import Derived.Deep.RegionLaw
import Derived.Deep.Cut
import Derived.Deep.CutRange
import Derived.Below
import Derived.Maps.OwnSet
import Derived.Lib.SliceRun
import Derived.Deep.Upon
import Derived.Deep.LoopGhost
import Derived.Shelf.SlSortCmp.WholeK
import Derived.Shelf.SlSortCmp.NoneTotal
import Derived.Test.YtkjknbjjchdjlaaGreatDoorProg
import Derived.Maps.OwnOps
import Derived.Test.YtkjknbjjchdjlaaGreatDoorNpX
import Derived.WalkKit
import Derived.WalkSpells
import Derived.WalkLawsBesides
namespace Go.Proofs.YtkjknbjjchdjlaaGreatDoor
open Go.RowKit
/-- Maps as a value. -/
structure MapsV where
  ua : Option Addr
  ga : Option Addr
  uc : Nat
  gc : Nat
  us : List Rg
  gs : List Rg
def MapsV.v (M : MapsV) : Value := .agg #[.slice M.ua M.us.length M.uc, .slice M.ga M.gs.length M.gc]
structure MapsOk (W : World) (M : MapsV) : Prop where
  u : Rgs W M.ua M.us
  g : Rgs W M.ga M.gs
  ul : M.us.length ≤ 100
  gl : M.gs.length ≤ 100
  cu : M.us.length ≤ M.uc
  cg : M.gs.length ≤ M.gc
  ou : ∀ r ∈ M.us, r.ok
  og : ∀ r ∈ M.gs, r.ok
theorem MapsOk.below {W W' : World} {M : MapsV} (h : MapsOk W M) (hb : Below W.heap.size W W') : MapsOk W' M := ⟨h.u.below hb, h.g.below hb, h.ul, h.gl, h.cu, h.cg, h.ou, h.og⟩
def IdT : Nd → Prop
  | .mk _ _ u g _ _ _ _ => I64 u ∧ I64 g
theorem optV_some (v : Int) : optV (some v) = .tuple #[.int .i64 v, .bool true] := rfl
theorem optV_none : optV none = .tuple #[.int .i64 0, .bool false] := rfl
theorem nd_ids {c : Mem} {k m u g u' g' : Int} {o : Bool} {at_ : List Kv} {d : ByteArray} {ks : Kds} {h : Hd} (hN : NdV c (.mk k m u g o at_ d ks) h) : NdV c (.mk k m u' g' o at_ d ks) h := ndV_iff.2 (ndV_iff.1 hN)
theorem lim_ids {k m u g u' g' : Int} {o : Bool} {at_ : List Kv} {d : ByteArray} {ks : Kds} (h : Lim (.mk k m u g o at_ d ks)) : Lim (.mk k m u' g' o at_ d ks) := by rw [Lim] at h ⊢; exact h
theorem cnt_ids {k m u g u' g' : Int} {o : Bool} {at_ : List Kv} {d : ByteArray} {ks : Kds} : cnt (.mk k m u' g' o at_ d ks) = cnt (.mk k m u g o at_ d ks) := by rw [cnt, cnt]
theorem NBw.ids {w : World} {b : Nat} {k m u g : Int} {o : Bool} {at_ : List Kv} {d : ByteArray} {ks : Kds} {h : Hd} (hk : NBw w b (.mk k m u g o at_ d ks) h) (u' g' : Int) : NBw ((w.setCell ⟨b, 2, none⟩ (.int .i64 u')).setCell ⟨b, 3, none⟩ (.int .i64 g')) b (.mk k m u' g' o at_ d ks) h := by
  obtain ⟨⟨e0, e1, e2, e3, e4, e5, e6, e7⟩, ff⟩ := hk
  refine ⟨⟨?_, ?_, ?_, ?_, ?_, ?_, ?_, ?_⟩, fun j => ?_⟩
  all_goals first | (simp [go_sem, e0, e1, e2, e3, e4, e5, e6, e7]; done) | (simp [go_sem, ff j]; done)
theorem three_boxes (W A B C : World) (ua ga : Option Addr) (nu ng uc gc : Nat) (k m u g : Int) (o : Bool) (at_ : List Kv) (d : ByteArray) (ks : Kds) (h : Hd)
    (hA : A = W.alloc (.cells #[.slice ua nu uc, .slice ga ng gc] 40)) (hB : B = A.alloc (.cells #[.int .i64 k, .int .i64 m, .int .i64 u, .int .i64 g, .bool o, .slice h.aa at_.length h.ca, .string d, .slice h.ak ks.length h.ck] 102)) (hC : C = B.alloc (.cells #[.int .i64 0, .int .i64 0, .int .i64 0, .int .i64 0, .bool false, .slice none 0 0, .string ⟨#[]⟩, .slice none 0 0] 102)) :
    C.cell? ⟨W.heap.size, 0, none⟩ = some (.slice ua nu uc) ∧ C.cell? ⟨W.heap.size, 1, none⟩ = some (.slice ga ng gc) ∧ NBw C (W.heap.size + 1) (.mk k m u g o at_ d ks) h ∧ NBw C (W.heap.size + 1 + 1) zN zH ∧ Below W.heap.size W C ∧ C.heap.size = W.heap.size + 1 + 1 + 1 := by
  have s1 : A.heap.size = W.heap.size + 1 := by rw [hA, World.size_alloc]
  have s2 : B.heap.size = W.heap.size + 1 + 1 := by rw [hB, World.size_alloc, s1]
  have s3 : C.heap.size = W.heap.size + 1 + 1 + 1 := by rw [hC, World.size_alloc, s2]
  have bA : Below W.heap.size W A := by rw [hA]; exact (Below.refl _ _).alloc (Nat.le_refl _) _
  have bB : Below A.heap.size A B := by rw [hB]; exact (Below.refl _ _).alloc (Nat.le_refl _) _
  have bC : Below B.heap.size B C := by rw [hC]; exact (Below.refl _ _).alloc (Nat.le_refl _) _
  have c0 : A.cell? ⟨W.heap.size, 0, none⟩ = some (.slice ua nu uc) := by rw [hA]; exact World.cell?_alloc_at _ _ _ _ rfl
  have c1 : A.cell? ⟨W.heap.size, 1, none⟩ = some (.slice ga ng gc) := by rw [hA]; exact World.cell?_alloc_at _ _ _ _ rfl
  have m2 : MLe A.cell? C.cell? := (mle_below bB).trans (mle_below bC)
  have nB := NBw.new A k m u g o at_ d ks h
  rw [← hB, s1] at nB
  have nC := NBw.zero B
  rw [← hC, s2] at nC
  exact ⟨m2 _ _ c0, m2 _ _ c1, nB.below bC, nC, (bA.trans (bB.mono bA.size)).trans (bC.mono (by omega)), s3⟩
def mvO (OU OG : Option Int) (k m : Int) (o : Bool) (at_ : List Kv) (d : ByteArray) (ks : Kds) : Option Nd := match OU, OG with
  | some u', some g' => some (.mk k m u' g' o at_ d ks)
  | _, _ => none
def MvE (W W' : World) (S : Nat → Bool) (e : Ending) : Option Nd → Prop
  | none => e = .returned (.tuple #[ndV zN zH, .iface 47 (.int .i64 11)]) ∧ Below W.heap.size W W'
  | some y => (∃ h', e = .returned (.tuple #[ndV y h', .nilIface]) ∧ NdV (offS W'.cell? S) y h') ∧ Below W.heap.size W W'
set_option maxRecDepth 100000 in
set_option maxHeartbeats 2000000 in
theorem cacrossTo {W : World} {S : Nat → Bool} (hS0 : ∀ k, S k = true → k < W.heap.size) {x : Nd} {h : Hd} (hN : NdV (offS W.cell? S) x h) (hlim : Lim x) (hcnt : cnt x ≤ 1000) (hid : IdT x) {M : MapsV} (hM : MapsOk W M) :
    Calls Tryz.prog 89 #[M.v, ndV x h, .func (.func 90) #[] #[]] W fun e W' => MvE W W' S e (mvF true M.us M.gs x) := by
  obtain ⟨k, m, u, g, o, at_, d, ks⟩ := x
  obtain ⟨ua, ga, uc, gc, us, gs⟩ := M
  obtain ⟨hu, hg, ul, gl, cu, cg, ou, og⟩ := hM
  dsimp only at hu hg ul gl cu cg ou og
  obtain ⟨hid1, hid2⟩ := hid
  obtain ⟨OU, HOU⟩ : ∃ OU, Hid (toM us u = OU) := ⟨_, rfl⟩
  obtain ⟨OG, HOG⟩ : ∃ OG, Hid (toM gs g = OG) := ⟨_, rfl⟩
  have HMV : Hid (mvF true us gs (.mk k m u g o at_ d ks) = mvO OU OG k m o at_ d ks) := by show _ = _; rw [← HOU.out, ← HOG.out]; rfl
  rw [HMV.out]
  clear HMV
  obtain ⟨c0, c1, NB, RB, hB3, hz3⟩ := three_boxes W _ _ _ ua ga us.length gs.length uc gc k m u g o at_ d ks h rfl rfl rfl
  have HC1 : Hid _ := toHost_any ua uc us u (((W.alloc (.cells #[.slice ua us.length uc, .slice ga gs.length gc] 40)).alloc (.cells #[.int .i64 k, .int .i64 m, .int .i64 u, .int .i64 g, .bool o, .slice h.aa at_.length h.ca, .string d, .slice h.ak ks.length h.ck] 102)).alloc (.cells #[.int .i64 0, .int .i64 0, .int .i64 0, .int .i64 0, .bool false, .slice none 0 0, .string ⟨#[]⟩, .slice none 0 0] 102)) ul cu ou hid1 (hu.below hB3)
  rw [HOU.out] at HC1
  obtain ⟨f0, f1, f2, f3, f4, f5, f6, f7⟩ := NB.1
  show Calls Tryz.prog 89 #[.agg #[.slice ua us.length uc, .slice ga gs.length gc], .agg #[.int .i64 k, .int .i64 m, .int .i64 u, .int .i64 g, .bool o, .slice h.aa at_.length h.ca, .string d, .slice h.ak ks.length h.ck], .func (.func 90) #[] #[]] W _
  go_enter Tryz.func89, Tryz.ntmps89
  go_wp2_with fail
  refine Calls.mono HC1.out ?_
  rintro e w4 ⟨rfl, hB4⟩
  have hB04 := hB3.trans (hB4.mono hB3.size)
  have NB := NB.below hB4
  have RB := RB.below hB4
  have c1 := mle_below hB4 _ _ c1
  have HC2 : Hid _ := toHost_any ga gc gs g w4 gl cg og hid2 (hg.below hB04)
  rw [HOG.out] at HC2
  have hz4 : W.heap.size + 1 + 1 + 1 ≤ w4.heap.size := by have := hB4.size; omega
  clear f0 f1 f2 f3 f4 f5 f6 f7 c0 HC1 hB3 hB4 hu hg ul gl cu cg ou og hz3
  obtain ⟨f0, f1, f2, f3, f4, f5, f6, f7⟩ := NB.1
  cases OU with
  | none =>
    rw [optV_none]
    go_wp2_with fail
    refine Calls.mono HC2.out ?_
    rintro e w5 ⟨rfl, hB5⟩
    have hB05 := hB04.trans (hB5.mono hB04.size)
    have NB := NB.below hB5
    have RB := RB.below hB5
    clear f0 f1 f2 f3 f4 f5 f6 f7 c1 HC2 hB04
    cases OG with
    | none =>
      rw [optV_none]
      obtain ⟨⟨f0, f1, f2, f3, f4, f5, f6, f7⟩, ff⟩ := RB
      have z0 := ff 0
      have z1 := ff 1
      have z2 := ff 2
      have z3 := ff 3
      have z4 := ff 4
      have z5 := ff 5
      have z6 := ff 6
      have z7 := ff 7
      have R3 := NBw.store (w := w5) (b := (W.heap.size + 1 + 1)) (y := zN) (h' := zH) ⟨⟨f0, f1, f2, f3, f4, f5, f6, f7⟩, ff⟩ zN zH
      have hB3 : Below W.heap.size W (stB w5 (W.heap.size + 1 + 1) zN zH) := hB05.trans (stB_but.below (by omega) hB05.size)
      go_wp2
      obtain ⟨W6, HW6⟩ : ∃ W6, Hid (stB w5 (W.heap.size + 1 + 1) zN zH = W6) := ⟨_, rfl⟩
      rw [HW6.out] at R3 hB3
      have hw6 := HW6.out
      simp only [stB, zN, zH] at hw6
      simp only [List.length_nil] at hw6
      rw [hw6]
      obtain ⟨r0, r1, r2, r3, r4, r5, r6, r7⟩ := R3.1
      refine bodyPost_ret (v := .tuple #[ndV zN zH, .iface 47 (.int .i64 11)]) (by simp [results, Tryz.results89, go_sem, ndV, zN, zH, r0, r1, r2, r3, r4, r5, r6, r7]) rfl ⟨rfl, hB3⟩
    | some g' =>
      rw [optV_some]
      obtain ⟨⟨f0, f1, f2, f3, f4, f5, f6, f7⟩, ff⟩ := RB
      have z0 := ff 0
      have z1 := ff 1
      have z2 := ff 2
      have z3 := ff 3
      have z4 := ff 4
      have z5 := ff 5
      have z6 := ff 6
      have z7 := ff 7
      have R3 := NBw.store (w := w5) (b := (W.heap.size + 1 + 1)) (y := zN) (h' := zH) ⟨⟨f0, f1, f2, f3, f4, f5, f6, f7⟩, ff⟩ zN zH
      have hB3 : Below W.heap.size W (stB w5 (W.heap.size + 1 + 1) zN zH) := hB05.trans (stB_but.below (by omega) hB05.size)
      go_wp2
      obtain ⟨W6, HW6⟩ : ∃ W6, Hid (stB w5 (W.heap.size + 1 + 1) zN zH = W6) := ⟨_, rfl⟩
      rw [HW6.out] at R3 hB3
      have hw6 := HW6.out
      simp only [stB, zN, zH] at hw6
      simp only [List.length_nil] at hw6
      rw [hw6]
      obtain ⟨r0, r1, r2, r3, r4, r5, r6, r7⟩ := R3.1
      refine bodyPost_ret (v := .tuple #[ndV zN zH, .iface 47 (.int .i64 11)]) (by simp [results, Tryz.results89, go_sem, ndV, zN, zH, r0, r1, r2, r3, r4, r5, r6, r7]) rfl ⟨rfl, hB3⟩
  
  | some u' =>
    rw [optV_some]
    go_wp2_with fail
    refine Calls.mono HC2.out ?_
    rintro e w5 ⟨rfl, hB5⟩
    have hB05 := hB04.trans (hB5.mono hB04.size)
    have NB := NB.below hB5
    have RB := RB.below hB5
    clear f0 f1 f2 f3 f4 f5 f6 f7 c1 HC2 hB04
    cases OG with
    | none =>
      rw [optV_none]
      obtain ⟨⟨f0, f1, f2, f3, f4, f5, f6, f7⟩, ff⟩ := RB
      have z0 := ff 0
      have z1 := ff 1
      have z2 := ff 2
      have z3 := ff 3
      have z4 := ff 4
      have z5 := ff 5
      have z6 := ff 6
      have z7 := ff 7
      have R3 := NBw.store (w := w5) (b := (W.heap.size + 1 + 1)) (y := zN) (h' := zH) ⟨⟨f0, f1, f2, f3, f4, f5, f6, f7⟩, ff⟩ zN zH
      have hB3 : Below W.heap.size W (stB w5 (W.heap.size + 1 + 1) zN zH) := hB05.trans (stB_but.below (by omega) hB05.size)
      go_wp2
      obtain ⟨W6, HW6⟩ : ∃ W6, Hid (stB w5 (W.heap.size + 1 + 1) zN zH = W6) := ⟨_, rfl⟩
      rw [HW6.out] at R3 hB3
      have hw6 := HW6.out
      simp only [stB, zN, zH] at hw6
      simp only [List.length_nil] at hw6
      rw [hw6]
      obtain ⟨r0, r1, r2, r3, r4, r5, r6, r7⟩ := R3.1
      refine bodyPost_ret (v := .tuple #[ndV zN zH, .iface 47 (.int .i64 11)]) (by simp [results, Tryz.results89, go_sem, ndV, zN, zH, r0, r1, r2, r3, r4, r5, r6, r7]) rfl ⟨rfl, hB3⟩
    | some g' =>
      rw [optV_some]
      have hB6 : Below W.heap.size W ((w5.setCell ⟨(W.heap.size + 1), 2, none⟩ (.int .i64 u')).setCell ⟨(W.heap.size + 1), 3, none⟩ (.int .i64 g')) := (hB05.setCell (p := ⟨(W.heap.size + 1), 2, none⟩) (by show W.heap.size ≤ W.heap.size + 1; omega) _).setCell (p := ⟨(W.heap.size + 1), 3, none⟩) (by show W.heap.size ≤ W.heap.size + 1; omega) _
      have NB6 := NB.ids u' g'
      have RB6 : NBw ((w5.setCell ⟨(W.heap.size + 1), 2, none⟩ (.int .i64 u')).setCell ⟨(W.heap.size + 1), 3, none⟩ (.int .i64 g')) (W.heap.size + 1 + 1) zN zH := (RB.other (by show W.heap.size + 1 ≠ W.heap.size + 1 + 1; omega) _).other (by show W.heap.size + 1 ≠ W.heap.size + 1 + 1; omega) _
      have hsz6 : ((w5.setCell ⟨(W.heap.size + 1), 2, none⟩ (.int .i64 u')).setCell ⟨(W.heap.size + 1), 3, none⟩ (.int .i64 g')).heap.size = w5.heap.size := by simp
      have HO : Hid _ := own_any (W := ((w5.setCell ⟨(W.heap.size + 1), 2, none⟩ (.int .i64 u')).setCell ⟨(W.heap.size + 1), 3, none⟩ (.int .i64 g'))) (S := (fun k => k == W.heap.size || k == W.heap.size + 1 || k == W.heap.size + 1 + 1 || S k)) (x := (.mk k m u' g' o at_ d ks)) (h := h) (fun q hq => by
        rw [hsz6]
        have e5 := hB5.size
        simp at hq
        rcases hq with ((e | e) | e) | e
        · omega
        · omega
        · omega
        · have := hS0 q e; omega) ((nd_ids hN).on (mle_step fun q hq hs => ⟨by simp [hs]; omega, hB6.block q hq⟩)) (lim_ids hlim) (by rw [cnt_ids (u := u) (g := g)]; exact hcnt)
      have g0 := NB.2 2
      have g1 := NB.2 3
      obtain ⟨f0, f1, f2, f3, f4, f5, f6, f7⟩ := NB.1
      go_wp2_with fail
      refine Calls.mono HO.out ?_
      rintro e w7 ⟨⟨hx, rfl, hN7⟩, hB7⟩
      have RB7 := RB6.below hB7
      have hB07 := hB6.trans (hB7.mono hB6.size)
      have R8 := RB7.store (.mk k m u' g' o at_ d ks) hx
      have hB8 : Below W.heap.size W (stB w7 (W.heap.size + 1 + 1) (.mk k m u' g' o at_ d ks) hx) := hB07.trans (stB_but.below (by omega) hB07.size)
      have HN8 : Hid (NdV (offS (stB w7 (W.heap.size + 1 + 1) (.mk k m u' g' o at_ d ks) hx).cell? S) (.mk k m u' g' o at_ d ks) hx) := hN7.on (mle_step fun q hq hs => by
        simp at hs
        exact ⟨hs.2, stB_but.block q hq hs.1.2⟩)
      clear f0 f1 f2 f3 f4 f5 f6 f7 g0 g1 HO NB NB6 RB RB6 hN7 hB7 hB6 hB5 hB05 hsz6
      have z0 := RB7.2 0
      have z1 := RB7.2 1
      have z2 := RB7.2 2
      have z3 := RB7.2 3
      have z4 := RB7.2 4
      have z5 := RB7.2 5
      have z6 := RB7.2 6
      have z7 := RB7.2 7
      obtain ⟨f0, f1, f2, f3, f4, f5, f6, f7⟩ := RB7.1
      rw [show ndV (.mk k m u' g' o at_ d ks) hx = .agg #[.int .i64 k, .int .i64 m, .int .i64 u', .int .i64 g', .bool o, .slice hx.aa at_.length hx.ca, .string d, .slice hx.ak ks.length hx.ck] from rfl]
      go_wp2
      obtain ⟨W9, HW9⟩ : ∃ W9, Hid (stB w7 (W.heap.size + 1 + 1) (.mk k m u' g' o at_ d ks) hx = W9) := ⟨_, rfl⟩
      rw [HW9.out] at R8 hB8 HN8
      have hw9 := HW9.out
      simp only [stB] at hw9
      rw [hw9]
      obtain ⟨r0, r1, r2, r3, r4, r5, r6, r7⟩ := R8.1
      refine bodyPost_ret (v := .tuple #[ndV (.mk k m u' g' o at_ d ks) hx, .nilIface]) (by simp [results, Tryz.results89, go_sem, ndV, r0, r1, r2, r3, r4, r5, r6, r7]) rfl ⟨⟨hx, rfl, HN8.out⟩, hB8⟩
end Go.Proofs.YtkjknbjjchdjlaaGreatDoor
namespace Go.Proofs.YtkjknbjjchdjlaaGreatDoor
open Go.RowKit
set_option maxRecDepth 100000 in
set_option maxHeartbeats 2000000 in
theorem outside_co {W : World} {S : Nat → Bool} (hS0 : ∀ k, S k = true → k < W.heap.size) {x : Nd} {h : Hd} (hN : NdV (offS W.cell? S) x h) (hlim : Lim x) (hcnt : cnt x ≤ 1000) (hid : IdT x) {M : MapsV} (hM : MapsOk W M) :
    Calls Tryz.prog 70 #[M.v, ndV x h] W fun e W' => MvE W W' S e (mvF true M.us M.gs x) := by
  obtain ⟨OX, HOX⟩ : ∃ OX, Hid (mvF true M.us M.gs x = OX) := ⟨_, rfl⟩
  rw [HOX.out]
  obtain ⟨k, m, u, g, o, at_, d, ks⟩ := x
  obtain ⟨ua, ga, uc, gc, us, gs⟩ := M
  obtain ⟨c0, c1, NB, RB, hB3, hz3⟩ := three_boxes W _ _ _ ua ga us.length gs.length uc gc k m u g o at_ d ks h rfl rfl rfl
  have HC1 : Hid (Calls Tryz.prog 89 #[.agg #[.slice ua us.length uc, .slice ga gs.length gc], .agg #[.int .i64 k, .int .i64 m, .int .i64 u, .int .i64 g, .bool o, .slice h.aa at_.length h.ca, .string d, .slice h.ak ks.length h.ck], .func (.func 90) #[] #[]] (((W.alloc (.cells #[.slice ua us.length uc, .slice ga gs.length gc] 40)).alloc (.cells #[.int .i64 k, .int .i64 m, .int .i64 u, .int .i64 g, .bool o, .slice h.aa at_.length h.ca, .string d, .slice h.ak ks.length h.ck] 102)).alloc (.cells #[.int .i64 0, .int .i64 0, .int .i64 0, .int .i64 0, .bool false, .slice none 0 0, .string ⟨#[]⟩, .slice none 0 0] 102)) fun e W' => MvE (((W.alloc (.cells #[.slice ua us.length uc, .slice ga gs.length gc] 40)).alloc (.cells #[.int .i64 k, .int .i64 m, .int .i64 u, .int .i64 g, .bool o, .slice h.aa at_.length h.ca, .string d, .slice h.ak ks.length h.ck] 102)).alloc (.cells #[.int .i64 0, .int .i64 0, .int .i64 0, .int .i64 0, .bool false, .slice none 0 0, .string ⟨#[]⟩, .slice none 0 0] 102)) W' (fun k => k == W.heap.size + 1 + 1 || S k) e OX) := by
    have := cacrossTo (W := (((W.alloc (.cells #[.slice ua us.length uc, .slice ga gs.length gc] 40)).alloc (.cells #[.int .i64 k, .int .i64 m, .int .i64 u, .int .i64 g, .bool o, .slice h.aa at_.length h.ca, .string d, .slice h.ak ks.length h.ck] 102)).alloc (.cells #[.int .i64 0, .int .i64 0, .int .i64 0, .int .i64 0, .bool false, .slice none 0 0, .string ⟨#[]⟩, .slice none 0 0] 102))) (S := fun k => k == W.heap.size + 1 + 1 || S k) (M := ⟨ua, ga, uc, gc, us, gs⟩) (h := h) (fun q hq => by
      rw [hz3]
      simp at hq
      rcases hq with e | e
      · omega
      · have := hS0 q e; omega) (hN.on (mle_step fun q hq hs => ⟨by simp [hs]; omega, hB3.block q hq⟩)) hlim hcnt hid (hM.below hB3)
    rw [HOX.out] at this
    exact this
  obtain ⟨f0, f1, f2, f3, f4, f5, f6, f7⟩ := NB.1
  show Calls Tryz.prog 70 #[.agg #[.slice ua us.length uc, .slice ga gs.length gc], .agg #[.int .i64 k, .int .i64 m, .int .i64 u, .int .i64 g, .bool o, .slice h.aa at_.length h.ca, .string d, .slice h.ak ks.length h.ck]] W _
  clear hM HOX hN hlim hcnt hid
  go_enter Tryz.func70, Tryz.ntmps70
  go_wp2_with fail
  refine Calls.mono HC1.out ?_
  intro e w4 hE
  clear f0 f1 f2 f3 f4 f5 f6 f7 c0 c1 HC1 NB
  cases OX with
  | none =>
    obtain ⟨rfl, hB4⟩ := hE
    have RB := RB.below hB4
    have hB04 := hB3.trans (hB4.mono hB3.size)
    rw [show ndV zN zH = .agg #[.int .i64 0, .int .i64 0, .int .i64 0, .int .i64 0, .bool false, .slice none 0 0, .string ⟨#[]⟩, .slice none 0 0] from rfl]
    clear hB4 hB3
    obtain ⟨⟨f0, f1, f2, f3, f4, f5, f6, f7⟩, ff⟩ := RB
    have z0 := ff 0
    have z1 := ff 1
    have z2 := ff 2
    have z3 := ff 3
    have z4 := ff 4
    have z5 := ff 5
    have z6 := ff 6
    have z7 := ff 7
    have R3 := NBw.store (w := w4) (b := (W.heap.size + 1 + 1)) (y := zN) (h' := zH) ⟨⟨f0, f1, f2, f3, f4, f5, f6, f7⟩, ff⟩ zN zH
    have hB3 : Below W.heap.size W (stB w4 (W.heap.size + 1 + 1) zN zH) := hB04.trans (stB_but.below (by omega) hB04.size)
    go_wp2
    obtain ⟨W6, HW6⟩ : ∃ W6, Hid (stB w4 (W.heap.size + 1 + 1) zN zH = W6) := ⟨_, rfl⟩
    rw [HW6.out] at R3 hB3
    have hw6 := HW6.out
    simp only [stB, zN, zH] at hw6
    simp only [List.length_nil] at hw6
    rw [hw6]
    obtain ⟨r0, r1, r2, r3, r4, r5, r6, r7⟩ := R3.1
    refine bodyPost_ret (v := .tuple #[ndV zN zH, .iface 47 (.int .i64 11)]) (by simp [results, Tryz.results70, go_sem, ndV, zN, zH, r0, r1, r2, r3, r4, r5, r6, r7]) rfl ⟨rfl, hB3⟩
  | some y =>
    obtain ⟨⟨hx, rfl, hN4⟩, hB4⟩ := hE
    obtain ⟨k, m, u, g, o, at_, d, ks⟩ := y
    have RB := RB.below hB4
    have hB04 := hB3.trans (hB4.mono hB3.size)
    have R8 := RB.store (.mk k m u g o at_ d ks) hx
    have hB8 : Below W.heap.size W (stB w4 (W.heap.size + 1 + 1) (.mk k m u g o at_ d ks) hx) := hB04.trans (stB_but.below (by omega) hB04.size)
    have HN8 : Hid (NdV (offS (stB w4 (W.heap.size + 1 + 1) (.mk k m u g o at_ d ks) hx).cell? S) (.mk k m u g o at_ d ks) hx) := hN4.on (mle_step fun q hq hs => by
      simp at hs
      exact ⟨hs.2, stB_but.block q hq hs.1⟩)
    clear hN4 hB4 hB3 hB04
    have z0 := RB.2 0
    have z1 := RB.2 1
    have z2 := RB.2 2
    have z3 := RB.2 3
    have z4 := RB.2 4
    have z5 := RB.2 5
    have z6 := RB.2 6
    have z7 := RB.2 7
    obtain ⟨f0, f1, f2, f3, f4, f5, f6, f7⟩ := RB.1
    rw [show ndV (.mk k m u g o at_ d ks) hx = .agg #[.int .i64 k, .int .i64 m, .int .i64 u, .int .i64 g, .bool o, .slice hx.aa at_.length hx.ca, .string d, .slice hx.ak ks.length hx.ck] from rfl]
    go_wp2
    obtain ⟨W9, HW9⟩ : ∃ W9, Hid (stB w4 (W.heap.size + 1 + 1) (.mk k m u g o at_ d ks) hx = W9) := ⟨_, rfl⟩
    rw [HW9.out] at R8 hB8 HN8
    have hw9 := HW9.out
    simp only [stB] at hw9
    rw [hw9]
    obtain ⟨r0, r1, r2, r3, r4, r5, r6, r7⟩ := R8.1
    refine bodyPost_ret (v := .tuple #[ndV (.mk k m u g o at_ d ks) hx, .nilIface]) (by simp [results, Tryz.results70, go_sem, ndV, r0, r1, r2, r3, r4, r5, r6, r7]) rfl ⟨⟨hx, rfl, HN8.out⟩, hB8⟩
end Go.Proofs.YtkjknbjjchdjlaaGreatDoor
namespace Go.Proofs.YtkjknbjjchdjlaaGreatDoor
open Go.RowKit
/-- A node with its layer. -/
structure Fl where
  x : Nd
  h : Hd
  ly : Nat
end Go.Proofs.YtkjknbjjchdjlaaGreatDoor
namespace Go.Proofs.YtkjknbjjchdjlaaGreatDoor
open Go.RowKit
mutual
/-- A tree that may be, with so many names. -/
def Val (up : Bool) : Nat → Nd → Prop
  | deep, .mk k m u g o at_ d ks => deep ≤ 6 ∧ nfF up (decide (deep = 0)) (.mk k m u g o at_ d ks) = 0 ∧ ValL up (deep + 1) none ks
def ValL (up : Bool) : Nat → Option ByteArray → Kds → Prop
  | _, _, [] => True
  | deep, p, (n, x) :: l => nameB n = true ∧ upB p n = true ∧ Val up deep x ∧ ValL up deep (some n) l
end
mutual
theorem wlk_val (up : Bool) : ∀ (x : Nd) (deep seen : Nat), ((wlkN up x deep seen).1 = 0 ↔ Val up deep x ∧ seen + cnt x ≤ 60) ∧ ((wlkN up x deep seen).1 = 0 → (wlkN up x deep seen).2 = seen + cnt x)
  | .mk k m u g o at_ d ks, deep, seen => by
    rw [wlkN, Val, cnt]
    by_cases h1 : 60 ≤ seen ∨ 6 < deep
    · rw [if_pos h1]
      refine ⟨⟨fun h => by simp at h, fun h => by omega⟩, fun h => by simp at h⟩
    rw [if_neg h1]
    by_cases h2 : nfF up (decide (deep = 0)) (.mk k m u g o at_ d ks) = 0
    · rw [if_neg (by simpa using h2)]
      obtain ⟨e1, e2⟩ := wlkL_val up none ks (deep + 1) (seen + 1)
      refine ⟨⟨fun h => ?_, fun h => ?_⟩, fun h => ?_⟩
      · have := e1.1 h
        refine ⟨⟨by omega, h2, this.1⟩, ?_⟩
        rcases this.2 with q | q
        · subst q; rw [cntL]; omega
        · omega
      · exact e1.2 ⟨h.1.2.2, .inr (by omega)⟩
      · rw [e2 h]; omega
    · rw [if_pos h2]
      refine ⟨⟨fun h => absurd h h2, fun h => absurd h.1.2.1 h2⟩, fun h => absurd h h2⟩
theorem wlkL_val (up : Bool) : ∀ (p : Option ByteArray) (l : Kds) (deep seen : Nat), ((wlkL up p l deep seen).1 = 0 ↔ ValL up deep p l ∧ (l = [] ∨ seen + cntL l ≤ 60)) ∧ ((wlkL up p l deep seen).1 = 0 → (wlkL up p l deep seen).2 = seen + cntL l)
  | p, [], deep, seen => by
    rw [wlkL, ValL, cntL]
    exact ⟨⟨fun _ => ⟨trivial, .inl rfl⟩, fun _ => rfl⟩, fun _ => rfl⟩
  | p, (n, x) :: l, deep, seen => by
    rw [wlkL, ValL, cntL]
    by_cases h1 : nameB n = false
    · rw [if_pos h1]
      exact ⟨⟨fun h => by simp at h, fun h => by rw [h1] at h; simp at h⟩, fun h => by simp at h⟩
    rw [if_neg h1]
    by_cases h2 : upB p n = false
    · rw [if_pos h2]
      exact ⟨⟨fun h => by simp at h, fun h => by rw [h2] at h; simp at h⟩, fun h => by simp at h⟩
    rw [if_neg h2]
    obtain ⟨e1, e2⟩ := wlk_val up x deep seen
    by_cases h3 : (wlkN up x deep seen).1 = 0
    · rw [if_neg (by simpa using h3)]
      have h4 := e1.1 h3
      rw [e2 h3]
      obtain ⟨f1, f2⟩ := wlkL_val up (some n) l deep (seen + cnt x)
      refine ⟨⟨fun h => ?_, fun h => ?_⟩, fun h => ?_⟩
      · obtain ⟨g1, g2⟩ := f1.1 h
        refine ⟨⟨by simpa using h1, by simpa using h2, h4.1, g1⟩, .inr ?_⟩
        rcases g2 with g2 | g2
        · subst g2; rw [cntL]; omega
        · omega
      · refine f1.2 ⟨h.1.2.2.2, ?_⟩
        rcases h.2 with q | q
        · cases q
        · exact .inr (by omega)
      · rw [f2 h]; omega
    · rw [if_pos h3]
      refine ⟨⟨fun h => absurd h h3, fun h => ?_⟩, fun h => absurd h h3⟩
      exfalso
      refine h3 (e1.2 ⟨h.1.2.2.1, ?_⟩)
      rcases h.2 with q | q
      · cases q
      · omega
end
theorem tf_val (up : Bool) (x : Nd) : tfF up x = 0 ↔ x.kind = 2 ∧ Val up 0 x ∧ cnt x ≤ 60 := by
  obtain ⟨k, m, u, g, o, at_, d, ks⟩ := x
  rw [tfF]
  have h := (wlk_val up (.mk k m u g o at_ d ks) 0 0).1
  show _ ↔ k = 2 ∧ _
  by_cases hk : k = 2
  · rw [if_neg (by simpa using hk), h, Nat.zero_add]; exact ⟨fun q => ⟨hk, q⟩, fun q => q.2⟩
  · rw [if_pos hk]; exact ⟨fun q => by simp at q, fun q => absurd q.1 hk⟩
end Go.Proofs.YtkjknbjjchdjlaaGreatDoor
namespace Go.Proofs.YtkjknbjjchdjlaaGreatDoor
open Go.RowKit
theorem NBw.low {w w' : World} {b B : Nat} {x : Nd} {h : Hd} (hk : NBw w b x h) (hb : Below B w w') (hB : b < B) : NBw w' b x h := by
  obtain ⟨k, m, u, g, o, at_, d, ks⟩ := x
  obtain ⟨⟨e0, e1, e2, e3, e4, e5, e6, e7⟩, e8⟩ := hk
  have q : ∀ j, w'.cell? ⟨b, j, none⟩ = w.cell? ⟨b, j, none⟩ := fun j => hb.cell (p := ⟨b, j, none⟩) hB
  exact ⟨⟨(q 0).trans e0, (q 1).trans e1, (q 2).trans e2, (q 3).trans e3, (q 4).trans e4, (q 5).trans e5, (q 6).trans e6, (q 7).trans e7⟩, fun j => (hb.frozen (p := ⟨b, j, none⟩) hB).trans (e8 j)⟩
end Go.Proofs.YtkjknbjjchdjlaaGreatDoor
namespace Go.Proofs.YtkjknbjjchdjlaaGreatDoor
open Go.RowKit
theorem walk_mem {fr tg : Rg → Int} {x y : Int} : ∀ {L : List Rg}, walkM fr tg L x = some y → ∃ r ∈ L, fr r ≤ x ∧ x - fr r < r.n ∧ y = tg r + x - fr r
  | [], h => by cases h
  | r :: l, h => by
    by_cases e : fr r ≤ x ∧ x - fr r < r.n
    · rw [walkM_hit e.1 e.2] at h; cases h; exact ⟨r, by simp, e.1, e.2, rfl⟩
    · rw [walkM_miss e] at h
      obtain ⟨q, hq, hh⟩ := walk_mem h
      exact ⟨q, by simp [hq], hh⟩
end Go.Proofs.YtkjknbjjchdjlaaGreatDoor
namespace Go.Proofs.YtkjknbjjchdjlaaGreatDoor
open Go.RowKit Go.Maps
/-- A world that has moved: of what was there just the blocks that are named may have turned. -/
structure Mv (S : Nat → Prop) (w w' : World) : Prop where
  os : w'.os = w.os
  tape : w'.tape = w.tape
  output : w'.output = w.output
  size : w.heap.size ≤ w'.heap.size
  block : ∀ k, k < w.heap.size → ¬ S k → w'.heap[k]? = w.heap[k]?
theorem Mv.refl (S : Nat → Prop) (w : World) : Mv S w w := ⟨rfl, rfl, rfl, Nat.le_refl _, fun _ _ _ => rfl⟩
theorem Mv.trans {S : Nat → Prop} {a b c : World} (h : Mv S a b) (k : Mv S b c) : Mv S a c :=
  ⟨k.os.trans h.os, k.tape.trans h.tape, k.output.trans h.output, Nat.le_trans h.size k.size, fun i hi hs => (k.block i (Nat.lt_of_lt_of_le hi h.size) hs).trans (h.block i hi hs)⟩
theorem Mv.of {S : Nat → Prop} {w w' : World} (h : Below w.heap.size w w') : Mv S w w' := ⟨h.os, h.tape, h.output, h.size, fun k hk _ => h.block k hk⟩
theorem Mv.drew {S : Nat → Prop} {w w' : World} (h : Mv S w w') : Mv S w w'.drew := ⟨h.os, h.tape, h.output, h.size, h.block⟩
theorem Mv.alloc {S : Nat → Prop} {w w' : World} (h : Mv S w w') (o : Obj) : Mv S w (w'.alloc o) := h.trans (Mv.of ((Below.refl _ _).alloc (Nat.le_refl _) o))
theorem Mv.setCell {S : Nat → Prop} {w w' : World} (h : Mv S w w') {p : Addr} (hp : S p.block) (u : Value) : Mv S w (w'.setCell p u) :=
  h.trans ⟨rfl, rfl, rfl, by simp [World.setCell], fun k _ hs => Below.heap_setCell _ _ _ _ (fun e => hs (e ▸ hp))⟩
theorem Mv.grown {S : Nat → Prop} {a w w' : World} {row : Option Nat} (h : Mv S a w) (hg : w.grownBy w' row) (hr : ∀ k, row = some k → S k) : Mv S a w' :=
  h.trans ⟨hg.os, hg.tape, hg.output, hg.size, fun k hk hs => hg.block k hk (fun e => hs (hr k e.symm))⟩
theorem Mv.below {S : Nat → Prop} {w w' : World} (h : Mv S w w') {B : Nat} (hB : B ≤ w.heap.size) (hS : ∀ k, S k → B ≤ k) : Below B w w' :=
  ⟨h.os, h.tape, h.output, h.size, fun k hk => h.block k (Nat.lt_of_lt_of_le hk hB) (fun hs => by have := hS k hs; omega)⟩
theorem Mv.mono {S T : Nat → Prop} {w w' : World} (h : Mv S w w') (hs : ∀ k, S k → T k) : Mv T w w' := ⟨h.os, h.tape, h.output, h.size, fun k hk ht => h.block k hk (fun e => ht (hs k e))⟩
theorem Mv.cell {S : Nat → Prop} {w w' : World} (h : Mv S w w') {p : Addr} (hp : p.block < w.heap.size) (hs : ¬ S p.block) : w'.cell? p = w.cell? p := World.cell?_of_block (w := w) (h.block _ hp hs)
theorem Mv.frozen {S : Nat → Prop} {w w' : World} (h : Mv S w w') {p : Addr} (hp : p.block < w.heap.size) (hs : ¬ S p.block) : w'.frozen? p = w.frozen? p := World.frozen?_of_block (w := w) (h.block _ hp hs)
end Go.Proofs.YtkjknbjjchdjlaaGreatDoor
namespace Go.Proofs.YtkjknbjjchdjlaaGreatDoor
open Go.RowKit
/-- A place, and where its list lies. -/
structure Pe where
  n : ByteArray
  a : Option Addr
  c : Nat
  L : List Sp
end Go.Proofs.YtkjknbjjchdjlaaGreatDoor
namespace Go.Proofs.YtkjknbjjchdjlaaGreatDoor
open Go.RowKit Go.Shelf Go.Sort
instance : Inhabited Pe := ⟨⟨⟨#[]⟩, none, 0, []⟩⟩
end Go.Proofs.YtkjknbjjchdjlaaGreatDoor
namespace Go.Proofs.YtkjknbjjchdjlaaGreatDoor
open Go.RowKit
/-- An id that the maps have. -/
def Idd (us gs : List Rg) (u g : Int) : Prop := fromM us u ≠ none ∧ fromM gs g ≠ none
def Nd.ids (us gs : List Rg) : Nd → Prop
  | .mk _ _ u g _ _ _ _ => Idd us gs u g
end Go.Proofs.YtkjknbjjchdjlaaGreatDoor
namespace Go.Proofs.YtkjknbjjchdjlaaGreatDoor
open Go.RowKit
/-- May a number be an id? -/
def idCB (x : Int) : Bool := decide (0 ≤ x) && decide (x ≤ 65535)
/-- A slice of ints, its elements zs: nothing is asked of an empty one's address. -/
def Ints (w : World) (a : Option Addr) (zs : List Int) : Prop :=
  zs = [] ∨ ∃ b off, a = some ⟨b, off, none⟩ ∧ ∀ i, i < zs.length → w.cell? ⟨b, off + i, none⟩ = some (.int .i64 (zs.getD i 0))
theorem Ints.below {w w' : World} {a : Option Addr} {zs : List Int} (h : Ints w a zs) (hb : Below w.heap.size w w') : Ints w' a zs := by
  rcases h with h | ⟨b, off, ha, hc⟩
  · exact .inl h
  · exact .inr ⟨b, off, ha, fun i hi => by
      have := hc i hi
      have hlt := World.block_lt_of_cell? _ _ this
      rw [hb.cell (p := ⟨b, off + i, none⟩) hlt]; exact this⟩
set_option maxRecDepth 100000 in
set_option maxHeartbeats 400000 in
theorem cisID_any (x : Int) (w : World) : Calls Tryz.prog 101 #[.int .i64 x] w fun e w' => e = .returned (.bool (idCB x)) ∧ w = w' := by
  by_cases h : 0 ≤ x
  · go_enter Tryz.func101, Tryz.ntmps101
    go_wp2
    go_ret
    exact ⟨ret_bool (by simp [idCB, h]), rfl⟩
  · have hd : decide (0 ≤ x) = false := by simpa using h
    go_enter Tryz.func101, Tryz.ntmps101
    go_wp2
    go_ret
    exact ⟨ret_bool (by simp [idCB, hd]), rfl⟩
/-- Of the group at place k: 1: no id; 3: it doesn't rise. -/
def cstepF (zs : List Int) (k : Nat) : Int := if idCB (zs.getD k 0) = false then 1 else if 0 < k ∧ zs.getD k 0 ≤ zs.getD (k - 1) 0 then 3 else 0
/-- The first wrong group from place k on, of so many. -/
def gF (zs : List Int) : Nat → Nat → Int
  | _, 0 => 0
  | k, n + 1 => if cstepF zs k = 0 then gF zs (k + 1) n else cstepF zs k
/-- What is wrong with a cred (0: nothing). -/
def credF (u g : Int) (zs : List Int) (c : Int) : Int :=
  if idCB u = false ∨ idCB g = false ∨ c < 0 ∨ 15 < c then 1 else if 4 < zs.length then 2 else gF zs 0 zs.length
theorem gF_ok {zs : List Int} {k n : Nat} (h : cstepF zs k = 0) : gF zs k (n + 1) = gF zs (k + 1) n := by simp [gF, h]
theorem gF_bad {zs : List Int} {k n : Nat} (h : ¬ cstepF zs k = 0) : gF zs k (n + 1) = cstepF zs k := by simp [gF, h]
theorem stepF_id {zs : List Int} {k : Nat} (h : idCB (zs.getD k 0) = false) : cstepF zs k = 1 := by unfold cstepF; rw [if_pos h]
theorem stepF_sh {zs : List Int} {k : Nat} (h : idCB (zs.getD k 0) = true) (hk : 0 < k) (hle : zs.getD k 0 ≤ zs.getD (k - 1) 0) : cstepF zs k = 3 := by
  unfold cstepF; rw [if_neg (by rw [h]; decide), if_pos ⟨hk, hle⟩]
theorem stepF_ok0 {zs : List Int} (h : idCB (zs.getD 0 0) = true) : cstepF zs 0 = 0 := by
  unfold cstepF; rw [if_neg (by rw [h]; decide), if_neg (by omega)]
theorem stepF_ok {zs : List Int} {k : Nat} (h : idCB (zs.getD k 0) = true) (hle : ¬ zs.getD k 0 ≤ zs.getD (k - 1) 0) : cstepF zs k = 0 := by
  unfold cstepF; rw [if_neg (by rw [h]; decide), if_neg (by intro hh; exact hle hh.2)]
theorem credF_len {u g c : Int} {zs : List Int} (h1 : idCB u = true) (h2 : idCB g = true) (h3 : ¬ c < 0) (h4 : ¬ 15 < c) (h5 : ¬ 4 < zs.length) : credF u g zs c = gF zs 0 zs.length := by
  unfold credF; rw [if_neg (by simp [h1, h2]; omega), if_neg h5]
theorem credF_many {u g c : Int} {zs : List Int} (h1 : idCB u = true) (h2 : idCB g = true) (h3 : ¬ c < 0) (h4 : ¬ 15 < c) (h5 : 4 < zs.length) : credF u g zs c = 2 := by
  unfold credF; rw [if_neg (by simp [h1, h2]; omega), if_pos h5]
theorem credF_one {u g c : Int} {zs : List Int} (h : idCB u = false ∨ idCB g = false ∨ c < 0 ∨ 15 < c) : credF u g zs c = 1 := by unfold credF; rw [if_pos h]
set_option maxRecDepth 100000 in
set_option maxHeartbeats 1000000 in
theorem ccheck_any (u g c : Int) (a : Option Addr) (cap : Nat) (zs : List Int) (w : World) (hl : zs.length ≤ 8) (h : Ints w a zs) :
    Calls Tryz.prog 83 #[.agg #[.int .i64 u, .int .i64 g, .slice a zs.length cap, .int .i64 c]] w fun e w' =>
      e = .returned (errV (credF u g zs c)) ∧ Below w.heap.size w w' := by
  by_cases hu : idCB u = false
  · go_enter Tryz.func83, Tryz.ntmps83
    go_wp2_with (go_at_call 101; refine (cisID_any _ _).mono ?_; rintro e w' ⟨rfl, rfl⟩)
    go_ret
    exact ⟨ret_val (errV_of (credF_one (.inl hu)) (by decide)).symm, (Below.refl _ _).alloc (Nat.le_refl _) _⟩
  have hu' : idCB u = true := by simpa using hu
  clear hu
  by_cases hg : idCB g = false
  · go_enter Tryz.func83, Tryz.ntmps83
    go_wp2_with (go_at_call 101; refine (cisID_any _ _).mono ?_; rintro e w' ⟨rfl, rfl⟩)
    go_ret
    exact ⟨ret_val (errV_of (credF_one (.inr (.inl hg))) (by decide)).symm, (Below.refl _ _).alloc (Nat.le_refl _) _⟩
  have hg' : idCB g = true := by simpa using hg
  clear hg
  by_cases hc0 : c < 0
  · go_enter Tryz.func83, Tryz.ntmps83
    go_wp2_with (go_at_call 101; refine (cisID_any _ _).mono ?_; rintro e w' ⟨rfl, rfl⟩)
    go_ret
    exact ⟨ret_val (errV_of (credF_one (.inr (.inr (.inl hc0)))) (by decide)).symm, (Below.refl _ _).alloc (Nat.le_refl _) _⟩
  have hd0 : decide (c < 0) = false := by simpa using hc0
  by_cases hc1 : 15 < c
  · go_enter Tryz.func83, Tryz.ntmps83
    go_wp2_with (go_at_call 101; refine (cisID_any _ _).mono ?_; rintro e w' ⟨rfl, rfl⟩)
    go_ret
    exact ⟨ret_val (errV_of (credF_one (.inr (.inr (.inr hc1)))) (by decide)).symm, (Below.refl _ _).alloc (Nat.le_refl _) _⟩
  have hd1 : decide (15 < c) = false := by simpa using hc1
  by_cases hn : 4 < zs.length
  · have HM : Hid (credF u g zs c = 2) := credF_many hu' hg' hc0 hc1 hn
    go_enter Tryz.func83, Tryz.ntmps83
    go_wp2_with (go_at_call 101; refine (cisID_any _ _).mono ?_; rintro e w' ⟨rfl, rfl⟩)
    go_ret
    exact ⟨ret_val (errV_of HM.out (by decide)).symm, (Below.refl _ _).alloc (Nat.le_refl _) _⟩
  have HF : Hid (credF u g zs c = gF zs 0 zs.length) := credF_len hu' hg' hc0 hc1 hn
  go_enter Tryz.func83, Tryz.ntmps83
  go_wp2_with (go_at_call 101; refine (cisID_any _ _).mono ?_; rintro e w' ⟨rfl, rfl⟩)
  go_loop [34] (fun i => ∃ k : Nat, k ≤ zs.length ∧ i = .int .i64 k ∧ Hid (gF zs 0 zs.length = gF zs k (zs.length - k))) (fun i => zs.length - (intOf i).toNat)
  case atStart => exact ⟨0, Nat.zero_le _, rfl, rfl⟩
  case round =>
    obtain ⟨k, hk, rfl, HR⟩ := hrel
    by_cases hlt : k < zs.length
    · rcases h with rfl | ⟨b, off, rfl, hc⟩
      · simp at hlt
      · have hck := hc k hlt
        have hbl : b < w.heap.size := World.block_lt_of_cell? _ _ hck
        have HS : Hid (gF zs k (zs.length - k) = gF zs k ((zs.length - (k + 1)) + 1)) := by show _ = _; congr 1; omega
        by_cases hi : idCB (zs.getD k 0) = false
        · have hi2 : idCB zs[k] = false := by simpa [hlt] using hi
          go_wp2_with (go_at_call 101; refine (cisID_any _ _).mono ?_; rintro e w' ⟨rfl, rfl⟩)
          go_ret
          exact ⟨ret_val (errV_of (by rw [HF.out, HR.out, HS.out, gF_bad (by rw [stepF_id hi]; decide), stepF_id hi]) (by decide)).symm, (Below.refl _ _).alloc (Nat.le_refl _) _⟩
        · have hi1 : idCB (zs.getD k 0) = true := by simpa using hi
          have hi2 : idCB zs[k] = true := by simpa [hlt] using hi1
          clear hi
          rcases k with _ | j
          · have HN : Hid (gF zs 0 (zs.length - 0) = gF zs 1 (zs.length - 1)) := HS.out.trans (gF_ok (stepF_ok0 hi1))
            have hck0 : w.cell? ⟨b, off, none⟩ = some (.int .i64 (zs.getD 0 0)) := hck
            clear hi1 HS hck
            go_wp2_with (go_at_call 101; refine (cisID_any _ _).mono ?_; rintro e w' ⟨rfl, rfl⟩)
            go_round
            case rel => exact ⟨1, by omega, rfl, HR.out.trans HN.out⟩
            case measure => simp [intOf]; omega
          · have hcj := hc j (by omega)
            have hjl : j < zs.length := by omega
            by_cases hle : zs.getD (j + 1) 0 ≤ zs.getD j 0
            · have HN : Hid (gF zs (j + 1) (zs.length - (j + 1)) = 3) := HS.out.trans ((gF_bad (by rw [stepF_sh hi1 (by omega) hle]; decide)).trans (stepF_sh hi1 (by omega) hle))
              have hle2 : zs[j + 1] ≤ zs[j] := by simpa [hlt, hjl] using hle
              clear hi1 HS hle
              go_wp2_with (go_at_call 101; refine (cisID_any _ _).mono ?_; rintro e w' ⟨rfl, rfl⟩)
              go_ret
              exact ⟨ret_val (errV_of (by rw [HF.out, HR.out, HN.out]) (by decide)).symm, (Below.refl _ _).alloc (Nat.le_refl _) _⟩
            · have HN : Hid (gF zs (j + 1) (zs.length - (j + 1)) = gF zs (j + 2) (zs.length - (j + 2))) := HS.out.trans (gF_ok (stepF_ok hi1 hle))
              have hle2 : ¬ zs[j + 1] ≤ zs[j] := by simpa [hlt, hjl] using hle
              have hle3 : decide (zs[j + 1] ≤ zs[j]) = false := by simpa using hle2
              clear hi1 HS hle
              go_wp2_with (go_at_call 101; refine (cisID_any _ _).mono ?_; rintro e w' ⟨rfl, rfl⟩)
              go_round
              case rel => exact ⟨j + 2, by omega, by go_num, HR.out.trans HN.out⟩
              case measure => simp [intOf]; omega
    · have e0 : zs.length - k = 0 := by omega
      go_wp2
      go_ret
      exact ⟨ret_val (errV_nil (by rw [HF.out, HR.out, e0]; rfl)).symm, (Below.refl _ _).alloc (Nat.le_refl _) _⟩
end Go.Proofs.YtkjknbjjchdjlaaGreatDoor
namespace Go.Proofs.YtkjknbjjchdjlaaGreatDoor
open Go.RowKit
theorem Ints.alloc {w : World} {a : Option Addr} {zs : List Int} (h : Ints w a zs) (o : Obj) : Ints (w.alloc o) a zs := h.below ((Below.refl _ _).alloc (Nat.le_refl _) _)
end Go.Proofs.YtkjknbjjchdjlaaGreatDoor
