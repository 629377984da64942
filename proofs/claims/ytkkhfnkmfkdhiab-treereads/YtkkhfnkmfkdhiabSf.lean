/-
  THE DOCUMENT's Parse OF ANY BYTES: the walk.
-/
import Derived.Test.YtkkhfnkmfkdhiabSc
import Derived.Test.YtkkhfnkmfkdhiabSd
import Derived.Test.YtkkhfnkmfkdhiabWd
namespace Go.Proofs.Ytkkhfnkmfkdhiab
open Go.RowKit

set_option maxRecDepth 100000 in
set_option maxHeartbeats 4000000 in
theorem rParse_all (up : Bool) {w : World} (Y : List UInt8) (hlen : Y.length ≤ 3000) :
    Calls Try.prog 19 #[.string (ofB Y), .bool up] w fun e w' => (∃ x h', e = .returned (.tuple #[ndV x h', .bool true]) ∧ Gd up Y x ∧ NdV w'.cell? x h' ∧ Below w.heap.size w w') ∨ (e = .returned (.tuple #[ndV zN zH, .bool false]) ∧ (∀ x, ¬ Gd up Y x) ∧ Below w.heap.size w w') := by
  have HCK : Hid (∀ (w1 : World) (y : Nd) (hy : Hd), rNd dR (Y.length + 1) Y = some (y, []) → NdV w1.cell? y hy → Calls Try.prog 18 #[ndV y hy, .bool up] w1 fun e W' => e = .returned (.int .i64 (tfF up y)) ∧ Below w1.heap.size w1 W') := fun w1 y hy hr hN => treeFault_any up hN (rNd_lil hr) (by
    have h1 := rNd_some dR_sum hr
    have h2 := cnt_ten y
    rw [List.append_nil] at h1
    rw [← h1] at h2
    omega)
  have hz : (ofB Y).size = Y.length := ofB_size Y
  have hal1 : Below w.heap.size w (w.alloc (.cells #[.int .i64 0, .int .i64 0, .int .i64 0, .int .i64 0, .bool false, .slice none 0 0, .string ⟨#[]⟩, .slice none 0 0] 25)) := (Below.refl _ _).alloc (Nat.le_refl _) _
  have HX2 : Hid (BX ((w.alloc (.cells #[.int .i64 0, .int .i64 0, .int .i64 0, .int .i64 0, .bool false, .slice none 0 0, .string ⟨#[]⟩, .slice none 0 0] 25)).alloc (.cells #[.string (ofB Y), .int .i64 0, .bool false] 108)) w.heap.size [.int .i64 0, .int .i64 0, .int .i64 0, .int .i64 0, .bool false, .slice none 0 0, .string ⟨#[]⟩, .slice none 0 0]) := (BX.new w _ _).below ((Below.refl _ _).alloc (Nat.le_refl _) _)
  have hbx : BX ((w.alloc (.cells #[.int .i64 0, .int .i64 0, .int .i64 0, .int .i64 0, .bool false, .slice none 0 0, .string ⟨#[]⟩, .slice none 0 0] 25)).alloc (.cells #[.string (ofB Y), .int .i64 0, .bool false] 108)) (w.alloc (.cells #[.int .i64 0, .int .i64 0, .int .i64 0, .int .i64 0, .bool false, .slice none 0 0, .string ⟨#[]⟩, .slice none 0 0] 25)).heap.size [.string (ofB Y), .int .i64 ((0 : Nat) : Int), .bool false] := BX.new (w.alloc (.cells #[.int .i64 0, .int .i64 0, .int .i64 0, .int .i64 0, .bool false, .slice none 0 0, .string ⟨#[]⟩, .slice none 0 0] 25)) _ _
  rw [World.size_alloc] at hbx
  have HR2 : Hid (SBL ((w.alloc (.cells #[.int .i64 0, .int .i64 0, .int .i64 0, .int .i64 0, .bool false, .slice none 0 0, .string ⟨#[]⟩, .slice none 0 0] 25)).alloc (.cells #[.string (ofB Y), .int .i64 0, .bool false] 108)) (w.heap.size + 1) Y Y false) := ⟨0, hbx, by omega, fun _ => rfl, fun e => by cases e⟩
  have HB2 : Hid (Below w.heap.size w ((w.alloc (.cells #[.int .i64 0, .int .i64 0, .int .i64 0, .int .i64 0, .bool false, .slice none 0 0, .string ⟨#[]⟩, .slice none 0 0] 25)).alloc (.cells #[.string (ofB Y), .int .i64 0, .bool false] 108))) := hal1.alloc (by rw [World.size_alloc]; omega) _
  clear hbx hal1
  have HCN : Calls Try.prog 66 #[.pointer (some ⟨w.heap.size + 1, 0, none⟩), .int .i64 0] ((w.alloc (.cells #[.int .i64 0, .int .i64 0, .int .i64 0, .int .i64 0, .bool false, .slice none 0 0, .string ⟨#[]⟩, .slice none 0 0] 25)).alloc (.cells #[.string (ofB Y), .int .i64 0, .bool false] 108)) _ := snode_any (w.heap.size + 1) Y (by omega) (Y.length + 2) ((w.alloc (.cells #[.int .i64 0, .int .i64 0, .int .i64 0, .int .i64 0, .bool false, .slice none 0 0, .string ⟨#[]⟩, .slice none 0 0] 25)).alloc (.cells #[.string (ofB Y), .int .i64 0, .bool false] 108)) Y false 0 (by simp [mes]) HR2.out (by omega) (Y.length + 1) (by omega)
  have HCN2 : Hid _ := HCN
  clear HCN
  go_enter Try.func19, Try.ntmps19
  go_wp2_with fail
  refine Calls.mono HCN2.out ?_
  rintro e w3 ⟨y, hy, l', f', rfl, hR3, hb3, hN3, hNP⟩
  have HX3 : Hid (BX w3 w.heap.size [.int .i64 0, .int .i64 0, .int .i64 0, .int .i64 0, .bool false, .slice none 0 0, .string ⟨#[]⟩, .slice none 0 0]) := HX2.out.but hb3 (by omega)
  have HB3 : Hid (Below w.heap.size w w3) := HB2.out.trans (hb3.below (by omega) HB2.out.size)
  have HN3 : Hid (NdV w3.cell? y hy) := hN3.on (offS_le _ _)
  have HNW : Hid (NdV (newM (w.heap.size + 1) w3) y hy) := hN3.on (newM_mono (by rw [World.size_alloc, World.size_alloc]; omega))
  obtain ⟨q, hR3, hq1, hq2, _⟩ := hR3
  have HR3 : Hid (BX w3 (w.heap.size + 1) [.string (ofB Y), .int .i64 q, .bool f']) := hR3
  have HP : Hid (NQ (Y.length + 1) Y false 0 y l' f') := hNP
  clear hR3 hb3 hN3 HX2 HR2 HB2 HCN2 hNP
  obtain ⟨k, m, u, g, o, at_, d, ks⟩ := y
  have ev : ndV (.mk k m u g o at_ d ks) hy = .agg #[.int .i64 k, .int .i64 m, .int .i64 u, .int .i64 g, .bool o, .slice hy.aa at_.length hy.ca, .string d, .slice hy.ak ks.length hy.ck] := rfl
  rw [ev]
  clear ev
  have hal3 : Below w3.heap.size w3 (w3.alloc (.cells #[.int .i64 k, .int .i64 m, .int .i64 u, .int .i64 g, .bool o, .slice hy.aa at_.length hy.ca, .string d, .slice hy.ak ks.length hy.ck] 25)) := (Below.refl _ _).alloc (Nat.le_refl _) _
  have HX4 : Hid (BX (w3.alloc (.cells #[.int .i64 k, .int .i64 m, .int .i64 u, .int .i64 g, .bool o, .slice hy.aa at_.length hy.ca, .string d, .slice hy.ak ks.length hy.ck] 25)) w.heap.size [.int .i64 0, .int .i64 0, .int .i64 0, .int .i64 0, .bool false, .slice none 0 0, .string ⟨#[]⟩, .slice none 0 0]) := HX3.out.below hal3
  have HY4 : Hid (BX (w3.alloc (.cells #[.int .i64 k, .int .i64 m, .int .i64 u, .int .i64 g, .bool o, .slice hy.aa at_.length hy.ca, .string d, .slice hy.ak ks.length hy.ck] 25)) w3.heap.size [.int .i64 k, .int .i64 m, .int .i64 u, .int .i64 g, .bool o, .slice hy.aa at_.length hy.ca, .string d, .slice hy.ak ks.length hy.ck]) := BX.new w3 _ _
  have HR4 := HR3.out.below hal3
  have HB4 : Hid (Below w.heap.size w (w3.alloc (.cells #[.int .i64 k, .int .i64 m, .int .i64 u, .int .i64 g, .bool o, .slice hy.aa at_.length hy.ca, .string d, .slice hy.ak ks.length hy.ck] 25))) := HB3.out.trans (hal3.mono HB3.out.size)
  have HN4 : Hid (NdV (w3.alloc (.cells #[.int .i64 k, .int .i64 m, .int .i64 u, .int .i64 g, .bool o, .slice hy.aa at_.length hy.ca, .string d, .slice hy.ak ks.length hy.ck] 25)).cell? (.mk k m u g o at_ d ks) hy) := HN3.out.ab hal3
  have r0 := HR4.1 0 _ rfl
  have r1 := HR4.1 1 _ rfl
  have r2 := HR4.1 2 _ rfl
  obtain ⟨y0, y1, y2, y3, y4, y5, y6, y7⟩ := eightX HY4.out
  clear hal3 HX3 HB3 HN3 HR3 HR4
  cases f' with
  | true =>
    have HNO : Hid (∀ x, ¬ Gd up Y x) := fun x hx => by
      have h1 := hx.toR
      have h2 := HP.out.bad rfl rfl x [] h1.1
      omega
    clear HP hq1 hq2 hz hlen
    have HX5 : Hid (BX (w3.alloc (.cells #[.int .i64 k, .int .i64 m, .int .i64 u, .int .i64 g, .bool o, .slice hy.aa at_.length hy.ca, .string d, .slice hy.ak ks.length hy.ck] 25)) w.heap.size [.int .i64 0, .int .i64 0, .int .i64 0, .int .i64 0, .bool false, .slice none 0 0, .string ⟨#[]⟩, .slice none 0 0]) := HX4
    have HB5 : Hid (Below w.heap.size w (w3.alloc (.cells #[.int .i64 k, .int .i64 m, .int .i64 u, .int .i64 g, .bool o, .slice hy.aa at_.length hy.ca, .string d, .slice hy.ak ks.length hy.ck] 25))) := HB4
    clear HX4 HB4 HCK HNW
    obtain ⟨x0, x1, x2, x3, x4, x5, x6, x7⟩ := eightX HX5.out
    have f0 := HX5.out.2 0
    have f1 := HX5.out.2 1
    have f2 := HX5.out.2 2
    have f3 := HX5.out.2 3
    have f4 := HX5.out.2 4
    have f5 := HX5.out.2 5
    have f6 := HX5.out.2 6
    have f7 := HX5.out.2 7
    go_wp2
    have HXF : Hid (BX (((((((((w3.alloc (.cells #[.int .i64 k, .int .i64 m, .int .i64 u, .int .i64 g, .bool o, .slice hy.aa at_.length hy.ca, .string d, .slice hy.ak ks.length hy.ck] 25)).setCell ⟨w.heap.size, 0, none⟩ (.int .i64 0)).setCell ⟨w.heap.size, 1, none⟩ (.int .i64 0)).setCell ⟨w.heap.size, 2, none⟩ (.int .i64 0)).setCell ⟨w.heap.size, 3, none⟩ (.int .i64 0)).setCell ⟨w.heap.size, 4, none⟩ (.bool false)).setCell ⟨w.heap.size, 5, none⟩ (.slice none 0 0)).setCell ⟨w.heap.size, 6, none⟩ (.string ⟨#[]⟩)).setCell ⟨w.heap.size, 7, none⟩ (.slice none 0 0)) w.heap.size [.int .i64 0, .int .i64 0, .int .i64 0, .int .i64 0, .bool false, .slice none 0 0, .string ⟨#[]⟩, .slice none 0 0]) := (((((((HX5.out.set 0 (by simp) _).set 1 (by simp) _).set 2 (by simp) _).set 3 (by simp) _).set 4 (by simp) _).set 5 (by simp) _).set 6 (by simp) _).set 7 (by simp) _
    have HBF : Hid (But w.heap.size (w3.alloc (.cells #[.int .i64 k, .int .i64 m, .int .i64 u, .int .i64 g, .bool o, .slice hy.aa at_.length hy.ca, .string d, .slice hy.ak ks.length hy.ck] 25)) (((((((((w3.alloc (.cells #[.int .i64 k, .int .i64 m, .int .i64 u, .int .i64 g, .bool o, .slice hy.aa at_.length hy.ca, .string d, .slice hy.ak ks.length hy.ck] 25)).setCell ⟨w.heap.size, 0, none⟩ (.int .i64 0)).setCell ⟨w.heap.size, 1, none⟩ (.int .i64 0)).setCell ⟨w.heap.size, 2, none⟩ (.int .i64 0)).setCell ⟨w.heap.size, 3, none⟩ (.int .i64 0)).setCell ⟨w.heap.size, 4, none⟩ (.bool false)).setCell ⟨w.heap.size, 5, none⟩ (.slice none 0 0)).setCell ⟨w.heap.size, 6, none⟩ (.string ⟨#[]⟩)).setCell ⟨w.heap.size, 7, none⟩ (.slice none 0 0))) := ((((((((But.refl _ _).setCell _ _ _).setCell _ _ _).setCell _ _ _).setCell _ _ _).setCell _ _ _).setCell _ _ _).setCell _ _ _).setCell _ _ _
    generalize (((((((((w3.alloc (.cells #[.int .i64 k, .int .i64 m, .int .i64 u, .int .i64 g, .bool o, .slice hy.aa at_.length hy.ca, .string d, .slice hy.ak ks.length hy.ck] 25)).setCell ⟨w.heap.size, 0, none⟩ (.int .i64 0)).setCell ⟨w.heap.size, 1, none⟩ (.int .i64 0)).setCell ⟨w.heap.size, 2, none⟩ (.int .i64 0)).setCell ⟨w.heap.size, 3, none⟩ (.int .i64 0)).setCell ⟨w.heap.size, 4, none⟩ (.bool false)).setCell ⟨w.heap.size, 5, none⟩ (.slice none 0 0)).setCell ⟨w.heap.size, 6, none⟩ (.string ⟨#[]⟩)).setCell ⟨w.heap.size, 7, none⟩ (.slice none 0 0)) = wF at HXF HBF ⊢
    have hBW : Below w.heap.size w wF := HB5.out.trans (HBF.out.below (Nat.le_refl _) HB5.out.size)
    obtain ⟨r0, r1, r2, r3, r4, r5, r6, r7⟩ := eightX HXF.out
    refine bodyPost_ret (v := .tuple #[ndV zN zH, .bool false]) (by simp [results, Try.results19, go_sem, ndV, zN, zH, r0, r1, r2, r3, r4, r5, r6, r7]) rfl (.inr ⟨rfl, HNO.out, hBW⟩)
  | false =>
  obtain ⟨_, p2, p3⟩ := HP.out.ok rfl
  have HRD : Hid (rNd dR (Y.length + 1) Y = some (.mk k m u g o at_ d ks, l')) := p2
  have hq3 := hq2 rfl
  clear p2 p3 HP hq2
  by_cases hlt : q < Y.length
  · have HNO : Hid (∀ x, ¬ Gd up Y x) := fun x hx => by
      have h1 := hx.toR
      rw [HRD.out, hq3] at h1
      simp only [Option.some.injEq, Prod.mk.injEq, List.drop_eq_nil_iff] at h1
      omega
    clear HRD hq3
    have hlt2 : (q : Int) < ((ofB Y).size : Nat) := by omega
    have hlt3 : q < (ofB Y).size := by omega
    clear hz hq1 hlen hlt
    generalize ofB Y = Z at *
    have HX5 : Hid (BX (w3.alloc (.cells #[.int .i64 k, .int .i64 m, .int .i64 u, .int .i64 g, .bool o, .slice hy.aa at_.length hy.ca, .string d, .slice hy.ak ks.length hy.ck] 25)) w.heap.size [.int .i64 0, .int .i64 0, .int .i64 0, .int .i64 0, .bool false, .slice none 0 0, .string ⟨#[]⟩, .slice none 0 0]) := HX4
    have HB5 : Hid (Below w.heap.size w (w3.alloc (.cells #[.int .i64 k, .int .i64 m, .int .i64 u, .int .i64 g, .bool o, .slice hy.aa at_.length hy.ca, .string d, .slice hy.ak ks.length hy.ck] 25))) := HB4
    clear HX4 HB4 HCK HNW
    obtain ⟨x0, x1, x2, x3, x4, x5, x6, x7⟩ := eightX HX5.out
    have f0 := HX5.out.2 0
    have f1 := HX5.out.2 1
    have f2 := HX5.out.2 2
    have f3 := HX5.out.2 3
    have f4 := HX5.out.2 4
    have f5 := HX5.out.2 5
    have f6 := HX5.out.2 6
    have f7 := HX5.out.2 7
    go_wp2
    have HXF : Hid (BX (((((((((w3.alloc (.cells #[.int .i64 k, .int .i64 m, .int .i64 u, .int .i64 g, .bool o, .slice hy.aa at_.length hy.ca, .string d, .slice hy.ak ks.length hy.ck] 25)).setCell ⟨w.heap.size, 0, none⟩ (.int .i64 0)).setCell ⟨w.heap.size, 1, none⟩ (.int .i64 0)).setCell ⟨w.heap.size, 2, none⟩ (.int .i64 0)).setCell ⟨w.heap.size, 3, none⟩ (.int .i64 0)).setCell ⟨w.heap.size, 4, none⟩ (.bool false)).setCell ⟨w.heap.size, 5, none⟩ (.slice none 0 0)).setCell ⟨w.heap.size, 6, none⟩ (.string ⟨#[]⟩)).setCell ⟨w.heap.size, 7, none⟩ (.slice none 0 0)) w.heap.size [.int .i64 0, .int .i64 0, .int .i64 0, .int .i64 0, .bool false, .slice none 0 0, .string ⟨#[]⟩, .slice none 0 0]) := (((((((HX5.out.set 0 (by simp) _).set 1 (by simp) _).set 2 (by simp) _).set 3 (by simp) _).set 4 (by simp) _).set 5 (by simp) _).set 6 (by simp) _).set 7 (by simp) _
    have HBF : Hid (But w.heap.size (w3.alloc (.cells #[.int .i64 k, .int .i64 m, .int .i64 u, .int .i64 g, .bool o, .slice hy.aa at_.length hy.ca, .string d, .slice hy.ak ks.length hy.ck] 25)) (((((((((w3.alloc (.cells #[.int .i64 k, .int .i64 m, .int .i64 u, .int .i64 g, .bool o, .slice hy.aa at_.length hy.ca, .string d, .slice hy.ak ks.length hy.ck] 25)).setCell ⟨w.heap.size, 0, none⟩ (.int .i64 0)).setCell ⟨w.heap.size, 1, none⟩ (.int .i64 0)).setCell ⟨w.heap.size, 2, none⟩ (.int .i64 0)).setCell ⟨w.heap.size, 3, none⟩ (.int .i64 0)).setCell ⟨w.heap.size, 4, none⟩ (.bool false)).setCell ⟨w.heap.size, 5, none⟩ (.slice none 0 0)).setCell ⟨w.heap.size, 6, none⟩ (.string ⟨#[]⟩)).setCell ⟨w.heap.size, 7, none⟩ (.slice none 0 0))) := ((((((((But.refl _ _).setCell _ _ _).setCell _ _ _).setCell _ _ _).setCell _ _ _).setCell _ _ _).setCell _ _ _).setCell _ _ _).setCell _ _ _
    generalize (((((((((w3.alloc (.cells #[.int .i64 k, .int .i64 m, .int .i64 u, .int .i64 g, .bool o, .slice hy.aa at_.length hy.ca, .string d, .slice hy.ak ks.length hy.ck] 25)).setCell ⟨w.heap.size, 0, none⟩ (.int .i64 0)).setCell ⟨w.heap.size, 1, none⟩ (.int .i64 0)).setCell ⟨w.heap.size, 2, none⟩ (.int .i64 0)).setCell ⟨w.heap.size, 3, none⟩ (.int .i64 0)).setCell ⟨w.heap.size, 4, none⟩ (.bool false)).setCell ⟨w.heap.size, 5, none⟩ (.slice none 0 0)).setCell ⟨w.heap.size, 6, none⟩ (.string ⟨#[]⟩)).setCell ⟨w.heap.size, 7, none⟩ (.slice none 0 0)) = wF at HXF HBF ⊢
    have hBW : Below w.heap.size w wF := HB5.out.trans (HBF.out.below (Nat.le_refl _) HB5.out.size)
    obtain ⟨r0, r1, r2, r3, r4, r5, r6, r7⟩ := eightX HXF.out
    refine bodyPost_ret (v := .tuple #[ndV zN zH, .bool false]) (by simp [results, Try.results19, go_sem, ndV, zN, zH, r0, r1, r2, r3, r4, r5, r6, r7]) rfl (.inr ⟨rfl, HNO.out, hBW⟩)
  have hl0 : l' = [] := by rw [hq3, List.drop_eq_nil_iff]; omega
  have hlt2 : ¬ (q : Int) < ((ofB Y).size : Nat) := by omega
  have hlt3 : ¬ q < (ofB Y).size := by omega
  subst hl0
  have HC4 : Hid (Calls Try.prog 18 #[.agg #[.int .i64 k, .int .i64 m, .int .i64 u, .int .i64 g, .bool o, .slice hy.aa at_.length hy.ca, .string d, .slice hy.ak ks.length hy.ck], .bool up] (w3.alloc (.cells #[.int .i64 k, .int .i64 m, .int .i64 u, .int .i64 g, .bool o, .slice hy.aa at_.length hy.ca, .string d, .slice hy.ak ks.length hy.ck] 25)) fun e W' => e = .returned (.int .i64 (tfF up (.mk k m u g o at_ d ks))) ∧ Below (w3.alloc (.cells #[.int .i64 k, .int .i64 m, .int .i64 u, .int .i64 g, .bool o, .slice hy.aa at_.length hy.ca, .string d, .slice hy.ak ks.length hy.ck] 25)).heap.size (w3.alloc (.cells #[.int .i64 k, .int .i64 m, .int .i64 u, .int .i64 g, .bool o, .slice hy.aa at_.length hy.ca, .string d, .slice hy.ak ks.length hy.ck] 25)) W') := HCK.out _ _ _ HRD.out HN4.out
  have hr1 := tfF_range up (.mk k m u g o at_ d ks)
  obtain ⟨F, HFF⟩ : ∃ F, Hid (tfF up (.mk k m u g o at_ d ks) = F) := ⟨_, rfl⟩
  rw [HFF.out] at HC4 hr1
  clear HCK hq3 hlt hz hq1 hlen
  generalize ofB Y = Z at *
  go_wp2_with fail
  refine Calls.mono HC4.out ?_
  rintro e w5 ⟨rfl, hB5⟩
  have HX5 : Hid (BX w5 w.heap.size [.int .i64 0, .int .i64 0, .int .i64 0, .int .i64 0, .bool false, .slice none 0 0, .string ⟨#[]⟩, .slice none 0 0]) := HX4.out.below hB5
  have HY5 := HY4.out.below hB5
  have HB5 : Hid (Below w.heap.size w w5) := HB4.out.trans (hB5.mono HB4.out.size)
  have HNX : ∀ wF, But w.heap.size w5 wF → NdV wF.cell? (.mk k m u g o at_ d ks) hy := fun wF hF => HNW.out.on (newM_step fun q hq hlt => by
    have hz := hB5.size
    rw [World.size_alloc] at hz
    rw [hF.block q (by omega) (by omega), hB5.block q (by rw [World.size_alloc]; omega)]
    exact Below.heap_alloc _ _ _ hlt)
  clear HX4 HY4 HB4 HN4 HC4 hB5 y0 y1 y2 y3 y4 y5 y6 y7 r0 r1 r2 hlt2 hlt3
  obtain ⟨b0, b1, b2, b3, b4, b5, b6, b7⟩ := eightX HY5
  by_cases hF : F = 0
  · have HGD : Hid (Gd up Y (.mk k m u g o at_ d ks)) := Gd.ofR HRD.out (by rw [HFF.out]; exact hF)
    subst hF
    clear HFF HRD hr1
    obtain ⟨x0, x1, x2, x3, x4, x5, x6, x7⟩ := eightX HX5.out
    have f0 := HX5.out.2 0
    have f1 := HX5.out.2 1
    have f2 := HX5.out.2 2
    have f3 := HX5.out.2 3
    have f4 := HX5.out.2 4
    have f5 := HX5.out.2 5
    have f6 := HX5.out.2 6
    have f7 := HX5.out.2 7
    go_wp2
    have HXF : Hid (BX ((((((((w5.setCell ⟨w.heap.size, 0, none⟩ (.int .i64 k)).setCell ⟨w.heap.size, 1, none⟩ (.int .i64 m)).setCell ⟨w.heap.size, 2, none⟩ (.int .i64 u)).setCell ⟨w.heap.size, 3, none⟩ (.int .i64 g)).setCell ⟨w.heap.size, 4, none⟩ (.bool o)).setCell ⟨w.heap.size, 5, none⟩ (.slice hy.aa at_.length hy.ca)).setCell ⟨w.heap.size, 6, none⟩ (.string d)).setCell ⟨w.heap.size, 7, none⟩ (.slice hy.ak ks.length hy.ck)) w.heap.size [.int .i64 k, .int .i64 m, .int .i64 u, .int .i64 g, .bool o, .slice hy.aa at_.length hy.ca, .string d, .slice hy.ak ks.length hy.ck]) := (((((((HX5.out.set 0 (by simp) _).set 1 (by simp) _).set 2 (by simp) _).set 3 (by simp) _).set 4 (by simp) _).set 5 (by simp) _).set 6 (by simp) _).set 7 (by simp) _
    have HBF : Hid (But w.heap.size w5 ((((((((w5.setCell ⟨w.heap.size, 0, none⟩ (.int .i64 k)).setCell ⟨w.heap.size, 1, none⟩ (.int .i64 m)).setCell ⟨w.heap.size, 2, none⟩ (.int .i64 u)).setCell ⟨w.heap.size, 3, none⟩ (.int .i64 g)).setCell ⟨w.heap.size, 4, none⟩ (.bool o)).setCell ⟨w.heap.size, 5, none⟩ (.slice hy.aa at_.length hy.ca)).setCell ⟨w.heap.size, 6, none⟩ (.string d)).setCell ⟨w.heap.size, 7, none⟩ (.slice hy.ak ks.length hy.ck))) := ((((((((But.refl _ _).setCell _ _ _).setCell _ _ _).setCell _ _ _).setCell _ _ _).setCell _ _ _).setCell _ _ _).setCell _ _ _).setCell _ _ _
    generalize ((((((((w5.setCell ⟨w.heap.size, 0, none⟩ (.int .i64 k)).setCell ⟨w.heap.size, 1, none⟩ (.int .i64 m)).setCell ⟨w.heap.size, 2, none⟩ (.int .i64 u)).setCell ⟨w.heap.size, 3, none⟩ (.int .i64 g)).setCell ⟨w.heap.size, 4, none⟩ (.bool o)).setCell ⟨w.heap.size, 5, none⟩ (.slice hy.aa at_.length hy.ca)).setCell ⟨w.heap.size, 6, none⟩ (.string d)).setCell ⟨w.heap.size, 7, none⟩ (.slice hy.ak ks.length hy.ck)) = wF at HXF HBF ⊢
    have hBW : Below w.heap.size w wF := HB5.out.trans (HBF.out.below (Nat.le_refl _) HB5.out.size)
    obtain ⟨r0, r1, r2, r3, r4, r5, r6, r7⟩ := eightX HXF.out
    have HNF : NdV wF.cell? (.mk k m u g o at_ d ks) hy := HNX wF HBF.out
    refine bodyPost_ret (v := .tuple #[ndV (.mk k m u g o at_ d ks) hy, .bool true]) (by simp [results, Try.results19, go_sem, ndV, r0, r1, r2, r3, r4, r5, r6, r7]) rfl (.inl ⟨_, hy, rfl, HGD.out, HNF, hBW⟩)
  · have HNO : Hid (∀ x, ¬ Gd up Y x) := fun x hx => by
      have h1 := hx.toR.1
      rw [HRD.out] at h1
      simp only [Option.some.injEq, Prod.mk.injEq, and_true] at h1
      have h2 := hx.ok
      rw [← h1, HFF.out] at h2
      exact hF h2
    have hp : 0 < F := by omega
    clear HFF HRD HNX hr1 hF
    obtain ⟨x0, x1, x2, x3, x4, x5, x6, x7⟩ := eightX HX5.out
    have f0 := HX5.out.2 0
    have f1 := HX5.out.2 1
    have f2 := HX5.out.2 2
    have f3 := HX5.out.2 3
    have f4 := HX5.out.2 4
    have f5 := HX5.out.2 5
    have f6 := HX5.out.2 6
    have f7 := HX5.out.2 7
    go_wp2
    have HXF : Hid (BX ((((((((w5.setCell ⟨w.heap.size, 0, none⟩ (.int .i64 0)).setCell ⟨w.heap.size, 1, none⟩ (.int .i64 0)).setCell ⟨w.heap.size, 2, none⟩ (.int .i64 0)).setCell ⟨w.heap.size, 3, none⟩ (.int .i64 0)).setCell ⟨w.heap.size, 4, none⟩ (.bool false)).setCell ⟨w.heap.size, 5, none⟩ (.slice none 0 0)).setCell ⟨w.heap.size, 6, none⟩ (.string ⟨#[]⟩)).setCell ⟨w.heap.size, 7, none⟩ (.slice none 0 0)) w.heap.size [.int .i64 0, .int .i64 0, .int .i64 0, .int .i64 0, .bool false, .slice none 0 0, .string ⟨#[]⟩, .slice none 0 0]) := (((((((HX5.out.set 0 (by simp) _).set 1 (by simp) _).set 2 (by simp) _).set 3 (by simp) _).set 4 (by simp) _).set 5 (by simp) _).set 6 (by simp) _).set 7 (by simp) _
    have HBF : Hid (But w.heap.size w5 ((((((((w5.setCell ⟨w.heap.size, 0, none⟩ (.int .i64 0)).setCell ⟨w.heap.size, 1, none⟩ (.int .i64 0)).setCell ⟨w.heap.size, 2, none⟩ (.int .i64 0)).setCell ⟨w.heap.size, 3, none⟩ (.int .i64 0)).setCell ⟨w.heap.size, 4, none⟩ (.bool false)).setCell ⟨w.heap.size, 5, none⟩ (.slice none 0 0)).setCell ⟨w.heap.size, 6, none⟩ (.string ⟨#[]⟩)).setCell ⟨w.heap.size, 7, none⟩ (.slice none 0 0))) := ((((((((But.refl _ _).setCell _ _ _).setCell _ _ _).setCell _ _ _).setCell _ _ _).setCell _ _ _).setCell _ _ _).setCell _ _ _).setCell _ _ _
    generalize ((((((((w5.setCell ⟨w.heap.size, 0, none⟩ (.int .i64 0)).setCell ⟨w.heap.size, 1, none⟩ (.int .i64 0)).setCell ⟨w.heap.size, 2, none⟩ (.int .i64 0)).setCell ⟨w.heap.size, 3, none⟩ (.int .i64 0)).setCell ⟨w.heap.size, 4, none⟩ (.bool false)).setCell ⟨w.heap.size, 5, none⟩ (.slice none 0 0)).setCell ⟨w.heap.size, 6, none⟩ (.string ⟨#[]⟩)).setCell ⟨w.heap.size, 7, none⟩ (.slice none 0 0)) = wF at HXF HBF ⊢
    have hBW : Below w.heap.size w wF := HB5.out.trans (HBF.out.below (Nat.le_refl _) HB5.out.size)
    obtain ⟨r0, r1, r2, r3, r4, r5, r6, r7⟩ := eightX HXF.out
    refine bodyPost_ret (v := .tuple #[ndV zN zH, .bool false]) (by simp [results, Try.results19, go_sem, ndV, zN, zH, r0, r1, r2, r3, r4, r5, r6, r7]) rfl (.inr ⟨rfl, HNO.out, hBW⟩)
end Go.Proofs.Ytkkhfnkmfkdhiab
