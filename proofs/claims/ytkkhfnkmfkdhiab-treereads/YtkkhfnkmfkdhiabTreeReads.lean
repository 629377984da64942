/-
  PROVED: for every text, upper or not, the call of TreeReads returns true, and the arguments read behind it as they read before. No condition.
-/
import Derived.Test.YtkkhfnkmfkdhiabSe
import Derived.Test.YtkkhfnkmfkdhiabSf
import Derived.Test.YtkkhfnkmfkdhiabVh
import Derived.Test.YtkkhfnkmfkdhiabWx
import Derived.Test.YtkkhfnkmfkdhiabWv
import Derived.ChangeMaps5
namespace Go.Proofs.Ytkkhfnkmfkdhiab
open Go.ChangeShapes Go.WideShapes Go.ChangeAt Go.RowKit Go.Deep Go.ChangeMaps

theorem str_same (s : ByteArray) : (s.toList == s.toList) = true := by simp
theorem zLim : Lim zN := lim_of zN (by simp [zN, cnt, cntL]) (by rw [zN, Lil]; refine ⟨⟨by simp, fun r hr => by cases hr⟩, by show (0 : Nat) ≤ _; omega, ?_⟩; rw [LilL]; trivial)
set_option maxRecDepth 100000 in
set_option maxHeartbeats 4000000 in
theorem treeReads_any (W : World) (s : ByteArray) (up : Bool) :
    Calls Try.prog 4 #[.string s, .bool up] W fun e w' => e = .returned (.bool true) ∧ Below W.heap.size W w' := by
  obtain ⟨Y, HY⟩ : ∃ Y, Hid (s = ofB Y) := ⟨s.data.toList, by show s = _; cases s; simp [ofB]⟩
  have hz : s.size = Y.length := by rw [HY.out]; exact ofB_size Y
  have HT : Hid (Y.length ≤ 3000 → ∀ w : World, Calls Try.prog 16 #[.string s, .bool up] w fun e w' => (∃ x h', e = .returned (.tuple #[ndV x h', .nilIface]) ∧ Gd up Y x ∧ NdV w'.cell? x h' ∧ Below w.heap.size w w') ∨ (e = .returned (.tuple #[ndV zN zH, .iface 96 (.int .i64 17)]) ∧ (∀ x, ¬ Gd up Y x) ∧ Below w.heap.size w w')) := fun hl w => by rw [HY.out]; exact tParse_all up Y hl
  have HR : Hid (Y.length ≤ 3000 → ∀ w : World, Calls Try.prog 19 #[.string s, .bool up] w fun e w' => (∃ x h', e = .returned (.tuple #[ndV x h', .bool true]) ∧ Gd up Y x ∧ NdV w'.cell? x h' ∧ Below w.heap.size w w') ∨ (e = .returned (.tuple #[ndV zN zH, .bool false]) ∧ (∀ x, ¬ Gd up Y x) ∧ Below w.heap.size w w')) := fun hl w => by rw [HY.out]; exact rParse_all up Y hl
  have HB : Hid (Y.length ≤ 3000 → ∀ (w : World) (x : Nd) (h : Hd), Gd up Y x → NdV w.cell? x h → Calls Try.prog 12 #[ndV x h] w fun e w' => e = .returned (.tuple #[.string s, .nilIface]) ∧ Below w.heap.size w w') := fun hl w x h hg hn => by
    have h1 := tBytes_any hn hg.lil (by have := hg.toT.2; omega) (by rw [← hg.by_]; omega)
    have h2 := tfF_up hg.ok
    rw [errV_nil h2, show bsF x = s by rw [bsF, if_pos h2, ← hg.by_, HY.out]] at h1
    exact h1
  clear HY
  go_enter Try.func4, Try.ntmps4
  go_wp2_with fail
  refine Calls.mono (grows_any _) ?_
  rintro e w2 ⟨rfl, hB2⟩
  by_cases hl : 3000 < s.size
  · have hl2 : (3000 : Int) < (s.size : Nat) := by omega
    clear HT HR HB hz
    go_wp2
    go_ret
    exact ⟨rfl, hB2⟩
  have hl2 : ¬ (3000 : Int) < (s.size : Nat) := by omega
  have D1 : Hid _ := HT.out (by omega) w2
  have D2 : Hid _ := HR.out (by omega)
  have D3 : Hid (∀ (w : World) (x : Nd) (h : Hd), Gd up Y x → NdV w.cell? x h → Calls Try.prog 12 #[ndV x h] w fun e w' => e = .returned (.tuple #[.string s, .nilIface]) ∧ Below w.heap.size w w') := HB.out (by omega)
  clear HT HR HB hz
  go_wp2_with fail
  refine Calls.mono D1.out ?_
  clear D1
  rintro e w3 (⟨x, hx, rfl, hG, hN, hB3⟩ | ⟨rfl, hG, hB3⟩)
  · obtain ⟨k, m, u, g, o, at_, d, ks⟩ := x
    have HG : Hid (Gd up Y (.mk k m u g o at_ d ks)) := hG
    have evx : ndV (.mk k m u g o at_ d ks) hx = .agg #[.int .i64 k, .int .i64 m, .int .i64 u, .int .i64 g, .bool o, .slice hx.aa at_.length hx.ca, .string d, .slice hx.ak ks.length hx.ck] := rfl
    rw [evx]
    clear evx
    have hal : Below w3.heap.size w3 (w3.alloc (.cells #[.int .i64 k, .int .i64 m, .int .i64 u, .int .i64 g, .bool o, .slice hx.aa at_.length hx.ca, .string d, .slice hx.ak ks.length hx.ck] 25)) := (Below.refl _ _).alloc (Nat.le_refl _) _
    have hB4 := (hB2.trans (hB3.mono hB2.size)).trans (hal.mono (hB2.trans (hB3.mono hB2.size)).size)
    have NX := NBox.new w3 k m u g o at_ d ks hx
    have HN4 : Hid (NdV (w3.alloc (.cells #[.int .i64 k, .int .i64 m, .int .i64 u, .int .i64 g, .bool o, .slice hx.aa at_.length hx.ca, .string d, .slice hx.ak ks.length hx.ck] 25)).cell? (.mk k m u g o at_ d ks) hx) := hN.ab hal
    have E2 : Hid _ := D2.out (w3.alloc (.cells #[.int .i64 k, .int .i64 m, .int .i64 u, .int .i64 g, .bool o, .slice hx.aa at_.length hx.ca, .string d, .slice hx.ak ks.length hx.ck] 25))
    clear hG hN hal hB2 hB3 D2
    go_wp2_with fail
    refine Calls.mono E2.out ?_
    clear E2
    rintro e w5 (⟨y, hy, rfl, hGy, hNy, hB5⟩ | ⟨rfl, hGy, hB5⟩)
    rotate_left
    · exact absurd HG.out (hGy _)
    have ey := HG.out.one hGy
    subst ey
    have NX5 := NX.below hB5
    have hN5 := HN4.out.ab hB5
    have hB6 := hB4.trans (hB5.mono hB4.size)
    have evy : ndV (.mk k m u g o at_ d ks) hy = .agg #[.int .i64 k, .int .i64 m, .int .i64 u, .int .i64 g, .bool o, .slice hy.aa at_.length hy.ca, .string d, .slice hy.ak ks.length hy.ck] := rfl
    rw [evy]
    have hal : Below w5.heap.size w5 (w5.alloc (.cells #[.int .i64 k, .int .i64 m, .int .i64 u, .int .i64 g, .bool o, .slice hy.aa at_.length hy.ca, .string d, .slice hy.ak ks.length hy.ck] 25)) := (Below.refl _ _).alloc (Nat.le_refl _) _
    have NX6 := NX5.below hal
    have NY6 := NBox.new w5 k m u g o at_ d ks hy
    have HX6 : Hid (NdV (w5.alloc (.cells #[.int .i64 k, .int .i64 m, .int .i64 u, .int .i64 g, .bool o, .slice hy.aa at_.length hy.ca, .string d, .slice hy.ak ks.length hy.ck] 25)).cell? (.mk k m u g o at_ d ks) hx) := hN5.ab hal
    have HY6 : Hid (NdV (w5.alloc (.cells #[.int .i64 k, .int .i64 m, .int .i64 u, .int .i64 g, .bool o, .slice hy.aa at_.length hy.ca, .string d, .slice hy.ak ks.length hy.ck] 25)).cell? (.mk k m u g o at_ d ks) hy) := hNy.ab hal
    have hB7 := hB6.trans (hal.mono hB6.size)
    clear NX NX5 HN4 hN5 hNy hB4 hB5 hB6 evy hal hGy
    go_upto_region 8 with fail
    generalize (w5.alloc (.cells #[.int .i64 k, .int .i64 m, .int .i64 u, .int .i64 g, .bool o, .slice hy.aa at_.length hy.ca, .string d, .slice hy.ak ks.length hy.ck] 25)) = wA at NX6 NY6 HX6 HY6 hB7 ⊢
    generalize w3.heap.size = bx at NX6 ⊢
    generalize w5.heap.size = bz at NY6 ⊢
    go_wp2_with fail
    refine Calls.mono (same_nil wA) ?_
    rintro e w10 ⟨rfl, rfl⟩
    have E9 : Hid (Calls Try.prog 17 #[.agg #[.int .i64 k, .int .i64 m, .int .i64 u, .int .i64 g, .bool o, .slice hx.aa at_.length hx.ca, .string d, .slice hx.ak ks.length hx.ck], .agg #[.int .i64 k, .int .i64 m, .int .i64 u, .int .i64 g, .bool o, .slice hy.aa at_.length hy.ca, .string d, .slice hy.ak ks.length hy.ck]] wA fun e W' => e = .returned (.bool true) ∧ Below wA.heap.size wA W') := sameNode_yes HX6.out hy wA (lim_of _ (by have := HG.out.toT.2; omega) HG.out.lil) HY6.out (Below.refl _ _)
    have NXa := NX6
    obtain ⟨y0, y1, y2, y3, y4, y5, y6, y7⟩ := NY6
    obtain ⟨x0, x1, x2, x3, x4, x5, x6, x7⟩ := NXa
    go_wp2_with fail
    refine Calls.mono E9.out ?_
    rintro e w11 ⟨rfl, hB8⟩
    have NX7 := NX6.below hB8
    have hB9 := hB7.trans (hB8.mono hB7.size)
    have E10 : Hid (Calls Try.prog 12 #[.agg #[.int .i64 k, .int .i64 m, .int .i64 u, .int .i64 g, .bool o, .slice hx.aa at_.length hx.ca, .string d, .slice hx.ak ks.length hx.ck]] w11 fun e w' => e = .returned (.tuple #[.string s, .nilIface]) ∧ Below w11.heap.size w11 w') := D3.out w11 (.mk k m u g o at_ d ks) hx HG.out (HX6.out.ab hB8)
    clear NX6 HX6 HY6 hB7 hB8 E9 x0 x1 x2 x3 x4 x5 x6 x7 y0 y1 y2 y3 y4 y5 y6 y7 D3 HG
    obtain ⟨x0, x1, x2, x3, x4, x5, x6, x7⟩ := NX7
    go_wp2_with fail
    refine Calls.mono E10.out ?_
    rintro e w12 ⟨rfl, hB10⟩
    have hB11 := hB9.trans (hB10.mono hB9.size)
    clear E10 hB9 hB10 x0 x1 x2 x3 x4 x5 x6 x7
    go_wp2_with fail
    refine Calls.mono (same_nil w12) ?_
    rintro e w13 ⟨rfl, rfl⟩
    have hss := str_same s
    go_wp2
    go_ret
    exact ⟨rfl, hB11⟩
  · have HG : Hid (∀ x, ¬ Gd up Y x) := hG
    have evx : ndV zN zH = .agg #[.int .i64 0, .int .i64 0, .int .i64 0, .int .i64 0, .bool false, .slice none 0 0, .string ⟨#[]⟩, .slice none 0 0] := rfl
    rw [evx]
    have hal : Below w3.heap.size w3 (w3.alloc (.cells #[.int .i64 0, .int .i64 0, .int .i64 0, .int .i64 0, .bool false, .slice none 0 0, .string ⟨#[]⟩, .slice none 0 0] 25)) := (Below.refl _ _).alloc (Nat.le_refl _) _
    have hB4 := (hB2.trans (hB3.mono hB2.size)).trans (hal.mono (hB2.trans (hB3.mono hB2.size)).size)
    have NX := NBox.new w3 0 0 0 0 false [] ⟨#[]⟩ [] zH
    have E2 : Hid _ := D2.out (w3.alloc (.cells #[.int .i64 0, .int .i64 0, .int .i64 0, .int .i64 0, .bool false, .slice none 0 0, .string ⟨#[]⟩, .slice none 0 0] 25))
    clear hG hal hB2 hB3 D2 D3
    go_wp2_with fail
    refine Calls.mono E2.out ?_
    clear E2
    rintro e w5 (⟨y, hy, rfl, hGy, hNy, hB5⟩ | ⟨rfl, hGy, hB5⟩)
    · exact absurd hGy (HG.out _)
    have NX5 := NX.below hB5
    have hB6 := hB4.trans (hB5.mono hB4.size)
    rw [evx]
    have hal : Below w5.heap.size w5 (w5.alloc (.cells #[.int .i64 0, .int .i64 0, .int .i64 0, .int .i64 0, .bool false, .slice none 0 0, .string ⟨#[]⟩, .slice none 0 0] 25)) := (Below.refl _ _).alloc (Nat.le_refl _) _
    have NX6 := NX5.below hal
    have hB7 := hB6.trans (hal.mono hB6.size)
    clear NX NX5 hB4 hB5 hB6 hal hGy HG evx
    go_upto_region 7 with fail
    generalize (w5.alloc (.cells #[.int .i64 0, .int .i64 0, .int .i64 0, .int .i64 0, .bool false, .slice none 0 0, .string ⟨#[]⟩, .slice none 0 0] 25)) = wA at NX6 hB7 ⊢
    generalize w3.heap.size = bx at NX6 ⊢
    go_wp2_with fail
    refine Calls.mono (same_err 17 (by omega) wA) ?_
    rintro e w10 ⟨rfl, rfl⟩
    have E9 : Hid (Calls Try.prog 17 #[.agg #[.int .i64 0, .int .i64 0, .int .i64 0, .int .i64 0, .bool false, .slice none 0 0, .string ⟨#[]⟩, .slice none 0 0], .agg #[.int .i64 0, .int .i64 0, .int .i64 0, .int .i64 0, .bool false, .slice none 0 0, .string ⟨#[]⟩, .slice none 0 0]] wA fun e W' => e = .returned (.bool true) ∧ Below wA.heap.size wA W') := sameNode_yes (zN_in _) zH wA zLim (zN_in _) (Below.refl _ _)
    obtain ⟨x0, x1, x2, x3, x4, x5, x6, x7⟩ : wA.cell? ⟨bx, 0, none⟩ = some (.int .i64 0) ∧ wA.cell? ⟨bx, 1, none⟩ = some (.int .i64 0) ∧ wA.cell? ⟨bx, 2, none⟩ = some (.int .i64 0) ∧ wA.cell? ⟨bx, 3, none⟩ = some (.int .i64 0) ∧ wA.cell? ⟨bx, 4, none⟩ = some (.bool false) ∧ wA.cell? ⟨bx, 5, none⟩ = some (.slice none 0 0) ∧ wA.cell? ⟨bx, 6, none⟩ = some (.string ⟨#[]⟩) ∧ wA.cell? ⟨bx, 7, none⟩ = some (.slice none 0 0) := NX6
    go_wp2_with fail
    refine Calls.mono E9.out ?_
    rintro e w11 ⟨rfl, hB8⟩
    have hB9 := hB7.trans (hB8.mono hB7.size)
    go_wp2
    go_ret
    exact ⟨rfl, hB9⟩

namespace TreeReadsRow
set_option maxRecDepth 100000 in
theorem lifted (os : Os) (started : os.Started) (H : Type) (enc : TypeId × Value → H) :
    ReturnsInHanded {} Try.checked os 4 .any (Rows.treeReadsSpec.pre6 enc Try.prog Try.f4 Rows.treeReadsRow.domain false) (Rows.treeReadsSpec.post enc Try.prog Try.f4 false true false false) := by
  refine returnsInHanded_of_change (C := Try.checked) RowsIn.own started (by kernel_rfl) Try.func4
    (ChangeSpec.witness6 (enc := enc) (C := Try.checked) false ⟨#[], #[.string ⟨#[]⟩, .bool false], []⟩ 8 (by kernel_rfl) (by kernel_rfl) (by kernel_rfl) (by kernel_rfl)) ?_
  intro W base args ds gs before hval0 hW hcnd _
  have hval : ∀ (j : Nat) t v, Try.f4.params[j]? = some t → args[j]? = some v → Value.okWide Try.prog W .any base t v := hval0
  have hW' := hW
  obtain ⟨p, q, hA0, hV, rfl, hfz, hnd⟩ := hW
  have hA : DataW.TrodAll enc Try.prog W 0 (fun _ => true) true Try.f4.params.toList args.toList ds p := hA0
  rw [Try.params4] at hA hval
  obtain ⟨v0, v1, d0, d1, p0, p1, rfl, rfl, rfl, h0, h1⟩ := trodAll_two hA
  obtain ⟨rfl, rfl⟩ := trodVars_none hV
  have k0 := h0
  have k1 := h1
  have lt0 : ∀ x ∈ p0, x.block < W.heap.size := by obtain ⟨m, hm⟩ := k0; exact DataW.trod_lt m _ _ _ hm
  have lt1 : ∀ x ∈ p1, x.block < W.heap.size := by obtain ⟨m, hm⟩ := k1; exact DataW.trod_lt m _ _ _ hm
  obtain ⟨s, rfl⟩ := okWide_string Try.underlying9 (hval 0 9 v0 rfl rfl)
  obtain ⟨up, rfl⟩ := okWide_bool Try.underlying4 (hval 1 4 v1 rfl rfl)
  clear hA0 hval0
  have key := treeReads_any W s up
  refine key.mono fun e W' ⟨he, bel⟩ => ?_
  subst he
  exact ⟨_, rfl, _, _, _, [], _, [], hW', trodAll_mk1 (shut_bool Try.underlying4 _), trodAll_mk2 (Below.trod RowsIn.laidOut (by kernel_rfl) (of_decide_eq_true (by kernel_rfl)) k0 bel lt0) (Below.trod RowsIn.laidOut (by kernel_rfl) (of_decide_eq_true (by kernel_rfl)) k1 bel lt1), rfl, bel.frame _, fun h => by cases h⟩
end TreeReadsRow

theorem treeReads_holds : Rows.TreeReadsSaid :=
  OpenClaim.holds_of_wide 4 Try.f4 rfl rfl rfl rfl rfl rfl rfl ⟨rfl, rfl, rfl, rfl, rfl⟩ rfl rfl rfl rfl rfl (by kernel_rfl) Try.func4 (by kernel_rfl)
    (of_decide_eq_true (by kernel_rfl)) (by unfold Func.isWrapper; first | (rw [if_pos (by decide +kernel)]; kernel_rfl) | (rw [if_neg (by decide +kernel)]; exact ⟨rfl, rfl⟩))
    (fun os started H enc _ => TreeReadsRow.lifted os started H enc)
#print axioms treeReads_holds
end Go.Proofs.Ytkkhfnkmfkdhiab
