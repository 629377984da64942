/-
  TreeBytes: the walk.
-/
import Derived.Test.YtkkhfnkmfkdhiabRg
import Derived.Test.YtkkhfnkmfkdhiabVh
import Derived.Test.YtkkhfnkmfkdhiabWx
namespace Go.Proofs.Ytkkhfnkmfkdhiab
open Go.RowKit

theorem str_same (s : ByteArray) : (s.toList != s.toList) = false := by simp
set_option maxRecDepth 100000 in
set_option maxHeartbeats 4000000 in
theorem treeBytes_any {W : World} {x : Nd} {h : Hd} (hN : NdV W.cell? x h) :
    Calls Try.prog 3 #[ndV x h] W fun e w' => e = .returned (.bool true) ∧ Below W.heap.size W w' := by
  have HNN : Hid (NdV W.cell? x h) := hN
  have C1 : ∀ w1 : World, Below W.heap.size W w1 → Hid (Calls Try.prog 11 #[ndV x h] w1 fun e W' => e = .returned (.bool (decide (0 < lightF x 80))) ∧ Below w1.heap.size w1 W') := fun w1 hb => Light_any (HNN.out.ab hb)
  have C2 : 0 < lightF x 80 → ∀ w1 : World, Below W.heap.size W w1 → Hid (Calls Try.prog 12 #[ndV x h] w1 fun e W' => e = .returned (.tuple #[.string (bsF x), errV (tfF true x)]) ∧ Below w1.heap.size w1 W') := fun hl w1 hb => by
    obtain ⟨l1, l2⟩ := light_lil x 80 hl
    exact tBytes_any (HNN.out.ab hb) l1 (by omega)
  have C3 : 0 < lightF x 80 → ∀ w1 : World, Below W.heap.size W w1 → Hid (Calls Try.prog 13 #[ndV x h] w1 fun e W' => e = .returned (.tuple #[.string (bsF x), .int .i64 (tfF true x)]) ∧ Below w1.heap.size w1 W') := fun hl w1 hb => by
    obtain ⟨l1, l2⟩ := light_lil x 80 hl
    exact rBytes_any (HNN.out.ab hb) l1 (by omega)
  have C4 : 0 < lightF x 80 → ∀ w1 : World, Below W.heap.size W w1 → Hid (Calls Try.prog 15 #[ndV x h] w1 fun e W' => e = .returned (.int .i64 (bsF x).size) ∧ Below w1.heap.size w1 W') := fun hl w1 hb => by
    obtain ⟨l1, l2⟩ := light_lil x 80 hl
    exact tSize_any (HNN.out.ab hb) l1 (by omega)
  have C5 : 0 < lightF x 80 → tfF true x = 0 → ∀ w1 : World, Hid (Calls Try.prog 16 #[.string (bsF x), .bool true] w1 fun e w' => ∃ h', e = .returned (.tuple #[ndV x h', .nilIface]) ∧ NdV w'.cell? x h' ∧ Below w1.heap.size w1 w') := fun hl ht w1 => by
    obtain ⟨l1, l2⟩ := light_lil x 80 hl
    obtain ⟨f1, f2⟩ := fits_of ht l1
    have e : bsF x = ofB (byN x) := if_pos ht
    rw [e]
    exact tParse_yes true f1 l1 f2 ht
  have C6 : 0 < lightF x 80 → tfF true x = 0 → tfF false x = 0 → ∀ w1 : World, Hid (Calls Try.prog 16 #[.string (bsF x), .bool false] w1 fun e w' => ∃ h', e = .returned (.tuple #[ndV x h', .nilIface]) ∧ NdV w'.cell? x h' ∧ Below w1.heap.size w1 w') := fun hl ht hf w1 => by
    obtain ⟨l1, l2⟩ := light_lil x 80 hl
    obtain ⟨f1, f2⟩ := fits_of ht l1
    have e : bsF x = ofB (byN x) := if_pos ht
    rw [e]
    exact tParse_yes false f1 l1 f2 hf
  have C7 : 0 < lightF x 80 → tfF true x = 0 → tfF false x ≠ 0 → ∀ w1 : World, Hid (Calls Try.prog 16 #[.string (bsF x), .bool false] w1 fun e w' => e = .returned (.tuple #[ndV zN zH, .iface 96 (.int .i64 17)]) ∧ Below w1.heap.size w1 w') := fun hl ht hf w1 => by
    obtain ⟨l1, l2⟩ := light_lil x 80 hl
    obtain ⟨f1, f2⟩ := fits_of ht l1
    have e : bsF x = ofB (byN x) := if_pos ht
    rw [e]
    exact tParse_no false f1 l1 f2 hf
  have C8 : 0 < lightF x 80 → ∀ (w1 : World) (h' : Hd), Below W.heap.size W w1 → NdV w1.cell? x h' → Hid (Calls Try.prog 17 #[ndV x h', ndV x h] w1 fun e W' => e = .returned (.bool true) ∧ Below w1.heap.size w1 W') := fun hl w1 h' hb hn => by
    obtain ⟨l1, l2⟩ := light_lil x 80 hl
    exact sameNode_yes hn h w1 (lim_of x (by omega) l1) (HNN.out.ab hb) (Below.refl _ _)
  have C9 : 0 < lightF x 80 → ∀ w1 : World, Below W.heap.size W w1 → Hid (Calls Try.prog 18 #[ndV x h, .bool false] w1 fun e W' => e = .returned (.int .i64 (tfF false x)) ∧ Below w1.heap.size w1 W') := fun hl w1 hb => by
    obtain ⟨l1, l2⟩ := light_lil x 80 hl
    exact treeFault_any false (HNN.out.ab hb) l1 (by omega)
  have hr1 := tfF_range true x
  have hr2 := tfF_range false x
  have HC1 : Hid _ := C1
  have HC2 : Hid _ := C2
  have HC3 : Hid _ := C3
  have HC4 : Hid _ := C4
  have HC5 : Hid _ := C5
  have HC6 : Hid _ := C6
  have HC7 : Hid _ := C7
  have HC8 : Hid _ := C8
  have HC9 : Hid _ := C9
  clear C1 C2 C3 C4 C5 C6 C7 C8 C9 HNN hN
  generalize lightF x 80 = lf at *
  generalize bsF x = B at *
  generalize tfF true x = F at *
  generalize tfF false x = G at *
  obtain ⟨k, m, u, g, o, at_, d, ks⟩ := x
  have NB := NBox.new W k m u g o at_ d ks h
  have hB1 : Below W.heap.size W (W.alloc (.cells #[.int .i64 k, .int .i64 m, .int .i64 u, .int .i64 g, .bool o, .slice h.aa at_.length h.ca, .string d, .slice h.ak ks.length h.ck] 25)) := (Below.refl _ _).alloc (Nat.le_refl _) _
  show Calls Try.prog 3 #[.agg #[.int .i64 k, .int .i64 m, .int .i64 u, .int .i64 g, .bool o, .slice h.aa at_.length h.ca, .string d, .slice h.ak ks.length h.ck]] _ _
  go_enter Try.func3, Try.ntmps3
  go_wp2_with fail
  refine Calls.mono (grows_any _) ?_
  rintro e w2 ⟨rfl, hB2⟩
  have NB2 := NB.below hB2
  have hB3 := hB1.trans (hB2.mono hB1.size)
  clear NB hB1 hB2
  generalize hnb : W.heap.size = nb at NB2 ⊢
  have NB3 := NB2
  obtain ⟨y0, y1, y2, y3, y4, y5, y6, y7⟩ := NB3
  go_wp2_with fail
  refine Calls.mono (HC1.out _ hB3).out ?_
  rintro e w3 ⟨rfl, hB4⟩
  have NB4 := NB2.below hB4
  have hB5 := hB3.trans (hB4.mono hB3.size)
  clear NB2 y0 y1 y2 y3 y4 y5 y6 y7 hB3 hB4 HC1
  by_cases hlf : 0 < lf
  rotate_left
  · have b2 : decide (0 < lf) = false := decide_eq_false hlf
    go_wp2
    go_ret
    exact ⟨rfl, hB5⟩
  have b2 : decide (0 < lf) = true := decide_eq_true hlf
  have D2 := HC2.out hlf w3 hB5
  have D3 : Hid _ := HC3.out hlf
  have D4 : Hid _ := HC4.out hlf
  have D5 : Hid _ := HC5.out hlf
  have D6 : Hid _ := HC6.out hlf
  have D7 : Hid _ := HC7.out hlf
  have D8 : Hid _ := HC8.out hlf
  have D9 : Hid _ := HC9.out hlf
  clear HC2 HC3 HC4 HC5 HC6 HC7 HC8 HC9 hlf
  have NB5 := NB4
  obtain ⟨y0, y1, y2, y3, y4, y5, y6, y7⟩ := NB5
  go_wp2_with fail
  refine Calls.mono D2.out ?_
  rintro e w4 ⟨rfl, hB6⟩
  have NB6 := NB4.below hB6
  have hB7 := hB5.trans (hB6.mono hB5.size)
  have E3 := D3.out w4 hB7
  clear NB4 y0 y1 y2 y3 y4 y5 y6 y7 hB5 hB6 D2 D3
  obtain ⟨ev, HEV⟩ : ∃ ev, Hid (errV F = ev) := ⟨_, rfl⟩
  rw [HEV.out]
  have NB7 := NB6
  obtain ⟨y0, y1, y2, y3, y4, y5, y6, y7⟩ := NB7
  go_wp2_with fail
  refine Calls.mono E3.out ?_
  rintro e w5 ⟨rfl, hB8⟩
  have NB8 := NB6.below hB8
  have hB9 := hB7.trans (hB8.mono hB7.size)
  have E4 := D4.out w5 hB9
  clear NB6 y0 y1 y2 y3 y4 y5 y6 y7 hB7 hB8 E3 D4
  have HSM : Hid (Calls Try.prog 14 #[ev, .int .i64 F] w5 fun e w' => e = .returned (.bool true) ∧ w5 = w') := by
    have := same_errV F hr1.1 w5
    rw [HEV.out] at this
    exact this
  go_wp2_with fail
  refine Calls.mono HSM.out ?_
  rintro e w6 ⟨rfl, rfl⟩
  clear HSM
  have hss := str_same B
  have NB9 := NB8
  obtain ⟨y0, y1, y2, y3, y4, y5, y6, y7⟩ := NB9
  go_wp2_with fail
  refine Calls.mono E4.out ?_
  rintro e w6 ⟨rfl, hB10⟩
  have NB10 := NB8.below hB10
  have hB11 := hB9.trans (hB10.mono hB9.size)
  clear NB8 y0 y1 y2 y3 y4 y5 y6 y7 hB9 hB10 E4 hss
  by_cases hF : F = 0
  rotate_left
  · have b3 : decide (0 < F) = true := decide_eq_true (by omega)
    go_wp2
    go_ret
    exact ⟨rfl, hB11⟩
  have b3 : decide (0 < F) = false := decide_eq_false (by omega)
  have E5 := D5.out hF w6
  have E6 : Hid _ := D6.out hF
  have E7 : Hid _ := D7.out hF
  clear D5 D6 D7 hF HEV hr1
  go_wp2_with fail
  refine Calls.mono E5.out ?_
  rintro e w7 ⟨hx, rfl, hNx, hB12⟩
  have NB11 := NB10.below hB12
  have hB13 := hB11.trans (hB12.mono hB11.size)
  have evx : ndV (.mk k m u g o at_ d ks) hx = .agg #[.int .i64 k, .int .i64 m, .int .i64 u, .int .i64 g, .bool o, .slice hx.aa at_.length hx.ca, .string d, .slice hx.ak ks.length hx.ck] := rfl
  rw [evx]
  have hal : Below w7.heap.size w7 (w7.alloc (.cells #[.int .i64 k, .int .i64 m, .int .i64 u, .int .i64 g, .bool o, .slice hx.aa at_.length hx.ca, .string d, .slice hx.ak ks.length hx.ck] 25)) := (Below.refl _ _).alloc (Nat.le_refl _) _
  have NBX := NBox.new w7 k m u g o at_ d ks hx
  have NB12 := NB11.below hal
  have hB14 := hB13.trans (hal.mono hB13.size)
  have HNX : Hid (NdV (w7.alloc (.cells #[.int .i64 k, .int .i64 m, .int .i64 u, .int .i64 g, .bool o, .slice hx.aa at_.length hx.ca, .string d, .slice hx.ak ks.length hx.ck] 25)).cell? (.mk k m u g o at_ d ks) hx) := hNx.ab hal
  clear NB10 NB11 hB11 hB12 hB13 E5 evx hal hNx
  by_cases hG : G = 0
  · have E8 := E6.out hG (w7.alloc (.cells #[.int .i64 k, .int .i64 m, .int .i64 u, .int .i64 g, .bool o, .slice hx.aa at_.length hx.ca, .string d, .slice hx.ak ks.length hx.ck] 25))
    clear E6 E7
    go_wp2_with fail
    refine Calls.mono E8.out ?_
    rintro e w9 ⟨hz, rfl, hNz, hB15⟩
    have NB13 := NB12.below hB15
    have NX13 := NBX.below hB15
    have hB16 := hB14.trans (hB15.mono hB14.size)
    have HNX2 := HNX.out.ab hB15
    have evz : ndV (.mk k m u g o at_ d ks) hz = .agg #[.int .i64 k, .int .i64 m, .int .i64 u, .int .i64 g, .bool o, .slice hz.aa at_.length hz.ca, .string d, .slice hz.ak ks.length hz.ck] := rfl
    rw [evz]
    have hal2 : Below w9.heap.size w9 (w9.alloc (.cells #[.int .i64 k, .int .i64 m, .int .i64 u, .int .i64 g, .bool o, .slice hz.aa at_.length hz.ca, .string d, .slice hz.ak ks.length hz.ck] 25)) := (Below.refl _ _).alloc (Nat.le_refl _) _
    have NZ14 := NBox.new w9 k m u g o at_ d ks hz
    have NB14 := NB13.below hal2
    have NX14 := NX13.below hal2
    have hB17 := hB16.trans (hal2.mono hB16.size)
    have HNX3 : Hid (NdV (w9.alloc (.cells #[.int .i64 k, .int .i64 m, .int .i64 u, .int .i64 g, .bool o, .slice hz.aa at_.length hz.ca, .string d, .slice hz.ak ks.length hz.ck] 25)).cell? (.mk k m u g o at_ d ks) hx) := HNX2.ab hal2
    have HNZ3 : Hid (NdV (w9.alloc (.cells #[.int .i64 k, .int .i64 m, .int .i64 u, .int .i64 g, .bool o, .slice hz.aa at_.length hz.ca, .string d, .slice hz.ak ks.length hz.ck] 25)).cell? (.mk k m u g o at_ d ks) hz) := hNz.ab hal2
    have HG : Hid (G = 0) := hG
    clear NB12 NBX NB13 NX13 hB14 hB15 hB16 HNX HNX2 evz hal2 hNz E8 hG
    go_upto_region 12 with fail
    generalize w9.alloc (.cells #[.int .i64 k, .int .i64 m, .int .i64 u, .int .i64 g, .bool o, .slice hz.aa at_.length hz.ca, .string d, .slice hz.ak ks.length hz.ck] 25) = wA at NZ14 NB14 NX14 hB17 HNX3 HNZ3 ⊢
    generalize w7.heap.size = bx at NX14 ⊢
    generalize w9.heap.size = bz at NZ14 ⊢
    go_wp2_with fail
    refine Calls.mono (same_nil wA) ?_
    rintro e w10 ⟨rfl, rfl⟩
    have E9 : Hid (Calls Try.prog 17 #[.agg #[.int .i64 k, .int .i64 m, .int .i64 u, .int .i64 g, .bool o, .slice hx.aa at_.length hx.ca, .string d, .slice hx.ak ks.length hx.ck], .agg #[.int .i64 k, .int .i64 m, .int .i64 u, .int .i64 g, .bool o, .slice h.aa at_.length h.ca, .string d, .slice h.ak ks.length h.ck]] wA fun e W' => e = .returned (.bool true) ∧ Below wA.heap.size wA W') := (D8.out wA hx hB17 HNX3.out).out
    have NXa := NX14
    have NBa := NB14
    obtain ⟨y0, y1, y2, y3, y4, y5, y6, y7⟩ := NBa
    obtain ⟨x0, x1, x2, x3, x4, x5, x6, x7⟩ := NXa
    go_wp2_with fail
    refine Calls.mono E9.out ?_
    rintro e w11 ⟨rfl, hB18⟩
    have NB15 := NB14.below hB18
    have NZ15 := NZ14.below hB18
    have hB19 := hB17.trans (hB18.mono hB17.size)
    have HNZ4 : Hid (NdV w11.cell? (.mk k m u g o at_ d ks) hz) := HNZ3.out.ab hB18
    have E10 : Hid (Calls Try.prog 18 #[.agg #[.int .i64 k, .int .i64 m, .int .i64 u, .int .i64 g, .bool o, .slice h.aa at_.length h.ca, .string d, .slice h.ak ks.length h.ck], .bool false] w11 fun e W' => e = .returned (.int .i64 G) ∧ Below w11.heap.size w11 W') := (D9.out w11 hB19).out
    clear NB14 NX14 NZ14 hB17 hB18 HNX3 HNZ3 E9 y0 y1 y2 y3 y4 y5 y6 y7 x0 x1 x2 x3 x4 x5 x6 x7
    have NBb := NB15
    obtain ⟨y0, y1, y2, y3, y4, y5, y6, y7⟩ := NBb
    go_wp2_with fail
    refine Calls.mono E10.out ?_
    rintro e w12 ⟨rfl, hB20⟩
    have NB16 := NB15.below hB20
    have NZ16 := NZ15.below hB20
    have hB21 := hB19.trans (hB20.mono hB19.size)
    have HNZ5 : Hid (NdV w12.cell? (.mk k m u g o at_ d ks) hz) := HNZ4.out.ab hB20
    have E11 : Hid (Calls Try.prog 17 #[.agg #[.int .i64 k, .int .i64 m, .int .i64 u, .int .i64 g, .bool o, .slice hz.aa at_.length hz.ca, .string d, .slice hz.ak ks.length hz.ck], .agg #[.int .i64 k, .int .i64 m, .int .i64 u, .int .i64 g, .bool o, .slice h.aa at_.length h.ca, .string d, .slice h.ak ks.length h.ck]] w12 fun e W' => e = .returned (.bool true) ∧ Below w12.heap.size w12 W') := (D8.out w12 hz hB21 HNZ5.out).out
    clear NB15 NZ15 hB19 hB20 HNZ4 E10 y0 y1 y2 y3 y4 y5 y6 y7
    rw [HG.out]
    go_wp2_with fail
    refine Calls.mono (same_nil w12) ?_
    rintro e w13 ⟨rfl, rfl⟩
    obtain ⟨y0, y1, y2, y3, y4, y5, y6, y7⟩ := NB16
    obtain ⟨x0, x1, x2, x3, x4, x5, x6, x7⟩ := NZ16
    go_wp2_with fail
    refine Calls.mono E11.out ?_
    rintro e w14 ⟨rfl, hB22⟩
    go_wp2
    go_ret
    exact ⟨rfl, hB21.trans (hB22.mono hB21.size)⟩
  · have E8 := E7.out hG (w7.alloc (.cells #[.int .i64 k, .int .i64 m, .int .i64 u, .int .i64 g, .bool o, .slice hx.aa at_.length hx.ca, .string d, .slice hx.ak ks.length hx.ck] 25))
    clear E6 E7
    go_wp2_with fail
    refine Calls.mono E8.out ?_
    rintro e w9 ⟨rfl, hB15⟩
    have NB13 := NB12.below hB15
    have NX13 := NBX.below hB15
    have hB16 := hB14.trans (hB15.mono hB14.size)
    have HNX2 := HNX.out.ab hB15
    have evz : ndV zN zH = .agg #[.int .i64 0, .int .i64 0, .int .i64 0, .int .i64 0, .bool false, .slice none 0 0, .string ⟨#[]⟩, .slice none 0 0] := rfl
    rw [evz]
    have hal2 : Below w9.heap.size w9 (w9.alloc (.cells #[.int .i64 0, .int .i64 0, .int .i64 0, .int .i64 0, .bool false, .slice none 0 0, .string ⟨#[]⟩, .slice none 0 0] 25)) := (Below.refl _ _).alloc (Nat.le_refl _) _
    have z0 : (w9.alloc (.cells #[.int .i64 0, .int .i64 0, .int .i64 0, .int .i64 0, .bool false, .slice none 0 0, .string ⟨#[]⟩, .slice none 0 0] 25)).cell? ⟨w9.heap.size, 0, none⟩ = some (.int .i64 0) := World.cell?_alloc_at _ _ _ _ rfl
    have NB14 := NB13.below hal2
    have NX14 := NX13.below hal2
    have hB17 := hB16.trans (hal2.mono hB16.size)
    have HNX3 : Hid (NdV (w9.alloc (.cells #[.int .i64 0, .int .i64 0, .int .i64 0, .int .i64 0, .bool false, .slice none 0 0, .string ⟨#[]⟩, .slice none 0 0] 25)).cell? (.mk k m u g o at_ d ks) hx) := HNX2.ab hal2
    have hgt : 0 < G := by omega
    have hbz : w9.heap.size < (w9.alloc (.cells #[.int .i64 0, .int .i64 0, .int .i64 0, .int .i64 0, .bool false, .slice none 0 0, .string ⟨#[]⟩, .slice none 0 0] 25)).heap.size := by rw [World.size_alloc]; omega
    clear NB12 NBX NB13 NX13 hB14 hB15 hB16 HNX HNX2 evz hal2 E8 hG
    go_upto_region 12 with fail
    generalize w9.alloc (.cells #[.int .i64 0, .int .i64 0, .int .i64 0, .int .i64 0, .bool false, .slice none 0 0, .string ⟨#[]⟩, .slice none 0 0] 25) = wA at z0 NB14 NX14 hB17 HNX3 hbz ⊢
    generalize w7.heap.size = bx at NX14 ⊢
    generalize w9.heap.size = bz at z0 hbz ⊢
    go_wp2_with fail
    refine Calls.mono (same_nil wA) ?_
    rintro e w10 ⟨rfl, rfl⟩
    have E9 : Hid (Calls Try.prog 17 #[.agg #[.int .i64 k, .int .i64 m, .int .i64 u, .int .i64 g, .bool o, .slice hx.aa at_.length hx.ca, .string d, .slice hx.ak ks.length hx.ck], .agg #[.int .i64 k, .int .i64 m, .int .i64 u, .int .i64 g, .bool o, .slice h.aa at_.length h.ca, .string d, .slice h.ak ks.length h.ck]] wA fun e W' => e = .returned (.bool true) ∧ Below wA.heap.size wA W') := (D8.out wA hx hB17 HNX3.out).out
    have NBa := NB14
    obtain ⟨y0, y1, y2, y3, y4, y5, y6, y7⟩ := NBa
    obtain ⟨x0, x1, x2, x3, x4, x5, x6, x7⟩ := NX14
    go_wp2_with fail
    refine Calls.mono E9.out ?_
    rintro e w11 ⟨rfl, hB18⟩
    have NB15 := NB14.below hB18
    have hB19 := hB17.trans (hB18.mono hB17.size)
    have z1 := (hB18.cell (p := ⟨bz, 0, none⟩) hbz).trans z0
    have hbz1 := Nat.lt_of_lt_of_le hbz hB18.size
    have E10 : Hid (Calls Try.prog 18 #[.agg #[.int .i64 k, .int .i64 m, .int .i64 u, .int .i64 g, .bool o, .slice h.aa at_.length h.ca, .string d, .slice h.ak ks.length h.ck], .bool false] w11 fun e W' => e = .returned (.int .i64 G) ∧ Below w11.heap.size w11 W') := (D9.out w11 hB19).out
    clear NB14 hB17 hB18 HNX3 E9 y0 y1 y2 y3 y4 y5 y6 y7 x0 x1 x2 x3 x4 x5 x6 x7 z0 hbz
    obtain ⟨y0, y1, y2, y3, y4, y5, y6, y7⟩ := NB15
    go_wp2_with fail
    refine Calls.mono E10.out ?_
    rintro e w12 ⟨rfl, hB20⟩
    have hB21 := hB19.trans (hB20.mono hB19.size)
    have z2 := (hB20.cell (p := ⟨bz, 0, none⟩) hbz1).trans z1
    clear hB19 hB20 E10 y0 y1 y2 y3 y4 y5 y6 y7 z1 hbz1
    have b4 : decide (0 < G) = true := decide_eq_true hgt
    go_wp2_with fail
    refine Calls.mono (same_err 17 (by omega) w12) ?_
    rintro e w13 ⟨rfl, rfl⟩
    go_wp2
    go_ret
    exact ⟨rfl, hB21⟩
end Go.Proofs.Ytkkhfnkmfkdhiab
