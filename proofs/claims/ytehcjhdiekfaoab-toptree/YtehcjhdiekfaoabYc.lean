/-
  WHAT TopTree DOES: the walk, of one below the other.
-/
import Derived.Test.YtehcjhdiekfaoabWu
import Derived.Test.YtehcjhdiekfaoabWh
namespace Go.Proofs.Ytehcjhdiekfaoab
open Go.RowKit

set_option maxRecDepth 100000 in
set_option maxHeartbeats 8000000 in
theorem toptree_G {W : World} {n x : Nd} {h hx : Hd} (hN : NdV W.cell? n h) (hX : NdV W.cell? x hx) (a b : Option Addr) (cl co : Nat) (l other : List ByteArray) (hSl : Strs W.cell? a l) (hSo : Strs W.cell? b other) (hcl : l.length ≤ cl ∧ cl ≤ 9223372036854775807)
    (hl1 : 0 < lightF n 80) (hl2 : 0 < lightF x 80) (hll : l.length ≤ 8) (hlo : other.length ≤ 8) (htf : tfF true n = 0) (hu1 : undB l other = false) (hu2 : undB other l = true) :
    Calls Try.prog 5 #[ndV n h, .slice a l.length cl, .slice b other.length co, ndV x hx] W fun e W' => e = .returned (.bool true) ∧ Below W.heap.size W W' := by
  obtain ⟨hlilN, hcN⟩ := light_lil n 80 hl1
  obtain ⟨hlilX, hcX⟩ := light_lil x 80 hl2
  have hcn : cnt n ≤ 80 := by omega
  have hcx : cnt x ≤ 80 := by omega
  have hlimN : Lim n := lim_of n (by omega) hlilN
  have hlimX : Lim x := lim_of x (by omega) hlilX
  have HRP : Hid (∀ r, chgF (some x) l n = .ok r → Lim r ∧ cnt r ≤ 160) := fun r hr => by
    have h1 := chg_cnt hr
    simp only [cntO] at h1
    exact ⟨lim_at r (chg_at1 hr (fun y hy => by simp only [Option.some.injEq] at hy; subst hy; exact at_lil _ hlilX) (at_lil _ hlilN)) (by omega), by omega⟩
  have HRC : Hid (∀ r, chgF none l n = .ok r → Lim r ∧ cnt r ≤ 160 ∧ Lil r ∧ tfF true r = 0 ∧ findF l r = none) := fun r hr => by
    have h1 := chg_cnt hr
    simp only [cntO] at h1
    exact ⟨lim_at r (chg_at1 hr (fun y hy => by cases hy) (at_lil _ hlilN)) (by omega), by omega, cut_lil hr hlilN, cut_check htf hr, find_cut hr ((tf_val true n).1 htf).2.1⟩
  have HLN : Hid (decide (0 < lightF n 80) = true) := decide_eq_true hl1
  have HLX : Hid (decide (0 < lightF x 80) = true) := decide_eq_true hl2
  have HTF : Hid (tfF true n = 0) := htf
  have HFL : Hid (∀ (ls : List ByteArray) (y z : Nd), findF ls y = some z → cnt y ≤ 160 → At1 y → Lim z) := fun ls y z hf hc ha => by
    obtain ⟨q1, q2⟩ := find_at1 hf
    exact lim_at z (q1 ha) (by omega)
  have HAN : Hid (At1 n) := at_lil _ hlilN
  have HSL : Hid (Strs W.cell? a l) := hSl
  have HSO : Hid (Strs W.cell? b other) := hSo
  have HCL : Hid (l.length ≤ cl ∧ cl ≤ 9223372036854775807) := hcl
  clear hSl hSo hl1 hl2 htf hcN hcX hcl
  have HU1 : Hid (undB l other = false) := hu1
  have HU2 : Hid (undB other l = true) := hu2
  clear hu1 hu2
  have d8l : decide (8 < (l.length : Int)) = false := decide_eq_false (by omega)
  have d8o : decide (8 < (other.length : Int)) = false := decide_eq_false (by omega)
  obtain ⟨n0, en⟩ : ∃ n0, n0 = n := ⟨_, rfl⟩
  have EN : Hid (n0 = n) := en
  clear en
  obtain ⟨k, m, u, g, o, at_, d, ks⟩ := n
  obtain ⟨kx, mx, ux, gx, ox, atx, dx, ksx⟩ := x
  have N1 := NBox.new W k m u g o at_ d ks h
  have hB0 : Below W.heap.size W (W.alloc (.cells #[.int .i64 k, .int .i64 m, .int .i64 u, .int .i64 g, .bool o, .slice h.aa at_.length h.ca, .string d, .slice h.ak ks.length h.ck] 25)) := (Below.refl _ _).alloc (Nat.le_refl _) _
  have X1 := NBox.new (W.alloc (.cells #[.int .i64 k, .int .i64 m, .int .i64 u, .int .i64 g, .bool o, .slice h.aa at_.length h.ca, .string d, .slice h.ak ks.length h.ck] 25)) kx mx ux gx ox atx dx ksx hx
  rw [World.size_alloc] at X1
  replace N1 := N1.below ((Below.refl _ (W.alloc (.cells #[.int .i64 k, .int .i64 m, .int .i64 u, .int .i64 g, .bool o, .slice h.aa at_.length h.ca, .string d, .slice h.ak ks.length h.ck] 25))).alloc (Nat.le_refl _) (.cells #[.int .i64 kx, .int .i64 mx, .int .i64 ux, .int .i64 gx, .bool ox, .slice hx.aa atx.length hx.ca, .string dx, .slice hx.ak ksx.length hx.ck] 25))
  have hB : Below W.heap.size W ((W.alloc (.cells #[.int .i64 k, .int .i64 m, .int .i64 u, .int .i64 g, .bool o, .slice h.aa at_.length h.ca, .string d, .slice h.ak ks.length h.ck] 25)).alloc (.cells #[.int .i64 kx, .int .i64 mx, .int .i64 ux, .int .i64 gx, .bool ox, .slice hx.aa atx.length hx.ca, .string dx, .slice hx.ak ksx.length hx.ck] 25)) := hB0.alloc hB0.size _
  clear hB0
  show Calls Try.prog 5 #[.agg #[.int .i64 k, .int .i64 m, .int .i64 u, .int .i64 g, .bool o, .slice h.aa at_.length h.ca, .string d, .slice h.ak ks.length h.ck], .slice a l.length cl, .slice b other.length co, .agg #[.int .i64 kx, .int .i64 mx, .int .i64 ux, .int .i64 gx, .bool ox, .slice hx.aa atx.length hx.ca, .string dx, .slice hx.ak ksx.length hx.ck]] _ _
  go_enter Try.func5, Try.ntmps5
  obtain ⟨y00, y01, y02, y03, y04, y05, y06, y07⟩ := id N1
  obtain ⟨y10, y11, y12, y13, y14, y15, y16, y17⟩ := id X1
  go_wp2_with fail
  refine (Light_any (hN.ab hB)).mono ?_
  rintro e w2 ⟨rfl, c2⟩
  rw [HLN.out]
  clear y00 y01 y02 y03 y04 y05 y06 y07 y10 y11 y12 y13 y14 y15 y16 y17 
  replace N1 := N1.below c2
  replace X1 := X1.below c2
  replace hB := hB.trans (c2.mono hB.size)
  clear c2 
  generalize hsz : W.heap.size = nb at N1 X1 ⊢
  obtain ⟨y00, y01, y02, y03, y04, y05, y06, y07⟩ := id N1
  obtain ⟨y10, y11, y12, y13, y14, y15, y16, y17⟩ := id X1
  go_wp2_with fail
  refine (Light_any (hX.ab hB)).mono ?_
  rintro e w3 ⟨rfl, c2⟩
  rw [HLX.out]
  clear y00 y01 y02 y03 y04 y05 y06 y07 y10 y11 y12 y13 y14 y15 y16 y17 
  replace N1 := N1.below c2
  replace X1 := X1.below c2
  replace hB := hB.trans (c2.mono hB.size)
  clear c2 
  obtain ⟨y00, y01, y02, y03, y04, y05, y06, y07⟩ := id N1
  obtain ⟨y10, y11, y12, y13, y14, y15, y16, y17⟩ := id X1
  go_wp2_with fail
  refine (tcheck_any true (hN.ab hB) hlilN (by omega)).mono ?_
  rintro e w4 ⟨rfl, c2⟩
  rw [HTF.out, errV_nil rfl]
  clear y00 y01 y02 y03 y04 y05 y06 y07 y10 y11 y12 y13 y14 y15 y16 y17 
  replace N1 := N1.below c2
  replace X1 := X1.below c2
  replace hB := hB.trans (c2.mono hB.size)
  clear c2 
  obtain ⟨y00, y01, y02, y03, y04, y05, y06, y07⟩ := id N1
  obtain ⟨y10, y11, y12, y13, y14, y15, y16, y17⟩ := id X1
  go_wp2_with fail
  refine (tfind_any (hN.ab hB) b co other (HSO.out.on (mle_below hB)) (by omega) (by omega) (hlimN)).mono ?_
  rintro e w5 ⟨⟨h5, rfl, N5⟩, c2⟩
  clear y00 y01 y02 y03 y04 y05 y06 y07 y10 y11 y12 y13 y14 y15 y16 y17 
  replace N1 := N1.below c2
  replace X1 := X1.below c2
  replace hB := hB.trans (c2.mono hB.size)
  clear c2 
  obtain ⟨r5, hr5⟩ : ∃ r, (findF other (.mk k m u g o at_ d ks)).getD zN = r := ⟨_, rfl⟩
  rw [hr5] at N5 ⊢
  have E5 : Hid ((findF other (.mk k m u g o at_ d ks)).getD zN = r5) := hr5
  clear hr5
  obtain ⟨k5, m5, u5, g5, o5, at5, d5, ks5⟩ := r5
  have ev : ndV (.mk k5 m5 u5 g5 o5 at5 d5 ks5) h5 = .agg #[.int .i64 k5, .int .i64 m5, .int .i64 u5, .int .i64 g5, .bool o5, .slice h5.aa at5.length h5.ca, .string d5, .slice h5.ak ks5.length h5.ck] := rfl
  rw [ev]
  clear ev
  have B5 := NBox.new w5 k5 m5 u5 g5 o5 at5 d5 ks5 h5
  have c2 : Below w5.heap.size w5 (w5.alloc (.cells #[.int .i64 k5, .int .i64 m5, .int .i64 u5, .int .i64 g5, .bool o5, .slice h5.aa at5.length h5.ca, .string d5, .slice h5.ak ks5.length h5.ck] 25)) := (Below.refl _ _).alloc (Nat.le_refl _) _
  replace N1 := N1.below c2
  replace X1 := X1.below c2
  replace N5 := N5.ab c2
  replace hB := hB.trans (c2.mono hB.size)
  clear c2 
  obtain ⟨th, hth⟩ : ∃ t, (findF other (.mk k m u g o at_ d ks)).isSome = t := ⟨_, rfl⟩
  rw [hth]
  have HTH : Hid ((findF other (.mk k m u g o at_ d ks)).isSome = th) := hth
  clear hth
  obtain ⟨y00, y01, y02, y03, y04, y05, y06, y07⟩ := id N1
  obtain ⟨y10, y11, y12, y13, y14, y15, y16, y17⟩ := id X1
  obtain ⟨y20, y21, y22, y23, y24, y25, y26, y27⟩ := id B5
  go_wp2_with fail
  refine (under_any a b cl co l other _ (by omega) (by omega) (HSL.out.on (mle_below hB)) (HSO.out.on (mle_below hB))).mono ?_
  rintro e w' ⟨rfl, rfl⟩
  rw [HU1.out]
  go_wp2_with fail
  refine (under_any b a co cl other l _ (by omega) (by omega) (HSO.out.on (mle_below hB)) (HSL.out.on (mle_below hB))).mono ?_
  rintro e w' ⟨rfl, rfl⟩
  rw [HU2.out]
  go_wp2_with fail
  refine (tput_any (hN.ab hB) a cl l (HSL.out.on (mle_below hB)) (by omega) HCL.out (by omega) _ hx (hX.ab hB) (fun r hr => ⟨(HRP.out r hr).1, by have := (HRP.out r hr).2; omega⟩)).mono ?_
  rintro e w6 ⟨⟨h6, rfl, N6⟩, c2⟩
  clear y00 y01 y02 y03 y04 y05 y06 y07 y10 y11 y12 y13 y14 y15 y16 y17 y20 y21 y22 y23 y24 y25 y26 y27 
  replace N1 := N1.below c2
  replace X1 := X1.below c2
  replace B5 := B5.below c2
  replace N5 := N5.ab c2
  replace hB := hB.trans (c2.mono hB.size)
  clear c2 
  cases hP : chgF (some (.mk kx mx ux gx ox atx dx ksx)) l (.mk k m u g o at_ d ks) with
  | error f =>
    have hf := chg_err7 hP
    rw [hP] at N6
    rw [show xNd (.error f) = zN from rfl] at N6 ⊢
    rw [show errV (xErr (.error f)) = .iface 53 (.int .i64 f) from errV_of rfl (by omega)]
    clear hf hP
    obtain ⟨r6, hr6⟩ : ∃ r, zN = r := ⟨_, rfl⟩
    rw [hr6] at N6 ⊢
    have E6 : Hid (zN = r6) := hr6
    clear hr6
    obtain ⟨k6, m6, u6, g6, o6, at6, d6, ks6⟩ := r6
    have ev : ndV (.mk k6 m6 u6 g6 o6 at6 d6 ks6) h6 = .agg #[.int .i64 k6, .int .i64 m6, .int .i64 u6, .int .i64 g6, .bool o6, .slice h6.aa at6.length h6.ca, .string d6, .slice h6.ak ks6.length h6.ck] := rfl
    rw [ev]
    clear ev
    have B6 := NBox.new w6 k6 m6 u6 g6 o6 at6 d6 ks6 h6
    have c2 : Below w6.heap.size w6 (w6.alloc (.cells #[.int .i64 k6, .int .i64 m6, .int .i64 u6, .int .i64 g6, .bool o6, .slice h6.aa at6.length h6.ca, .string d6, .slice h6.ak ks6.length h6.ck] 25)) := (Below.refl _ _).alloc (Nat.le_refl _) _
    replace N1 := N1.below c2
    replace X1 := X1.below c2
    replace B5 := B5.below c2
    replace N5 := N5.ab c2
    replace N6 := N6.ab c2
    replace hB := hB.trans (c2.mono hB.size)
    clear c2 
    obtain ⟨y00, y01, y02, y03, y04, y05, y06, y07⟩ := id N1
    obtain ⟨y10, y11, y12, y13, y14, y15, y16, y17⟩ := id X1
    obtain ⟨y20, y21, y22, y23, y24, y25, y26, y27⟩ := id B5
    obtain ⟨y30, y31, y32, y33, y34, y35, y36, y37⟩ := id B6
    go_wp2_with fail
    refine (tcut_any (hN.ab hB) a cl l (HSL.out.on (mle_below hB)) (by omega) HCL.out (by omega) (fun r hr => ⟨(HRC.out r hr).1, by have := (HRC.out r hr).2.1; omega⟩)).mono ?_
    rintro e w7 ⟨⟨h7, rfl, N7⟩, c2⟩
    clear y00 y01 y02 y03 y04 y05 y06 y07 y10 y11 y12 y13 y14 y15 y16 y17 y20 y21 y22 y23 y24 y25 y26 y27 y30 y31 y32 y33 y34 y35 y36 y37 
    replace N1 := N1.below c2
    replace X1 := X1.below c2
    replace B5 := B5.below c2
    replace B6 := B6.below c2
    replace N5 := N5.ab c2
    replace N6 := N6.ab c2
    replace hB := hB.trans (c2.mono hB.size)
    clear c2 
    cases hC : chgF none l (.mk k m u g o at_ d ks) with
    | error f =>
      have hf := chg_err7 hC
      have HCE : Hid (l = [] ∨ findF l (.mk k m u g o at_ d ks) = none) := cut_err hC
      rw [hC] at N7
      rw [show xNd (.error f) = zN from rfl] at N7 ⊢
      rw [show errV (xErr (.error f)) = .iface 53 (.int .i64 f) from errV_of rfl (by omega)]
      clear hf hC
      obtain ⟨r7, hr7⟩ : ∃ r, zN = r := ⟨_, rfl⟩
      rw [hr7] at N7 ⊢
      have E7 : Hid (zN = r7) := hr7
      clear hr7
      obtain ⟨k7, m7, u7, g7, o7, at7, d7, ks7⟩ := r7
      have ev : ndV (.mk k7 m7 u7 g7 o7 at7 d7 ks7) h7 = .agg #[.int .i64 k7, .int .i64 m7, .int .i64 u7, .int .i64 g7, .bool o7, .slice h7.aa at7.length h7.ca, .string d7, .slice h7.ak ks7.length h7.ck] := rfl
      rw [ev]
      clear ev
      have B7 := NBox.new w7 k7 m7 u7 g7 o7 at7 d7 ks7 h7
      have c2 : Below w7.heap.size w7 (w7.alloc (.cells #[.int .i64 k7, .int .i64 m7, .int .i64 u7, .int .i64 g7, .bool o7, .slice h7.aa at7.length h7.ca, .string d7, .slice h7.ak ks7.length h7.ck] 25)) := (Below.refl _ _).alloc (Nat.le_refl _) _
      replace N1 := N1.below c2
      replace X1 := X1.below c2
      replace B5 := B5.below c2
      replace B6 := B6.below c2
      replace N5 := N5.ab c2
      replace N6 := N6.ab c2
      replace N7 := N7.ab c2
      replace hB := hB.trans (c2.mono hB.size)
      clear c2 
      obtain ⟨y00, y01, y02, y03, y04, y05, y06, y07⟩ := id N1
      obtain ⟨y10, y11, y12, y13, y14, y15, y16, y17⟩ := id X1
      obtain ⟨y20, y21, y22, y23, y24, y25, y26, y27⟩ := id B5
      obtain ⟨y30, y31, y32, y33, y34, y35, y36, y37⟩ := id B6
      obtain ⟨y40, y41, y42, y43, y44, y45, y46, y47⟩ := id B7
      go_wp2_with fail
      refine (tfind_any (hN.ab hB) a cl l (HSL.out.on (mle_below hB)) (by omega) (by omega) (hlimN)).mono ?_
      rintro e w8 ⟨⟨h8, rfl, N8⟩, c2⟩
      clear y00 y01 y02 y03 y04 y05 y06 y07 y10 y11 y12 y13 y14 y15 y16 y17 y20 y21 y22 y23 y24 y25 y26 y27 y30 y31 y32 y33 y34 y35 y36 y37 y40 y41 y42 y43 y44 y45 y46 y47 
      replace N1 := N1.below c2
      replace X1 := X1.below c2
      replace B5 := B5.below c2
      replace B6 := B6.below c2
      replace B7 := B7.below c2
      replace N5 := N5.ab c2
      replace N6 := N6.ab c2
      replace N7 := N7.ab c2
      replace hB := hB.trans (c2.mono hB.size)
      clear c2 
      obtain ⟨r8, hr8⟩ : ∃ r, (findF l (.mk k m u g o at_ d ks)).getD zN = r := ⟨_, rfl⟩
      rw [hr8] at N8 ⊢
      have E8 : Hid ((findF l (.mk k m u g o at_ d ks)).getD zN = r8) := hr8
      clear hr8
      obtain ⟨k8, m8, u8, g8, o8, at8, d8, ks8⟩ := r8
      have ev : ndV (.mk k8 m8 u8 g8 o8 at8 d8 ks8) h8 = .agg #[.int .i64 k8, .int .i64 m8, .int .i64 u8, .int .i64 g8, .bool o8, .slice h8.aa at8.length h8.ca, .string d8, .slice h8.ak ks8.length h8.ck] := rfl
      rw [ev]
      clear ev
      have B8 := NBox.new w8 k8 m8 u8 g8 o8 at8 d8 ks8 h8
      have c2 : Below w8.heap.size w8 (w8.alloc (.cells #[.int .i64 k8, .int .i64 m8, .int .i64 u8, .int .i64 g8, .bool o8, .slice h8.aa at8.length h8.ca, .string d8, .slice h8.ak ks8.length h8.ck] 25)) := (Below.refl _ _).alloc (Nat.le_refl _) _
      replace N1 := N1.below c2
      replace X1 := X1.below c2
      replace B5 := B5.below c2
      replace B6 := B6.below c2
      replace B7 := B7.below c2
      replace N5 := N5.ab c2
      replace N6 := N6.ab c2
      replace N7 := N7.ab c2
      replace N8 := N8.ab c2
      replace hB := hB.trans (c2.mono hB.size)
      clear c2 
      by_cases hl0 : l.length = 0
      · have dl : ((l.length : Int) == 0) = true := by rw [hl0]; rfl
        clear hl0
        go_wp2
        go_ret
        exact ⟨rfl, hB⟩
      · have dl : ((l.length : Int) == 0) = false := beq_eq_false_iff_ne.2 (by omega)
        have HNO : Hid (findF l (.mk k m u g o at_ d ks) = none) := by
          rcases HCE.out with q | q
          · rw [q] at hl0; simp at hl0
          · exact q
        rw [HNO.out]
        clear hl0
        go_wp2
        go_ret
        exact ⟨rfl, hB⟩
    | ok r =>
      obtain ⟨hlimC, hcC, hlilC, htfC, hfC⟩ := HRC.out r hC
      have HFC : Hid (findF l r = none) := hfC
      have HTC : Hid (tfF true r = 0) := htfC
      have HATC : Hid (At1 r) := at_lil r hlilC
      rw [hC] at N7
      rw [show xNd (.ok r) = r from rfl] at N7 ⊢
      rw [show errV (xErr (.ok r)) = .nilIface from rfl]
      clear htfC hC hfC
      obtain ⟨r7, hr7⟩ : ∃ q, r = q := ⟨_, rfl⟩
      have E7 : Hid (r = r7) := hr7
      rw [hr7] at N7 hlimC hcC hlilC HFC HTC HATC ⊢
      clear hr7
      obtain ⟨k7, m7, u7, g7, o7, at7, d7, ks7⟩ := r7
      have ev : ndV (.mk k7 m7 u7 g7 o7 at7 d7 ks7) h7 = .agg #[.int .i64 k7, .int .i64 m7, .int .i64 u7, .int .i64 g7, .bool o7, .slice h7.aa at7.length h7.ca, .string d7, .slice h7.ak ks7.length h7.ck] := rfl
      rw [ev]
      clear ev
      have B7 := NBox.new w7 k7 m7 u7 g7 o7 at7 d7 ks7 h7
      have c2 : Below w7.heap.size w7 (w7.alloc (.cells #[.int .i64 k7, .int .i64 m7, .int .i64 u7, .int .i64 g7, .bool o7, .slice h7.aa at7.length h7.ca, .string d7, .slice h7.ak ks7.length h7.ck] 25)) := (Below.refl _ _).alloc (Nat.le_refl _) _
      replace N1 := N1.below c2
      replace X1 := X1.below c2
      replace B5 := B5.below c2
      replace B6 := B6.below c2
      replace N5 := N5.ab c2
      replace N6 := N6.ab c2
      replace hB := hB.trans (c2.mono hB.size)
      replace N7 := N7.ab c2
      clear c2 
      obtain ⟨y00, y01, y02, y03, y04, y05, y06, y07⟩ := id N1
      obtain ⟨y10, y11, y12, y13, y14, y15, y16, y17⟩ := id X1
      obtain ⟨y20, y21, y22, y23, y24, y25, y26, y27⟩ := id B5
      obtain ⟨y30, y31, y32, y33, y34, y35, y36, y37⟩ := id B6
      obtain ⟨y40, y41, y42, y43, y44, y45, y46, y47⟩ := id B7
      go_wp2_with fail
      refine (tfind_any (N7) a cl l (HSL.out.on (mle_below hB)) (by omega) (by omega) (hlimC)).mono ?_
      rintro e w8 ⟨⟨h8, rfl, N8⟩, c2⟩
      clear y00 y01 y02 y03 y04 y05 y06 y07 y10 y11 y12 y13 y14 y15 y16 y17 y20 y21 y22 y23 y24 y25 y26 y27 y30 y31 y32 y33 y34 y35 y36 y37 y40 y41 y42 y43 y44 y45 y46 y47 
      replace N1 := N1.below c2
      replace X1 := X1.below c2
      replace B5 := B5.below c2
      replace B6 := B6.below c2
      replace B7 := B7.below c2
      replace N5 := N5.ab c2
      replace N6 := N6.ab c2
      replace N7 := N7.ab c2
      replace hB := hB.trans (c2.mono hB.size)
      clear c2 
      rw [HFC.out] at N8 ⊢
      rw [show (none : Option Nd).getD zN = zN from rfl] at N8 ⊢
      rw [show (none : Option Nd).isSome = false from rfl]
      obtain ⟨r8, hr8⟩ : ∃ r, zN = r := ⟨_, rfl⟩
      rw [hr8] at N8 ⊢
      have E8 : Hid (zN = r8) := hr8
      clear hr8
      obtain ⟨k8, m8, u8, g8, o8, at8, d8, ks8⟩ := r8
      have ev : ndV (.mk k8 m8 u8 g8 o8 at8 d8 ks8) h8 = .agg #[.int .i64 k8, .int .i64 m8, .int .i64 u8, .int .i64 g8, .bool o8, .slice h8.aa at8.length h8.ca, .string d8, .slice h8.ak ks8.length h8.ck] := rfl
      rw [ev]
      clear ev
      have B8 := NBox.new w8 k8 m8 u8 g8 o8 at8 d8 ks8 h8
      have c2 : Below w8.heap.size w8 (w8.alloc (.cells #[.int .i64 k8, .int .i64 m8, .int .i64 u8, .int .i64 g8, .bool o8, .slice h8.aa at8.length h8.ca, .string d8, .slice h8.ak ks8.length h8.ck] 25)) := (Below.refl _ _).alloc (Nat.le_refl _) _
      replace N1 := N1.below c2
      replace X1 := X1.below c2
      replace B5 := B5.below c2
      replace B6 := B6.below c2
      replace B7 := B7.below c2
      replace N5 := N5.ab c2
      replace N6 := N6.ab c2
      replace N7 := N7.ab c2
      replace N8 := N8.ab c2
      replace hB := hB.trans (c2.mono hB.size)
      clear c2 
      obtain ⟨y00, y01, y02, y03, y04, y05, y06, y07⟩ := id N1
      obtain ⟨y10, y11, y12, y13, y14, y15, y16, y17⟩ := id X1
      obtain ⟨y20, y21, y22, y23, y24, y25, y26, y27⟩ := id B5
      obtain ⟨y30, y31, y32, y33, y34, y35, y36, y37⟩ := id B6
      obtain ⟨y40, y41, y42, y43, y44, y45, y46, y47⟩ := id B7
      obtain ⟨y50, y51, y52, y53, y54, y55, y56, y57⟩ := id B8
      go_wp2_with fail
      refine (tfind_any (N7) b co other (HSO.out.on (mle_below hB)) (by omega) (by omega) (hlimC)).mono ?_
      rintro e w9 ⟨⟨h9, rfl, N9⟩, c2⟩
      clear y00 y01 y02 y03 y04 y05 y06 y07 y10 y11 y12 y13 y14 y15 y16 y17 y20 y21 y22 y23 y24 y25 y26 y27 y30 y31 y32 y33 y34 y35 y36 y37 y40 y41 y42 y43 y44 y45 y46 y47 y50 y51 y52 y53 y54 y55 y56 y57 
      replace N1 := N1.below c2
      replace X1 := X1.below c2
      replace B5 := B5.below c2
      replace B6 := B6.below c2
      replace B7 := B7.below c2
      replace B8 := B8.below c2
      replace N5 := N5.ab c2
      replace N6 := N6.ab c2
      replace N7 := N7.ab c2
      replace N8 := N8.ab c2
      replace hB := hB.trans (c2.mono hB.size)
      clear c2 
      obtain ⟨r9, hr9⟩ : ∃ r, (findF other (.mk k7 m7 u7 g7 o7 at7 d7 ks7)).getD zN = r := ⟨_, rfl⟩
      rw [hr9] at N9 ⊢
      have E9 : Hid ((findF other (.mk k7 m7 u7 g7 o7 at7 d7 ks7)).getD zN = r9) := hr9
      clear hr9
      obtain ⟨k9, m9, u9, g9, o9, at9, d9, ks9⟩ := r9
      have ev : ndV (.mk k9 m9 u9 g9 o9 at9 d9 ks9) h9 = .agg #[.int .i64 k9, .int .i64 m9, .int .i64 u9, .int .i64 g9, .bool o9, .slice h9.aa at9.length h9.ca, .string d9, .slice h9.ak ks9.length h9.ck] := rfl
      rw [ev]
      clear ev
      have B9 := NBox.new w9 k9 m9 u9 g9 o9 at9 d9 ks9 h9
      have c2 : Below w9.heap.size w9 (w9.alloc (.cells #[.int .i64 k9, .int .i64 m9, .int .i64 u9, .int .i64 g9, .bool o9, .slice h9.aa at9.length h9.ca, .string d9, .slice h9.ak ks9.length h9.ck] 25)) := (Below.refl _ _).alloc (Nat.le_refl _) _
      replace N1 := N1.below c2
      replace X1 := X1.below c2
      replace B5 := B5.below c2
      replace B6 := B6.below c2
      replace B7 := B7.below c2
      replace B8 := B8.below c2
      replace N5 := N5.ab c2
      replace N6 := N6.ab c2
      replace N7 := N7.ab c2
      replace N8 := N8.ab c2
      replace N9 := N9.ab c2
      replace hB := hB.trans (c2.mono hB.size)
      clear c2 
      obtain ⟨ts, hts⟩ : ∃ t, (findF other (.mk k7 m7 u7 g7 o7 at7 d7 ks7)).isSome = t := ⟨_, rfl⟩
      rw [hts]
      clear hts
      obtain ⟨y00, y01, y02, y03, y04, y05, y06, y07⟩ := id N1
      obtain ⟨y10, y11, y12, y13, y14, y15, y16, y17⟩ := id X1
      obtain ⟨y20, y21, y22, y23, y24, y25, y26, y27⟩ := id B5
      obtain ⟨y30, y31, y32, y33, y34, y35, y36, y37⟩ := id B6
      obtain ⟨y40, y41, y42, y43, y44, y45, y46, y47⟩ := id B7
      obtain ⟨y50, y51, y52, y53, y54, y55, y56, y57⟩ := id B8
      obtain ⟨y60, y61, y62, y63, y64, y65, y66, y67⟩ := id B9
      go_wp2_with fail
      refine (tcheck_any true N7 hlilC (by omega)).mono ?_
      rintro e w10 ⟨rfl, c2⟩
      rw [HTC.out, errV_nil rfl]
      clear y00 y01 y02 y03 y04 y05 y06 y07 y10 y11 y12 y13 y14 y15 y16 y17 y20 y21 y22 y23 y24 y25 y26 y27 y30 y31 y32 y33 y34 y35 y36 y37 y40 y41 y42 y43 y44 y45 y46 y47 y50 y51 y52 y53 y54 y55 y56 y57 y60 y61 y62 y63 y64 y65 y66 y67 
      replace N1 := N1.below c2
      replace X1 := X1.below c2
      replace B5 := B5.below c2
      replace B6 := B6.below c2
      replace B7 := B7.below c2
      replace B8 := B8.below c2
      replace B9 := B9.below c2
      replace N5 := N5.ab c2
      replace N6 := N6.ab c2
      replace N7 := N7.ab c2
      replace N8 := N8.ab c2
      replace N9 := N9.ab c2
      replace hB := hB.trans (c2.mono hB.size)
      clear c2 
      obtain ⟨y00, y01, y02, y03, y04, y05, y06, y07⟩ := id N1
      obtain ⟨y10, y11, y12, y13, y14, y15, y16, y17⟩ := id X1
      obtain ⟨y20, y21, y22, y23, y24, y25, y26, y27⟩ := id B5
      obtain ⟨y30, y31, y32, y33, y34, y35, y36, y37⟩ := id B6
      obtain ⟨y40, y41, y42, y43, y44, y45, y46, y47⟩ := id B7
      obtain ⟨y50, y51, y52, y53, y54, y55, y56, y57⟩ := id B8
      obtain ⟨y60, y61, y62, y63, y64, y65, y66, y67⟩ := id B9
      go_wp2
      go_ret
      exact ⟨rfl, hB⟩
  | ok r =>
    obtain ⟨hlimP, hcP⟩ := HRP.out r hP
    have HFP : Hid (findF l r = some (.mk kx mx ux gx ox atx dx ksx)) := find_put hP
    rw [hP] at N6
    rw [show xNd (.ok r) = r from rfl] at N6 ⊢
    rw [show errV (xErr (.ok r)) = .nilIface from rfl]
    clear hP
    obtain ⟨r6, hr6⟩ : ∃ q, r = q := ⟨_, rfl⟩
    rw [hr6] at N6 hlimP hcP HFP ⊢
    clear hr6
    obtain ⟨k6, m6, u6, g6, o6, at6, d6, ks6⟩ := r6
    have ev : ndV (.mk k6 m6 u6 g6 o6 at6 d6 ks6) h6 = .agg #[.int .i64 k6, .int .i64 m6, .int .i64 u6, .int .i64 g6, .bool o6, .slice h6.aa at6.length h6.ca, .string d6, .slice h6.ak ks6.length h6.ck] := rfl
    rw [ev]
    clear ev
    have B6 := NBox.new w6 k6 m6 u6 g6 o6 at6 d6 ks6 h6
    have c2 : Below w6.heap.size w6 (w6.alloc (.cells #[.int .i64 k6, .int .i64 m6, .int .i64 u6, .int .i64 g6, .bool o6, .slice h6.aa at6.length h6.ca, .string d6, .slice h6.ak ks6.length h6.ck] 25)) := (Below.refl _ _).alloc (Nat.le_refl _) _
    replace N1 := N1.below c2
    replace X1 := X1.below c2
    replace B5 := B5.below c2
    replace N5 := N5.ab c2
    replace hB := hB.trans (c2.mono hB.size)
    replace N6 := N6.ab c2
    clear c2 
    obtain ⟨y00, y01, y02, y03, y04, y05, y06, y07⟩ := id N1
    obtain ⟨y10, y11, y12, y13, y14, y15, y16, y17⟩ := id X1
    obtain ⟨y20, y21, y22, y23, y24, y25, y26, y27⟩ := id B5
    obtain ⟨y30, y31, y32, y33, y34, y35, y36, y37⟩ := id B6
    go_wp2_with fail
    refine (tfind_any (N6) a cl l (HSL.out.on (mle_below hB)) (by omega) (by omega) (hlimP)).mono ?_
    rintro e w7 ⟨⟨h7, rfl, N7⟩, c2⟩
    clear y00 y01 y02 y03 y04 y05 y06 y07 y10 y11 y12 y13 y14 y15 y16 y17 y20 y21 y22 y23 y24 y25 y26 y27 y30 y31 y32 y33 y34 y35 y36 y37 
    replace N1 := N1.below c2
    replace X1 := X1.below c2
    replace B5 := B5.below c2
    replace B6 := B6.below c2
    replace N5 := N5.ab c2
    replace N6 := N6.ab c2
    replace hB := hB.trans (c2.mono hB.size)
    clear c2 
    rw [HFP.out] at N7 ⊢
    rw [show (some (Nd.mk kx mx ux gx ox atx dx ksx)).getD zN = .mk kx mx ux gx ox atx dx ksx from rfl] at N7 ⊢
    rw [show (some (Nd.mk kx mx ux gx ox atx dx ksx)).isSome = true from rfl]
    have ev : ndV (.mk kx mx ux gx ox atx dx ksx) h7 = .agg #[.int .i64 kx, .int .i64 mx, .int .i64 ux, .int .i64 gx, .bool ox, .slice h7.aa atx.length h7.ca, .string dx, .slice h7.ak ksx.length h7.ck] := rfl
    rw [ev]
    clear ev
    have B7 := NBox.new w7 kx mx ux gx ox atx dx ksx h7
    have c2 : Below w7.heap.size w7 (w7.alloc (.cells #[.int .i64 kx, .int .i64 mx, .int .i64 ux, .int .i64 gx, .bool ox, .slice h7.aa atx.length h7.ca, .string dx, .slice h7.ak ksx.length h7.ck] 25)) := (Below.refl _ _).alloc (Nat.le_refl _) _
    replace N1 := N1.below c2
    replace X1 := X1.below c2
    replace B5 := B5.below c2
    replace B6 := B6.below c2
    replace N5 := N5.ab c2
    replace N6 := N6.ab c2
    replace hB := hB.trans (c2.mono hB.size)
    replace N7 := N7.ab c2
    clear c2 
    obtain ⟨y00, y01, y02, y03, y04, y05, y06, y07⟩ := id N1
    obtain ⟨y10, y11, y12, y13, y14, y15, y16, y17⟩ := id X1
    obtain ⟨y20, y21, y22, y23, y24, y25, y26, y27⟩ := id B5
    obtain ⟨y30, y31, y32, y33, y34, y35, y36, y37⟩ := id B6
    obtain ⟨y40, y41, y42, y43, y44, y45, y46, y47⟩ := id B7
    go_wp2_with fail
    refine (tfind_any (N6) b co other (HSO.out.on (mle_below hB)) (by omega) (by omega) (hlimP)).mono ?_
    rintro e w8 ⟨⟨h8, rfl, N8⟩, c2⟩
    clear y00 y01 y02 y03 y04 y05 y06 y07 y10 y11 y12 y13 y14 y15 y16 y17 y20 y21 y22 y23 y24 y25 y26 y27 y30 y31 y32 y33 y34 y35 y36 y37 y40 y41 y42 y43 y44 y45 y46 y47 
    replace N1 := N1.below c2
    replace X1 := X1.below c2
    replace B5 := B5.below c2
    replace B6 := B6.below c2
    replace B7 := B7.below c2
    replace N5 := N5.ab c2
    replace N6 := N6.ab c2
    replace N7 := N7.ab c2
    replace hB := hB.trans (c2.mono hB.size)
    clear c2 
    obtain ⟨r8, hr8⟩ : ∃ r, (findF other (.mk k6 m6 u6 g6 o6 at6 d6 ks6)).getD zN = r := ⟨_, rfl⟩
    rw [hr8] at N8 ⊢
    have E8 : Hid ((findF other (.mk k6 m6 u6 g6 o6 at6 d6 ks6)).getD zN = r8) := hr8
    clear hr8
    obtain ⟨k8, m8, u8, g8, o8, at8, d8, ks8⟩ := r8
    have ev : ndV (.mk k8 m8 u8 g8 o8 at8 d8 ks8) h8 = .agg #[.int .i64 k8, .int .i64 m8, .int .i64 u8, .int .i64 g8, .bool o8, .slice h8.aa at8.length h8.ca, .string d8, .slice h8.ak ks8.length h8.ck] := rfl
    rw [ev]
    clear ev
    have B8 := NBox.new w8 k8 m8 u8 g8 o8 at8 d8 ks8 h8
    have c2 : Below w8.heap.size w8 (w8.alloc (.cells #[.int .i64 k8, .int .i64 m8, .int .i64 u8, .int .i64 g8, .bool o8, .slice h8.aa at8.length h8.ca, .string d8, .slice h8.ak ks8.length h8.ck] 25)) := (Below.refl _ _).alloc (Nat.le_refl _) _
    replace N1 := N1.below c2
    replace X1 := X1.below c2
    replace B5 := B5.below c2
    replace B6 := B6.below c2
    replace B7 := B7.below c2
    replace N5 := N5.ab c2
    replace N6 := N6.ab c2
    replace N7 := N7.ab c2
    replace N8 := N8.ab c2
    replace hB := hB.trans (c2.mono hB.size)
    clear c2 
    obtain ⟨tz, htz⟩ : ∃ t, (findF other (.mk k6 m6 u6 g6 o6 at6 d6 ks6)).isSome = t := ⟨_, rfl⟩
    rw [htz]
    clear htz
    obtain ⟨y00, y01, y02, y03, y04, y05, y06, y07⟩ := id N1
    obtain ⟨y10, y11, y12, y13, y14, y15, y16, y17⟩ := id X1
    obtain ⟨y20, y21, y22, y23, y24, y25, y26, y27⟩ := id B5
    obtain ⟨y30, y31, y32, y33, y34, y35, y36, y37⟩ := id B6
    obtain ⟨y40, y41, y42, y43, y44, y45, y46, y47⟩ := id B7
    obtain ⟨y50, y51, y52, y53, y54, y55, y56, y57⟩ := id B8
    go_wp2_with fail
    refine (sameNode_yes N7 hx _ hlimX (hX.ab hB) (Below.refl _ _)).mono ?_
    rintro e w9 ⟨rfl, c2⟩
    clear y00 y01 y02 y03 y04 y05 y06 y07 y10 y11 y12 y13 y14 y15 y16 y17 y20 y21 y22 y23 y24 y25 y26 y27 y30 y31 y32 y33 y34 y35 y36 y37 y40 y41 y42 y43 y44 y45 y46 y47 y50 y51 y52 y53 y54 y55 y56 y57 
    replace N1 := N1.below c2
    replace X1 := X1.below c2
    replace B5 := B5.below c2
    replace B6 := B6.below c2
    replace B7 := B7.below c2
    replace B8 := B8.below c2
    replace N5 := N5.ab c2
    replace N6 := N6.ab c2
    replace N7 := N7.ab c2
    replace N8 := N8.ab c2
    replace hB := hB.trans (c2.mono hB.size)
    clear c2 
    obtain ⟨y00, y01, y02, y03, y04, y05, y06, y07⟩ := id N1
    obtain ⟨y10, y11, y12, y13, y14, y15, y16, y17⟩ := id X1
    obtain ⟨y20, y21, y22, y23, y24, y25, y26, y27⟩ := id B5
    obtain ⟨y30, y31, y32, y33, y34, y35, y36, y37⟩ := id B6
    obtain ⟨y40, y41, y42, y43, y44, y45, y46, y47⟩ := id B7
    obtain ⟨y50, y51, y52, y53, y54, y55, y56, y57⟩ := id B8
    go_wp2_with fail
    refine (tcut_any (hN.ab hB) a cl l (HSL.out.on (mle_below hB)) (by omega) HCL.out (by omega) (fun r hr => ⟨(HRC.out r hr).1, by have := (HRC.out r hr).2.1; omega⟩)).mono ?_
    rintro e w10 ⟨⟨h10, rfl, N10⟩, c2⟩
    clear y00 y01 y02 y03 y04 y05 y06 y07 y10 y11 y12 y13 y14 y15 y16 y17 y20 y21 y22 y23 y24 y25 y26 y27 y30 y31 y32 y33 y34 y35 y36 y37 y40 y41 y42 y43 y44 y45 y46 y47 y50 y51 y52 y53 y54 y55 y56 y57 
    replace N1 := N1.below c2
    replace X1 := X1.below c2
    replace B5 := B5.below c2
    replace B6 := B6.below c2
    replace B7 := B7.below c2
    replace B8 := B8.below c2
    replace N5 := N5.ab c2
    replace N6 := N6.ab c2
    replace N7 := N7.ab c2
    replace N8 := N8.ab c2
    replace hB := hB.trans (c2.mono hB.size)
    clear c2 
    cases hC : chgF none l (.mk k m u g o at_ d ks) with
    | error f =>
      have hf := chg_err7 hC
      have HCE : Hid (l = [] ∨ findF l (.mk k m u g o at_ d ks) = none) := cut_err hC
      rw [hC] at N10
      rw [show xNd (.error f) = zN from rfl] at N10 ⊢
      rw [show errV (xErr (.error f)) = .iface 53 (.int .i64 f) from errV_of rfl (by omega)]
      clear hf hC
      obtain ⟨r10, hr10⟩ : ∃ r, zN = r := ⟨_, rfl⟩
      rw [hr10] at N10 ⊢
      have E10 : Hid (zN = r10) := hr10
      clear hr10
      obtain ⟨k10, m10, u10, g10, o10, at10, d10, ks10⟩ := r10
      have ev : ndV (.mk k10 m10 u10 g10 o10 at10 d10 ks10) h10 = .agg #[.int .i64 k10, .int .i64 m10, .int .i64 u10, .int .i64 g10, .bool o10, .slice h10.aa at10.length h10.ca, .string d10, .slice h10.ak ks10.length h10.ck] := rfl
      rw [ev]
      clear ev
      have B10 := NBox.new w10 k10 m10 u10 g10 o10 at10 d10 ks10 h10
      have c2 : Below w10.heap.size w10 (w10.alloc (.cells #[.int .i64 k10, .int .i64 m10, .int .i64 u10, .int .i64 g10, .bool o10, .slice h10.aa at10.length h10.ca, .string d10, .slice h10.ak ks10.length h10.ck] 25)) := (Below.refl _ _).alloc (Nat.le_refl _) _
      replace N1 := N1.below c2
      replace X1 := X1.below c2
      replace B5 := B5.below c2
      replace B6 := B6.below c2
      replace B7 := B7.below c2
      replace B8 := B8.below c2
      replace N5 := N5.ab c2
      replace N6 := N6.ab c2
      replace N7 := N7.ab c2
      replace N8 := N8.ab c2
      replace N10 := N10.ab c2
      replace hB := hB.trans (c2.mono hB.size)
      clear c2 
      obtain ⟨y00, y01, y02, y03, y04, y05, y06, y07⟩ := id N1
      obtain ⟨y10, y11, y12, y13, y14, y15, y16, y17⟩ := id X1
      obtain ⟨y20, y21, y22, y23, y24, y25, y26, y27⟩ := id B5
      obtain ⟨y30, y31, y32, y33, y34, y35, y36, y37⟩ := id B6
      obtain ⟨y40, y41, y42, y43, y44, y45, y46, y47⟩ := id B7
      obtain ⟨y50, y51, y52, y53, y54, y55, y56, y57⟩ := id B8
      obtain ⟨y60, y61, y62, y63, y64, y65, y66, y67⟩ := id B10
      go_wp2_with fail
      refine (tfind_any (hN.ab hB) a cl l (HSL.out.on (mle_below hB)) (by omega) (by omega) (hlimN)).mono ?_
      rintro e w11 ⟨⟨h11, rfl, N11⟩, c2⟩
      clear y00 y01 y02 y03 y04 y05 y06 y07 y10 y11 y12 y13 y14 y15 y16 y17 y20 y21 y22 y23 y24 y25 y26 y27 y30 y31 y32 y33 y34 y35 y36 y37 y40 y41 y42 y43 y44 y45 y46 y47 y50 y51 y52 y53 y54 y55 y56 y57 y60 y61 y62 y63 y64 y65 y66 y67 
      replace N1 := N1.below c2
      replace X1 := X1.below c2
      replace B5 := B5.below c2
      replace B6 := B6.below c2
      replace B7 := B7.below c2
      replace B8 := B8.below c2
      replace B10 := B10.below c2
      replace N5 := N5.ab c2
      replace N6 := N6.ab c2
      replace N7 := N7.ab c2
      replace N8 := N8.ab c2
      replace N10 := N10.ab c2
      replace hB := hB.trans (c2.mono hB.size)
      clear c2 
      obtain ⟨r11, hr11⟩ : ∃ r, (findF l (.mk k m u g o at_ d ks)).getD zN = r := ⟨_, rfl⟩
      rw [hr11] at N11 ⊢
      have E11 : Hid ((findF l (.mk k m u g o at_ d ks)).getD zN = r11) := hr11
      clear hr11
      obtain ⟨k11, m11, u11, g11, o11, at11, d11, ks11⟩ := r11
      have ev : ndV (.mk k11 m11 u11 g11 o11 at11 d11 ks11) h11 = .agg #[.int .i64 k11, .int .i64 m11, .int .i64 u11, .int .i64 g11, .bool o11, .slice h11.aa at11.length h11.ca, .string d11, .slice h11.ak ks11.length h11.ck] := rfl
      rw [ev]
      clear ev
      have B11 := NBox.new w11 k11 m11 u11 g11 o11 at11 d11 ks11 h11
      have c2 : Below w11.heap.size w11 (w11.alloc (.cells #[.int .i64 k11, .int .i64 m11, .int .i64 u11, .int .i64 g11, .bool o11, .slice h11.aa at11.length h11.ca, .string d11, .slice h11.ak ks11.length h11.ck] 25)) := (Below.refl _ _).alloc (Nat.le_refl _) _
      replace N1 := N1.below c2
      replace X1 := X1.below c2
      replace B5 := B5.below c2
      replace B6 := B6.below c2
      replace B7 := B7.below c2
      replace B8 := B8.below c2
      replace B10 := B10.below c2
      replace N5 := N5.ab c2
      replace N6 := N6.ab c2
      replace N7 := N7.ab c2
      replace N8 := N8.ab c2
      replace N10 := N10.ab c2
      replace N11 := N11.ab c2
      replace hB := hB.trans (c2.mono hB.size)
      clear c2 
      by_cases hl0 : l.length = 0
      · have dl : ((l.length : Int) == 0) = true := by rw [hl0]; rfl
        clear hl0
        go_wp2
        go_ret
        exact ⟨rfl, hB⟩
      · have dl : ((l.length : Int) == 0) = false := beq_eq_false_iff_ne.2 (by omega)
        have HNO : Hid (findF l (.mk k m u g o at_ d ks) = none) := by
          rcases HCE.out with q | q
          · rw [q] at hl0; simp at hl0
          · exact q
        rw [HNO.out]
        clear hl0
        go_wp2
        go_ret
        exact ⟨rfl, hB⟩
    | ok r =>
      obtain ⟨hlimC, hcC, hlilC, htfC, hfC⟩ := HRC.out r hC
      have HFC : Hid (findF l r = none) := hfC
      have HTC : Hid (tfF true r = 0) := htfC
      have HATC : Hid (At1 r) := at_lil r hlilC
      rw [hC] at N10
      rw [show xNd (.ok r) = r from rfl] at N10 ⊢
      rw [show errV (xErr (.ok r)) = .nilIface from rfl]
      clear htfC hC hfC
      obtain ⟨r10, hr10⟩ : ∃ q, r = q := ⟨_, rfl⟩
      have E10 : Hid (r = r10) := hr10
      rw [hr10] at N10 hlimC hcC hlilC HFC HTC HATC ⊢
      clear hr10
      obtain ⟨k10, m10, u10, g10, o10, at10, d10, ks10⟩ := r10
      have ev : ndV (.mk k10 m10 u10 g10 o10 at10 d10 ks10) h10 = .agg #[.int .i64 k10, .int .i64 m10, .int .i64 u10, .int .i64 g10, .bool o10, .slice h10.aa at10.length h10.ca, .string d10, .slice h10.ak ks10.length h10.ck] := rfl
      rw [ev]
      clear ev
      have B10 := NBox.new w10 k10 m10 u10 g10 o10 at10 d10 ks10 h10
      have c2 : Below w10.heap.size w10 (w10.alloc (.cells #[.int .i64 k10, .int .i64 m10, .int .i64 u10, .int .i64 g10, .bool o10, .slice h10.aa at10.length h10.ca, .string d10, .slice h10.ak ks10.length h10.ck] 25)) := (Below.refl _ _).alloc (Nat.le_refl _) _
      replace N1 := N1.below c2
      replace X1 := X1.below c2
      replace B5 := B5.below c2
      replace B6 := B6.below c2
      replace B7 := B7.below c2
      replace B8 := B8.below c2
      replace N5 := N5.ab c2
      replace N6 := N6.ab c2
      replace N7 := N7.ab c2
      replace N8 := N8.ab c2
      replace hB := hB.trans (c2.mono hB.size)
      replace N10 := N10.ab c2
      clear c2 
      obtain ⟨y00, y01, y02, y03, y04, y05, y06, y07⟩ := id N1
      obtain ⟨y10, y11, y12, y13, y14, y15, y16, y17⟩ := id X1
      obtain ⟨y20, y21, y22, y23, y24, y25, y26, y27⟩ := id B5
      obtain ⟨y30, y31, y32, y33, y34, y35, y36, y37⟩ := id B6
      obtain ⟨y40, y41, y42, y43, y44, y45, y46, y47⟩ := id B7
      obtain ⟨y50, y51, y52, y53, y54, y55, y56, y57⟩ := id B8
      obtain ⟨y60, y61, y62, y63, y64, y65, y66, y67⟩ := id B10
      go_wp2_with fail
      refine (tfind_any (N10) a cl l (HSL.out.on (mle_below hB)) (by omega) (by omega) (hlimC)).mono ?_
      rintro e w11 ⟨⟨h11, rfl, N11⟩, c2⟩
      clear y00 y01 y02 y03 y04 y05 y06 y07 y10 y11 y12 y13 y14 y15 y16 y17 y20 y21 y22 y23 y24 y25 y26 y27 y30 y31 y32 y33 y34 y35 y36 y37 y40 y41 y42 y43 y44 y45 y46 y47 y50 y51 y52 y53 y54 y55 y56 y57 y60 y61 y62 y63 y64 y65 y66 y67 
      replace N1 := N1.below c2
      replace X1 := X1.below c2
      replace B5 := B5.below c2
      replace B6 := B6.below c2
      replace B7 := B7.below c2
      replace B8 := B8.below c2
      replace B10 := B10.below c2
      replace N5 := N5.ab c2
      replace N6 := N6.ab c2
      replace N7 := N7.ab c2
      replace N8 := N8.ab c2
      replace N10 := N10.ab c2
      replace hB := hB.trans (c2.mono hB.size)
      clear c2 
      rw [HFC.out] at N11 ⊢
      rw [show (none : Option Nd).getD zN = zN from rfl] at N11 ⊢
      rw [show (none : Option Nd).isSome = false from rfl]
      obtain ⟨r11, hr11⟩ : ∃ r, zN = r := ⟨_, rfl⟩
      rw [hr11] at N11 ⊢
      have E11 : Hid (zN = r11) := hr11
      clear hr11
      obtain ⟨k11, m11, u11, g11, o11, at11, d11, ks11⟩ := r11
      have ev : ndV (.mk k11 m11 u11 g11 o11 at11 d11 ks11) h11 = .agg #[.int .i64 k11, .int .i64 m11, .int .i64 u11, .int .i64 g11, .bool o11, .slice h11.aa at11.length h11.ca, .string d11, .slice h11.ak ks11.length h11.ck] := rfl
      rw [ev]
      clear ev
      have B11 := NBox.new w11 k11 m11 u11 g11 o11 at11 d11 ks11 h11
      have c2 : Below w11.heap.size w11 (w11.alloc (.cells #[.int .i64 k11, .int .i64 m11, .int .i64 u11, .int .i64 g11, .bool o11, .slice h11.aa at11.length h11.ca, .string d11, .slice h11.ak ks11.length h11.ck] 25)) := (Below.refl _ _).alloc (Nat.le_refl _) _
      replace N1 := N1.below c2
      replace X1 := X1.below c2
      replace B5 := B5.below c2
      replace B6 := B6.below c2
      replace B7 := B7.below c2
      replace B8 := B8.below c2
      replace B10 := B10.below c2
      replace N5 := N5.ab c2
      replace N6 := N6.ab c2
      replace N7 := N7.ab c2
      replace N8 := N8.ab c2
      replace N10 := N10.ab c2
      replace N11 := N11.ab c2
      replace hB := hB.trans (c2.mono hB.size)
      clear c2 
      obtain ⟨y00, y01, y02, y03, y04, y05, y06, y07⟩ := id N1
      obtain ⟨y10, y11, y12, y13, y14, y15, y16, y17⟩ := id X1
      obtain ⟨y20, y21, y22, y23, y24, y25, y26, y27⟩ := id B5
      obtain ⟨y30, y31, y32, y33, y34, y35, y36, y37⟩ := id B6
      obtain ⟨y40, y41, y42, y43, y44, y45, y46, y47⟩ := id B7
      obtain ⟨y50, y51, y52, y53, y54, y55, y56, y57⟩ := id B8
      obtain ⟨y60, y61, y62, y63, y64, y65, y66, y67⟩ := id B10
      obtain ⟨y70, y71, y72, y73, y74, y75, y76, y77⟩ := id B11
      go_wp2_with fail
      refine (tfind_any (N10) b co other (HSO.out.on (mle_below hB)) (by omega) (by omega) (hlimC)).mono ?_
      rintro e w12 ⟨⟨h12, rfl, N12⟩, c2⟩
      clear y00 y01 y02 y03 y04 y05 y06 y07 y10 y11 y12 y13 y14 y15 y16 y17 y20 y21 y22 y23 y24 y25 y26 y27 y30 y31 y32 y33 y34 y35 y36 y37 y40 y41 y42 y43 y44 y45 y46 y47 y50 y51 y52 y53 y54 y55 y56 y57 y60 y61 y62 y63 y64 y65 y66 y67 y70 y71 y72 y73 y74 y75 y76 y77 
      replace N1 := N1.below c2
      replace X1 := X1.below c2
      replace B5 := B5.below c2
      replace B6 := B6.below c2
      replace B7 := B7.below c2
      replace B8 := B8.below c2
      replace B10 := B10.below c2
      replace B11 := B11.below c2
      replace N5 := N5.ab c2
      replace N6 := N6.ab c2
      replace N7 := N7.ab c2
      replace N8 := N8.ab c2
      replace N10 := N10.ab c2
      replace N11 := N11.ab c2
      replace hB := hB.trans (c2.mono hB.size)
      clear c2 
      obtain ⟨r12, hr12⟩ : ∃ r, (findF other (.mk k10 m10 u10 g10 o10 at10 d10 ks10)).getD zN = r := ⟨_, rfl⟩
      rw [hr12] at N12 ⊢
      have E12 : Hid ((findF other (.mk k10 m10 u10 g10 o10 at10 d10 ks10)).getD zN = r12) := hr12
      clear hr12
      obtain ⟨k12, m12, u12, g12, o12, at12, d12, ks12⟩ := r12
      have ev : ndV (.mk k12 m12 u12 g12 o12 at12 d12 ks12) h12 = .agg #[.int .i64 k12, .int .i64 m12, .int .i64 u12, .int .i64 g12, .bool o12, .slice h12.aa at12.length h12.ca, .string d12, .slice h12.ak ks12.length h12.ck] := rfl
      rw [ev]
      clear ev
      have B12 := NBox.new w12 k12 m12 u12 g12 o12 at12 d12 ks12 h12
      have c2 : Below w12.heap.size w12 (w12.alloc (.cells #[.int .i64 k12, .int .i64 m12, .int .i64 u12, .int .i64 g12, .bool o12, .slice h12.aa at12.length h12.ca, .string d12, .slice h12.ak ks12.length h12.ck] 25)) := (Below.refl _ _).alloc (Nat.le_refl _) _
      replace N1 := N1.below c2
      replace X1 := X1.below c2
      replace B5 := B5.below c2
      replace B6 := B6.below c2
      replace B7 := B7.below c2
      replace B8 := B8.below c2
      replace B10 := B10.below c2
      replace B11 := B11.below c2
      replace N5 := N5.ab c2
      replace N6 := N6.ab c2
      replace N7 := N7.ab c2
      replace N8 := N8.ab c2
      replace N10 := N10.ab c2
      replace N11 := N11.ab c2
      replace N12 := N12.ab c2
      replace hB := hB.trans (c2.mono hB.size)
      clear c2 
      obtain ⟨ts, hts⟩ : ∃ t, (findF other (.mk k10 m10 u10 g10 o10 at10 d10 ks10)).isSome = t := ⟨_, rfl⟩
      rw [hts]
      clear hts
      obtain ⟨y00, y01, y02, y03, y04, y05, y06, y07⟩ := id N1
      obtain ⟨y10, y11, y12, y13, y14, y15, y16, y17⟩ := id X1
      obtain ⟨y20, y21, y22, y23, y24, y25, y26, y27⟩ := id B5
      obtain ⟨y30, y31, y32, y33, y34, y35, y36, y37⟩ := id B6
      obtain ⟨y40, y41, y42, y43, y44, y45, y46, y47⟩ := id B7
      obtain ⟨y50, y51, y52, y53, y54, y55, y56, y57⟩ := id B8
      obtain ⟨y60, y61, y62, y63, y64, y65, y66, y67⟩ := id B10
      obtain ⟨y70, y71, y72, y73, y74, y75, y76, y77⟩ := id B11
      obtain ⟨y80, y81, y82, y83, y84, y85, y86, y87⟩ := id B12
      go_wp2_with fail
      refine (tcheck_any true N10 hlilC (by omega)).mono ?_
      rintro e w13 ⟨rfl, c2⟩
      rw [HTC.out, errV_nil rfl]
      clear y00 y01 y02 y03 y04 y05 y06 y07 y10 y11 y12 y13 y14 y15 y16 y17 y20 y21 y22 y23 y24 y25 y26 y27 y30 y31 y32 y33 y34 y35 y36 y37 y40 y41 y42 y43 y44 y45 y46 y47 y50 y51 y52 y53 y54 y55 y56 y57 y60 y61 y62 y63 y64 y65 y66 y67 y70 y71 y72 y73 y74 y75 y76 y77 y80 y81 y82 y83 y84 y85 y86 y87 
      replace N1 := N1.below c2
      replace X1 := X1.below c2
      replace B5 := B5.below c2
      replace B6 := B6.below c2
      replace B7 := B7.below c2
      replace B8 := B8.below c2
      replace B10 := B10.below c2
      replace B11 := B11.below c2
      replace B12 := B12.below c2
      replace N5 := N5.ab c2
      replace N6 := N6.ab c2
      replace N7 := N7.ab c2
      replace N8 := N8.ab c2
      replace N10 := N10.ab c2
      replace N11 := N11.ab c2
      replace N12 := N12.ab c2
      replace hB := hB.trans (c2.mono hB.size)
      clear c2 
      obtain ⟨y00, y01, y02, y03, y04, y05, y06, y07⟩ := id N1
      obtain ⟨y10, y11, y12, y13, y14, y15, y16, y17⟩ := id X1
      obtain ⟨y20, y21, y22, y23, y24, y25, y26, y27⟩ := id B5
      obtain ⟨y30, y31, y32, y33, y34, y35, y36, y37⟩ := id B6
      obtain ⟨y40, y41, y42, y43, y44, y45, y46, y47⟩ := id B7
      obtain ⟨y50, y51, y52, y53, y54, y55, y56, y57⟩ := id B8
      obtain ⟨y60, y61, y62, y63, y64, y65, y66, y67⟩ := id B10
      obtain ⟨y70, y71, y72, y73, y74, y75, y76, y77⟩ := id B11
      obtain ⟨y80, y81, y82, y83, y84, y85, y86, y87⟩ := id B12
      go_wp2
      go_ret
      exact ⟨rfl, hB⟩
end Go.Proofs.Ytehcjhdiekfaoab
