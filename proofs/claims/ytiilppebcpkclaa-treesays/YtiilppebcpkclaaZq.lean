/-
  WHAT TreeSays DOES: the walk.
-/
import Derived.Test.YtiilppebcpkclaaZp
import Derived.Deep.Cut
namespace Go.Proofs.Ytiilppebcpkclaa
open Go.RowKit

set_option maxRecDepth 100000 in
set_option maxHeartbeats 4000000 in
theorem ts_e1 {W : World} {n x : Nd} {h hx : Hd} (hN : NdV W.cell? n h) (hX : NdV W.cell? x hx) (up : Bool) (a : Option Addr) (cl : Nat) (l : List ByteArray) (hSl : Strs W.cell? a l) (_hcl : l.length ≤ cl ∧ cl ≤ 9223372036854775807) (hl1 : ¬ 0 < lightF n 80) :
    Calls Try.prog 11 #[ndV n h, .bool up, .slice a l.length cl, ndV x hx] W fun e W' => e = .returned (.bool true) ∧ Below W.heap.size W W' := by
  have HLN : Hid (decide (0 < lightF n 80) = false) := decide_eq_false hl1
  clear hl1
  obtain ⟨k, m, u, g, o, at_, d, ks⟩ := n
  obtain ⟨kx, mx, ux, gx, ox, atx, dx, ksx⟩ := x
  have N1 := NBox.new W k m u g o at_ d ks h
  have hB0 : Below W.heap.size W (W.alloc (.cells #[.int .i64 k, .int .i64 m, .int .i64 u, .int .i64 g, .bool o, .slice h.aa at_.length h.ca, .string d, .slice h.ak ks.length h.ck] 84)) := (Below.refl _ _).alloc (Nat.le_refl _) _
  have X1 := NBox.new (W.alloc (.cells #[.int .i64 k, .int .i64 m, .int .i64 u, .int .i64 g, .bool o, .slice h.aa at_.length h.ca, .string d, .slice h.ak ks.length h.ck] 84)) kx mx ux gx ox atx dx ksx hx
  rw [World.size_alloc] at X1
  replace N1 := N1.below ((Below.refl _ (W.alloc (.cells #[.int .i64 k, .int .i64 m, .int .i64 u, .int .i64 g, .bool o, .slice h.aa at_.length h.ca, .string d, .slice h.ak ks.length h.ck] 84))).alloc (Nat.le_refl _) (.cells #[.int .i64 kx, .int .i64 mx, .int .i64 ux, .int .i64 gx, .bool ox, .slice hx.aa atx.length hx.ca, .string dx, .slice hx.ak ksx.length hx.ck] 84))
  have hB : Below W.heap.size W ((W.alloc (.cells #[.int .i64 k, .int .i64 m, .int .i64 u, .int .i64 g, .bool o, .slice h.aa at_.length h.ca, .string d, .slice h.ak ks.length h.ck] 84)).alloc (.cells #[.int .i64 kx, .int .i64 mx, .int .i64 ux, .int .i64 gx, .bool ox, .slice hx.aa atx.length hx.ca, .string dx, .slice hx.ak ksx.length hx.ck] 84)) := hB0.alloc hB0.size _
  clear hB0
  have HSL : Hid (Strs W.cell? a l) := hSl
  have HNN : Hid (NdV W.cell? (Nd.mk k m u g o at_ d ks) h) := hN
  have HXX : Hid (NdV W.cell? (Nd.mk kx mx ux gx ox atx dx ksx) hx) := hX
  clear hSl hN hX
  show Calls Try.prog 11 #[.agg #[.int .i64 k, .int .i64 m, .int .i64 u, .int .i64 g, .bool o, .slice h.aa at_.length h.ca, .string d, .slice h.ak ks.length h.ck], .bool up, .slice a l.length cl, .agg #[.int .i64 kx, .int .i64 mx, .int .i64 ux, .int .i64 gx, .bool ox, .slice hx.aa atx.length hx.ca, .string dx, .slice hx.ak ksx.length hx.ck]] _ _
  go_enter Try.func11, Try.ntmps11
  go_wp2_with fail
  refine (grows_any _).mono ?_
  rintro e w2 ⟨rfl, c2⟩
  replace N1 := N1.below c2
  replace X1 := X1.below c2
  replace hB := hB.trans (c2.mono hB.size)
  clear c2
  obtain ⟨y00, y01, y02, y03, y04, y05, y06, y07⟩ := id N1
  go_wp2_with fail
  refine (Light_any (HNN.out.ab hB)).mono ?_
  rintro e w3 ⟨rfl, c2⟩
  rw [HLN.out]
  clear y00 y01 y02 y03 y04 y05 y06 y07
  replace N1 := N1.below c2
  replace X1 := X1.below c2
  replace hB := hB.trans (c2.mono hB.size)
  clear c2
  go_wp2
  go_ret
  exact ⟨rfl, hB⟩

set_option maxRecDepth 100000 in
set_option maxHeartbeats 4000000 in
theorem ts_e2 {W : World} {n x : Nd} {h hx : Hd} (hN : NdV W.cell? n h) (hX : NdV W.cell? x hx) (up : Bool) (a : Option Addr) (cl : Nat) (l : List ByteArray) (hSl : Strs W.cell? a l) (_hcl : l.length ≤ cl ∧ cl ≤ 9223372036854775807) (hl1 : 0 < lightF n 80) (hl2 : ¬ 0 < lightF x 80) :
    Calls Try.prog 11 #[ndV n h, .bool up, .slice a l.length cl, ndV x hx] W fun e W' => e = .returned (.bool true) ∧ Below W.heap.size W W' := by
  have HLN : Hid (decide (0 < lightF n 80) = true) := decide_eq_true hl1
  clear hl1
  have HLX : Hid (decide (0 < lightF x 80) = false) := decide_eq_false hl2
  clear hl2
  obtain ⟨k, m, u, g, o, at_, d, ks⟩ := n
  obtain ⟨kx, mx, ux, gx, ox, atx, dx, ksx⟩ := x
  have N1 := NBox.new W k m u g o at_ d ks h
  have hB0 : Below W.heap.size W (W.alloc (.cells #[.int .i64 k, .int .i64 m, .int .i64 u, .int .i64 g, .bool o, .slice h.aa at_.length h.ca, .string d, .slice h.ak ks.length h.ck] 84)) := (Below.refl _ _).alloc (Nat.le_refl _) _
  have X1 := NBox.new (W.alloc (.cells #[.int .i64 k, .int .i64 m, .int .i64 u, .int .i64 g, .bool o, .slice h.aa at_.length h.ca, .string d, .slice h.ak ks.length h.ck] 84)) kx mx ux gx ox atx dx ksx hx
  rw [World.size_alloc] at X1
  replace N1 := N1.below ((Below.refl _ (W.alloc (.cells #[.int .i64 k, .int .i64 m, .int .i64 u, .int .i64 g, .bool o, .slice h.aa at_.length h.ca, .string d, .slice h.ak ks.length h.ck] 84))).alloc (Nat.le_refl _) (.cells #[.int .i64 kx, .int .i64 mx, .int .i64 ux, .int .i64 gx, .bool ox, .slice hx.aa atx.length hx.ca, .string dx, .slice hx.ak ksx.length hx.ck] 84))
  have hB : Below W.heap.size W ((W.alloc (.cells #[.int .i64 k, .int .i64 m, .int .i64 u, .int .i64 g, .bool o, .slice h.aa at_.length h.ca, .string d, .slice h.ak ks.length h.ck] 84)).alloc (.cells #[.int .i64 kx, .int .i64 mx, .int .i64 ux, .int .i64 gx, .bool ox, .slice hx.aa atx.length hx.ca, .string dx, .slice hx.ak ksx.length hx.ck] 84)) := hB0.alloc hB0.size _
  clear hB0
  have HSL : Hid (Strs W.cell? a l) := hSl
  have HNN : Hid (NdV W.cell? (Nd.mk k m u g o at_ d ks) h) := hN
  have HXX : Hid (NdV W.cell? (Nd.mk kx mx ux gx ox atx dx ksx) hx) := hX
  clear hSl hN hX
  show Calls Try.prog 11 #[.agg #[.int .i64 k, .int .i64 m, .int .i64 u, .int .i64 g, .bool o, .slice h.aa at_.length h.ca, .string d, .slice h.ak ks.length h.ck], .bool up, .slice a l.length cl, .agg #[.int .i64 kx, .int .i64 mx, .int .i64 ux, .int .i64 gx, .bool ox, .slice hx.aa atx.length hx.ca, .string dx, .slice hx.ak ksx.length hx.ck]] _ _
  go_enter Try.func11, Try.ntmps11
  go_wp2_with fail
  refine (grows_any _).mono ?_
  rintro e w2 ⟨rfl, c2⟩
  replace N1 := N1.below c2
  replace X1 := X1.below c2
  replace hB := hB.trans (c2.mono hB.size)
  clear c2
  obtain ⟨y00, y01, y02, y03, y04, y05, y06, y07⟩ := id N1
  go_wp2_with fail
  refine (Light_any (HNN.out.ab hB)).mono ?_
  rintro e w3 ⟨rfl, c2⟩
  rw [HLN.out]
  clear y00 y01 y02 y03 y04 y05 y06 y07
  replace N1 := N1.below c2
  replace X1 := X1.below c2
  replace hB := hB.trans (c2.mono hB.size)
  clear c2
  obtain ⟨y10, y11, y12, y13, y14, y15, y16, y17⟩ := id X1
  go_wp2_with fail
  refine (Light_any (HXX.out.ab hB)).mono ?_
  rintro e w4 ⟨rfl, c2⟩
  rw [HLX.out]
  clear y10 y11 y12 y13 y14 y15 y16 y17
  replace N1 := N1.below c2
  replace X1 := X1.below c2
  replace hB := hB.trans (c2.mono hB.size)
  clear c2
  go_wp2
  go_ret
  exact ⟨rfl, hB⟩

set_option maxRecDepth 100000 in
set_option maxHeartbeats 4000000 in
theorem ts_e3 {W : World} {n x : Nd} {h hx : Hd} (hN : NdV W.cell? n h) (hX : NdV W.cell? x hx) (up : Bool) (a : Option Addr) (cl : Nat) (l : List ByteArray) (hSl : Strs W.cell? a l) (hcl : l.length ≤ cl ∧ cl ≤ 9223372036854775807) (hl1 : 0 < lightF n 80) (hl2 : 0 < lightF x 80) (hfw : fewB l = false) :
    Calls Try.prog 11 #[ndV n h, .bool up, .slice a l.length cl, ndV x hx] W fun e W' => e = .returned (.bool true) ∧ Below W.heap.size W W' := by
  have HLN : Hid (decide (0 < lightF n 80) = true) := decide_eq_true hl1
  clear hl1
  have HLX : Hid (decide (0 < lightF x 80) = true) := decide_eq_true hl2
  clear hl2
  have HFW : Hid (fewB l = false) := hfw
  clear hfw
  obtain ⟨k, m, u, g, o, at_, d, ks⟩ := n
  obtain ⟨kx, mx, ux, gx, ox, atx, dx, ksx⟩ := x
  have N1 := NBox.new W k m u g o at_ d ks h
  have hB0 : Below W.heap.size W (W.alloc (.cells #[.int .i64 k, .int .i64 m, .int .i64 u, .int .i64 g, .bool o, .slice h.aa at_.length h.ca, .string d, .slice h.ak ks.length h.ck] 84)) := (Below.refl _ _).alloc (Nat.le_refl _) _
  have X1 := NBox.new (W.alloc (.cells #[.int .i64 k, .int .i64 m, .int .i64 u, .int .i64 g, .bool o, .slice h.aa at_.length h.ca, .string d, .slice h.ak ks.length h.ck] 84)) kx mx ux gx ox atx dx ksx hx
  rw [World.size_alloc] at X1
  replace N1 := N1.below ((Below.refl _ (W.alloc (.cells #[.int .i64 k, .int .i64 m, .int .i64 u, .int .i64 g, .bool o, .slice h.aa at_.length h.ca, .string d, .slice h.ak ks.length h.ck] 84))).alloc (Nat.le_refl _) (.cells #[.int .i64 kx, .int .i64 mx, .int .i64 ux, .int .i64 gx, .bool ox, .slice hx.aa atx.length hx.ca, .string dx, .slice hx.ak ksx.length hx.ck] 84))
  have hB : Below W.heap.size W ((W.alloc (.cells #[.int .i64 k, .int .i64 m, .int .i64 u, .int .i64 g, .bool o, .slice h.aa at_.length h.ca, .string d, .slice h.ak ks.length h.ck] 84)).alloc (.cells #[.int .i64 kx, .int .i64 mx, .int .i64 ux, .int .i64 gx, .bool ox, .slice hx.aa atx.length hx.ca, .string dx, .slice hx.ak ksx.length hx.ck] 84)) := hB0.alloc hB0.size _
  clear hB0
  have HSL : Hid (Strs W.cell? a l) := hSl
  have HNN : Hid (NdV W.cell? (Nd.mk k m u g o at_ d ks) h) := hN
  have HXX : Hid (NdV W.cell? (Nd.mk kx mx ux gx ox atx dx ksx) hx) := hX
  clear hSl hN hX
  show Calls Try.prog 11 #[.agg #[.int .i64 k, .int .i64 m, .int .i64 u, .int .i64 g, .bool o, .slice h.aa at_.length h.ca, .string d, .slice h.ak ks.length h.ck], .bool up, .slice a l.length cl, .agg #[.int .i64 kx, .int .i64 mx, .int .i64 ux, .int .i64 gx, .bool ox, .slice hx.aa atx.length hx.ca, .string dx, .slice hx.ak ksx.length hx.ck]] _ _
  go_enter Try.func11, Try.ntmps11
  go_wp2_with fail
  refine (grows_any _).mono ?_
  rintro e w2 ⟨rfl, c2⟩
  replace N1 := N1.below c2
  replace X1 := X1.below c2
  replace hB := hB.trans (c2.mono hB.size)
  clear c2
  obtain ⟨y00, y01, y02, y03, y04, y05, y06, y07⟩ := id N1
  go_wp2_with fail
  refine (Light_any (HNN.out.ab hB)).mono ?_
  rintro e w3 ⟨rfl, c2⟩
  rw [HLN.out]
  clear y00 y01 y02 y03 y04 y05 y06 y07
  replace N1 := N1.below c2
  replace X1 := X1.below c2
  replace hB := hB.trans (c2.mono hB.size)
  clear c2
  obtain ⟨y10, y11, y12, y13, y14, y15, y16, y17⟩ := id X1
  go_wp2_with fail
  refine (Light_any (HXX.out.ab hB)).mono ?_
  rintro e w4 ⟨rfl, c2⟩
  rw [HLX.out]
  clear y10 y11 y12 y13 y14 y15 y16 y17
  replace N1 := N1.below c2
  replace X1 := X1.below c2
  replace hB := hB.trans (c2.mono hB.size)
  clear c2
  go_wp2_with fail
  refine (few_any a cl l _ (HSL.out.on (mle_below hB)) (by omega)).mono ?_
  rintro e w5 ⟨rfl, rfl⟩
  rw [HFW.out]
  go_wp2
  go_ret
  exact ⟨rfl, hB⟩

set_option maxRecDepth 100000 in
set_option maxHeartbeats 4000000 in
theorem ts_main {W : World} {n x : Nd} {h hx : Hd} (hN : NdV W.cell? n h) (hX : NdV W.cell? x hx) (up : Bool) (a : Option Addr) (cl : Nat) (l : List ByteArray) (hSl : Strs W.cell? a l) (hcl : l.length ≤ cl ∧ cl ≤ 9223372036854775807) (hl1 : 0 < lightF n 80) (hl2 : 0 < lightF x 80) (hfw : fewB l = true) :
    Calls Try.prog 11 #[ndV n h, .bool up, .slice a l.length cl, ndV x hx] W fun e W' => e = .returned (.bool true) ∧ Below W.heap.size W W' := by
  obtain ⟨hlil, hcN⟩ := light_lil n 80 hl1
  obtain ⟨hlilx, hcX⟩ := light_lil x 80 hl2
  have HLIL : Hid (Lil n) := hlil
  have HLILX : Hid (Lil x) := hlilx
  have HCN : Hid (cnt n ≤ 80) := by show _ ≤ _; omega
  have HCX : Hid (cnt x ≤ 80) := by show _ ≤ _; omega
  have HLL : Hid (l.length ≤ 12) := (few_facts hfw).1
  have HLS : Hid (∀ s ∈ l, s.size ≤ 60) := (few_facts hfw).2
  have HRES : Hid (∀ r, chgF (some x) l n = .ok r → Lim r ∧ cnt r ≤ 1000) := fun r hr => put_lim HLIL.out HLILX.out HCN.out HCX.out hr
  have HRES2 : Hid (∀ r, chgF none l n = .ok r → Lim r ∧ cnt r ≤ 1000) := fun r hr => cut_lim HLIL.out HCN.out hr
  have HLIMN : Hid (Lim n) := lim_of n (by omega) hlil
  have HLIMX : Hid (Lim x) := lim_of x (by omega) hlilx
  have HL1 : Hid (Lim ((findF l n).getD zN)) := find_lim HLIL.out HCN.out
  have HL2 : Hid (Lim (xNd (chgF (some x) l n))) := xnd_lim fun r hr => (HRES.out r hr).1
  have HL3 : Hid (Lim (xNd (chgF none l n))) := xnd_lim fun r hr => (HRES2.out r hr).1
  clear hlil hlilx hcN hcX
  have HLN : Hid (decide (0 < lightF n 80) = true) := decide_eq_true hl1
  clear hl1
  have HLX : Hid (decide (0 < lightF x 80) = true) := decide_eq_true hl2
  clear hl2
  have HFW : Hid (fewB l = true) := hfw
  clear hfw
  obtain ⟨k, m, u, g, o, at_, d, ks⟩ := n
  obtain ⟨kx, mx, ux, gx, ox, atx, dx, ksx⟩ := x
  have N1 := NBox.new W k m u g o at_ d ks h
  have hB0 : Below W.heap.size W (W.alloc (.cells #[.int .i64 k, .int .i64 m, .int .i64 u, .int .i64 g, .bool o, .slice h.aa at_.length h.ca, .string d, .slice h.ak ks.length h.ck] 84)) := (Below.refl _ _).alloc (Nat.le_refl _) _
  have X1 := NBox.new (W.alloc (.cells #[.int .i64 k, .int .i64 m, .int .i64 u, .int .i64 g, .bool o, .slice h.aa at_.length h.ca, .string d, .slice h.ak ks.length h.ck] 84)) kx mx ux gx ox atx dx ksx hx
  rw [World.size_alloc] at X1
  replace N1 := N1.below ((Below.refl _ (W.alloc (.cells #[.int .i64 k, .int .i64 m, .int .i64 u, .int .i64 g, .bool o, .slice h.aa at_.length h.ca, .string d, .slice h.ak ks.length h.ck] 84))).alloc (Nat.le_refl _) (.cells #[.int .i64 kx, .int .i64 mx, .int .i64 ux, .int .i64 gx, .bool ox, .slice hx.aa atx.length hx.ca, .string dx, .slice hx.ak ksx.length hx.ck] 84))
  have hB : Below W.heap.size W ((W.alloc (.cells #[.int .i64 k, .int .i64 m, .int .i64 u, .int .i64 g, .bool o, .slice h.aa at_.length h.ca, .string d, .slice h.ak ks.length h.ck] 84)).alloc (.cells #[.int .i64 kx, .int .i64 mx, .int .i64 ux, .int .i64 gx, .bool ox, .slice hx.aa atx.length hx.ca, .string dx, .slice hx.ak ksx.length hx.ck] 84)) := hB0.alloc hB0.size _
  clear hB0
  have HSL : Hid (Strs W.cell? a l) := hSl
  have HNN : Hid (NdV W.cell? (Nd.mk k m u g o at_ d ks) h) := hN
  have HXX : Hid (NdV W.cell? (Nd.mk kx mx ux gx ox atx dx ksx) hx) := hX
  clear hSl hN hX
  show Calls Try.prog 11 #[.agg #[.int .i64 k, .int .i64 m, .int .i64 u, .int .i64 g, .bool o, .slice h.aa at_.length h.ca, .string d, .slice h.ak ks.length h.ck], .bool up, .slice a l.length cl, .agg #[.int .i64 kx, .int .i64 mx, .int .i64 ux, .int .i64 gx, .bool ox, .slice hx.aa atx.length hx.ca, .string dx, .slice hx.ak ksx.length hx.ck]] _ _
  go_enter Try.func11, Try.ntmps11
  go_wp2_with fail
  refine (grows_any _).mono ?_
  rintro e w2 ⟨rfl, c2⟩
  replace N1 := N1.below c2
  replace X1 := X1.below c2
  replace hB := hB.trans (c2.mono hB.size)
  clear c2
  obtain ⟨y00, y01, y02, y03, y04, y05, y06, y07⟩ := id N1
  go_wp2_with fail
  refine (Light_any (HNN.out.ab hB)).mono ?_
  rintro e w3 ⟨rfl, c2⟩
  rw [HLN.out]
  clear y00 y01 y02 y03 y04 y05 y06 y07
  replace N1 := N1.below c2
  replace X1 := X1.below c2
  replace hB := hB.trans (c2.mono hB.size)
  clear c2
  obtain ⟨y10, y11, y12, y13, y14, y15, y16, y17⟩ := id X1
  go_wp2_with fail
  refine (Light_any (HXX.out.ab hB)).mono ?_
  rintro e w4 ⟨rfl, c2⟩
  rw [HLX.out]
  clear y10 y11 y12 y13 y14 y15 y16 y17
  replace N1 := N1.below c2
  replace X1 := X1.below c2
  replace hB := hB.trans (c2.mono hB.size)
  clear c2
  go_wp2_with fail
  refine (few_any a cl l _ (HSL.out.on (mle_below hB)) (by omega)).mono ?_
  rintro e w5 ⟨rfl, rfl⟩
  rw [HFW.out]
  obtain ⟨y00, y01, y02, y03, y04, y05, y06, y07⟩ := id N1
  go_wp2_with fail
  refine (own_any (S := fun _ => false) (fun _ hk => by cases hk) (x := (Nd.mk k m u g o at_ d ks)) (h := h) (by rw [offS_no]; exact HNN.out.ab hB) HLIMN.out (Nat.le_trans HCN.out (by decide))).mono ?_
  rintro e w6 ⟨⟨ho, rfl, hO⟩, c2⟩
  clear y00 y01 y02 y03 y04 y05 y06 y07
  replace N1 := N1.below c2
  replace X1 := X1.below c2
  replace hB := hB.trans (c2.mono hB.size)
  clear c2
  rw [offS_no] at hO
  rw [show ndV (Nd.mk k m u g o at_ d ks) ho = .agg #[.int .i64 k, .int .i64 m, .int .i64 u, .int .i64 g, .bool o, .slice ho.aa at_.length ho.ca, .string d, .slice ho.ak ks.length ho.ck] from rfl]
  have O1 := NBox.new w6 k m u g o at_ d ks ho
  have cA : Below w6.heap.size w6 (w6.alloc (.cells #[.int .i64 k, .int .i64 m, .int .i64 u, .int .i64 g, .bool o, .slice ho.aa at_.length ho.ca, .string d, .slice ho.ak ks.length ho.ck] 84)) := (Below.refl _ _).alloc (Nat.le_refl _) _
  replace N1 := N1.below cA
  replace X1 := X1.below cA
  replace hO := hO.ab cA
  replace hB := hB.trans (cA.mono hB.size)
  clear cA
  obtain ⟨y00, y01, y02, y03, y04, y05, y06, y07⟩ := id N1
  obtain ⟨y20, y21, y22, y23, y24, y25, y26, y27⟩ := id O1
  go_upto_region 5 with fail
  clear y00 y01 y02 y03 y04 y05 y06 y07 y20 y21 y22 y23 y24 y25 y26 y27
  generalize w6.alloc (.cells #[.int .i64 k, .int .i64 m, .int .i64 u, .int .i64 g, .bool o, .slice ho.aa at_.length ho.ca, .string d, .slice ho.ak ks.length ho.ck] 84) = w7 at N1 X1 O1 hO hB ⊢
  generalize w6.heap.size = ob at O1 ⊢
  generalize hnb : W.heap.size = nb at N1 ⊢
  have bd : Below w7.heap.size w7 w7.drew := below_drewN (Below.refl _ _) 1
  obtain ⟨F, HF⟩ : ∃ F, Hid (tfF up (Nd.mk k m u g o at_ d ks) = F) := ⟨_, rfl⟩
  have HSN : Hid (∀ W', Below w7.heap.size w7 W' → Calls Try.prog 62 #[.agg #[.int .i64 k, .int .i64 m, .int .i64 u, .int .i64 g, .bool o, .slice ho.aa at_.length ho.ca, .string d, .slice ho.ak ks.length ho.ck], .agg #[.int .i64 k, .int .i64 m, .int .i64 u, .int .i64 g, .bool o, .slice h.aa at_.length h.ca, .string d, .slice h.ak ks.length h.ck]] W' fun e w' => e = .returned (.bool true) ∧ Below w7.heap.size w7 w') := fun W' hb => (sameNode_yes hO h W' HLIMN.out (HNN.out.ab hB) hb).mono fun e w' q => ⟨q.1, hb.trans (q.2.mono hb.size)⟩
  have HCK : Hid (∀ W', Below w7.heap.size w7 W' → Calls Try.prog 63 #[.agg #[.int .i64 k, .int .i64 m, .int .i64 u, .int .i64 g, .bool o, .slice ho.aa at_.length ho.ca, .string d, .slice ho.ak ks.length ho.ck], .bool up] W' fun e w' => e = .returned (errV F) ∧ Below w7.heap.size w7 w') := fun W' hb => (tcheck_any up (hO.ab hb) HLIL.out (Nat.le_trans HCN.out (by decide))).mono fun e w' q => ⟨by rw [← HF.out]; exact q.1, hb.trans (q.2.mono hb.size)⟩
  have HTF : Hid (∀ W', Below w7.heap.size w7 W' → Calls Try.prog 64 #[.agg #[.int .i64 k, .int .i64 m, .int .i64 u, .int .i64 g, .bool o, .slice h.aa at_.length h.ca, .string d, .slice h.ak ks.length h.ck], .bool up] W' fun e w' => e = .returned (.int .i64 F) ∧ Below w7.heap.size w7 w') := fun W' hb => (treeFault_any up ((HNN.out.ab hB).ab hb) HLIL.out (Nat.le_trans HCN.out (by decide))).mono fun e w' q => ⟨by rw [← HF.out]; exact q.1, hb.trans (q.2.mono hb.size)⟩
  have HSM : Hid (∀ W', Calls Try.prog 19 #[errV F, .int .i64 F] W' fun e w' => e = .returned (.bool true) ∧ W' = w') := fun W' => same_errV F (by rw [← HF.out]; exact (tfF_range up _).1) W'
  have HT : Hid (∀ w', Below w7.heap.size w7 w' → w'.cell? ⟨ob, 0, none⟩ = some (.int .i64 k) ∧ w'.cell? ⟨ob, 1, none⟩ = some (.int .i64 m) ∧ w'.cell? ⟨ob, 2, none⟩ = some (.int .i64 u) ∧ w'.cell? ⟨ob, 3, none⟩ = some (.int .i64 g) ∧ w'.cell? ⟨ob, 4, none⟩ = some (.bool o) ∧ w'.cell? ⟨ob, 5, none⟩ = some (.slice ho.aa at_.length ho.ca) ∧ w'.cell? ⟨ob, 6, none⟩ = some (.string d) ∧ w'.cell? ⟨ob, 7, none⟩ = some (.slice ho.ak ks.length ho.ck) ∧ w'.cell? ⟨nb, 0, none⟩ = some (.int .i64 k) ∧ w'.cell? ⟨nb, 1, none⟩ = some (.int .i64 m) ∧ w'.cell? ⟨nb, 2, none⟩ = some (.int .i64 u) ∧ w'.cell? ⟨nb, 3, none⟩ = some (.int .i64 g) ∧ w'.cell? ⟨nb, 4, none⟩ = some (.bool o) ∧ w'.cell? ⟨nb, 5, none⟩ = some (.slice h.aa at_.length h.ca) ∧ w'.cell? ⟨nb, 6, none⟩ = some (.string d) ∧ w'.cell? ⟨nb, 7, none⟩ = some (.slice h.ak ks.length h.ck)) := by
    intro w' hb
    obtain ⟨a0, a1, a2, a3, a4, a5, a6, a7⟩ := O1.below hb
    obtain ⟨b0, b1, b2, b3, b4, b5, b6, b7⟩ := N1.below hb
    exact ⟨a0, a1, a2, a3, a4, a5, a6, a7, b0, b1, b2, b3, b4, b5, b6, b7⟩
  go_cut [57] from 44 (fun s wx => s = .bool false ∧ Below w7.heap.size w7 wx)
  case first =>
    go_region_held3 (fun w' => w'.cell? ⟨ob, 0, none⟩ = some (.int .i64 k) ∧ w'.cell? ⟨ob, 1, none⟩ = some (.int .i64 m) ∧ w'.cell? ⟨ob, 2, none⟩ = some (.int .i64 u) ∧ w'.cell? ⟨ob, 3, none⟩ = some (.int .i64 g) ∧ w'.cell? ⟨ob, 4, none⟩ = some (.bool o) ∧ w'.cell? ⟨ob, 5, none⟩ = some (.slice ho.aa at_.length ho.ca) ∧ w'.cell? ⟨ob, 6, none⟩ = some (.string d) ∧ w'.cell? ⟨ob, 7, none⟩ = some (.slice ho.ak ks.length ho.ck) ∧ w'.cell? ⟨nb, 0, none⟩ = some (.int .i64 k) ∧ w'.cell? ⟨nb, 1, none⟩ = some (.int .i64 m) ∧ w'.cell? ⟨nb, 2, none⟩ = some (.int .i64 u) ∧ w'.cell? ⟨nb, 3, none⟩ = some (.int .i64 g) ∧ w'.cell? ⟨nb, 4, none⟩ = some (.bool o) ∧ w'.cell? ⟨nb, 5, none⟩ = some (.slice h.aa at_.length h.ca) ∧ w'.cell? ⟨nb, 6, none⟩ = some (.string d) ∧ w'.cell? ⟨nb, 7, none⟩ = some (.slice h.ak ks.length h.ck)) (exact HT.out _ (by with_reducible assumption)) (first | (go_at_call 62; refine Calls.mono (HSN.out _ (by with_reducible assumption)) ?_; rintro e w8 ⟨rfl, hb8⟩) | (go_at_call 63; refine Calls.mono (HCK.out _ (by with_reducible assumption)) ?_; rintro e w9 ⟨rfl, hb9⟩) | (go_at_call 64; refine Calls.mono (HTF.out _ (by with_reducible assumption)) ?_; rintro e wa ⟨rfl, hba⟩) | (go_at_call 19; refine Calls.mono (HSM.out _) ?_; rintro e wb ⟨rfl, rfl⟩))
    all_goals
      go_wp2_with fail
      go_meet
      case rel => exact ⟨rfl, by assumption⟩
  case rest =>
    obtain ⟨rfl, c2⟩ := hcut
    clear HSN HCK HTF HSM HT bd
    replace N1 := N1.below c2
    replace X1 := X1.below c2
    replace O1 := O1.below c2
    replace hO := hO.ab c2
    replace hB := hB.trans (c2.mono hB.size)
    clear c2
    obtain ⟨y20, y21, y22, y23, y24, y25, y26, y27⟩ := id O1
    go_wp2_with fail
    refine (tfind_any hO a cl l (HSL.out.on (mle_below hB)) (Nat.le_trans HLL.out (by decide)) (Nat.le_trans HCN.out (by decide)) HLIMN.out).mono ?_
    rintro e wd ⟨⟨h1, rfl, v1⟩, c2⟩
    clear y20 y21 y22 y23 y24 y25 y26 y27
    replace N1 := N1.below c2
    replace X1 := X1.below c2
    replace O1 := O1.below c2
    replace hO := hO.ab c2
    replace hB := hB.trans (c2.mono hB.size)
    clear c2
    obtain ⟨r1, HR1⟩ : ∃ r, Hid ((findF l (Nd.mk k m u g o at_ d ks)).getD zN = r) := ⟨_, rfl⟩
    obtain ⟨fs, HFS⟩ : ∃ r, Hid ((findF l (Nd.mk k m u g o at_ d ks)).isSome = r) := ⟨_, rfl⟩
    rw [HR1.out] at v1 ⊢
    rw [HFS.out]
    obtain ⟨k1, m1, u1, g1, o1, at1, d1, ks1⟩ := r1
    rw [show ndV (Nd.mk k1 m1 u1 g1 o1 at1 d1 ks1) h1 = .agg #[.int .i64 k1, .int .i64 m1, .int .i64 u1, .int .i64 g1, .bool o1, .slice h1.aa at1.length h1.ca, .string d1, .slice h1.ak ks1.length h1.ck] from rfl]
    have P1 := NBox.new wd k1 m1 u1 g1 o1 at1 d1 ks1 h1
    have cA : Below wd.heap.size wd (wd.alloc (.cells #[.int .i64 k1, .int .i64 m1, .int .i64 u1, .int .i64 g1, .bool o1, .slice h1.aa at1.length h1.ca, .string d1, .slice h1.ak ks1.length h1.ck] 84)) := (Below.refl _ _).alloc (Nat.le_refl _) _
    replace N1 := N1.below cA
    replace X1 := X1.below cA
    replace O1 := O1.below cA
    replace hO := hO.ab cA
    replace v1 := v1.ab cA
    replace hB := hB.trans (cA.mono hB.size)
    clear cA
    obtain ⟨y00, y01, y02, y03, y04, y05, y06, y07⟩ := id N1
    go_wp2_with fail
    refine (rfind_any (HNN.out.ab hB) a cl l (HSL.out.on (mle_below hB)) (Nat.le_trans HLL.out (by decide)) (Nat.le_trans HCN.out (by decide))).mono ?_
    rintro e wf ⟨⟨h2, rfl, v2⟩, c2⟩
    clear y00 y01 y02 y03 y04 y05 y06 y07
    replace N1 := N1.below c2
    replace X1 := X1.below c2
    replace O1 := O1.below c2
    replace P1 := P1.below c2
    replace hO := hO.ab c2
    replace v1 := v1.ab c2
    replace hB := hB.trans (c2.mono hB.size)
    clear c2
    generalize wd.heap.size = pb1 at P1 ⊢
    rw [HR1.out] at v2 ⊢
    rw [HFS.out]
    rw [show ndV (Nd.mk k1 m1 u1 g1 o1 at1 d1 ks1) h2 = .agg #[.int .i64 k1, .int .i64 m1, .int .i64 u1, .int .i64 g1, .bool o1, .slice h2.aa at1.length h2.ca, .string d1, .slice h2.ak ks1.length h2.ck] from rfl]
    have P2 := NBox.new wf k1 m1 u1 g1 o1 at1 d1 ks1 h2
    have cA : Below wf.heap.size wf (wf.alloc (.cells #[.int .i64 k1, .int .i64 m1, .int .i64 u1, .int .i64 g1, .bool o1, .slice h2.aa at1.length h2.ca, .string d1, .slice h2.ak ks1.length h2.ck] 84)) := (Below.refl _ _).alloc (Nat.le_refl _) _
    replace N1 := N1.below cA
    replace X1 := X1.below cA
    replace O1 := O1.below cA
    replace P1 := P1.below cA
    replace hO := hO.ab cA
    replace v1 := v1.ab cA
    replace v2 := v2.ab cA
    replace hB := hB.trans (cA.mono hB.size)
    clear cA
    obtain ⟨y20, y21, y22, y23, y24, y25, y26, y27⟩ := id O1
    go_upto_region 9 with fail
    clear y20 y21 y22 y23 y24 y25 y26 y27
    generalize wf.alloc (.cells #[.int .i64 k1, .int .i64 m1, .int .i64 u1, .int .i64 g1, .bool o1, .slice h2.aa at1.length h2.ca, .string d1, .slice h2.ak ks1.length h2.ck] 84) = wg at N1 X1 O1 P1 P2 hO v1 v2 hB ⊢
    generalize wf.heap.size = pb2 at P2 ⊢
    have hX1 := X1
    rw [hnb] at hX1
    obtain ⟨E1, HE1⟩ : ∃ r, Hid (xErr (chgF (some (Nd.mk kx mx ux gx ox atx dx ksx)) l (Nd.mk k m u g o at_ d ks)) = r) := ⟨_, rfl⟩
    obtain ⟨r2, HR2⟩ : ∃ r, Hid (xNd (chgF (some (Nd.mk kx mx ux gx ox atx dx ksx)) l (Nd.mk k m u g o at_ d ks)) = r) := ⟨_, rfl⟩
    obtain ⟨k2, m2, u2, g2, o2, at2, d2, ks2⟩ := r2
    have HOWN : Hid (∀ (W' : World) (S' : Nat → Bool), (∀ k, S' k = true → k < W'.heap.size) → (∀ k, k < wg.heap.size → S' k = false) → Below wg.heap.size wg W' → Calls Try.prog 61 #[.agg #[.int .i64 kx, .int .i64 mx, .int .i64 ux, .int .i64 gx, .bool ox, .slice hx.aa atx.length hx.ca, .string dx, .slice hx.ak ksx.length hx.ck]] W' fun e w' => (∃ h8 : Hd, e = .returned (.agg #[.int .i64 kx, .int .i64 mx, .int .i64 ux, .int .i64 gx, .bool ox, .slice h8.aa atx.length h8.ca, .string dx, .slice h8.ak ksx.length h8.ck]) ∧ NdV (offS w'.cell? S') (Nd.mk kx mx ux gx ox atx dx ksx) h8) ∧ Below wg.heap.size wg w' ∧ Below W'.heap.size W' w') := by
      intro W' S' q1 q2 q3
      exact (own_any q1 (x := (Nd.mk kx mx ux gx ox atx dx ksx)) (h := hx) ((HXX.out.ab hB).on (mle_offS q3 q2)) HLIMX.out (Nat.le_trans HCX.out (by decide))).mono fun e w' q => ⟨q.1, q3.trans (q.2.mono q3.size), q.2⟩
    have HPUT : Hid (∀ (W' : World) (S' : Nat → Bool) (h8 : Hd), (∀ k, S' k = true → k < W'.heap.size) → (∀ k, k < wg.heap.size → S' k = false) → Below wg.heap.size wg W' → NdV (offS W'.cell? S') (Nd.mk kx mx ux gx ox atx dx ksx) h8 → Calls Try.prog 67 #[.agg #[.int .i64 k, .int .i64 m, .int .i64 u, .int .i64 g, .bool o, .slice ho.aa at_.length ho.ca, .string d, .slice ho.ak ks.length ho.ck], .slice a l.length cl, .agg #[.int .i64 kx, .int .i64 mx, .int .i64 ux, .int .i64 gx, .bool ox, .slice h8.aa atx.length h8.ca, .string dx, .slice h8.ak ksx.length h8.ck]] W' fun e w' => (∃ h3 : Hd, e = .returned (.tuple #[.agg #[.int .i64 k2, .int .i64 m2, .int .i64 u2, .int .i64 g2, .bool o2, .slice h3.aa at2.length h3.ca, .string d2, .slice h3.ak ks2.length h3.ck], errV E1]) ∧ NdV (offS w'.cell? S') (Nd.mk k2 m2 u2 g2 o2 at2 d2 ks2) h3) ∧ Below wg.heap.size wg w' ∧ Below W'.heap.size W' w') := by
      intro W' S' h8 q1 q2 q3 q4
      refine (tputS_any q1 (hO.on (mle_offS q3 q2)) a cl l (HSL.out.on (mle_below (hB.trans (q3.mono hB.size)))) (Nat.le_trans HLL.out (by decide)) hcl (Nat.le_trans HCN.out (by decide)) (Nd.mk kx mx ux gx ox atx dx ksx) h8 q4 HRES.out).mono fun e w' q => ?_
      obtain ⟨⟨h3, e1, e2⟩, e3⟩ := q
      rw [HR2.out] at e1 e2
      rw [HE1.out] at e1
      exact ⟨⟨h3, e1, e2⟩, q3.trans (e3.mono q3.size), e3⟩
    have HT : Hid (∀ w', Below wg.heap.size wg w' → w'.cell? ⟨ob, 0, none⟩ = some (.int .i64 k) ∧ w'.cell? ⟨ob, 1, none⟩ = some (.int .i64 m) ∧ w'.cell? ⟨ob, 2, none⟩ = some (.int .i64 u) ∧ w'.cell? ⟨ob, 3, none⟩ = some (.int .i64 g) ∧ w'.cell? ⟨ob, 4, none⟩ = some (.bool o) ∧ w'.cell? ⟨ob, 5, none⟩ = some (.slice ho.aa at_.length ho.ca) ∧ w'.cell? ⟨ob, 6, none⟩ = some (.string d) ∧ w'.cell? ⟨ob, 7, none⟩ = some (.slice ho.ak ks.length ho.ck) ∧ w'.cell? ⟨nb + 1, 0, none⟩ = some (.int .i64 kx) ∧ w'.cell? ⟨nb + 1, 1, none⟩ = some (.int .i64 mx) ∧ w'.cell? ⟨nb + 1, 2, none⟩ = some (.int .i64 ux) ∧ w'.cell? ⟨nb + 1, 3, none⟩ = some (.int .i64 gx) ∧ w'.cell? ⟨nb + 1, 4, none⟩ = some (.bool ox) ∧ w'.cell? ⟨nb + 1, 5, none⟩ = some (.slice hx.aa atx.length hx.ca) ∧ w'.cell? ⟨nb + 1, 6, none⟩ = some (.string dx) ∧ w'.cell? ⟨nb + 1, 7, none⟩ = some (.slice hx.ak ksx.length hx.ck)) := by
      intro w' hb
      obtain ⟨a0, a1, a2, a3, a4, a5, a6, a7⟩ := O1.below hb
      obtain ⟨b0, b1, b2, b3, b4, b5, b6, b7⟩ := hX1.below hb
      exact ⟨a0, a1, a2, a3, a4, a5, a6, a7, b0, b1, b2, b3, b4, b5, b6, b7⟩
    have HPA : Hid (∀ (w9 : World) (h3 : Hd), NdV (offS w9.cell? (fun _ => false)) (Nd.mk k2 m2 u2 g2 o2 at2 d2 ks2) h3 → Below wg.heap.size wg w9 → NBox (w9.alloc (.cells #[.int .i64 k2, .int .i64 m2, .int .i64 u2, .int .i64 g2, .bool o2, .slice h3.aa at2.length h3.ca, .string d2, .slice h3.ak ks2.length h3.ck] 84)) w9.heap.size (Nd.mk k2 m2 u2 g2 o2 at2 d2 ks2) h3 ∧ NdV (w9.alloc (.cells #[.int .i64 k2, .int .i64 m2, .int .i64 u2, .int .i64 g2, .bool o2, .slice h3.aa at2.length h3.ca, .string d2, .slice h3.ak ks2.length h3.ck] 84)).cell? (Nd.mk k2 m2 u2 g2 o2 at2 d2 ks2) h3 ∧ Below wg.heap.size wg (w9.alloc (.cells #[.int .i64 k2, .int .i64 m2, .int .i64 u2, .int .i64 g2, .bool o2, .slice h3.aa at2.length h3.ca, .string d2, .slice h3.ak ks2.length h3.ck] 84))) := by
      intro w9 h3 q1 q2
      rw [offS_no] at q1
      exact ⟨NBox.new w9 k2 m2 u2 g2 o2 at2 d2 ks2 h3, q1.ab ((Below.refl _ _).alloc (Nat.le_refl _) _), q2.alloc q2.size _⟩
    have HPB : Hid (∀ (w9 : World) (h3 : Hd) (blk : Nat), wg.heap.size ≤ blk → NBw w9 blk zN zH → NdV (offS w9.cell? (orS (fun _ => false) blk)) (Nd.mk k2 m2 u2 g2 o2 at2 d2 ks2) h3 → Below wg.heap.size wg w9 → NBox ((((((((w9.setCell ⟨blk, 0, none⟩ (.int .i64 k2)).setCell ⟨blk, 1, none⟩ (.int .i64 m2)).setCell ⟨blk, 2, none⟩ (.int .i64 u2)).setCell ⟨blk, 3, none⟩ (.int .i64 g2)).setCell ⟨blk, 4, none⟩ (.bool o2)).setCell ⟨blk, 5, none⟩ (.slice h3.aa at2.length h3.ca)).setCell ⟨blk, 6, none⟩ (.string d2)).setCell ⟨blk, 7, none⟩ (.slice h3.ak ks2.length h3.ck)) blk (Nd.mk k2 m2 u2 g2 o2 at2 d2 ks2) h3 ∧ NdV ((((((((w9.setCell ⟨blk, 0, none⟩ (.int .i64 k2)).setCell ⟨blk, 1, none⟩ (.int .i64 m2)).setCell ⟨blk, 2, none⟩ (.int .i64 u2)).setCell ⟨blk, 3, none⟩ (.int .i64 g2)).setCell ⟨blk, 4, none⟩ (.bool o2)).setCell ⟨blk, 5, none⟩ (.slice h3.aa at2.length h3.ca)).setCell ⟨blk, 6, none⟩ (.string d2)).setCell ⟨blk, 7, none⟩ (.slice h3.ak ks2.length h3.ck)).cell? (Nd.mk k2 m2 u2 g2 o2 at2 d2 ks2) h3 ∧ Below wg.heap.size wg ((((((((w9.setCell ⟨blk, 0, none⟩ (.int .i64 k2)).setCell ⟨blk, 1, none⟩ (.int .i64 m2)).setCell ⟨blk, 2, none⟩ (.int .i64 u2)).setCell ⟨blk, 3, none⟩ (.int .i64 g2)).setCell ⟨blk, 4, none⟩ (.bool o2)).setCell ⟨blk, 5, none⟩ (.slice h3.aa at2.length h3.ca)).setCell ⟨blk, 6, none⟩ (.string d2)).setCell ⟨blk, 7, none⟩ (.slice h3.ak ks2.length h3.ck))) := by
      intro w9 h3 blk q0 q1 q2 q3
      have b1 : But blk w9 (stB w9 blk (Nd.mk k2 m2 u2 g2 o2 at2 d2 ks2) h3) := stB_but
      have m1 : MLe (offS w9.cell? (orS (fun _ => false) blk)) (stB w9 blk (Nd.mk k2 m2 u2 g2 o2 at2 d2 ks2) h3).cell? := (mle_step (S' := (fun _ => false)) fun q hq hs => ⟨rfl, b1.block q hq (by simp only [orS, Bool.or_eq_false_iff, beq_eq_false_iff_ne] at hs; exact hs.1)⟩).trans (offS_le _ _)
      exact ⟨(q1.store (Nd.mk k2 m2 u2 g2 o2 at2 d2 ks2) h3).1, q2.on m1, q3.trans (b1.below q0 q3.size)⟩
    have bd : Below wg.heap.size wg wg.drew := below_drewN (Below.refl _ _) 1
    have bda : Below wg.heap.size wg (wg.alloc (.cells #[.int .i64 0, .int .i64 0, .int .i64 0, .int .i64 0, .bool false, .slice none 0 0, .string ⟨#[]⟩, .slice none 0 0] 84)).drew := below_drewN ((Below.refl _ wg).alloc (Nat.le_refl _) _) 1
    have HZ : Hid (NBw (wg.alloc (.cells #[.int .i64 0, .int .i64 0, .int .i64 0, .int .i64 0, .bool false, .slice none 0 0, .string ⟨#[]⟩, .slice none 0 0] 84)).drew wg.heap.size zN zH) := NBw.zero wg
    have HO1 := HOWN.out wg.drew (fun _ => false) (fun _ q => by cases q) (fun _ _ => rfl) bd
    have HO2 := HOWN.out ((wg.alloc (.cells #[.int .i64 0, .int .i64 0, .int .i64 0, .int .i64 0, .bool false, .slice none 0 0, .string ⟨#[]⟩, .slice none 0 0] 84)).drew) (orS (fun _ => false) wg.heap.size) (fun k q => by simp only [orS, Bool.or_false, beq_iff_eq] at q; rw [q]; exact HZ.out.1.lt) (fun k q => by simp only [orS, Bool.or_false, beq_eq_false_iff_ne]; omega) bda
    have HC1 : Hid (Calls Try.prog 61 #[.agg #[.int .i64 kx, .int .i64 mx, .int .i64 ux, .int .i64 gx, .bool ox, .slice hx.aa atx.length hx.ca, .string dx, .slice hx.ak ksx.length hx.ck]] wg.drew fun e w' => (∃ h8 : Hd, e = .returned (.agg #[.int .i64 kx, .int .i64 mx, .int .i64 ux, .int .i64 gx, .bool ox, .slice h8.aa atx.length h8.ca, .string dx, .slice h8.ak ksx.length h8.ck]) ∧ NdV (offS w'.cell? (fun _ => false)) (Nd.mk kx mx ux gx ox atx dx ksx) h8) ∧ Below wg.heap.size wg w' ∧ Below wg.drew.heap.size wg.drew w') := HO1
    have HC2 : Hid (Calls Try.prog 61 #[.agg #[.int .i64 kx, .int .i64 mx, .int .i64 ux, .int .i64 gx, .bool ox, .slice hx.aa atx.length hx.ca, .string dx, .slice hx.ak ksx.length hx.ck]] ((wg.alloc (.cells #[.int .i64 0, .int .i64 0, .int .i64 0, .int .i64 0, .bool false, .slice none 0 0, .string ⟨#[]⟩, .slice none 0 0] 84)).drew) fun e w' => (∃ h8 : Hd, e = .returned (.agg #[.int .i64 kx, .int .i64 mx, .int .i64 ux, .int .i64 gx, .bool ox, .slice h8.aa atx.length h8.ca, .string dx, .slice h8.ak ksx.length h8.ck]) ∧ NdV (offS w'.cell? (orS (fun _ => false) wg.heap.size)) (Nd.mk kx mx ux gx ox atx dx ksx) h8) ∧ Below wg.heap.size wg w' ∧ Below ((wg.alloc (.cells #[.int .i64 0, .int .i64 0, .int .i64 0, .int .i64 0, .bool false, .slice none 0 0, .string ⟨#[]⟩, .slice none 0 0] 84)).drew).heap.size ((wg.alloc (.cells #[.int .i64 0, .int .i64 0, .int .i64 0, .int .i64 0, .bool false, .slice none 0 0, .string ⟨#[]⟩, .slice none 0 0] 84)).drew) w') := HO2
    clear HO1 HO2
    have HK1 : Hid (∀ w8, Below wg.heap.size wg w8 → Below wg.heap.size wg (w8.alloc (.cells #[.int .i64 0, .int .i64 0, .int .i64 0, .int .i64 0, .bool false, .slice none 0 0, .string ⟨#[]⟩, .slice none 0 0] 84)) ∧ NBw (w8.alloc (.cells #[.int .i64 0, .int .i64 0, .int .i64 0, .int .i64 0, .bool false, .slice none 0 0, .string ⟨#[]⟩, .slice none 0 0] 84)) w8.heap.size zN zH ∧ wg.heap.size ≤ w8.heap.size) := fun w8 q => ⟨q.alloc q.size _, NBw.zero w8, q.size⟩
    have HPUTA : Hid (∀ (w8 : World) (h8 : Hd), Below wg.heap.size wg w8 → NdV (offS w8.cell? (fun _ => false)) (Nd.mk kx mx ux gx ox atx dx ksx) h8 → Calls Try.prog 67 #[.agg #[.int .i64 k, .int .i64 m, .int .i64 u, .int .i64 g, .bool o, .slice ho.aa at_.length ho.ca, .string d, .slice ho.ak ks.length ho.ck], .slice a l.length cl, .agg #[.int .i64 kx, .int .i64 mx, .int .i64 ux, .int .i64 gx, .bool ox, .slice h8.aa atx.length h8.ca, .string dx, .slice h8.ak ksx.length h8.ck]] w8 fun e w' => (∃ h3 : Hd, e = .returned (.tuple #[.agg #[.int .i64 k2, .int .i64 m2, .int .i64 u2, .int .i64 g2, .bool o2, .slice h3.aa at2.length h3.ca, .string d2, .slice h3.ak ks2.length h3.ck], errV E1]) ∧ NdV (offS w'.cell? (fun _ => false)) (Nd.mk k2 m2 u2 g2 o2 at2 d2 ks2) h3) ∧ Below wg.heap.size wg w' ∧ Below w8.heap.size w8 w') := fun w8 h8 q1 q2 => HPUT.out w8 (fun _ => false) h8 (fun _ q => by cases q) (fun _ _ => rfl) q1 q2
    have HPUTB : Hid (∀ (w8 : World) (h8 : Hd), Below wg.heap.size wg w8 → NdV (offS w8.cell? (fun _ => false)) (Nd.mk kx mx ux gx ox atx dx ksx) h8 → Calls Try.prog 67 #[.agg #[.int .i64 k, .int .i64 m, .int .i64 u, .int .i64 g, .bool o, .slice ho.aa at_.length ho.ca, .string d, .slice ho.ak ks.length ho.ck], .slice a l.length cl, .agg #[.int .i64 kx, .int .i64 mx, .int .i64 ux, .int .i64 gx, .bool ox, .slice h8.aa atx.length h8.ca, .string dx, .slice h8.ak ksx.length h8.ck]] (w8.alloc (.cells #[.int .i64 0, .int .i64 0, .int .i64 0, .int .i64 0, .bool false, .slice none 0 0, .string ⟨#[]⟩, .slice none 0 0] 84)) fun e w' => (∃ h3 : Hd, e = .returned (.tuple #[.agg #[.int .i64 k2, .int .i64 m2, .int .i64 u2, .int .i64 g2, .bool o2, .slice h3.aa at2.length h3.ca, .string d2, .slice h3.ak ks2.length h3.ck], errV E1]) ∧ NdV (offS w'.cell? (orS (fun _ => false) w8.heap.size)) (Nd.mk k2 m2 u2 g2 o2 at2 d2 ks2) h3) ∧ Below wg.heap.size wg w' ∧ Below (w8.alloc (.cells #[.int .i64 0, .int .i64 0, .int .i64 0, .int .i64 0, .bool false, .slice none 0 0, .string ⟨#[]⟩, .slice none 0 0] 84)).heap.size (w8.alloc (.cells #[.int .i64 0, .int .i64 0, .int .i64 0, .int .i64 0, .bool false, .slice none 0 0, .string ⟨#[]⟩, .slice none 0 0] 84)) w') := by
      intro w8 h8 q1 q2
      have q4 := q1.size
      refine HPUT.out (w8.alloc (.cells #[.int .i64 0, .int .i64 0, .int .i64 0, .int .i64 0, .bool false, .slice none 0 0, .string ⟨#[]⟩, .slice none 0 0] 84)) (orS (fun _ => false) w8.heap.size) h8 (fun k q => by simp only [orS, Bool.or_false, beq_iff_eq] at q; rw [q, World.size_alloc]; omega) (fun k q => by simp only [orS, Bool.or_false, beq_eq_false_iff_ne]; omega) (q1.alloc q1.size _) ?_
      rw [offS_no] at q2
      exact q2.on (mle_offS ((Below.refl _ _).alloc (Nat.le_refl _) _) (fun k q => by simp only [orS, Bool.or_false, beq_eq_false_iff_ne]; omega))
    have HPUTC : Hid (∀ (w8 : World) (h8 : Hd), wg.heap.size < w8.heap.size → Below wg.heap.size wg w8 → NdV (offS w8.cell? (orS (fun _ => false) wg.heap.size)) (Nd.mk kx mx ux gx ox atx dx ksx) h8 → Calls Try.prog 67 #[.agg #[.int .i64 k, .int .i64 m, .int .i64 u, .int .i64 g, .bool o, .slice ho.aa at_.length ho.ca, .string d, .slice ho.ak ks.length ho.ck], .slice a l.length cl, .agg #[.int .i64 kx, .int .i64 mx, .int .i64 ux, .int .i64 gx, .bool ox, .slice h8.aa atx.length h8.ca, .string dx, .slice h8.ak ksx.length h8.ck]] w8 fun e w' => (∃ h3 : Hd, e = .returned (.tuple #[.agg #[.int .i64 k2, .int .i64 m2, .int .i64 u2, .int .i64 g2, .bool o2, .slice h3.aa at2.length h3.ca, .string d2, .slice h3.ak ks2.length h3.ck], errV E1]) ∧ NdV (offS w'.cell? (orS (fun _ => false) wg.heap.size)) (Nd.mk k2 m2 u2 g2 o2 at2 d2 ks2) h3) ∧ Below wg.heap.size wg w' ∧ Below w8.heap.size w8 w') := fun w8 h8 q0 q1 q2 => HPUT.out w8 (orS (fun _ => false) wg.heap.size) h8 (fun k q => by simp only [orS, Bool.or_false, beq_iff_eq] at q; omega) (fun k q => by simp only [orS, Bool.or_false, beq_eq_false_iff_ne]; omega) q1 q2
    clear HOWN HPUT
    generalize hnb1 : nb + 1 = xb at hX1 HT ⊢
    go_cut [15, 16] from 70 (fun p e wx => ∃ (pb : Nat) (h3 : Hd), p = .pointer (some ⟨pb, 0, none⟩) ∧ e = errV E1 ∧ NBox wx pb (Nd.mk k2 m2 u2 g2 o2 at2 d2 ks2) h3 ∧ NdV wx.cell? (Nd.mk k2 m2 u2 g2 o2 at2 d2 ks2) h3 ∧ Below wg.heap.size wg wx)
    case first =>
      go_region_held3 (fun w' => w'.cell? ⟨ob, 0, none⟩ = some (.int .i64 k) ∧ w'.cell? ⟨ob, 1, none⟩ = some (.int .i64 m) ∧ w'.cell? ⟨ob, 2, none⟩ = some (.int .i64 u) ∧ w'.cell? ⟨ob, 3, none⟩ = some (.int .i64 g) ∧ w'.cell? ⟨ob, 4, none⟩ = some (.bool o) ∧ w'.cell? ⟨ob, 5, none⟩ = some (.slice ho.aa at_.length ho.ca) ∧ w'.cell? ⟨ob, 6, none⟩ = some (.string d) ∧ w'.cell? ⟨ob, 7, none⟩ = some (.slice ho.ak ks.length ho.ck) ∧ w'.cell? ⟨xb, 0, none⟩ = some (.int .i64 kx) ∧ w'.cell? ⟨xb, 1, none⟩ = some (.int .i64 mx) ∧ w'.cell? ⟨xb, 2, none⟩ = some (.int .i64 ux) ∧ w'.cell? ⟨xb, 3, none⟩ = some (.int .i64 gx) ∧ w'.cell? ⟨xb, 4, none⟩ = some (.bool ox) ∧ w'.cell? ⟨xb, 5, none⟩ = some (.slice hx.aa atx.length hx.ca) ∧ w'.cell? ⟨xb, 6, none⟩ = some (.string dx) ∧ w'.cell? ⟨xb, 7, none⟩ = some (.slice hx.ak ksx.length hx.ck)) (exact HT.out _ (by with_reducible assumption)) (first
        | (go_at_call 61; (with_reducible refine Calls.mono HC1.out ?_); rintro e w8 ⟨⟨h8, rfl, hv8⟩, hb8, hc8⟩; obtain ⟨hb8a, hz8, hs8⟩ := HK1.out w8 hb8)
        | (go_at_call 61; (with_reducible refine Calls.mono HC2.out ?_); rintro e w8c ⟨⟨h8, rfl, hv8⟩, hb8, hc8⟩; have hz8 := HZ.out.below hc8; have hs8 : wg.heap.size < w8c.heap.size := hz8.1.lt)
        | (go_at_call 67; (with_reducible refine Calls.mono (HPUTA.out w8 h8 hb8 hv8) ?_); rintro e w9 ⟨⟨h3, rfl, hv9⟩, hb9, hc9⟩; obtain ⟨hb9a, _, _⟩ := HK1.out w9 hb9; have hrel := HPA.out w9 h3 hv9 hb9; have hb9y := hrel.2.2)
        | (go_at_call 67; (with_reducible refine Calls.mono (HPUTB.out w8 h8 hb8 hv8) ?_); rintro e w9 ⟨⟨h3, rfl, hv9⟩, hb9, hc9⟩; have hz9 := hz8.below hc9; have hrel := HPB.out w9 h3 w8.heap.size hs8 hz9 hv9 hb9; have hb9y := hrel.2.2; obtain ⟨⟨z0, z1, z2, z3, z4, z5, z6, z7⟩, z8⟩ := id hz9; clear hz9)
        | (go_at_call 67; (with_reducible refine Calls.mono (HPUTC.out w8c h8 hs8 hb8 hv8) ?_); rintro e w9 ⟨⟨h3, rfl, hv9⟩, hb9, hc9⟩; have hz9 := hz8.below hc9; have hrel := HPB.out w9 h3 wg.heap.size (Nat.le_refl _) hz9 hv9 hb9; have hb9y := hrel.2.2; obtain ⟨⟨z0, z1, z2, z3, z4, z5, z6, z7⟩, z8⟩ := id hz9; clear hz9))
      all_goals
        go_wp2_with fail
        go_meet
        case rel => exact ⟨_, _, rfl, rfl, hrel⟩
    case rest =>
      obtain ⟨pb3, h3, rfl, rfl, Q1, v3, c2⟩ := hcut
      clear HT HPA HPB bd bda HZ HC1 HC2 HK1 HPUTA HPUTB HPUTC hnb1 X1
      have X1 := hX1
      clear hX1
      replace N1 := N1.below c2
      replace X1 := X1.below c2
      replace O1 := O1.below c2
      replace P1 := P1.below c2
      replace P2 := P2.below c2
      replace hO := hO.ab c2
      replace v1 := v1.ab c2
      replace v2 := v2.ab c2
      replace hB := hB.trans (c2.mono hB.size)
      clear c2
      obtain ⟨y20, y21, y22, y23, y24, y25, y26, y27⟩ := id O1
      go_wp2_with fail
      refine (tcut_any hO a cl l (HSL.out.on (mle_below hB)) (Nat.le_trans HLL.out (by decide)) hcl (Nat.le_trans HCN.out (by decide)) HRES2.out).mono ?_
      rintro e wh ⟨⟨h4, rfl, v4⟩, c2⟩
      clear y20 y21 y22 y23 y24 y25 y26 y27
      replace N1 := N1.below c2
      replace X1 := X1.below c2
      replace O1 := O1.below c2
      replace P1 := P1.below c2
      replace P2 := P2.below c2
      replace Q1 := Q1.below c2
      replace hO := hO.ab c2
      replace v1 := v1.ab c2
      replace v2 := v2.ab c2
      replace v3 := v3.ab c2
      replace hB := hB.trans (c2.mono hB.size)
      clear c2
      obtain ⟨E2, HE2⟩ : ∃ r, Hid (xErr (chgF none l (Nd.mk k m u g o at_ d ks)) = r) := ⟨_, rfl⟩
      obtain ⟨r3, HR3⟩ : ∃ r, Hid (xNd (chgF none l (Nd.mk k m u g o at_ d ks)) = r) := ⟨_, rfl⟩
      rw [HR3.out] at v4 ⊢
      rw [HE2.out]
      obtain ⟨k3, m3, u3, g3, o3, at3, d3, ks3⟩ := r3
      rw [show ndV (Nd.mk k3 m3 u3 g3 o3 at3 d3 ks3) h4 = .agg #[.int .i64 k3, .int .i64 m3, .int .i64 u3, .int .i64 g3, .bool o3, .slice h4.aa at3.length h4.ca, .string d3, .slice h4.ak ks3.length h4.ck] from rfl]
      have Q2 := NBox.new wh k3 m3 u3 g3 o3 at3 d3 ks3 h4
      have cA : Below wh.heap.size wh (wh.alloc (.cells #[.int .i64 k3, .int .i64 m3, .int .i64 u3, .int .i64 g3, .bool o3, .slice h4.aa at3.length h4.ca, .string d3, .slice h4.ak ks3.length h4.ck] 84)) := (Below.refl _ _).alloc (Nat.le_refl _) _
      replace N1 := N1.below cA
      replace X1 := X1.below cA
      replace O1 := O1.below cA
      replace P1 := P1.below cA
      replace P2 := P2.below cA
      replace Q1 := Q1.below cA
      replace hO := hO.ab cA
      replace v1 := v1.ab cA
      replace v2 := v2.ab cA
      replace v3 := v3.ab cA
      replace v4 := v4.ab cA
      replace hB := hB.trans (cA.mono hB.size)
      clear cA
      obtain ⟨y00, y01, y02, y03, y04, y05, y06, y07⟩ := id N1
      obtain ⟨y10, y11, y12, y13, y14, y15, y16, y17⟩ := id X1
      go_wp2_with fail
      refine (rputP (HNN.out.ab hB) (HXX.out.ab hB) a cl l (HSL.out.on (mle_below hB)) (Nat.le_trans HLL.out (by decide)) hcl.1 (Nat.le_trans HCN.out (by decide)) (fun s hs => Nat.le_trans (HLS.out s hs) (by decide))).mono ?_
      rintro e wi ⟨⟨h5, rfl, v5⟩, c2⟩
      clear y00 y01 y02 y03 y04 y05 y06 y07 y10 y11 y12 y13 y14 y15 y16 y17
      replace N1 := N1.below c2
      replace X1 := X1.below c2
      replace O1 := O1.below c2
      replace P1 := P1.below c2
      replace P2 := P2.below c2
      replace Q1 := Q1.below c2
      replace Q2 := Q2.below c2
      replace hO := hO.ab c2
      replace v1 := v1.ab c2
      replace v2 := v2.ab c2
      replace v3 := v3.ab c2
      replace v4 := v4.ab c2
      replace hB := hB.trans (c2.mono hB.size)
      clear c2
      generalize wh.heap.size = qb2 at Q2 ⊢
      rw [HR2.out] at v5 ⊢
      rw [HE1.out]
      rw [show ndV (Nd.mk k2 m2 u2 g2 o2 at2 d2 ks2) h5 = .agg #[.int .i64 k2, .int .i64 m2, .int .i64 u2, .int .i64 g2, .bool o2, .slice h5.aa at2.length h5.ca, .string d2, .slice h5.ak ks2.length h5.ck] from rfl]
      have Q3 := NBox.new wi k2 m2 u2 g2 o2 at2 d2 ks2 h5
      have cA : Below wi.heap.size wi (wi.alloc (.cells #[.int .i64 k2, .int .i64 m2, .int .i64 u2, .int .i64 g2, .bool o2, .slice h5.aa at2.length h5.ca, .string d2, .slice h5.ak ks2.length h5.ck] 84)) := (Below.refl _ _).alloc (Nat.le_refl _) _
      replace N1 := N1.below cA
      replace X1 := X1.below cA
      replace O1 := O1.below cA
      replace P1 := P1.below cA
      replace P2 := P2.below cA
      replace Q1 := Q1.below cA
      replace Q2 := Q2.below cA
      replace hO := hO.ab cA
      replace v1 := v1.ab cA
      replace v2 := v2.ab cA
      replace v3 := v3.ab cA
      replace v4 := v4.ab cA
      replace v5 := v5.ab cA
      replace hB := hB.trans (cA.mono hB.size)
      clear cA
      obtain ⟨y00, y01, y02, y03, y04, y05, y06, y07⟩ := id N1
      go_wp2_with fail
      refine (rputC (HNN.out.ab hB) a cl l (HSL.out.on (mle_below hB)) (Nat.le_trans HLL.out (by decide)) hcl.1 (Nat.le_trans HCN.out (by decide)) (fun s hs => Nat.le_trans (HLS.out s hs) (by decide))).mono ?_
      rintro e wj ⟨⟨h6, rfl, v6⟩, c2⟩
      clear y00 y01 y02 y03 y04 y05 y06 y07
      replace N1 := N1.below c2
      replace X1 := X1.below c2
      replace O1 := O1.below c2
      replace P1 := P1.below c2
      replace P2 := P2.below c2
      replace Q1 := Q1.below c2
      replace Q2 := Q2.below c2
      replace Q3 := Q3.below c2
      replace hO := hO.ab c2
      replace v1 := v1.ab c2
      replace v2 := v2.ab c2
      replace v3 := v3.ab c2
      replace v4 := v4.ab c2
      replace v5 := v5.ab c2
      replace hB := hB.trans (c2.mono hB.size)
      clear c2
      generalize wi.heap.size = qb3 at Q3 ⊢
      rw [HR3.out] at v6 ⊢
      rw [HE2.out]
      rw [show ndV (Nd.mk k3 m3 u3 g3 o3 at3 d3 ks3) h6 = .agg #[.int .i64 k3, .int .i64 m3, .int .i64 u3, .int .i64 g3, .bool o3, .slice h6.aa at3.length h6.ca, .string d3, .slice h6.ak ks3.length h6.ck] from rfl]
      have hfs : (fs != fs) = false := by simp
      have HP1 : Hid (0 ≤ E1) := by show _ ≤ _; rw [← HE1.out]; exact xerr_pos
      have HP2 : Hid (0 ≤ E2) := by show _ ≤ _; rw [← HE2.out]; exact xerr_pos
      have HM1 : Hid (Lim (Nd.mk k1 m1 u1 g1 o1 at1 d1 ks1)) := by show Lim _; rw [← HR1.out]; exact HL1.out
      have HM2 : Hid (Lim (Nd.mk k2 m2 u2 g2 o2 at2 d2 ks2)) := by show Lim _; rw [← HR2.out]; exact HL2.out
      have HM3 : Hid (Lim (Nd.mk k3 m3 u3 g3 o3 at3 d3 ks3)) := by show Lim _; rw [← HR3.out]; exact HL3.out
      have Q4 := NBox.new wj k3 m3 u3 g3 o3 at3 d3 ks3 h6
      have cA : Below wj.heap.size wj (wj.alloc (.cells #[.int .i64 k3, .int .i64 m3, .int .i64 u3, .int .i64 g3, .bool o3, .slice h6.aa at3.length h6.ca, .string d3, .slice h6.ak ks3.length h6.ck] 84)) := (Below.refl _ _).alloc (Nat.le_refl _) _
      replace N1 := N1.below cA
      replace X1 := X1.below cA
      replace O1 := O1.below cA
      replace P1 := P1.below cA
      replace P2 := P2.below cA
      replace Q1 := Q1.below cA
      replace Q2 := Q2.below cA
      replace Q3 := Q3.below cA
      replace hO := hO.ab cA
      replace v1 := v1.ab cA
      replace v2 := v2.ab cA
      replace v3 := v3.ab cA
      replace v4 := v4.ab cA
      replace v5 := v5.ab cA
      replace v6 := v6.ab cA
      replace hB := hB.trans (cA.mono hB.size)
      clear cA
      obtain ⟨y30, y31, y32, y33, y34, y35, y36, y37⟩ := id P1
      obtain ⟨y40, y41, y42, y43, y44, y45, y46, y47⟩ := id P2
      go_wp2_with fail
      refine (sameNode_yes v1 h2 _ HM1.out v2 (Below.refl _ _)).mono ?_
      rintro e wk ⟨rfl, c2⟩
      clear y30 y31 y32 y33 y34 y35 y36 y37 y40 y41 y42 y43 y44 y45 y46 y47
      replace N1 := N1.below c2
      replace X1 := X1.below c2
      replace O1 := O1.below c2
      replace P1 := P1.below c2
      replace P2 := P2.below c2
      replace Q1 := Q1.below c2
      replace Q2 := Q2.below c2
      replace Q3 := Q3.below c2
      replace Q4 := Q4.below c2
      replace hO := hO.ab c2
      replace v1 := v1.ab c2
      replace v2 := v2.ab c2
      replace v3 := v3.ab c2
      replace v4 := v4.ab c2
      replace v5 := v5.ab c2
      replace v6 := v6.ab c2
      replace hB := hB.trans (c2.mono hB.size)
      clear c2
      generalize wj.heap.size = qb4 at Q4 ⊢
      go_wp2_with fail
      refine (same_errV E1 HP1.out _).mono ?_
      rintro e wl ⟨rfl, rfl⟩
      obtain ⟨y50, y51, y52, y53, y54, y55, y56, y57⟩ := id Q1
      obtain ⟨y70, y71, y72, y73, y74, y75, y76, y77⟩ := id Q3
      go_wp2_with fail
      refine (sameNode_yes v3 h5 _ HM2.out v5 (Below.refl _ _)).mono ?_
      rintro e wm ⟨rfl, c2⟩
      clear y50 y51 y52 y53 y54 y55 y56 y57 y70 y71 y72 y73 y74 y75 y76 y77
      replace N1 := N1.below c2
      replace X1 := X1.below c2
      replace O1 := O1.below c2
      replace P1 := P1.below c2
      replace P2 := P2.below c2
      replace Q1 := Q1.below c2
      replace Q2 := Q2.below c2
      replace Q3 := Q3.below c2
      replace Q4 := Q4.below c2
      replace hO := hO.ab c2
      replace v1 := v1.ab c2
      replace v2 := v2.ab c2
      replace v3 := v3.ab c2
      replace v4 := v4.ab c2
      replace v5 := v5.ab c2
      replace v6 := v6.ab c2
      replace hB := hB.trans (c2.mono hB.size)
      clear c2
      go_wp2_with fail
      refine (same_errV E2 HP2.out _).mono ?_
      rintro e wn ⟨rfl, rfl⟩
      obtain ⟨y60, y61, y62, y63, y64, y65, y66, y67⟩ := id Q2
      obtain ⟨y80, y81, y82, y83, y84, y85, y86, y87⟩ := id Q4
      go_wp2_with fail
      refine (sameNode_yes v4 h6 _ HM3.out v6 (Below.refl _ _)).mono ?_
      rintro e wo ⟨rfl, c2⟩
      clear y60 y61 y62 y63 y64 y65 y66 y67 y80 y81 y82 y83 y84 y85 y86 y87
      replace N1 := N1.below c2
      replace X1 := X1.below c2
      replace O1 := O1.below c2
      replace P1 := P1.below c2
      replace P2 := P2.below c2
      replace Q1 := Q1.below c2
      replace Q2 := Q2.below c2
      replace Q3 := Q3.below c2
      replace Q4 := Q4.below c2
      replace hO := hO.ab c2
      replace v1 := v1.ab c2
      replace v2 := v2.ab c2
      replace v3 := v3.ab c2
      replace v4 := v4.ab c2
      replace v5 := v5.ab c2
      replace v6 := v6.ab c2
      replace hB := hB.trans (c2.mono hB.size)
      clear c2
      obtain ⟨y00, y01, y02, y03, y04, y05, y06, y07⟩ := id N1
      obtain ⟨y20, y21, y22, y23, y24, y25, y26, y27⟩ := id O1
      go_wp2_with fail
      refine (sameNode_yes hO h _ HLIMN.out (HNN.out.ab hB) (Below.refl _ _)).mono ?_
      rintro e wp ⟨rfl, c2⟩
      clear y00 y01 y02 y03 y04 y05 y06 y07 y20 y21 y22 y23 y24 y25 y26 y27
      replace N1 := N1.below c2
      replace X1 := X1.below c2
      replace O1 := O1.below c2
      replace P1 := P1.below c2
      replace P2 := P2.below c2
      replace Q1 := Q1.below c2
      replace Q2 := Q2.below c2
      replace Q3 := Q3.below c2
      replace Q4 := Q4.below c2
      replace hO := hO.ab c2
      replace v1 := v1.ab c2
      replace v2 := v2.ab c2
      replace v3 := v3.ab c2
      replace v4 := v4.ab c2
      replace v5 := v5.ab c2
      replace v6 := v6.ab c2
      replace hB := hB.trans (c2.mono hB.size)
      clear c2
      go_wp2
      go_ret
      exact ⟨rfl, hB⟩

theorem treesays_any {W : World} {n x : Nd} {h hx : Hd} (hN : NdV W.cell? n h) (hX : NdV W.cell? x hx) (up : Bool) (a : Option Addr) (cl : Nat) (l : List ByteArray) (hSl : Strs W.cell? a l) (hcl : l.length ≤ cl ∧ cl ≤ 9223372036854775807) :
    Calls Try.prog 11 #[ndV n h, .bool up, .slice a l.length cl, ndV x hx] W fun e W' => e = .returned (.bool true) ∧ Below W.heap.size W W' := by
  by_cases hl1 : 0 < lightF n 80
  rotate_left
  · exact ts_e1 hN hX up a cl l hSl hcl hl1
  by_cases hl2 : 0 < lightF x 80
  rotate_left
  · exact ts_e2 hN hX up a cl l hSl hcl hl1 hl2
  cases hfw : fewB l with
  | false => exact ts_e3 hN hX up a cl l hSl hcl hl1 hl2 hfw
  | true => exact ts_main hN hX up a cl l hSl hcl hl1 hl2 hfw
end Go.Proofs.Ytiilppebcpkclaa
