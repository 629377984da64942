/-
  WHAT TopTree DOES where it asks nothing; all of it: the walks.
-/
import Derived.Test.YtehcjhdiekfaoabYa
import Derived.Test.YtehcjhdiekfaoabYb
import Derived.Test.YtehcjhdiekfaoabYc
namespace Go.Proofs.Ytehcjhdiekfaoab
open Go.RowKit

set_option maxRecDepth 100000 in
set_option maxHeartbeats 2000000 in
theorem toptree_e1 {W : World} {n x : Nd} {h hx : Hd} (hN : NdV W.cell? n h) (hX : NdV W.cell? x hx) (a b : Option Addr) (cl co : Nat) (l other : List ByteArray) (hl1 : ¬ 0 < lightF n 80) :
    Calls Try.prog 5 #[ndV n h, .slice a l.length cl, .slice b other.length co, ndV x hx] W fun e W' => e = .returned (.bool true) ∧ Below W.heap.size W W' := by
  have HLN : Hid (decide (0 < lightF n 80) = false) := decide_eq_false hl1
  clear hl1
  obtain ⟨k, m, u, g, o, at_, d, ks⟩ := n
  obtain ⟨kx, mx, ux, gx, ox, atx, dx, ksx⟩ := x
  have N1 := NBox.new W k m u g o at_ d ks h
  have hB0 : Below W.heap.size W (W.alloc (.cells #[.int .i64 k, .int .i64 m, .int .i64 u, .int .i64 g, .bool o, .slice h.aa at_.length h.ca, .string d, .slice h.ak ks.length h.ck] 25)) := (Below.refl _ _).alloc (Nat.le_refl _) _
  have X1 := NBox.new (W.alloc (.cells #[.int .i64 k, .int .i64 m, .int .i64 u, .int .i64 g, .bool o, .slice h.aa at_.length h.ca, .string d, .slice h.ak ks.length h.ck] 25)) kx mx ux gx ox atx dx ksx hx
  rw [World.size_alloc] at X1
  replace N1 := N1.below ((Below.refl _ (W.alloc (.cells #[.int .i64 k, .int .i64 m, .int .i64 u, .int .i64 g, .bool o, .slice h.aa at_.length h.ca, .string d, .slice h.ak ks.length h.ck] 25))).alloc (Nat.le_refl _) (.cells #[.int .i64 kx, .int .i64 mx, .int .i64 ux, .int .i64 gx, .bool ox, .slice hx.aa atx.length hx.ca, .string dx, .slice hx.ak ksx.length hx.ck] 25))
  have hB : Below W.heap.size W ((W.alloc (.cells #[.int .i64 k, .int .i64 m, .int .i64 u, .int .i64 g, .bool o, .slice h.aa at_.length h.ca, .string d, .slice h.ak ks.length h.ck] 25)).alloc (.cells #[.int .i64 kx, .int .i64 mx, .int .i64 ux, .int .i64 gx, .bool ox, .slice hx.aa atx.length hx.ca, .string dx, .slice hx.ak ksx.length hx.ck] 25)) := hB0.alloc hB0.size _
  clear hB0
  show Calls Try.prog 5 #[.agg #[.int .i64 k, .int .i64 m, .int .i64 u, .int .i64 g, .bool o, .slice h.aa at_.length h.ca, .string d, .slice h.ak ks.length h.ck], .slice a l.length cl, .slice b other.length co, .agg #[.int .i64 kx, .int .i64 mx, .int .i64 ux, .int .i64 gx, .bool ox, .slice hx.aa atx.length hx.ca, .string dx, .slice hx.ak ksx.length hx.ck]] _ _
  go_enter Try.func5, Try.ntmps5
  obtain ⟨y00, y01, y02, y03, y04, y05, y06, y07⟩ := id N1
  obtain ⟨y10, y11, y12, y13, y14, y15, y16, y17⟩ := id X1
  go_wp2_with fail
  refine (Light_any (hN.ab hB)).mono ?_
  rintro e w2 ⟨rfl, c2⟩
  rw [HLN.out]
  clear y00 y01 y02 y03 y04 y05 y06 y07 y10 y11 y12 y13 y14 y15 y16 y17
  replace N1 := N1.below c2
  replace X1 := X1.below c2
  replace hB := hB.trans (c2.mono hB.size)
  clear c2
  go_wp2
  go_ret
  exact ⟨rfl, hB⟩

set_option maxRecDepth 100000 in
set_option maxHeartbeats 2000000 in
theorem toptree_e2 {W : World} {n x : Nd} {h hx : Hd} (hN : NdV W.cell? n h) (hX : NdV W.cell? x hx) (a b : Option Addr) (cl co : Nat) (l other : List ByteArray) (hl1 : 0 < lightF n 80) (hl2 : ¬ 0 < lightF x 80) :
    Calls Try.prog 5 #[ndV n h, .slice a l.length cl, .slice b other.length co, ndV x hx] W fun e W' => e = .returned (.bool true) ∧ Below W.heap.size W W' := by
  have HLN : Hid (decide (0 < lightF n 80) = true) := decide_eq_true hl1
  clear hl1
  have HLX : Hid (decide (0 < lightF x 80) = false) := decide_eq_false hl2
  clear hl2
  obtain ⟨k, m, u, g, o, at_, d, ks⟩ := n
  obtain ⟨kx, mx, ux, gx, ox, atx, dx, ksx⟩ := x
  have N1 := NBox.new W k m u g o at_ d ks h
  have hB0 : Below W.heap.size W (W.alloc (.cells #[.int .i64 k, .int .i64 m, .int .i64 u, .int .i64 g, .bool o, .slice h.aa at_.length h.ca, .string d, .slice h.ak ks.length h.ck] 25)) := (Below.refl _ _).alloc (Nat.le_refl _) _
  have X1 := NBox.new (W.alloc (.cells #[.int .i64 k, .int .i64 m, .int .i64 u, .int .i64 g, .bool o, .slice h.aa at_.length h.ca, .string d, .slice h.ak ks.length h.ck] 25)) kx mx ux gx ox atx dx ksx hx
  rw [World.size_alloc] at X1
  replace N1 := N1.below ((Below.refl _ (W.alloc (.cells #[.int .i64 k, .int .i64 m, .int .i64 u, .int .i64 g, .bool o, .slice h.aa at_.length h.ca, .string d, .slice h.ak ks.length h.ck] 25))).alloc (Nat.le_refl _) (.cells #[.int .i64 kx, .int .i64 mx, .int .i64 ux, .int .i64 gx, .bool ox, .slice hx.aa atx.length hx.ca, .string dx, .slice hx.ak ksx.length hx.ck] 25))
  have hB : Below W.heap.size W ((W.alloc (.cells #[.int .i64 k, .int .i64 m, .int .i64 u, .int .i64 g, .bool o, .slice h.aa at_.length h.ca, .string d, .slice h.ak ks.length h.ck] 25)).alloc (.cells #[.int .i64 kx, .int .i64 mx, .int .i64 ux, .int .i64 gx, .bool ox, .slice hx.aa atx.length hx.ca, .string dx, .slice hx.ak ksx.length hx.ck] 25)) := hB0.alloc hB0.size _
  clear hB0
  show Calls Try.prog 5 #[.agg #[.int .i64 k, .int .i64 m, .int .i64 u, .int .i64 g, .bool o, .slice h.aa at_.length h.ca, .string d, .slice h.ak ks.length h.ck], .slice a l.length cl, .slice b other.length co, .agg #[.int .i64 kx, .int .i64 mx, .int .i64 ux, .int .i64 gx, .bool ox, .slice hx.aa atx.length hx.ca, .string dx, .slice hx.ak ksx.length hx.ck]] _ _
  go_enter Try.func5, Try.ntmps5
  obtain ⟨y00, y01, y02, y03, y04, y05, y06, y07⟩ := id N1
  obtain ⟨y10, y11, y12, y13, y14, y15, y16, y17⟩ := id X1
  go_wp2_with fail
  refine (Light_any (hN.ab hB)).mono ?_
  rintro e w2 ⟨rfl, c2⟩
  rw [HLN.out]
  clear y00 y01 y02 y03 y04 y05 y06 y07 y10 y11 y12 y13 y14 y15 y16 y17
  replace N1 := N1.below c2
  replace X1 := X1.below c2
  replace hB := hB.trans (c2.mono hB.size)
  clear c2
  obtain ⟨y00, y01, y02, y03, y04, y05, y06, y07⟩ := id N1
  obtain ⟨y10, y11, y12, y13, y14, y15, y16, y17⟩ := id X1
  go_wp2_with fail
  refine (Light_any (hX.ab hB)).mono ?_
  rintro e w3 ⟨rfl, c2⟩
  rw [HLX.out]
  clear y00 y01 y02 y03 y04 y05 y06 y07 y10 y11 y12 y13 y14 y15 y16 y17
  replace N1 := N1.below c2
  replace X1 := X1.below c2
  replace hB := hB.trans (c2.mono hB.size)
  clear c2
  go_wp2
  go_ret
  exact ⟨rfl, hB⟩

set_option maxRecDepth 100000 in
set_option maxHeartbeats 2000000 in
theorem toptree_e3 {W : World} {n x : Nd} {h hx : Hd} (hN : NdV W.cell? n h) (hX : NdV W.cell? x hx) (a b : Option Addr) (cl co : Nat) (l other : List ByteArray) (hl1 : 0 < lightF n 80) (hl2 : 0 < lightF x 80) (hll : 8 < l.length) :
    Calls Try.prog 5 #[ndV n h, .slice a l.length cl, .slice b other.length co, ndV x hx] W fun e W' => e = .returned (.bool true) ∧ Below W.heap.size W W' := by
  have HLN : Hid (decide (0 < lightF n 80) = true) := decide_eq_true hl1
  clear hl1
  have HLX : Hid (decide (0 < lightF x 80) = true) := decide_eq_true hl2
  clear hl2
  have d8 : decide (8 < (l.length : Int)) = true := decide_eq_true (by omega)
  obtain ⟨k, m, u, g, o, at_, d, ks⟩ := n
  obtain ⟨kx, mx, ux, gx, ox, atx, dx, ksx⟩ := x
  have N1 := NBox.new W k m u g o at_ d ks h
  have hB0 : Below W.heap.size W (W.alloc (.cells #[.int .i64 k, .int .i64 m, .int .i64 u, .int .i64 g, .bool o, .slice h.aa at_.length h.ca, .string d, .slice h.ak ks.length h.ck] 25)) := (Below.refl _ _).alloc (Nat.le_refl _) _
  have X1 := NBox.new (W.alloc (.cells #[.int .i64 k, .int .i64 m, .int .i64 u, .int .i64 g, .bool o, .slice h.aa at_.length h.ca, .string d, .slice h.ak ks.length h.ck] 25)) kx mx ux gx ox atx dx ksx hx
  rw [World.size_alloc] at X1
  replace N1 := N1.below ((Below.refl _ (W.alloc (.cells #[.int .i64 k, .int .i64 m, .int .i64 u, .int .i64 g, .bool o, .slice h.aa at_.length h.ca, .string d, .slice h.ak ks.length h.ck] 25))).alloc (Nat.le_refl _) (.cells #[.int .i64 kx, .int .i64 mx, .int .i64 ux, .int .i64 gx, .bool ox, .slice hx.aa atx.length hx.ca, .string dx, .slice hx.ak ksx.length hx.ck] 25))
  have hB : Below W.heap.size W ((W.alloc (.cells #[.int .i64 k, .int .i64 m, .int .i64 u, .int .i64 g, .bool o, .slice h.aa at_.length h.ca, .string d, .slice h.ak ks.length h.ck] 25)).alloc (.cells #[.int .i64 kx, .int .i64 mx, .int .i64 ux, .int .i64 gx, .bool ox, .slice hx.aa atx.length hx.ca, .string dx, .slice hx.ak ksx.length hx.ck] 25)) := hB0.alloc hB0.size _
  clear hB0
  show Calls Try.prog 5 #[.agg #[.int .i64 k, .int .i64 m, .int .i64 u, .int .i64 g, .bool o, .slice h.aa at_.length h.ca, .string d, .slice h.ak ks.length h.ck], .slice a l.length cl, .slice b other.length co, .agg #[.int .i64 kx, .int .i64 mx, .int .i64 ux, .int .i64 gx, .bool ox, .slice hx.aa atx.length hx.ca, .string dx, .slice hx.ak ksx.length hx.ck]] _ _
  go_enter Try.func5, Try.ntmps5
  obtain ⟨y00, y01, y02, y03, y04, y05, y06, y07⟩ := id N1
  obtain ⟨y10, y11, y12, y13, y14, y15, y16, y17⟩ := id X1
  go_wp2_with fail
  refine (Light_any (hN.ab hB)).mono ?_
  rintro e w2 ⟨rfl, c2⟩
  rw [HLN.out]
  clear y00 y01 y02 y03 y04 y05 y06 y07 y10 y11 y12 y13 y14 y15 y16 y17
  replace N1 := N1.below c2
  replace X1 := X1.below c2
  replace hB := hB.trans (c2.mono hB.size)
  clear c2
  obtain ⟨y00, y01, y02, y03, y04, y05, y06, y07⟩ := id N1
  obtain ⟨y10, y11, y12, y13, y14, y15, y16, y17⟩ := id X1
  go_wp2_with fail
  refine (Light_any (hX.ab hB)).mono ?_
  rintro e w3 ⟨rfl, c2⟩
  rw [HLX.out]
  clear y00 y01 y02 y03 y04 y05 y06 y07 y10 y11 y12 y13 y14 y15 y16 y17
  replace N1 := N1.below c2
  replace X1 := X1.below c2
  replace hB := hB.trans (c2.mono hB.size)
  clear c2
  go_wp2
  go_ret
  exact ⟨rfl, hB⟩

set_option maxRecDepth 100000 in
set_option maxHeartbeats 2000000 in
theorem toptree_e4 {W : World} {n x : Nd} {h hx : Hd} (hN : NdV W.cell? n h) (hX : NdV W.cell? x hx) (a b : Option Addr) (cl co : Nat) (l other : List ByteArray) (hl1 : 0 < lightF n 80) (hl2 : 0 < lightF x 80) (hll : ¬ 8 < l.length) (hlo : 8 < other.length) :
    Calls Try.prog 5 #[ndV n h, .slice a l.length cl, .slice b other.length co, ndV x hx] W fun e W' => e = .returned (.bool true) ∧ Below W.heap.size W W' := by
  have HLN : Hid (decide (0 < lightF n 80) = true) := decide_eq_true hl1
  clear hl1
  have HLX : Hid (decide (0 < lightF x 80) = true) := decide_eq_true hl2
  clear hl2
  have d8 : decide (8 < (l.length : Int)) = false := decide_eq_false (by omega)
  have d9 : decide (8 < (other.length : Int)) = true := decide_eq_true (by omega)
  obtain ⟨k, m, u, g, o, at_, d, ks⟩ := n
  obtain ⟨kx, mx, ux, gx, ox, atx, dx, ksx⟩ := x
  have N1 := NBox.new W k m u g o at_ d ks h
  have hB0 : Below W.heap.size W (W.alloc (.cells #[.int .i64 k, .int .i64 m, .int .i64 u, .int .i64 g, .bool o, .slice h.aa at_.length h.ca, .string d, .slice h.ak ks.length h.ck] 25)) := (Below.refl _ _).alloc (Nat.le_refl _) _
  have X1 := NBox.new (W.alloc (.cells #[.int .i64 k, .int .i64 m, .int .i64 u, .int .i64 g, .bool o, .slice h.aa at_.length h.ca, .string d, .slice h.ak ks.length h.ck] 25)) kx mx ux gx ox atx dx ksx hx
  rw [World.size_alloc] at X1
  replace N1 := N1.below ((Below.refl _ (W.alloc (.cells #[.int .i64 k, .int .i64 m, .int .i64 u, .int .i64 g, .bool o, .slice h.aa at_.length h.ca, .string d, .slice h.ak ks.length h.ck] 25))).alloc (Nat.le_refl _) (.cells #[.int .i64 kx, .int .i64 mx, .int .i64 ux, .int .i64 gx, .bool ox, .slice hx.aa atx.length hx.ca, .string dx, .slice hx.ak ksx.length hx.ck] 25))
  have hB : Below W.heap.size W ((W.alloc (.cells #[.int .i64 k, .int .i64 m, .int .i64 u, .int .i64 g, .bool o, .slice h.aa at_.length h.ca, .string d, .slice h.ak ks.length h.ck] 25)).alloc (.cells #[.int .i64 kx, .int .i64 mx, .int .i64 ux, .int .i64 gx, .bool ox, .slice hx.aa atx.length hx.ca, .string dx, .slice hx.ak ksx.length hx.ck] 25)) := hB0.alloc hB0.size _
  clear hB0
  show Calls Try.prog 5 #[.agg #[.int .i64 k, .int .i64 m, .int .i64 u, .int .i64 g, .bool o, .slice h.aa at_.length h.ca, .string d, .slice h.ak ks.length h.ck], .slice a l.length cl, .slice b other.length co, .agg #[.int .i64 kx, .int .i64 mx, .int .i64 ux, .int .i64 gx, .bool ox, .slice hx.aa atx.length hx.ca, .string dx, .slice hx.ak ksx.length hx.ck]] _ _
  go_enter Try.func5, Try.ntmps5
  obtain ⟨y00, y01, y02, y03, y04, y05, y06, y07⟩ := id N1
  obtain ⟨y10, y11, y12, y13, y14, y15, y16, y17⟩ := id X1
  go_wp2_with fail
  refine (Light_any (hN.ab hB)).mono ?_
  rintro e w2 ⟨rfl, c2⟩
  rw [HLN.out]
  clear y00 y01 y02 y03 y04 y05 y06 y07 y10 y11 y12 y13 y14 y15 y16 y17
  replace N1 := N1.below c2
  replace X1 := X1.below c2
  replace hB := hB.trans (c2.mono hB.size)
  clear c2
  obtain ⟨y00, y01, y02, y03, y04, y05, y06, y07⟩ := id N1
  obtain ⟨y10, y11, y12, y13, y14, y15, y16, y17⟩ := id X1
  go_wp2_with fail
  refine (Light_any (hX.ab hB)).mono ?_
  rintro e w3 ⟨rfl, c2⟩
  rw [HLX.out]
  clear y00 y01 y02 y03 y04 y05 y06 y07 y10 y11 y12 y13 y14 y15 y16 y17
  replace N1 := N1.below c2
  replace X1 := X1.below c2
  replace hB := hB.trans (c2.mono hB.size)
  clear c2
  go_wp2
  go_ret
  exact ⟨rfl, hB⟩

set_option maxRecDepth 100000 in
set_option maxHeartbeats 2000000 in
theorem toptree_e5 {W : World} {n x : Nd} {h hx : Hd} (hN : NdV W.cell? n h) (hX : NdV W.cell? x hx) (a b : Option Addr) (cl co : Nat) (l other : List ByteArray) (hl1 : 0 < lightF n 80) (hl2 : 0 < lightF x 80) (hll : ¬ 8 < l.length) (hlo : ¬ 8 < other.length) (htf : tfF true n ≠ 0) :
    Calls Try.prog 5 #[ndV n h, .slice a l.length cl, .slice b other.length co, ndV x hx] W fun e W' => e = .returned (.bool true) ∧ Below W.heap.size W W' := by
  obtain ⟨hlil, hcN⟩ := light_lil n 80 hl1
  have hcn : cnt n ≤ 1000 := by omega
  have HTF : Hid (tfF true n ≠ 0) := htf
  clear htf hcN
  have HLN : Hid (decide (0 < lightF n 80) = true) := decide_eq_true hl1
  clear hl1
  have HLX : Hid (decide (0 < lightF x 80) = true) := decide_eq_true hl2
  clear hl2
  have d8 : decide (8 < (l.length : Int)) = false := decide_eq_false (by omega)
  have d9 : decide (8 < (other.length : Int)) = false := decide_eq_false (by omega)
  obtain ⟨k, m, u, g, o, at_, d, ks⟩ := n
  obtain ⟨kx, mx, ux, gx, ox, atx, dx, ksx⟩ := x
  have N1 := NBox.new W k m u g o at_ d ks h
  have hB0 : Below W.heap.size W (W.alloc (.cells #[.int .i64 k, .int .i64 m, .int .i64 u, .int .i64 g, .bool o, .slice h.aa at_.length h.ca, .string d, .slice h.ak ks.length h.ck] 25)) := (Below.refl _ _).alloc (Nat.le_refl _) _
  have X1 := NBox.new (W.alloc (.cells #[.int .i64 k, .int .i64 m, .int .i64 u, .int .i64 g, .bool o, .slice h.aa at_.length h.ca, .string d, .slice h.ak ks.length h.ck] 25)) kx mx ux gx ox atx dx ksx hx
  rw [World.size_alloc] at X1
  replace N1 := N1.below ((Below.refl _ (W.alloc (.cells #[.int .i64 k, .int .i64 m, .int .i64 u, .int .i64 g, .bool o, .slice h.aa at_.length h.ca, .string d, .slice h.ak ks.length h.ck] 25))).alloc (Nat.le_refl _) (.cells #[.int .i64 kx, .int .i64 mx, .int .i64 ux, .int .i64 gx, .bool ox, .slice hx.aa atx.length hx.ca, .string dx, .slice hx.ak ksx.length hx.ck] 25))
  have hB : Below W.heap.size W ((W.alloc (.cells #[.int .i64 k, .int .i64 m, .int .i64 u, .int .i64 g, .bool o, .slice h.aa at_.length h.ca, .string d, .slice h.ak ks.length h.ck] 25)).alloc (.cells #[.int .i64 kx, .int .i64 mx, .int .i64 ux, .int .i64 gx, .bool ox, .slice hx.aa atx.length hx.ca, .string dx, .slice hx.ak ksx.length hx.ck] 25)) := hB0.alloc hB0.size _
  clear hB0
  show Calls Try.prog 5 #[.agg #[.int .i64 k, .int .i64 m, .int .i64 u, .int .i64 g, .bool o, .slice h.aa at_.length h.ca, .string d, .slice h.ak ks.length h.ck], .slice a l.length cl, .slice b other.length co, .agg #[.int .i64 kx, .int .i64 mx, .int .i64 ux, .int .i64 gx, .bool ox, .slice hx.aa atx.length hx.ca, .string dx, .slice hx.ak ksx.length hx.ck]] _ _
  go_enter Try.func5, Try.ntmps5
  obtain ⟨y00, y01, y02, y03, y04, y05, y06, y07⟩ := id N1
  obtain ⟨y10, y11, y12, y13, y14, y15, y16, y17⟩ := id X1
  go_wp2_with fail
  refine (Light_any (hN.ab hB)).mono ?_
  rintro e w2 ⟨rfl, c2⟩
  rw [HLN.out]
  clear y00 y01 y02 y03 y04 y05 y06 y07 y10 y11 y12 y13 y14 y15 y16 y17
  replace N1 := N1.below c2
  replace X1 := X1.below c2
  replace hB := hB.trans (c2.mono hB.size)
  clear c2
  obtain ⟨y00, y01, y02, y03, y04, y05, y06, y07⟩ := id N1
  obtain ⟨y10, y11, y12, y13, y14, y15, y16, y17⟩ := id X1
  go_wp2_with fail
  refine (Light_any (hX.ab hB)).mono ?_
  rintro e w3 ⟨rfl, c2⟩
  rw [HLX.out]
  clear y00 y01 y02 y03 y04 y05 y06 y07 y10 y11 y12 y13 y14 y15 y16 y17
  replace N1 := N1.below c2
  replace X1 := X1.below c2
  replace hB := hB.trans (c2.mono hB.size)
  clear c2
  obtain ⟨y00, y01, y02, y03, y04, y05, y06, y07⟩ := id N1
  obtain ⟨y10, y11, y12, y13, y14, y15, y16, y17⟩ := id X1
  go_wp2_with fail
  refine (tcheck_any true (hN.ab hB) hlil hcn).mono ?_
  rintro e w4 ⟨rfl, c2⟩
  rw [errV_of rfl HTF.out]
  clear y00 y01 y02 y03 y04 y05 y06 y07 y10 y11 y12 y13 y14 y15 y16 y17
  replace hB := hB.trans (c2.mono hB.size)
  clear c2
  go_wp2
  go_ret
  exact ⟨rfl, hB⟩

theorem toptree_any {W : World} {n x : Nd} {h hx : Hd} (hN : NdV W.cell? n h) (hX : NdV W.cell? x hx) (a b : Option Addr) (cl co : Nat) (l other : List ByteArray) (hSl : Strs W.cell? a l) (hSo : Strs W.cell? b other) (hcl : l.length ≤ cl ∧ cl ≤ 9223372036854775807) :
    Calls Try.prog 5 #[ndV n h, .slice a l.length cl, .slice b other.length co, ndV x hx] W fun e W' => e = .returned (.bool true) ∧ Below W.heap.size W W' := by
  by_cases hl1 : 0 < lightF n 80
  rotate_left
  · exact toptree_e1 hN hX a b cl co l other hl1
  by_cases hl2 : 0 < lightF x 80
  rotate_left
  · exact toptree_e2 hN hX a b cl co l other hl1 hl2
  by_cases hll : 8 < l.length
  · exact toptree_e3 hN hX a b cl co l other hl1 hl2 hll
  by_cases hlo : 8 < other.length
  · exact toptree_e4 hN hX a b cl co l other hl1 hl2 hll hlo
  by_cases htf : tfF true n = 0
  rotate_left
  · exact toptree_e5 hN hX a b cl co l other hl1 hl2 hll hlo htf
  cases hu1 : undB l other with
  | true => exact toptree_F hN hX a b cl co l other hSl hSo hcl hl1 hl2 (by omega) (by omega) htf hu1
  | false =>
    cases hu2 : undB other l with
    | true => exact toptree_G hN hX a b cl co l other hSl hSo hcl hl1 hl2 (by omega) (by omega) htf hu1 hu2
    | false => exact toptree_T hN hX a b cl co l other hSl hSo hcl hl1 hl2 (by omega) (by omega) htf hu1 hu2
end Go.Proofs.Ytehcjhdiekfaoab
