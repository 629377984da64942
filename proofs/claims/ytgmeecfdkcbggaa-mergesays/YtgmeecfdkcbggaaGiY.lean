/-
  THE REGION IN WHICH THE DOCUMENT's Flat CALLS ITSELF: each operation.
-/
import Derived.Test.YtgmeecfdkcbggaaGgY
import Derived.Test.YtgmeecfdkcbggaaGdX
namespace Go.Proofs.Ytgmeecfdkcbggaa
open Go.RowKit Go.Shelf
/-- A frame of so many slots. -/
def frm3 (X : Nat → Value) : Array Value := #[X 0, X 1, X 2, X 3, X 4, X 5, X 6, X 7, X 8, X 9, X 10, X 11, X 12, X 13, X 14, X 15, X 16, X 17, X 18, X 19, X 20, X 21, X 22, X 23, X 24, X 25, X 26, X 27, X 28, X 29, X 30, X 31, X 32, X 33, X 34, X 35, X 36, X 37, X 38, X 39, X 40, X 41, X 42, X 43, X 44, X 45, X 46, X 47, X 48, X 49, X 50, X 51, X 52, X 53, X 54, X 55, X 56, X 57, X 58, X 59, X 60, X 61, X 62, X 63, X 64, X 65, X 66, X 67, X 68, X 69, X 70, X 71, X 72, X 73, X 74, X 75]
set_option maxRecDepth 100000 in
theorem frm3_of (A : Array Value) (h : A.size = 76) : A = frm3 (fun i => A.getD i undef) := by
  have e : frm3 (fun i => A.getD i undef) = ((List.range 76).map (fun i => A.getD i undef)).toArray := rfl
  rw [e]
  apply Array.ext
  · simp [h]
  · intro i h1 h2
    simp [Array.getD, h1]
theorem frame_at3 {A : Array Value} {ds : List Deferred} (h : A.size = 76) : ({ tmps := A, defers := ds } : Act) = { tmps := frm3 (fun i => A.getD i undef), defers := ds } := by rw [← frm3_of A h]
/-- A node's box, as it is made. -/
def ZBx (W : World) (xb : Nat) : Prop := W.heap[xb]? = some (.cells #[.int .i64 0, .int .i64 0, .int .i64 0, .int .i64 0, .bool false, .slice none 0 0, .string ⟨#[]⟩, .slice none 0 0] 31 (0, 0))
theorem ZBx.nbw {W : World} {xb : Nat} (h : ZBx W xb) : NBw W xb zN zH := by
  have hc : ∀ j, W.cell? ⟨xb, j, none⟩ = (#[.int .i64 0, .int .i64 0, .int .i64 0, .int .i64 0, .bool false, .slice none 0 0, .string ⟨#[]⟩, .slice none 0 0] : Array Value)[j]? := fun j => by
    have h1 : W.heap[xb]? = some (.cells #[.int .i64 0, .int .i64 0, .int .i64 0, .int .i64 0, .bool false, .slice none 0 0, .string ⟨#[]⟩, .slice none 0 0] 31 (0, 0)) := h
    simp [World.cell?, h1]
  refine ⟨⟨(hc 0).trans rfl, (hc 1).trans rfl, (hc 2).trans rfl, (hc 3).trans rfl, (hc 4).trans rfl, (hc 5).trans rfl, (hc 6).trans rfl, (hc 7).trans rfl⟩, fun j => fro_cells (show W.heap[xb]? = _ from h) j⟩
structure RM (names : List ByteArray) (nm : ByteArray) (v0 : Value) (an : Option Addr) (capn mb lb lo ln lc j : Nat) (rk rm ru rg : Int) (ro : Bool) (ra : List Kv) (rd : ByteArray) (rs : Kds) (b : Bool) (S3 : Nat → Bool) (X0 : Nat → Value) (V : World) (xb : Nat) (hr : Hd) (c0 c1 c2 c3 c4 c5 c6 c7 c8 c9 c10 c11 c12 c13 c14 c15 c16 c17 : Bool) (X : Nat → Value) (W : World) : Prop where
  f0 : c0 = true → X 50 = v0
  f1 : c1 = true → X 51 = .slice an names.length capn
  f3 : c3 = true → X 53 = .slice (some ⟨lb, lo, none⟩) ln lc
  f4 : c4 = true → X 54 = .int .i64 j
  f5 : c5 = true → X 55 = .pointer (some ⟨lb, lo + j, none⟩)
  f6 : c6 = true → X 56 = .string nm
  f9 : c9 = true → X 59 = .agg #[.slice none 0 0, .slice none 0 0]
  f10 : c10 = true → X 60 = .bool false
  f11 : c11 = true → X 61 = .tuple #[.agg #[.int .i64 rk, .int .i64 rm, .int .i64 ru, .int .i64 rg, .bool ro, .slice hr.aa ra.length hr.ca, .string rd, .slice hr.ak rs.length hr.ck], .bool b]
  f12 : c12 = true → X 49 = .tuple #[.agg #[.int .i64 rk, .int .i64 rm, .int .i64 ru, .int .i64 rg, .bool ro, .slice hr.aa ra.length hr.ca, .string rd, .slice hr.ak rs.length hr.ck], .bool b]
  f13 : c13 = true → X 62 = .agg #[.int .i64 rk, .int .i64 rm, .int .i64 ru, .int .i64 rg, .bool ro, .slice hr.aa ra.length hr.ca, .string rd, .slice hr.ak rs.length hr.ck]
  f14 : c14 = true → X 63 = .bool b
  f15 : c15 = true → X 15 = .pointer (some ⟨xb, 0, none⟩)
  q2 : c2 = true → c1 = true
  q5 : c5 = true → c3 = true ∧ c4 = true
  q6 : c6 = true → c5 = true
  q7 : c7 = true → c6 = true
  q8 : c8 = true → c2 = true ∧ c7 = true
  q11 : c11 = true → c0 = true ∧ c8 = true ∧ c9 = true ∧ c10 = true
  q12 : c12 = true → c11 = true
  q13 : c13 = true → c12 = true
  q14 : c14 = true → c12 = true
  q16 : c16 = true → c15 = true ∧ c13 = true
  q17 : c17 = true → c14 = true
  low : Below V.heap.size V W
  p2 : c2 = true → c8 = false → W.ownsRow V.heap.size 9 1 (X 52) (0 + names.length) ([] ++ strL names)
  p7 : c7 = true → c8 = false → ∃ tb, X 57 = .slice (some ⟨tb, 0, none⟩) 1 1 ∧ W.cell? ⟨tb, 0, none⟩ = some (.string nm)
  p8 : c8 = true → c11 = false → W.ownsRow V.heap.size 9 1 (X 58) (0 + names.length + 1) ([] ++ strL names ++ strL [nm])
  pN : c11 = true → NdV (offS W.cell? (fun k => (c15 && k == xb) || S3 k)) (Nd.mk rk rm ru rg ro ra rd rs) hr
  px : c15 = true → V.heap.size ≤ xb ∧ xb < W.heap.size
  pz : c15 = true → c16 = false → ZBx W xb
  pr : c16 = true → NBw W xb (Nd.mk rk rm ru rg ro ra rd rs) hr
  g2 : X 2 = X0 2
  g4 : X 4 = X0 4
  g5 : X 5 = X0 5
  g7 : X 7 = X0 7
  g8 : X 8 = X0 8
  g9 : X 9 = X0 9
  g10 : X 10 = X0 10
  g11 : X 11 = X0 11
  g12 : X 12 = X0 12
  g17 : X 17 = X0 17
  g18 : X 18 = X0 18
  g19 : X 19 = X0 19
  g20 : X 20 = X0 20
  g21 : X 21 = X0 21
  g22 : X 22 = X0 22
  g23 : X 23 = X0 23
  g24 : X 24 = X0 24
  g25 : X 25 = X0 25
  g26 : X 26 = X0 26
  g27 : X 27 = X0 27
  g28 : X 28 = X0 28
  g29 : X 29 = X0 29
  g30 : X 30 = X0 30
  g31 : X 31 = X0 31
  g32 : X 32 = X0 32
  g33 : X 33 = X0 33
  g34 : X 34 = X0 34
  g35 : X 35 = X0 35
  g36 : X 36 = X0 36
  g37 : X 37 = X0 37
  g38 : X 38 = X0 38
  g39 : X 39 = X0 39
  g40 : X 40 = X0 40
  g41 : X 41 = X0 41
  g42 : X 42 = X0 42
  g43 : X 43 = X0 43
  g44 : X 44 = X0 44
  g45 : X 45 = X0 45
  g46 : X 46 = X0 46
  g47 : X 47 = X0 47
  g48 : X 48 = X0 48
  g64 : X 64 = X0 64
  g65 : X 65 = X0 65
  g66 : X 66 = X0 66
  g67 : X 67 = X0 67
  g68 : X 68 = X0 68
  g69 : X 69 = X0 69
  g70 : X 70 = X0 70
  g71 : X 71 = X0 71
  g72 : X 72 = X0 72
  g73 : X 73 = X0 73
  g74 : X 74 = X0 74
  g75 : X 75 = X0 75
def RMI (names : List ByteArray) (nm : ByteArray) (v0 : Value) (an : Option Addr) (capn mb lb lo ln lc j : Nat) (rk rm ru rg : Int) (ro : Bool) (ra : List Kv) (rd : ByteArray) (rs : Kds) (b : Bool) (S3 : Nat → Bool) (X0 : Nat → Value) (V : World) (listed : Array Bool) (a : Act) (W : World) : Prop := ∃ (X : Nat → Value) (xb : Nat) (hr : Hd) (c0 c1 c2 c3 c4 c5 c6 c7 c8 c9 c10 c11 c12 c13 c14 c15 c16 c17 : Bool), a = { tmps := frm3 X, defers := [] } ∧ listed = #[c0, c1, c2, c3, c4, c5, c6, c7, c8, c9, c10, c11, c12, c13, c14, c15, c16, c17] ∧ X 0 = v0 ∧ X 1 = .slice an names.length capn ∧ X 3 = .bool false ∧ X 6 = .pointer (some ⟨mb, 0, none⟩) ∧ X 13 = .slice (some ⟨lb, lo, none⟩) ln lc ∧ X 14 = .int .i64 j ∧ RM names nm v0 an capn mb lb lo ln lc j rk rm ru rg ro ra rd rs b S3 X0 V xb hr c0 c1 c2 c3 c4 c5 c6 c7 c8 c9 c10 c11 c12 c13 c14 c15 c16 c17 X W
set_option maxRecDepth 100000 in
set_option maxHeartbeats 8000000 in
theorem rf12 {names : List ByteArray} {nm : ByteArray} {v0 : Value} {an : Option Addr} {capn mb lb lo ln lc j : Nat} {rk rm ru rg : Int} {ro : Bool} {ra : List Kv} {rd : ByteArray} {rs : Kds} {b : Bool} {S3 : Nat → Bool} {X0 : Nat → Value} {V : World} {Q : Exit → Act → World → Prop} {a0 : Act} {W0 : World} (hV : W0.drew = V) (ha : a0 = { tmps := frm3 X0, defers := [] }) (e0 : X0 0 = v0) (e1 : X0 1 = .slice an names.length capn) (e3 : X0 3 = .bool false) (e6 : X0 6 = .pointer (some ⟨mb, 0, none⟩)) (e13 : X0 13 = .slice (some ⟨lb, lo, none⟩) ln lc) (e14 : X0 14 = .int .i64 j)
    (hnames : (an = none ∧ names.length = 0) ∨ ∃ ad, an = some ad ∧ ∀ j u, (strL names)[j]? = some u → V.cell? (ad.add j) = some u) (hnl : names.length ≤ 900) (_hln : ln ≤ 1000) (hj : j < ln) (hl : V.cell? ⟨lb, lo + j, none⟩ = some (.string nm)) (hm0 : V.cell? ⟨mb, 0, none⟩ = some (.slice none 0 0)) (hm1 : V.cell? ⟨mb, 1, none⟩ = some (.slice none 0 0)) (hS3 : ∀ k, S3 k = true → k < V.heap.size)
    (hC : ∀ (w' : World) (S' : Nat → Bool) (da : Option Addr) (dc : Nat), Below V.heap.size V w' → (∀ k, S' k = true → k < w'.heap.size) → (∀ k, k < V.heap.size → S3 k = false → S' k = false) → Strs w'.cell? da (names ++ [nm]) → names.length + 1 ≤ dc → dc ≤ 9223372036854775807 → Calls Try.prog 18 #[v0, .slice da (names.length + 1) dc, .agg #[.slice none 0 0, .slice none 0 0], .bool false] w' fun e W' => (∃ hr : Hd, e = .returned (.tuple #[.agg #[.int .i64 rk, .int .i64 rm, .int .i64 ru, .int .i64 rg, .bool ro, .slice hr.aa ra.length hr.ca, .string rd, .slice hr.ak rs.length hr.ck], .bool b]) ∧ NdV (offS W'.cell? S') (Nd.mk rk rm ru rg ro ra rd rs) hr) ∧ Below w'.heap.size w' W')
    (hQ : ∀ (X : Nat → Value) (W : World) (xb : Nat) (hr : Hd), NBw W xb (Nd.mk rk rm ru rg ro ra rd rs) hr → NdV (offS W.cell? (fun k => (true && k == xb) || S3 k)) (Nd.mk rk rm ru rg ro ra rd rs) hr → V.heap.size ≤ xb → Below V.heap.size V W → X 15 = .pointer (some ⟨xb, 0, none⟩) → X 0 = v0 → X 1 = .slice an names.length capn → X 3 = .bool false → X 6 = .pointer (some ⟨mb, 0, none⟩) → X 13 = .slice (some ⟨lb, lo, none⟩) ln lc → X 14 = .int .i64 j → X 2 = X0 2 → X 4 = X0 4 → X 5 = X0 5 → X 7 = X0 7 → X 8 = X0 8 → X 9 = X0 9 → X 10 = X0 10 → X 11 = X0 11 → X 12 = X0 12 → X 17 = X0 17 → X 18 = X0 18 → X 19 = X0 19 → X 20 = X0 20 → X 21 = X0 21 → X 22 = X0 22 → X 23 = X0 23 → X 24 = X0 24 → X 25 = X0 25 → X 26 = X0 26 → X 27 = X0 27 → X 28 = X0 28 → X 29 = X0 29 → X 30 = X0 30 → X 31 = X0 31 → X 32 = X0 32 → X 33 = X0 33 → X 34 = X0 34 → X 35 = X0 35 → X 36 = X0 36 → X 37 = X0 37 → X 38 = X0 38 → X 39 = X0 39 → X 40 = X0 40 → X 41 = X0 41 → X 42 = X0 42 → X 43 = X0 43 → X 44 = X0 44 → X 45 = X0 45 → X 46 = X0 46 → X 47 = X0 47 → X 48 = X0 48 → X 64 = X0 64 → X 65 = X0 65 → X 66 = X0 66 → X 67 = X0 67 → X 68 = X0 68 → X 69 = X0 69 → X 70 = X0 70 → X 71 = X0 71 → X 72 = X0 72 → X 73 = X0 73 → X 74 = X0 74 → X 75 = X0 75 → Q .normal { tmps := frm3 X, defers := [] } W) :
    (Code.region 12 #[{ dst := some 50, op := Op.move (Operand.tmp 0), type := 22, pos := "parts.go:794", after := #[], guard := none }, { dst := some 51, op := Op.move (Operand.tmp 1), type := 23, pos := "parts.go:794", after := #[], guard := none }, { dst := some 52, op := Op.call { callee := Callee.builtin Builtin.append, args := #[Operand.const (Value.slice none 0 0), Operand.tmp 51], argTypes := #[23, 23] }, type := 23, pos := "parts.go:794", after := #[{ on := 1, ground := Ground.data }], guard := none }, { dst := some 53, op := Op.move (Operand.tmp 13), type := 23, pos := "parts.go:794", after := #[], guard := none }, { dst := some 54, op := Op.move (Operand.tmp 14), type := 3, pos := "parts.go:794", after := #[], guard := none }, { dst := some 55, op := Op.indexAddr 23 (Operand.tmp 53) (Operand.tmp 54), type := 0, pos := "parts.go:794", after := #[{ on := 3, ground := Ground.data }, { on := 4, ground := Ground.data }], guard := none }, { dst := some 56, op := Op.load 9 (Operand.tmp 55), type := 9, pos := "parts.go:794", after := #[{ on := 5, ground := Ground.data }], guard := none }, { dst := some 57, op := Op.buildSlice 23 1 #[(0, Operand.tmp 56)], type := 23, pos := "parts.go:794", after := #[{ on := 6, ground := Ground.data }], guard := none }, { dst := some 58, op := Op.call { callee := Callee.builtin Builtin.append, args := #[Operand.tmp 52, Operand.tmp 57], argTypes := #[23, 23] }, type := 23, pos := "parts.go:794", after := #[{ on := 2, ground := Ground.data }, { on := 7, ground := Ground.data }, { on := 2, ground := Ground.chain }], guard := none }, { dst := some 59, op := Op.load 43 (Operand.tmp 6), type := 43, pos := "parts.go:794", after := #[], guard := none }, { dst := some 60, op := Op.move (Operand.tmp 3), type := 4, pos := "parts.go:794", after := #[], guard := none }, { dst := some 61, op := Op.call { callee := Callee.value (Operand.func 18), args := #[Operand.tmp 50, Operand.tmp 58, Operand.tmp 59, Operand.tmp 60], argTypes := #[22, 23, 43, 4] }, type := 38, pos := "parts.go:794", after := #[{ on := 0, ground := Ground.data }, { on := 8, ground := Ground.data }, { on := 9, ground := Ground.data }, { on := 10, ground := Ground.data }, { on := 8, ground := Ground.chain }], guard := none }, { dst := some 49, op := Op.move (Operand.tmp 61), type := 38, pos := "parts.go:794", after := #[{ on := 11, ground := Ground.data }], guard := none }, { dst := some 62, op := Op.extract (Operand.tmp 49) 0, type := 31, pos := "parts.go:794", after := #[{ on := 12, ground := Ground.data }], guard := none }, { dst := some 63, op := Op.extract (Operand.tmp 49) 1, type := 4, pos := "parts.go:794", after := #[{ on := 12, ground := Ground.data }, { on := 16, ground := Ground.gcOnly Departure.lateStores }], guard := none }, { dst := some 15, op := Op.alloc 31, type := 0, pos := "parts.go:794", after := #[], guard := none }, { dst := none, op := Op.store 31 (Operand.tmp 15) (Operand.tmp 62), type := 0, pos := "parts.go:794", after := #[{ on := 15, ground := Ground.data }, { on := 13, ground := Ground.data }, { on := 11, ground := Ground.chain }, { on := 0, ground := Ground.phase }, { on := 1, ground := Ground.phase }, { on := 2, ground := Ground.phase }, { on := 3, ground := Ground.phase }, { on := 4, ground := Ground.phase }, { on := 5, ground := Ground.phase }, { on := 6, ground := Ground.phase }, { on := 7, ground := Ground.phase }, { on := 8, ground := Ground.phase }, { on := 9, ground := Ground.phase }, { on := 10, ground := Ground.phase }, { on := 11, ground := Ground.phase }, { on := 12, ground := Ground.phase }, { on := 13, ground := Ground.phase }, { on := 14, ground := Ground.textOnly Departure.lateStores }, { on := 15, ground := Ground.phase }], guard := none }, { dst := some 16, op := Op.assign (Operand.tmp 63), type := 4, pos := "parts.go:794", after := #[{ on := 14, ground := Ground.data }, { on := 16, ground := Ground.chain }, { on := 0, ground := Ground.phase }, { on := 1, ground := Ground.phase }, { on := 2, ground := Ground.phase }, { on := 3, ground := Ground.phase }, { on := 4, ground := Ground.phase }, { on := 5, ground := Ground.phase }, { on := 6, ground := Ground.phase }, { on := 7, ground := Ground.phase }, { on := 8, ground := Ground.phase }, { on := 9, ground := Ground.phase }, { on := 10, ground := Ground.phase }, { on := 11, ground := Ground.phase }, { on := 12, ground := Ground.phase }, { on := 13, ground := Ground.phase }, { on := 14, ground := Ground.phase }, { on := 15, ground := Ground.phase }, { on := 16, ground := Ground.phase }], guard := none }] true).wp Try.prog Q a0 W0 := by
  obtain ⟨i0, hi0, hi1, hi2, hi3⟩ := info_three Try.infoStr
  have HI0 : Hid _ := hi0
  have HI1 : Hid _ := hi1
  have HI2 : Hid _ := hi2
  have HI3 : Hid _ := hi3
  have HQ : Hid _ := hQ
  have HC : Hid _ := hC
  have HNS : Hid _ := hnames
  have HL : Hid _ := hl
  have HM0 : Hid _ := hm0
  have HM1 : Hid _ := hm1
  have HS3 : Hid _ := hS3
  clear hi0 hi1 hi2 hi3 hQ hC hnames hl hm0 hm1 hS3
  refine wp_region_any (by first | assumption | rfl | kernel_rfl) ?_
  refine any_kept (RMI names nm v0 an capn mb lb lo ln lc j rk rm ru rg ro ra rd rs b S3 X0 V) ?step ?fin _ _ _ _ ?le ?init
  case le => decide
  case init =>
    refine ⟨X0, 0, zH, false, false, false, false, false, false, false, false, false, false, false, false, false, false, false, false, false, false, ha, rfl, e0, e1, e3, e6, e13, e14, ?_⟩
    have hlow : Below V.heap.size V W0.drew := by rw [hV]; exact Below.refl _ _
    exact ⟨(fun e => by cases e), (fun e => by cases e), (fun e => by cases e), (fun e => by cases e), (fun e => by cases e), (fun e => by cases e), (fun e => by cases e), (fun e => by cases e), (fun e => by cases e), (fun e => by cases e), (fun e => by cases e), (fun e => by cases e), (fun e => by cases e), (fun e => by cases e), (fun e => by cases e), (fun e => by cases e), (fun e => by cases e), (fun e => by cases e), (fun e => by cases e), (fun e => by cases e), (fun e => by cases e), (fun e => by cases e), (fun e => by cases e), (fun e => by cases e), hlow, (fun e => by cases e), (fun e => by cases e), (fun e => by cases e), (fun e => by cases e), (fun e => by cases e), (fun e => by cases e), (fun e => by cases e), rfl, rfl, rfl, rfl, rfl, rfl, rfl, rfl, rfl, rfl, rfl, rfl, rfl, rfl, rfl, rfl, rfl, rfl, rfl, rfl, rfl, rfl, rfl, rfl, rfl, rfl, rfl, rfl, rfl, rfl, rfl, rfl, rfl, rfl, rfl, rfl, rfl, rfl, rfl, rfl, rfl, rfl, rfl, rfl, rfl, rfl, rfl, rfl, rfl, rfl, rfl, rfl, rfl⟩
  case fin =>
    clear ha e0 e1 e3 e6 e13 e14 hV
    rintro listed a W ⟨X, xb, hr, c0, c1, c2, c3, c4, c5, c6, c7, c8, c9, c10, c11, c12, c13, c14, c15, c16, c17, rfl, rfl, e0, e1, e3, e6, e13, e14, h⟩ hrd
    have kk : ∀ j, (#[c0, c1, c2, c3, c4, c5, c6, c7, c8, c9, c10, c11, c12, c13, c14, c15, c16, c17] : Array Bool).getD j true = false → ∀ o, (#[{ dst := some 50, op := Op.move (Operand.tmp 0), type := 22, pos := "parts.go:794", after := #[], guard := none }, { dst := some 51, op := Op.move (Operand.tmp 1), type := 23, pos := "parts.go:794", after := #[], guard := none }, { dst := some 52, op := Op.call { callee := Callee.builtin Builtin.append, args := #[Operand.const (Value.slice none 0 0), Operand.tmp 51], argTypes := #[23, 23] }, type := 23, pos := "parts.go:794", after := #[{ on := 1, ground := Ground.data }], guard := none }, { dst := some 53, op := Op.move (Operand.tmp 13), type := 23, pos := "parts.go:794", after := #[], guard := none }, { dst := some 54, op := Op.move (Operand.tmp 14), type := 3, pos := "parts.go:794", after := #[], guard := none }, { dst := some 55, op := Op.indexAddr 23 (Operand.tmp 53) (Operand.tmp 54), type := 0, pos := "parts.go:794", after := #[{ on := 3, ground := Ground.data }, { on := 4, ground := Ground.data }], guard := none }, { dst := some 56, op := Op.load 9 (Operand.tmp 55), type := 9, pos := "parts.go:794", after := #[{ on := 5, ground := Ground.data }], guard := none }, { dst := some 57, op := Op.buildSlice 23 1 #[(0, Operand.tmp 56)], type := 23, pos := "parts.go:794", after := #[{ on := 6, ground := Ground.data }], guard := none }, { dst := some 58, op := Op.call { callee := Callee.builtin Builtin.append, args := #[Operand.tmp 52, Operand.tmp 57], argTypes := #[23, 23] }, type := 23, pos := "parts.go:794", after := #[{ on := 2, ground := Ground.data }, { on := 7, ground := Ground.data }, { on := 2, ground := Ground.chain }], guard := none }, { dst := some 59, op := Op.load 43 (Operand.tmp 6), type := 43, pos := "parts.go:794", after := #[], guard := none }, { dst := some 60, op := Op.move (Operand.tmp 3), type := 4, pos := "parts.go:794", after := #[], guard := none }, { dst := some 61, op := Op.call { callee := Callee.value (Operand.func 18), args := #[Operand.tmp 50, Operand.tmp 58, Operand.tmp 59, Operand.tmp 60], argTypes := #[22, 23, 43, 4] }, type := 38, pos := "parts.go:794", after := #[{ on := 0, ground := Ground.data }, { on := 8, ground := Ground.data }, { on := 9, ground := Ground.data }, { on := 10, ground := Ground.data }, { on := 8, ground := Ground.chain }], guard := none }, { dst := some 49, op := Op.move (Operand.tmp 61), type := 38, pos := "parts.go:794", after := #[{ on := 11, ground := Ground.data }], guard := none }, { dst := some 62, op := Op.extract (Operand.tmp 49) 0, type := 31, pos := "parts.go:794", after := #[{ on := 12, ground := Ground.data }], guard := none }, { dst := some 63, op := Op.extract (Operand.tmp 49) 1, type := 4, pos := "parts.go:794", after := #[{ on := 12, ground := Ground.data }, { on := 16, ground := Ground.gcOnly Departure.lateStores }], guard := none }, { dst := some 15, op := Op.alloc 31, type := 0, pos := "parts.go:794", after := #[], guard := none }, { dst := none, op := Op.store 31 (Operand.tmp 15) (Operand.tmp 62), type := 0, pos := "parts.go:794", after := #[{ on := 15, ground := Ground.data }, { on := 13, ground := Ground.data }, { on := 11, ground := Ground.chain }, { on := 0, ground := Ground.phase }, { on := 1, ground := Ground.phase }, { on := 2, ground := Ground.phase }, { on := 3, ground := Ground.phase }, { on := 4, ground := Ground.phase }, { on := 5, ground := Ground.phase }, { on := 6, ground := Ground.phase }, { on := 7, ground := Ground.phase }, { on := 8, ground := Ground.phase }, { on := 9, ground := Ground.phase }, { on := 10, ground := Ground.phase }, { on := 11, ground := Ground.phase }, { on := 12, ground := Ground.phase }, { on := 13, ground := Ground.phase }, { on := 14, ground := Ground.textOnly Departure.lateStores }, { on := 15, ground := Ground.phase }], guard := none }, { dst := some 16, op := Op.assign (Operand.tmp 63), type := 4, pos := "parts.go:794", after := #[{ on := 14, ground := Ground.data }, { on := 16, ground := Ground.chain }, { on := 0, ground := Ground.phase }, { on := 1, ground := Ground.phase }, { on := 2, ground := Ground.phase }, { on := 3, ground := Ground.phase }, { on := 4, ground := Ground.phase }, { on := 5, ground := Ground.phase }, { on := 6, ground := Ground.phase }, { on := 7, ground := Ground.phase }, { on := 8, ground := Ground.phase }, { on := 9, ground := Ground.phase }, { on := 10, ground := Ground.phase }, { on := 11, ground := Ground.phase }, { on := 12, ground := Ground.phase }, { on := 13, ground := Ground.phase }, { on := 14, ground := Ground.phase }, { on := 15, ground := Ground.phase }, { on := 16, ground := Ground.phase }], guard := none }] : Array Oper)[j]? = some o → (∀ e ∈ o.after, Region.binds .any e = true → (#[c0, c1, c2, c3, c4, c5, c6, c7, c8, c9, c10, c11, c12, c13, c14, c15, c16, c17] : Array Bool).getD e.on false = true) → False := fun j h1 o h2 h3 => by
      have := (mem_ready (md := .any)).2 ⟨h1, o, h2, h3⟩
      rw [hrd] at this
      cases this
    have d0 : c0 = true := by
      cases e : c0 with
      | true => rfl
      | false => exact (kk 0 (by simp [e]) _ rfl (by simp [Region.binds])).elim
    have d1 : c1 = true := by
      cases e : c1 with
      | true => rfl
      | false => exact (kk 1 (by simp [e]) _ rfl (by simp [Region.binds, d0])).elim
    have d2 : c2 = true := by
      cases e : c2 with
      | true => rfl
      | false => exact (kk 2 (by simp [e]) _ rfl (by simp [Region.binds, d0, d1])).elim
    have d3 : c3 = true := by
      cases e : c3 with
      | true => rfl
      | false => exact (kk 3 (by simp [e]) _ rfl (by simp [Region.binds, d0, d1, d2])).elim
    have d4 : c4 = true := by
      cases e : c4 with
      | true => rfl
      | false => exact (kk 4 (by simp [e]) _ rfl (by simp [Region.binds, d0, d1, d2, d3])).elim
    have d5 : c5 = true := by
      cases e : c5 with
      | true => rfl
      | false => exact (kk 5 (by simp [e]) _ rfl (by simp [Region.binds, d0, d1, d2, d3, d4])).elim
    have d6 : c6 = true := by
      cases e : c6 with
      | true => rfl
      | false => exact (kk 6 (by simp [e]) _ rfl (by simp [Region.binds, d0, d1, d2, d3, d4, d5])).elim
    have d7 : c7 = true := by
      cases e : c7 with
      | true => rfl
      | false => exact (kk 7 (by simp [e]) _ rfl (by simp [Region.binds, d0, d1, d2, d3, d4, d5, d6])).elim
    have d8 : c8 = true := by
      cases e : c8 with
      | true => rfl
      | false => exact (kk 8 (by simp [e]) _ rfl (by simp [Region.binds, d0, d1, d2, d3, d4, d5, d6, d7])).elim
    have d9 : c9 = true := by
      cases e : c9 with
      | true => rfl
      | false => exact (kk 9 (by simp [e]) _ rfl (by simp [Region.binds, d0, d1, d2, d3, d4, d5, d6, d7, d8])).elim
    have d10 : c10 = true := by
      cases e : c10 with
      | true => rfl
      | false => exact (kk 10 (by simp [e]) _ rfl (by simp [Region.binds, d0, d1, d2, d3, d4, d5, d6, d7, d8, d9])).elim
    have d11 : c11 = true := by
      cases e : c11 with
      | true => rfl
      | false => exact (kk 11 (by simp [e]) _ rfl (by simp [Region.binds, d0, d1, d2, d3, d4, d5, d6, d7, d8, d9, d10])).elim
    have d12 : c12 = true := by
      cases e : c12 with
      | true => rfl
      | false => exact (kk 12 (by simp [e]) _ rfl (by simp [Region.binds, d0, d1, d2, d3, d4, d5, d6, d7, d8, d9, d10, d11])).elim
    have d13 : c13 = true := by
      cases e : c13 with
      | true => rfl
      | false => exact (kk 13 (by simp [e]) _ rfl (by simp [Region.binds, d0, d1, d2, d3, d4, d5, d6, d7, d8, d9, d10, d11, d12])).elim
    have d14 : c14 = true := by
      cases e : c14 with
      | true => rfl
      | false => exact (kk 14 (by simp [e]) _ rfl (by simp [Region.binds, d0, d1, d2, d3, d4, d5, d6, d7, d8, d9, d10, d11, d12, d13])).elim
    have d15 : c15 = true := by
      cases e : c15 with
      | true => rfl
      | false => exact (kk 15 (by simp [e]) _ rfl (by simp [Region.binds, d0, d1, d2, d3, d4, d5, d6, d7, d8, d9, d10, d11, d12, d13, d14])).elim
    have d16 : c16 = true := by
      cases e : c16 with
      | true => rfl
      | false => exact (kk 16 (by simp [e]) _ rfl (by simp [Region.binds, d0, d1, d2, d3, d4, d5, d6, d7, d8, d9, d10, d11, d12, d13, d14, d15])).elim
    have d17 : c17 = true := by
      cases e : c17 with
      | true => rfl
      | false => exact (kk 17 (by simp [e]) _ rfl (by simp [Region.binds, d0, d1, d2, d3, d4, d5, d6, d7, d8, d9, d10, d11, d12, d13, d14, d15, d16])).elim
    have hN := h.pN d11
    rw [d15] at hN
    exact HQ.out _ _ _ _ (h.pr d16) hN (h.px d15).1 h.low (h.f15 d15) e0 e1 e3 e6 e13 e14 h.g2 h.g4 h.g5 h.g7 h.g8 h.g9 h.g10 h.g11 h.g12 h.g17 h.g18 h.g19 h.g20 h.g21 h.g22 h.g23 h.g24 h.g25 h.g26 h.g27 h.g28 h.g29 h.g30 h.g31 h.g32 h.g33 h.g34 h.g35 h.g36 h.g37 h.g38 h.g39 h.g40 h.g41 h.g42 h.g43 h.g44 h.g45 h.g46 h.g47 h.g48 h.g64 h.g65 h.g66 h.g67 h.g68 h.g69 h.g70 h.g71 h.g72 h.g73 h.g74 h.g75
  case step =>
    clear ha e0 e1 e3 e6 e13 e14 hV
    rintro listed a W jj ⟨X, xb, hr, c0, c1, c2, c3, c4, c5, c6, c7, c8, c9, c10, c11, c12, c13, c14, c15, c16, c17, rfl, rfl, e0, e1, e3, e6, e13, e14, h⟩ hjj
    obtain ⟨hu, o, ho, hd⟩ := mem_ready.1 hjj
    have hlt : jj < 18 := (Array.getElem?_eq_some_iff.1 ho).1
    clear hjj
    obtain rfl | rfl | rfl | rfl | rfl | rfl | rfl | rfl | rfl | rfl | rfl | rfl | rfl | rfl | rfl | rfl | rfl | rfl : jj = 0 ∨ jj = 1 ∨ jj = 2 ∨ jj = 3 ∨ jj = 4 ∨ jj = 5 ∨ jj = 6 ∨ jj = 7 ∨ jj = 8 ∨ jj = 9 ∨ jj = 10 ∨ jj = 11 ∨ jj = 12 ∨ jj = 13 ∨ jj = 14 ∨ jj = 15 ∨ jj = 16 ∨ jj = 17 := by omega
    · have ho2 := ho
      simp at ho; subst ho
      simp [Region.binds] at hd hu
      subst hu
      refine opP_of ho2 rfl ?_
      simp only [frm3, e0]
      go_simp
      exact ⟨_, xb, hr, _, _, _, _, _, _, _, _, _, _, _, _, _, _, _, _, _, _, frame_at3 rfl, rfl, rfl, rfl, rfl, rfl, rfl, rfl, ⟨(fun _ => rfl), h.f1, h.f3, h.f4, h.f5, h.f6, h.f9, h.f10, h.f11, h.f12, h.f13, h.f14, h.f15, h.q2, h.q5, h.q6, h.q7, h.q8, (fun e => ⟨rfl, (h.q11 e).2.1, (h.q11 e).2.2.1, (h.q11 e).2.2.2⟩), h.q12, h.q13, h.q14, h.q16, h.q17, h.low, h.p2, h.p7, h.p8, h.pN, h.px, h.pz, h.pr, h.g2, h.g4, h.g5, h.g7, h.g8, h.g9, h.g10, h.g11, h.g12, h.g17, h.g18, h.g19, h.g20, h.g21, h.g22, h.g23, h.g24, h.g25, h.g26, h.g27, h.g28, h.g29, h.g30, h.g31, h.g32, h.g33, h.g34, h.g35, h.g36, h.g37, h.g38, h.g39, h.g40, h.g41, h.g42, h.g43, h.g44, h.g45, h.g46, h.g47, h.g48, h.g64, h.g65, h.g66, h.g67, h.g68, h.g69, h.g70, h.g71, h.g72, h.g73, h.g74, h.g75⟩⟩
    · have ho2 := ho
      simp at ho; subst ho
      simp [Region.binds] at hd hu
      subst hu
      refine opP_of ho2 rfl ?_
      simp only [frm3, e1]
      go_simp
      exact ⟨_, xb, hr, _, _, _, _, _, _, _, _, _, _, _, _, _, _, _, _, _, _, frame_at3 rfl, rfl, rfl, rfl, rfl, rfl, rfl, rfl, ⟨h.f0, (fun _ => rfl), h.f3, h.f4, h.f5, h.f6, h.f9, h.f10, h.f11, h.f12, h.f13, h.f14, h.f15, (fun _ => rfl), h.q5, h.q6, h.q7, h.q8, h.q11, h.q12, h.q13, h.q14, h.q16, h.q17, h.low, h.p2, h.p7, h.p8, h.pN, h.px, h.pz, h.pr, h.g2, h.g4, h.g5, h.g7, h.g8, h.g9, h.g10, h.g11, h.g12, h.g17, h.g18, h.g19, h.g20, h.g21, h.g22, h.g23, h.g24, h.g25, h.g26, h.g27, h.g28, h.g29, h.g30, h.g31, h.g32, h.g33, h.g34, h.g35, h.g36, h.g37, h.g38, h.g39, h.g40, h.g41, h.g42, h.g43, h.g44, h.g45, h.g46, h.g47, h.g48, h.g64, h.g65, h.g66, h.g67, h.g68, h.g69, h.g70, h.g71, h.g72, h.g73, h.g74, h.g75⟩⟩
    · have ho2 := ho
      simp at ho; subst ho
      simp [Region.binds] at hd hu
      subst hu
      obtain rfl : c1 = true := by simp [hd]
      have x1 := h.f1 rfl
      have c8f : c8 = false := by cases e : c8 with | false => rfl | true => cases (h.q8 e).1
      subst c8f
      have c11f : c11 = false := by cases e : c11 with | false => rfl | true => cases (h.q11 e).2.1
      subst c11f
      refine opP_of ho2 rfl (wp_append_src W (.const (.slice none 0 0)) (.tmp 51) 23 rfl V.heap.size 9 i0 (.string ⟨#[]⟩) 1 16 Try.underlying23 HI0.out HI1.out HI2.out HI3.out rfl (by decide) (.slice none 0 0) 0 [] rfl (World.ownsRow_nil _ _ _ _) an names.length capn (strL names) x1 (by rw [strL_len, Nat.mul_one]) (HNS.out.imp id fun ⟨ad, e, hc⟩ => ⟨ad, e, fun j u hj => mle_below h.low _ _ (hc j u hj)⟩) (strL_one _) (by unfold maxLen; omega) (by omega) h.low.size ?_)
      intro v' w' ho1 hg1 hh1
      have hbl := grown_noneG hg1
      simp only [frm3]
      exact ⟨_, xb, hr, _, _, _, _, _, _, _, _, _, _, _, _, _, _, _, _, _, _, frame_at3 rfl, rfl, e0, e1, e3, e6, e13, e14, ⟨h.f0, (h.f1), h.f3, h.f4, h.f5, h.f6, h.f9, h.f10, h.f11, h.f12, h.f13, h.f14, h.f15, (fun _ => rfl), h.q5, h.q6, h.q7, (fun e => ⟨rfl, (h.q8 e).2⟩), h.q11, h.q12, h.q13, h.q14, h.q16, h.q17, (h.low.trans (hbl.mono h.low.size)), (fun _ _ => ho1), (fun e e2 => by obtain ⟨tb, t1, t2⟩ := h.p7 e e2; exact ⟨tb, t1, mle_below hbl _ _ t2⟩), (fun e => by cases e), (fun e => by cases e), (fun e => ⟨(h.px e).1, Nat.lt_of_lt_of_le (h.px e).2 hbl.size⟩), (fun e e2 => (hbl.block xb (h.px e).2).trans (h.pz e e2)), (fun e => absurd (h.q13 (h.q16 e).2) (fun e3 => by have e4 := h.q12 e3; cases e4)), h.g2, h.g4, h.g5, h.g7, h.g8, h.g9, h.g10, h.g11, h.g12, h.g17, h.g18, h.g19, h.g20, h.g21, h.g22, h.g23, h.g24, h.g25, h.g26, h.g27, h.g28, h.g29, h.g30, h.g31, h.g32, h.g33, h.g34, h.g35, h.g36, h.g37, h.g38, h.g39, h.g40, h.g41, h.g42, h.g43, h.g44, h.g45, h.g46, h.g47, h.g48, h.g64, h.g65, h.g66, h.g67, h.g68, h.g69, h.g70, h.g71, h.g72, h.g73, h.g74, h.g75⟩⟩
    · have ho2 := ho
      simp at ho; subst ho
      simp [Region.binds] at hd hu
      subst hu
      refine opP_of ho2 rfl ?_
      simp only [frm3, e13]
      go_simp
      exact ⟨_, xb, hr, _, _, _, _, _, _, _, _, _, _, _, _, _, _, _, _, _, _, frame_at3 rfl, rfl, rfl, rfl, rfl, rfl, rfl, rfl, ⟨h.f0, h.f1, (fun _ => rfl), h.f4, h.f5, h.f6, h.f9, h.f10, h.f11, h.f12, h.f13, h.f14, h.f15, h.q2, (fun e => ⟨rfl, (h.q5 e).2⟩), h.q6, h.q7, h.q8, h.q11, h.q12, h.q13, h.q14, h.q16, h.q17, h.low, h.p2, h.p7, h.p8, h.pN, h.px, h.pz, h.pr, h.g2, h.g4, h.g5, h.g7, h.g8, h.g9, h.g10, h.g11, h.g12, h.g17, h.g18, h.g19, h.g20, h.g21, h.g22, h.g23, h.g24, h.g25, h.g26, h.g27, h.g28, h.g29, h.g30, h.g31, h.g32, h.g33, h.g34, h.g35, h.g36, h.g37, h.g38, h.g39, h.g40, h.g41, h.g42, h.g43, h.g44, h.g45, h.g46, h.g47, h.g48, h.g64, h.g65, h.g66, h.g67, h.g68, h.g69, h.g70, h.g71, h.g72, h.g73, h.g74, h.g75⟩⟩
    · have ho2 := ho
      simp at ho; subst ho
      simp [Region.binds] at hd hu
      subst hu
      refine opP_of ho2 rfl ?_
      simp only [frm3, e14]
      go_simp
      exact ⟨_, xb, hr, _, _, _, _, _, _, _, _, _, _, _, _, _, _, _, _, _, _, frame_at3 rfl, rfl, rfl, rfl, rfl, rfl, rfl, rfl, ⟨h.f0, h.f1, h.f3, (fun _ => rfl), h.f5, h.f6, h.f9, h.f10, h.f11, h.f12, h.f13, h.f14, h.f15, h.q2, (fun e => ⟨(h.q5 e).1, rfl⟩), h.q6, h.q7, h.q8, h.q11, h.q12, h.q13, h.q14, h.q16, h.q17, h.low, h.p2, h.p7, h.p8, h.pN, h.px, h.pz, h.pr, h.g2, h.g4, h.g5, h.g7, h.g8, h.g9, h.g10, h.g11, h.g12, h.g17, h.g18, h.g19, h.g20, h.g21, h.g22, h.g23, h.g24, h.g25, h.g26, h.g27, h.g28, h.g29, h.g30, h.g31, h.g32, h.g33, h.g34, h.g35, h.g36, h.g37, h.g38, h.g39, h.g40, h.g41, h.g42, h.g43, h.g44, h.g45, h.g46, h.g47, h.g48, h.g64, h.g65, h.g66, h.g67, h.g68, h.g69, h.g70, h.g71, h.g72, h.g73, h.g74, h.g75⟩⟩
    · have ho2 := ho
      simp at ho; subst ho
      simp [Region.binds] at hd hu
      subst hu
      obtain ⟨rfl, rfl⟩ : c3 = true ∧ c4 = true := by simp [hd]
      have x3 := h.f3 rfl
      have x4 := h.f4 rfl
      have hi1 : (0 : Int) ≤ (j : Int) := by omega
      have hi2 : (j : Int) < (ln : Int) := by omega
      have hi3 : (j : Int).toNat = j := by omega
      refine opP_of ho2 rfl ?_
      simp only [frm3, x3, x4]
      go_simp
      exact ⟨_, xb, hr, _, _, _, _, _, _, _, _, _, _, _, _, _, _, _, _, _, _, frame_at3 rfl, rfl, rfl, rfl, rfl, rfl, rfl, rfl, ⟨h.f0, h.f1, (fun _ => rfl), (fun _ => rfl), (fun _ => rfl), h.f6, h.f9, h.f10, h.f11, h.f12, h.f13, h.f14, h.f15, h.q2, (fun _ => ⟨rfl, rfl⟩), (fun _ => rfl), h.q7, h.q8, h.q11, h.q12, h.q13, h.q14, h.q16, h.q17, h.low, h.p2, h.p7, h.p8, h.pN, h.px, h.pz, h.pr, h.g2, h.g4, h.g5, h.g7, h.g8, h.g9, h.g10, h.g11, h.g12, h.g17, h.g18, h.g19, h.g20, h.g21, h.g22, h.g23, h.g24, h.g25, h.g26, h.g27, h.g28, h.g29, h.g30, h.g31, h.g32, h.g33, h.g34, h.g35, h.g36, h.g37, h.g38, h.g39, h.g40, h.g41, h.g42, h.g43, h.g44, h.g45, h.g46, h.g47, h.g48, h.g64, h.g65, h.g66, h.g67, h.g68, h.g69, h.g70, h.g71, h.g72, h.g73, h.g74, h.g75⟩⟩
    · have ho2 := ho
      simp at ho; subst ho
      simp [Region.binds] at hd hu
      subst hu
      obtain rfl : c5 = true := by simp [hd]
      have x5 := h.f5 rfl
      have hcl := mle_below h.low _ _ HL.out
      refine opP_of ho2 rfl ?_
      simp only [frm3, x5]
      go_simp
      exact ⟨_, xb, hr, _, _, _, _, _, _, _, _, _, _, _, _, _, _, _, _, _, _, frame_at3 rfl, rfl, rfl, rfl, rfl, rfl, rfl, rfl, ⟨h.f0, h.f1, h.f3, h.f4, (fun _ => rfl), (fun _ => rfl), h.f9, h.f10, h.f11, h.f12, h.f13, h.f14, h.f15, h.q2, h.q5, (fun _ => rfl), (fun _ => rfl), h.q8, h.q11, h.q12, h.q13, h.q14, h.q16, h.q17, h.low, h.p2, h.p7, h.p8, h.pN, h.px, h.pz, h.pr, h.g2, h.g4, h.g5, h.g7, h.g8, h.g9, h.g10, h.g11, h.g12, h.g17, h.g18, h.g19, h.g20, h.g21, h.g22, h.g23, h.g24, h.g25, h.g26, h.g27, h.g28, h.g29, h.g30, h.g31, h.g32, h.g33, h.g34, h.g35, h.g36, h.g37, h.g38, h.g39, h.g40, h.g41, h.g42, h.g43, h.g44, h.g45, h.g46, h.g47, h.g48, h.g64, h.g65, h.g66, h.g67, h.g68, h.g69, h.g70, h.g71, h.g72, h.g73, h.g74, h.g75⟩⟩
    · have ho2 := ho
      simp at ho; subst ho
      simp [Region.binds] at hd hu
      subst hu
      obtain rfl : c6 = true := by simp [hd]
      have x6 := h.f6 rfl
      have c8f : c8 = false := by cases e : c8 with | false => rfl | true => cases (h.q8 e).2
      subst c8f
      have c11f : c11 = false := by cases e : c11 with | false => rfl | true => cases (h.q11 e).2.1
      subst c11f
      have hal := (Below.refl W.heap.size W).alloc (Nat.le_refl _) (.cells #[.string nm] 9)
      refine opP_of ho2 rfl ?_
      simp only [frm3, x6]
      go_simp
      exact ⟨_, xb, hr, _, _, _, _, _, _, _, _, _, _, _, _, _, _, _, _, _, _, frame_at3 rfl, rfl, rfl, rfl, rfl, rfl, rfl, rfl, ⟨h.f0, h.f1, h.f3, h.f4, h.f5, (fun _ => rfl), h.f9, h.f10, h.f11, h.f12, h.f13, h.f14, h.f15, h.q2, h.q5, h.q6, (fun _ => rfl), (fun e => ⟨(h.q8 e).1, rfl⟩), h.q11, h.q12, h.q13, h.q14, h.q16, h.q17, (h.low.trans (hal.mono h.low.size)), (fun e _ => World.ownsRow.alloc (h.p2 e rfl) _), (fun _ _ => ⟨W.heap.size, rfl, World.cell?_alloc_at _ _ _ _ rfl⟩), (fun e => by cases e), (fun e => by cases e), (fun e => ⟨(h.px e).1, Nat.lt_of_lt_of_le (h.px e).2 hal.size⟩), (fun e e2 => (hal.block xb (h.px e).2).trans (h.pz e e2)), (fun e => absurd (h.q13 (h.q16 e).2) (fun e3 => by have e4 := h.q12 e3; cases e4)), h.g2, h.g4, h.g5, h.g7, h.g8, h.g9, h.g10, h.g11, h.g12, h.g17, h.g18, h.g19, h.g20, h.g21, h.g22, h.g23, h.g24, h.g25, h.g26, h.g27, h.g28, h.g29, h.g30, h.g31, h.g32, h.g33, h.g34, h.g35, h.g36, h.g37, h.g38, h.g39, h.g40, h.g41, h.g42, h.g43, h.g44, h.g45, h.g46, h.g47, h.g48, h.g64, h.g65, h.g66, h.g67, h.g68, h.g69, h.g70, h.g71, h.g72, h.g73, h.g74, h.g75⟩⟩
    · have ho2 := ho
      simp at ho; subst ho
      simp [Region.binds] at hd hu
      subst hu
      obtain ⟨rfl, rfl⟩ : c2 = true ∧ c7 = true := by simp [hd]
      have c11f : c11 = false := by cases e : c11 with | false => rfl | true => cases (h.q11 e).2.1
      subst c11f
      obtain ⟨tb, t1, t2⟩ := h.p7 rfl rfl
      have hown := h.p2 rfl rfl
      refine opP_of ho2 rfl (wp_append_src W (.tmp 52) (.tmp 57) 23 rfl V.heap.size 9 i0 (.string ⟨#[]⟩) 1 16 Try.underlying23 HI0.out HI1.out HI2.out HI3.out rfl (by decide) (X 52) (0 + names.length) ([] ++ strL names) rfl hown (some ⟨tb, 0, none⟩) 1 1 (strL [nm]) t1 rfl (.inr ⟨_, rfl, str_one t2⟩) (strL_one _) (by unfold maxLen; omega) (by omega) h.low.size ?_)
      intro v' w' ho1 hg1 hh1
      have hbl := h.low.grown hg1 h.low.size (fun g e => (World.ownsRow.lt hown g e).1)
      have hne : c15 = true → c16 = false → some xb ≠ (X 52).ownBlock := fun e e2 e3 => by
        rcases hown.2 with ⟨e1, _⟩ | ⟨g', cap', cur, e1, _, hg, _⟩
        · rw [e1] at e3; cases e3
        · rw [e1] at e3
          simp [Value.ownBlock] at e3
          have hz : W.heap[xb]? = _ := h.pz e e2
          rw [← e3, hz] at hg
          simp at hg
      simp only [frm3]
      exact ⟨_, xb, hr, _, _, _, _, _, _, _, _, _, _, _, _, _, _, _, _, _, _, frame_at3 rfl, rfl, e0, e1, e3, e6, e13, e14, ⟨h.f0, h.f1, h.f3, h.f4, h.f5, h.f6, h.f9, h.f10, h.f11, h.f12, h.f13, h.f14, h.f15, h.q2, h.q5, h.q6, h.q7, (fun _ => ⟨rfl, rfl⟩), (fun e => ⟨(h.q11 e).1, rfl, (h.q11 e).2.2.1, (h.q11 e).2.2.2⟩), h.q12, h.q13, h.q14, h.q16, h.q17, (hbl), (fun _ e => by cases e), (fun _ e => by cases e), (fun _ _ => ho1), (fun e => by cases e), (fun e => ⟨(h.px e).1, Nat.lt_of_lt_of_le (h.px e).2 hg1.size⟩), (fun e e2 => (hg1.block xb (h.px e).2 (hne e e2)).trans (h.pz e e2)), (fun e => absurd (h.q13 (h.q16 e).2) (fun e3 => by have e4 := h.q12 e3; cases e4)), h.g2, h.g4, h.g5, h.g7, h.g8, h.g9, h.g10, h.g11, h.g12, h.g17, h.g18, h.g19, h.g20, h.g21, h.g22, h.g23, h.g24, h.g25, h.g26, h.g27, h.g28, h.g29, h.g30, h.g31, h.g32, h.g33, h.g34, h.g35, h.g36, h.g37, h.g38, h.g39, h.g40, h.g41, h.g42, h.g43, h.g44, h.g45, h.g46, h.g47, h.g48, h.g64, h.g65, h.g66, h.g67, h.g68, h.g69, h.g70, h.g71, h.g72, h.g73, h.g74, h.g75⟩⟩
    · have ho2 := ho
      simp at ho; subst ho
      simp [Region.binds] at hd hu
      subst hu
      have hcm0 := mle_below h.low _ _ HM0.out
      have hcm1 := mle_below h.low _ _ HM1.out
      refine opP_of ho2 rfl ?_
      simp only [frm3, e6]
      go_simp
      exact ⟨_, xb, hr, _, _, _, _, _, _, _, _, _, _, _, _, _, _, _, _, _, _, frame_at3 rfl, rfl, rfl, rfl, rfl, rfl, rfl, rfl, ⟨h.f0, h.f1, h.f3, h.f4, h.f5, h.f6, (fun _ => rfl), h.f10, h.f11, h.f12, h.f13, h.f14, h.f15, h.q2, h.q5, h.q6, h.q7, h.q8, (fun e => ⟨(h.q11 e).1, (h.q11 e).2.1, rfl, (h.q11 e).2.2.2⟩), h.q12, h.q13, h.q14, h.q16, h.q17, h.low, h.p2, h.p7, h.p8, h.pN, h.px, h.pz, h.pr, h.g2, h.g4, h.g5, h.g7, h.g8, h.g9, h.g10, h.g11, h.g12, h.g17, h.g18, h.g19, h.g20, h.g21, h.g22, h.g23, h.g24, h.g25, h.g26, h.g27, h.g28, h.g29, h.g30, h.g31, h.g32, h.g33, h.g34, h.g35, h.g36, h.g37, h.g38, h.g39, h.g40, h.g41, h.g42, h.g43, h.g44, h.g45, h.g46, h.g47, h.g48, h.g64, h.g65, h.g66, h.g67, h.g68, h.g69, h.g70, h.g71, h.g72, h.g73, h.g74, h.g75⟩⟩
    · have ho2 := ho
      simp at ho; subst ho
      simp [Region.binds] at hd hu
      subst hu
      refine opP_of ho2 rfl ?_
      simp only [frm3, e3]
      go_simp
      exact ⟨_, xb, hr, _, _, _, _, _, _, _, _, _, _, _, _, _, _, _, _, _, _, frame_at3 rfl, rfl, rfl, rfl, rfl, rfl, rfl, rfl, ⟨h.f0, h.f1, h.f3, h.f4, h.f5, h.f6, h.f9, (fun _ => rfl), h.f11, h.f12, h.f13, h.f14, h.f15, h.q2, h.q5, h.q6, h.q7, h.q8, (fun e => ⟨(h.q11 e).1, (h.q11 e).2.1, (h.q11 e).2.2.1, rfl⟩), h.q12, h.q13, h.q14, h.q16, h.q17, h.low, h.p2, h.p7, h.p8, h.pN, h.px, h.pz, h.pr, h.g2, h.g4, h.g5, h.g7, h.g8, h.g9, h.g10, h.g11, h.g12, h.g17, h.g18, h.g19, h.g20, h.g21, h.g22, h.g23, h.g24, h.g25, h.g26, h.g27, h.g28, h.g29, h.g30, h.g31, h.g32, h.g33, h.g34, h.g35, h.g36, h.g37, h.g38, h.g39, h.g40, h.g41, h.g42, h.g43, h.g44, h.g45, h.g46, h.g47, h.g48, h.g64, h.g65, h.g66, h.g67, h.g68, h.g69, h.g70, h.g71, h.g72, h.g73, h.g74, h.g75⟩⟩
    · have ho2 := ho
      simp at ho; subst ho
      simp [Region.binds] at hd hu
      subst hu
      obtain ⟨rfl, rfl, rfl, rfl⟩ : c0 = true ∧ c8 = true ∧ c9 = true ∧ c10 = true := by simp [hd]
      have x0 := h.f0 rfl
      have x9 := h.f9 rfl
      have x10 := h.f10 rfl
      have c12f : c12 = false := by cases e : c12 with | false => rfl | true => cases h.q12 e
      subst c12f
      have c13f : c13 = false := by cases e : c13 with | false => rfl | true => cases h.q13 e
      subst c13f
      have c14f : c14 = false := by cases e : c14 with | false => rfl | true => cases h.q14 e
      subst c14f
      have c16f : c16 = false := by cases e : c16 with | false => rfl | true => cases (h.q16 e).2
      subst c16f
      have hown := h.p8 rfl rfl
      obtain ⟨da, dc, hv, hd1, hd2, hdc⟩ := owns_cells hown
      have HSTR : Hid (Strs W.cell? da (names ++ [nm])) := by
        rcases hdc with ⟨_, h0, _⟩ | ⟨g, e, _, _, hcl, _⟩
        · omega
        · refine .inr ⟨g, 0, e, fun j x hj => ?_⟩
          rw [Nat.zero_add]
          refine hcl j _ ?_
          have e2 : [] ++ strL names ++ strL [nm] = strL (names ++ [nm]) := by simp [strL]
          rw [e2]
          unfold strL
          rw [List.getElem?_map, hj]
          rfl
      rw [Nat.zero_add] at hv hd1
      have HCC : Hid (Calls Try.prog 18 #[v0, .slice da (names.length + 1) dc, .agg #[.slice none 0 0, .slice none 0 0], .bool false] W fun e W' => (∃ hr : Hd, e = .returned (.tuple #[.agg #[.int .i64 rk, .int .i64 rm, .int .i64 ru, .int .i64 rg, .bool ro, .slice hr.aa ra.length hr.ca, .string rd, .slice hr.ak rs.length hr.ck], .bool b]) ∧ NdV (offS W'.cell? (fun k => (c15 && k == xb) || S3 k)) (Nd.mk rk rm ru rg ro ra rd rs) hr) ∧ Below W.heap.size W W') := HC.out W _ da dc h.low (fun k hk => by
        simp at hk
        rcases hk with ⟨e1, e2⟩ | e
        · rw [e2]; exact (h.px e1).2
        · exact Nat.lt_of_lt_of_le (HS3.out k e) h.low.size) (fun k hk hs => by
        simp [hs]
        intro e1 e2
        have := (h.px e1).1
        omega) HSTR.out hd1 hd2
      clear hown hdc
      refine opP_of ho2 rfl ?_
      simp only [frm3, x0, x9, x10, hv]
      go_simp
      with_reducible refine Calls.mono HCC.out ?_
      rintro e W' ⟨⟨hr', rfl, hn⟩, hbl⟩
      exact ⟨_, xb, hr', _, _, _, _, _, _, _, _, _, _, _, _, _, _, _, _, _, _, frame_at3 rfl, rfl, rfl, rfl, rfl, rfl, rfl, rfl, ⟨(fun _ => rfl), h.f1, h.f3, h.f4, h.f5, h.f6, (fun _ => rfl), (fun _ => rfl), (fun _ => rfl), (fun e => by cases e), (fun e => by cases e), (fun e => by cases e), h.f15, h.q2, h.q5, h.q6, h.q7, h.q8, (fun _ => ⟨rfl, rfl, rfl, rfl⟩), (fun _ => rfl), h.q13, h.q14, h.q16, h.q17, (h.low.trans (hbl.mono h.low.size)), (fun _ e => by cases e), (fun _ e => by cases e), (fun _ e => by cases e), (fun _ => hn), (fun e => ⟨(h.px e).1, Nat.lt_of_lt_of_le (h.px e).2 hbl.size⟩), (fun e e2 => (hbl.block xb (h.px e).2).trans (h.pz e e2)), (fun e => by cases e), h.g2, h.g4, h.g5, h.g7, h.g8, h.g9, h.g10, h.g11, h.g12, h.g17, h.g18, h.g19, h.g20, h.g21, h.g22, h.g23, h.g24, h.g25, h.g26, h.g27, h.g28, h.g29, h.g30, h.g31, h.g32, h.g33, h.g34, h.g35, h.g36, h.g37, h.g38, h.g39, h.g40, h.g41, h.g42, h.g43, h.g44, h.g45, h.g46, h.g47, h.g48, h.g64, h.g65, h.g66, h.g67, h.g68, h.g69, h.g70, h.g71, h.g72, h.g73, h.g74, h.g75⟩⟩
    · have ho2 := ho
      simp at ho; subst ho
      simp [Region.binds] at hd hu
      subst hu
      obtain rfl : c11 = true := by simp [hd]
      have x11 := h.f11 rfl
      refine opP_of ho2 rfl ?_
      simp only [frm3, x11]
      go_simp
      exact ⟨_, xb, hr, _, _, _, _, _, _, _, _, _, _, _, _, _, _, _, _, _, _, frame_at3 rfl, rfl, rfl, rfl, rfl, rfl, rfl, rfl, ⟨h.f0, h.f1, h.f3, h.f4, h.f5, h.f6, h.f9, h.f10, (fun _ => rfl), (fun _ => rfl), h.f13, h.f14, h.f15, h.q2, h.q5, h.q6, h.q7, h.q8, h.q11, (fun _ => rfl), (fun _ => rfl), (fun _ => rfl), h.q16, h.q17, h.low, h.p2, h.p7, h.p8, h.pN, h.px, h.pz, h.pr, h.g2, h.g4, h.g5, h.g7, h.g8, h.g9, h.g10, h.g11, h.g12, h.g17, h.g18, h.g19, h.g20, h.g21, h.g22, h.g23, h.g24, h.g25, h.g26, h.g27, h.g28, h.g29, h.g30, h.g31, h.g32, h.g33, h.g34, h.g35, h.g36, h.g37, h.g38, h.g39, h.g40, h.g41, h.g42, h.g43, h.g44, h.g45, h.g46, h.g47, h.g48, h.g64, h.g65, h.g66, h.g67, h.g68, h.g69, h.g70, h.g71, h.g72, h.g73, h.g74, h.g75⟩⟩
    · have ho2 := ho
      simp at ho; subst ho
      simp [Region.binds] at hd hu
      subst hu
      obtain rfl : c12 = true := by simp [hd]
      have x12 := h.f12 rfl
      refine opP_of ho2 rfl ?_
      simp only [frm3, x12]
      go_simp
      exact ⟨_, xb, hr, _, _, _, _, _, _, _, _, _, _, _, _, _, _, _, _, _, _, frame_at3 rfl, rfl, rfl, rfl, rfl, rfl, rfl, rfl, ⟨h.f0, h.f1, h.f3, h.f4, h.f5, h.f6, h.f9, h.f10, h.f11, (fun _ => rfl), (fun _ => rfl), h.f14, h.f15, h.q2, h.q5, h.q6, h.q7, h.q8, h.q11, h.q12, (fun _ => rfl), h.q14, (fun e => ⟨(h.q16 e).1, rfl⟩), h.q17, h.low, h.p2, h.p7, h.p8, h.pN, h.px, h.pz, h.pr, h.g2, h.g4, h.g5, h.g7, h.g8, h.g9, h.g10, h.g11, h.g12, h.g17, h.g18, h.g19, h.g20, h.g21, h.g22, h.g23, h.g24, h.g25, h.g26, h.g27, h.g28, h.g29, h.g30, h.g31, h.g32, h.g33, h.g34, h.g35, h.g36, h.g37, h.g38, h.g39, h.g40, h.g41, h.g42, h.g43, h.g44, h.g45, h.g46, h.g47, h.g48, h.g64, h.g65, h.g66, h.g67, h.g68, h.g69, h.g70, h.g71, h.g72, h.g73, h.g74, h.g75⟩⟩
    · have ho2 := ho
      simp at ho; subst ho
      simp [Region.binds] at hd hu
      subst hu
      obtain rfl : c12 = true := by simp [hd]
      have x12 := h.f12 rfl
      refine opP_of ho2 rfl ?_
      simp only [frm3, x12]
      go_simp
      exact ⟨_, xb, hr, _, _, _, _, _, _, _, _, _, _, _, _, _, _, _, _, _, _, frame_at3 rfl, rfl, rfl, rfl, rfl, rfl, rfl, rfl, ⟨h.f0, h.f1, h.f3, h.f4, h.f5, h.f6, h.f9, h.f10, h.f11, (fun _ => rfl), h.f13, (fun _ => rfl), h.f15, h.q2, h.q5, h.q6, h.q7, h.q8, h.q11, h.q12, h.q13, (fun _ => rfl), h.q16, (fun _ => rfl), h.low, h.p2, h.p7, h.p8, h.pN, h.px, h.pz, h.pr, h.g2, h.g4, h.g5, h.g7, h.g8, h.g9, h.g10, h.g11, h.g12, h.g17, h.g18, h.g19, h.g20, h.g21, h.g22, h.g23, h.g24, h.g25, h.g26, h.g27, h.g28, h.g29, h.g30, h.g31, h.g32, h.g33, h.g34, h.g35, h.g36, h.g37, h.g38, h.g39, h.g40, h.g41, h.g42, h.g43, h.g44, h.g45, h.g46, h.g47, h.g48, h.g64, h.g65, h.g66, h.g67, h.g68, h.g69, h.g70, h.g71, h.g72, h.g73, h.g74, h.g75⟩⟩
    · have ho2 := ho
      simp at ho; subst ho
      simp [Region.binds] at hd hu
      subst hu
      have hal := (Below.refl W.heap.size W).alloc (Nat.le_refl _) (.cells #[.int .i64 0, .int .i64 0, .int .i64 0, .int .i64 0, .bool false, .slice none 0 0, .string ⟨#[]⟩, .slice none 0 0] 31)
      have hnew : ZBx (W.alloc (.cells #[.int .i64 0, .int .i64 0, .int .i64 0, .int .i64 0, .bool false, .slice none 0 0, .string ⟨#[]⟩, .slice none 0 0] 31)) W.heap.size := heap_alloc_new W _
      have hsz : W.heap.size < (W.alloc (.cells #[.int .i64 0, .int .i64 0, .int .i64 0, .int .i64 0, .bool false, .slice none 0 0, .string ⟨#[]⟩, .slice none 0 0] 31)).heap.size := by rw [World.size_alloc]; omega
      refine opP_of ho2 rfl ?_
      simp only [frm3]
      go_simp
      exact ⟨_, W.heap.size, hr, _, _, _, _, _, _, _, _, _, _, _, _, _, _, _, _, _, _, frame_at3 rfl, rfl, rfl, rfl, rfl, rfl, rfl, rfl, ⟨h.f0, h.f1, h.f3, h.f4, h.f5, h.f6, h.f9, h.f10, h.f11, h.f12, h.f13, h.f14, (fun _ => rfl), h.q2, h.q5, h.q6, h.q7, h.q8, h.q11, h.q12, h.q13, h.q14, (fun e => ⟨rfl, (h.q16 e).2⟩), h.q17, (h.low.trans (hal.mono h.low.size)), (fun e e2 => World.ownsRow.alloc (h.p2 e e2) _), (fun e e2 => by obtain ⟨tb, t1, t2⟩ := h.p7 e e2; exact ⟨tb, t1, mle_below hal _ _ t2⟩), (fun e e2 => World.ownsRow.alloc (h.p8 e e2) _), (fun e => (h.pN e).on (mle_step fun k hk hs => ⟨by simp at hs ⊢; exact ⟨by omega, hs⟩, hal.block k hk⟩)), (fun _ => ⟨h.low.size, hsz⟩), (fun _ _ => hnew), (fun e => by cases (h.q16 e).1), h.g2, h.g4, h.g5, h.g7, h.g8, h.g9, h.g10, h.g11, h.g12, h.g17, h.g18, h.g19, h.g20, h.g21, h.g22, h.g23, h.g24, h.g25, h.g26, h.g27, h.g28, h.g29, h.g30, h.g31, h.g32, h.g33, h.g34, h.g35, h.g36, h.g37, h.g38, h.g39, h.g40, h.g41, h.g42, h.g43, h.g44, h.g45, h.g46, h.g47, h.g48, h.g64, h.g65, h.g66, h.g67, h.g68, h.g69, h.g70, h.g71, h.g72, h.g73, h.g74, h.g75⟩⟩
    · have ho2 := ho
      simp at ho; subst ho
      simp [Region.binds] at hd hu
      subst hu
      obtain ⟨rfl, rfl, rfl, rfl, rfl, rfl, rfl, rfl, rfl, rfl, rfl, rfl, rfl, rfl, rfl⟩ : c0 = true ∧ c1 = true ∧ c2 = true ∧ c3 = true ∧ c4 = true ∧ c5 = true ∧ c6 = true ∧ c7 = true ∧ c8 = true ∧ c9 = true ∧ c10 = true ∧ c11 = true ∧ c12 = true ∧ c13 = true ∧ c15 = true := by simp [hd]
      have x15 := h.f15 rfl
      have x13 := h.f13 rfl
      have hz := h.pz rfl rfl
      have nbw := hz.nbw
      have R := NBw.store nbw (Nd.mk rk rm ru rg ro ra rd rs) hr
      have hbut : But xb W (stB W xb (Nd.mk rk rm ru rg ro ra rd rs) hr) := stB_but
      obtain ⟨⟨m0, m1, m2, m3, m4, m5, m6, m7⟩, fz⟩ := nbw
      have z0 := fz 0
      have z1 := fz 1
      have z2 := fz 2
      have z3 := fz 3
      have z4 := fz 4
      have z5 := fz 5
      have z6 := fz 6
      have z7 := fz 7
      have HR : Hid _ := R
      have HBT : Hid _ := hbut
      clear R hbut fz hz
      refine opP_of ho2 rfl ?_
      simp only [frm3, x15, x13]
      go_simp
      exact ⟨_, xb, hr, _, _, _, _, _, _, _, _, _, _, _, _, _, _, _, _, _, _, frame_at3 rfl, rfl, rfl, rfl, rfl, rfl, rfl, rfl, ⟨(h.f0), h.f1, h.f3, h.f4, h.f5, h.f6, h.f9, h.f10, h.f11, (h.f12), (fun _ => rfl), h.f14, (fun _ => rfl), h.q2, h.q5, h.q6, h.q7, h.q8, h.q11, h.q12, h.q13, h.q14, (fun _ => ⟨rfl, rfl⟩), h.q17, (h.low.trans (But.below HBT.out (h.px rfl).1 h.low.size)), (fun _ e => by cases e), (fun _ e => by cases e), (fun _ e => by cases e), (fun e => (h.pN e).on (mle_step fun k hk hs => ⟨hs, But.block HBT.out k hk (fun e2 => by rw [e2] at hs; simp at hs)⟩)), (fun _ => ⟨(h.px rfl).1, Nat.lt_of_lt_of_le (h.px rfl).2 (But.size HBT.out)⟩), (fun _ e => by cases e), (fun _ => HR.out), h.g2, h.g4, h.g5, h.g7, h.g8, h.g9, h.g10, h.g11, h.g12, h.g17, h.g18, h.g19, h.g20, h.g21, h.g22, h.g23, h.g24, h.g25, h.g26, h.g27, h.g28, h.g29, h.g30, h.g31, h.g32, h.g33, h.g34, h.g35, h.g36, h.g37, h.g38, h.g39, h.g40, h.g41, h.g42, h.g43, h.g44, h.g45, h.g46, h.g47, h.g48, h.g64, h.g65, h.g66, h.g67, h.g68, h.g69, h.g70, h.g71, h.g72, h.g73, h.g74, h.g75⟩⟩
    · have ho2 := ho
      simp at ho; subst ho
      simp [Region.binds] at hd hu
      subst hu
      obtain ⟨rfl, rfl, rfl, rfl, rfl, rfl, rfl, rfl, rfl, rfl, rfl, rfl, rfl, rfl, rfl, rfl, rfl⟩ : c0 = true ∧ c1 = true ∧ c2 = true ∧ c3 = true ∧ c4 = true ∧ c5 = true ∧ c6 = true ∧ c7 = true ∧ c8 = true ∧ c9 = true ∧ c10 = true ∧ c11 = true ∧ c12 = true ∧ c13 = true ∧ c14 = true ∧ c15 = true ∧ c16 = true := by simp [hd]
      have x14 := h.f14 rfl
      refine opP_of ho2 rfl ?_
      simp only [frm3, x14]
      go_simp
      exact ⟨_, xb, hr, _, _, _, _, _, _, _, _, _, _, _, _, _, _, _, _, _, _, frame_at3 rfl, rfl, rfl, rfl, rfl, rfl, rfl, rfl, ⟨h.f0, h.f1, h.f3, h.f4, h.f5, h.f6, h.f9, h.f10, h.f11, h.f12, h.f13, (fun _ => rfl), h.f15, h.q2, h.q5, h.q6, h.q7, h.q8, h.q11, h.q12, h.q13, h.q14, h.q16, (fun _ => rfl), h.low, h.p2, h.p7, h.p8, h.pN, h.px, h.pz, h.pr, h.g2, h.g4, h.g5, h.g7, h.g8, h.g9, h.g10, h.g11, h.g12, h.g17, h.g18, h.g19, h.g20, h.g21, h.g22, h.g23, h.g24, h.g25, h.g26, h.g27, h.g28, h.g29, h.g30, h.g31, h.g32, h.g33, h.g34, h.g35, h.g36, h.g37, h.g38, h.g39, h.g40, h.g41, h.g42, h.g43, h.g44, h.g45, h.g46, h.g47, h.g48, h.g64, h.g65, h.g66, h.g67, h.g68, h.g69, h.g70, h.g71, h.g72, h.g73, h.g74, h.g75⟩⟩
end Go.Proofs.Ytgmeecfdkcbggaa
