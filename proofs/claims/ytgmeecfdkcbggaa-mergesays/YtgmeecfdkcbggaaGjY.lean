/-
  THE REGION IN WHICH THE DOCUMENT's Flat APPENDS A KID: each operation.
-/
import Derived.Test.YtgmeecfdkcbggaaGiY
namespace Go.Proofs.Ytgmeecfdkcbggaa
open Go.RowKit Go.Shelf
/-- What an append leaves. -/
structure ApK (base : Nat) (vk : Value) (n : Nat) (fl tv : List Value) (V : World) (v' : Value) (W : World) : Prop where
  own : W.ownsRow base 48 9 v' (n + 1) (fl ++ tv)
  gro : V.grownBy W vk.ownBlock
  blk : v'.ownBlock = vk.ownBlock ∨ v'.ownBlock = some V.heap.size
structure RK (nm : ByteArray) (vk : Value) (nb xb lb lo ln lc j base n : Nat) (fl : List Value) (hr : Hd) (rk rm ru rg : Int) (ro : Bool) (ra : List Kv) (rd : ByteArray) (rs : Kds) (X0 : Nat → Value) (V : World) (c0 c1 c2 c3 c4 c5 c6 c7 c8 c9 c10 c11 : Bool) (X : Nat → Value) (W : World) : Prop where
  f0 : c0 = true → X 64 = .pointer (some ⟨nb, 7, none⟩)
  f1 : c1 = true → X 65 = vk
  f2 : c2 = true → X 66 = .slice (some ⟨lb, lo, none⟩) ln lc
  f3 : c3 = true → X 67 = .int .i64 j
  f4 : c4 = true → X 68 = .pointer (some ⟨lb, lo + j, none⟩)
  f5 : c5 = true → X 69 = .string nm
  f6 : c6 = true → X 70 = .agg #[.int .i64 rk, .int .i64 rm, .int .i64 ru, .int .i64 rg, .bool ro, .slice hr.aa ra.length hr.ca, .string rd, .slice hr.ak rs.length hr.ck]
  f7 : c7 = true → X 71 = .agg #[.string nm, .int .i64 rk, .int .i64 rm, .int .i64 ru, .int .i64 rg, .bool ro, .slice hr.aa ra.length hr.ca, .string rd, .slice hr.ak rs.length hr.ck]
  f8 : c8 = true → X 72 = .slice (some ⟨V.heap.size, 0, none⟩) 1 1
  f10 : c10 = true → X 74 = .pointer (some ⟨nb, 7, none⟩)
  q1 : c1 = true → c0 = true
  q4 : c4 = true → c2 = true ∧ c3 = true
  q5 : c5 = true → c4 = true
  q7 : c7 = true → c5 = true ∧ c6 = true
  q8 : c8 = true → c7 = true
  q9 : c9 = true → c1 = true ∧ c8 = true
  q11 : c11 = true → c10 = true ∧ c9 = true
  p0 : c8 = false → W = V
  p1 : c8 = true → c9 = false → W = V.alloc (.cells #[.string nm, .int .i64 rk, .int .i64 rm, .int .i64 ru, .int .i64 rg, .bool ro, .slice hr.aa ra.length hr.ca, .string rd, .slice hr.ak rs.length hr.ck] 48)
  p2 : c9 = true → c11 = false → ApK base vk n fl (kfl [(nm, (Nd.mk rk rm ru rg ro ra rd rs), hr)]) (V.alloc (.cells #[.string nm, .int .i64 rk, .int .i64 rm, .int .i64 ru, .int .i64 rg, .bool ro, .slice hr.aa ra.length hr.ca, .string rd, .slice hr.ak rs.length hr.ck] 48)) (X 73) W
  p3 : c11 = true → ∃ v' W2, ApK base vk n fl (kfl [(nm, (Nd.mk rk rm ru rg ro ra rd rs), hr)]) (V.alloc (.cells #[.string nm, .int .i64 rk, .int .i64 rm, .int .i64 ru, .int .i64 rg, .bool ro, .slice hr.aa ra.length hr.ca, .string rd, .slice hr.ak rs.length hr.ck] 48)) v' W2 ∧ W = W2.setCell ⟨nb, 7, none⟩ v'
  g0 : X 0 = X0 0
  g1 : X 1 = X0 1
  g2 : X 2 = X0 2
  g3 : X 3 = X0 3
  g4 : X 4 = X0 4
  g5 : X 5 = X0 5
  g6 : X 6 = X0 6
  g7 : X 7 = X0 7
  g8 : X 8 = X0 8
  g9 : X 9 = X0 9
  g11 : X 11 = X0 11
  g12 : X 12 = X0 12
  g16 : X 16 = X0 16
  g17 : X 17 = X0 17
  g18 : X 18 = X0 18
  g19 : X 19 = X0 19
  g20 : X 20 = X0 20
  g21 : X 21 = X0 21
  g22 : X 22 = X0 22
  g23 : X 23 = X0 23
  g24 : X 24 = X0 24
  g25 : X 25 = X0 25
  g26 : X 26 = X0 26
  g27 : X 27 = X0 27
  g28 : X 28 = X0 28
  g29 : X 29 = X0 29
  g30 : X 30 = X0 30
  g31 : X 31 = X0 31
  g32 : X 32 = X0 32
  g33 : X 33 = X0 33
  g34 : X 34 = X0 34
  g35 : X 35 = X0 35
  g36 : X 36 = X0 36
  g37 : X 37 = X0 37
  g38 : X 38 = X0 38
  g39 : X 39 = X0 39
  g40 : X 40 = X0 40
  g41 : X 41 = X0 41
  g42 : X 42 = X0 42
  g43 : X 43 = X0 43
  g44 : X 44 = X0 44
  g45 : X 45 = X0 45
  g46 : X 46 = X0 46
  g47 : X 47 = X0 47
  g48 : X 48 = X0 48
  g49 : X 49 = X0 49
  g50 : X 50 = X0 50
  g51 : X 51 = X0 51
  g52 : X 52 = X0 52
  g53 : X 53 = X0 53
  g54 : X 54 = X0 54
  g55 : X 55 = X0 55
  g56 : X 56 = X0 56
  g57 : X 57 = X0 57
  g58 : X 58 = X0 58
  g59 : X 59 = X0 59
  g60 : X 60 = X0 60
  g61 : X 61 = X0 61
  g62 : X 62 = X0 62
  g63 : X 63 = X0 63
  g75 : X 75 = X0 75
def RKI (nm : ByteArray) (vk : Value) (nb xb lb lo ln lc j base n : Nat) (fl : List Value) (hr : Hd) (rk rm ru rg : Int) (ro : Bool) (ra : List Kv) (rd : ByteArray) (rs : Kds) (X0 : Nat → Value) (V : World) (listed : Array Bool) (a : Act) (W : World) : Prop := ∃ (X : Nat → Value) (c0 c1 c2 c3 c4 c5 c6 c7 c8 c9 c10 c11 : Bool), a = { tmps := frm3 X, defers := [] } ∧ listed = #[c0, c1, c2, c3, c4, c5, c6, c7, c8, c9, c10, c11] ∧ X 10 = .pointer (some ⟨nb, 0, none⟩) ∧ X 13 = .slice (some ⟨lb, lo, none⟩) ln lc ∧ X 14 = .int .i64 j ∧ X 15 = .pointer (some ⟨xb, 0, none⟩) ∧ RK nm vk nb xb lb lo ln lc j base n fl hr rk rm ru rg ro ra rd rs X0 V c0 c1 c2 c3 c4 c5 c6 c7 c8 c9 c10 c11 X W
set_option maxRecDepth 100000 in
set_option maxHeartbeats 8000000 in
theorem rf13 {nm : ByteArray} {vk : Value} {nb xb lb lo ln lc j base n : Nat} {fl : List Value} {hr : Hd} {rk rm ru rg : Int} {ro : Bool} {ra : List Kv} {rd : ByteArray} {rs : Kds} {X0 : Nat → Value} {V : World} {Q : Exit → Act → World → Prop} {a0 : Act} {W0 : World} (hV : W0.drew = V) (ha : a0 = { tmps := frm3 X0, defers := [] }) (e10 : X0 10 = .pointer (some ⟨nb, 0, none⟩)) (e13 : X0 13 = .slice (some ⟨lb, lo, none⟩) ln lc) (e14 : X0 14 = .int .i64 j) (e15 : X0 15 = .pointer (some ⟨xb, 0, none⟩))
    (_hln : ln ≤ 1000) (hj : j < ln) (hl : V.cell? ⟨lb, lo + j, none⟩ = some (.string nm)) (h7 : V.cell? ⟨nb, 7, none⟩ = some vk) (hf7 : V.frozen? ⟨nb, 7, none⟩ = false) (hx : NBox V xb (Nd.mk rk rm ru rg ro ra rd rs) hr) (hrow : V.ownsRow base 48 9 vk n fl) (hn : n ≤ 1000) (hbase : base ≤ V.heap.size) (hne : some nb ≠ vk.ownBlock)
    (hQ : ∀ (X : Nat → Value) (v' : Value) (W2 : World), ApK base vk n fl (kfl [(nm, (Nd.mk rk rm ru rg ro ra rd rs), hr)]) (V.alloc (.cells #[.string nm, .int .i64 rk, .int .i64 rm, .int .i64 ru, .int .i64 rg, .bool ro, .slice hr.aa ra.length hr.ca, .string rd, .slice hr.ak rs.length hr.ck] 48)) v' W2 → X 10 = .pointer (some ⟨nb, 0, none⟩) → X 13 = .slice (some ⟨lb, lo, none⟩) ln lc → X 14 = .int .i64 j → X 15 = .pointer (some ⟨xb, 0, none⟩) → X 0 = X0 0 → X 1 = X0 1 → X 2 = X0 2 → X 3 = X0 3 → X 4 = X0 4 → X 5 = X0 5 → X 6 = X0 6 → X 7 = X0 7 → X 8 = X0 8 → X 9 = X0 9 → X 11 = X0 11 → X 12 = X0 12 → X 16 = X0 16 → X 17 = X0 17 → X 18 = X0 18 → X 19 = X0 19 → X 20 = X0 20 → X 21 = X0 21 → X 22 = X0 22 → X 23 = X0 23 → X 24 = X0 24 → X 25 = X0 25 → X 26 = X0 26 → X 27 = X0 27 → X 28 = X0 28 → X 29 = X0 29 → X 30 = X0 30 → X 31 = X0 31 → X 32 = X0 32 → X 33 = X0 33 → X 34 = X0 34 → X 35 = X0 35 → X 36 = X0 36 → X 37 = X0 37 → X 38 = X0 38 → X 39 = X0 39 → X 40 = X0 40 → X 41 = X0 41 → X 42 = X0 42 → X 43 = X0 43 → X 44 = X0 44 → X 45 = X0 45 → X 46 = X0 46 → X 47 = X0 47 → X 48 = X0 48 → X 49 = X0 49 → X 50 = X0 50 → X 51 = X0 51 → X 52 = X0 52 → X 53 = X0 53 → X 54 = X0 54 → X 55 = X0 55 → X 56 = X0 56 → X 57 = X0 57 → X 58 = X0 58 → X 59 = X0 59 → X 60 = X0 60 → X 61 = X0 61 → X 62 = X0 62 → X 63 = X0 63 → X 75 = X0 75 → Q .normal { tmps := frm3 X, defers := [] } (W2.setCell ⟨nb, 7, none⟩ v')) :
    (Code.region 13 #[{ dst := some 64, op := Op.fieldAddr 31 (Operand.tmp 10) 7, type := 0, pos := "parts.go:795", after := #[], guard := none }, { dst := some 65, op := Op.load 29 (Operand.tmp 64), type := 29, pos := "parts.go:795", after := #[{ on := 0, ground := Ground.data }], guard := none }, { dst := some 66, op := Op.move (Operand.tmp 13), type := 23, pos := "parts.go:795", after := #[], guard := none }, { dst := some 67, op := Op.move (Operand.tmp 14), type := 3, pos := "parts.go:795", after := #[], guard := none }, { dst := some 68, op := Op.indexAddr 23 (Operand.tmp 66) (Operand.tmp 67), type := 0, pos := "parts.go:795", after := #[{ on := 2, ground := Ground.data }, { on := 3, ground := Ground.data }], guard := none }, { dst := some 69, op := Op.load 9 (Operand.tmp 68), type := 9, pos := "parts.go:795", after := #[{ on := 4, ground := Ground.data }], guard := none }, { dst := some 70, op := Op.load 31 (Operand.tmp 15), type := 31, pos := "parts.go:795", after := #[], guard := none }, { dst := some 71, op := Op.build 48 #[(0, Operand.tmp 69), (1, Operand.tmp 70)], type := 48, pos := "parts.go:795", after := #[{ on := 5, ground := Ground.data }, { on := 6, ground := Ground.data }], guard := none }, { dst := some 72, op := Op.buildSlice 29 1 #[(0, Operand.tmp 71)], type := 29, pos := "parts.go:795", after := #[{ on := 7, ground := Ground.data }], guard := none }, { dst := some 73, op := Op.call { callee := Callee.builtin Builtin.append, args := #[Operand.tmp 65, Operand.tmp 72], argTypes := #[29, 29] }, type := 29, pos := "parts.go:795", after := #[{ on := 1, ground := Ground.data }, { on := 8, ground := Ground.data }], guard := none }, { dst := some 74, op := Op.fieldAddr 31 (Operand.tmp 10) 7, type := 0, pos := "parts.go:795", after := #[{ on := 0, ground := Ground.phase }, { on := 1, ground := Ground.phase }, { on := 2, ground := Ground.phase }, { on := 3, ground := Ground.phase }, { on := 4, ground := Ground.phase }, { on := 5, ground := Ground.phase }, { on := 6, ground := Ground.phase }, { on := 7, ground := Ground.phase }, { on := 8, ground := Ground.phase }, { on := 9, ground := Ground.phase }], guard := none }, { dst := none, op := Op.store 29 (Operand.tmp 74) (Operand.tmp 73), type := 0, pos := "parts.go:795", after := #[{ on := 10, ground := Ground.data }, { on := 9, ground := Ground.data }, { on := 9, ground := Ground.chain }, { on := 0, ground := Ground.phase }, { on := 1, ground := Ground.phase }, { on := 2, ground := Ground.phase }, { on := 3, ground := Ground.phase }, { on := 4, ground := Ground.phase }, { on := 5, ground := Ground.phase }, { on := 6, ground := Ground.phase }, { on := 7, ground := Ground.phase }, { on := 8, ground := Ground.phase }, { on := 9, ground := Ground.phase }], guard := none }] true).wp Try.prog Q a0 W0 := by
  obtain ⟨i0, hi0, hi1, hi2, hi3⟩ := info_three Try.infoK
  have HI0 : Hid _ := hi0
  have HI1 : Hid _ := hi1
  have HI2 : Hid _ := hi2
  have HI3 : Hid _ := hi3
  have HQ : Hid _ := hQ
  have HL : Hid _ := hl
  have H7 : Hid _ := h7
  have HF7 : Hid _ := hf7
  have HXB : Hid (NBox V xb (Nd.mk rk rm ru rg ro ra rd rs) hr) := hx
  have HROW : Hid _ := hrow
  have HNE : Hid _ := hne
  clear hi0 hi1 hi2 hi3 hQ hl h7 hf7 hx hrow hne
  refine wp_region_any (by first | assumption | rfl | kernel_rfl) ?_
  refine any_kept (RKI nm vk nb xb lb lo ln lc j base n fl hr rk rm ru rg ro ra rd rs X0 V) ?step ?fin _ _ _ _ ?le ?init
  case le => decide
  case init =>
    refine ⟨X0, false, false, false, false, false, false, false, false, false, false, false, false, ha, rfl, e10, e13, e14, e15, ?_⟩
    exact ⟨(fun e => by cases e), (fun e => by cases e), (fun e => by cases e), (fun e => by cases e), (fun e => by cases e), (fun e => by cases e), (fun e => by cases e), (fun e => by cases e), (fun e => by cases e), (fun e => by cases e), (fun e => by cases e), (fun e => by cases e), (fun e => by cases e), (fun e => by cases e), (fun e => by cases e), (fun e => by cases e), (fun e => by cases e), (fun _ => hV), (fun e => by cases e), (fun e => by cases e), (fun e => by cases e), rfl, rfl, rfl, rfl, rfl, rfl, rfl, rfl, rfl, rfl, rfl, rfl, rfl, rfl, rfl, rfl, rfl, rfl, rfl, rfl, rfl, rfl, rfl, rfl, rfl, rfl, rfl, rfl, rfl, rfl, rfl, rfl, rfl, rfl, rfl, rfl, rfl, rfl, rfl, rfl, rfl, rfl, rfl, rfl, rfl, rfl, rfl, rfl, rfl, rfl, rfl, rfl, rfl, rfl, rfl, rfl, rfl, rfl, rfl, rfl, rfl⟩
  case fin =>
    clear ha e10 e13 e14 e15 hV
    rintro listed a W ⟨X, c0, c1, c2, c3, c4, c5, c6, c7, c8, c9, c10, c11, rfl, rfl, e10, e13, e14, e15, h⟩ hrd
    have kk : ∀ j, (#[c0, c1, c2, c3, c4, c5, c6, c7, c8, c9, c10, c11] : Array Bool).getD j true = false → ∀ o, (#[{ dst := some 64, op := Op.fieldAddr 31 (Operand.tmp 10) 7, type := 0, pos := "parts.go:795", after := #[], guard := none }, { dst := some 65, op := Op.load 29 (Operand.tmp 64), type := 29, pos := "parts.go:795", after := #[{ on := 0, ground := Ground.data }], guard := none }, { dst := some 66, op := Op.move (Operand.tmp 13), type := 23, pos := "parts.go:795", after := #[], guard := none }, { dst := some 67, op := Op.move (Operand.tmp 14), type := 3, pos := "parts.go:795", after := #[], guard := none }, { dst := some 68, op := Op.indexAddr 23 (Operand.tmp 66) (Operand.tmp 67), type := 0, pos := "parts.go:795", after := #[{ on := 2, ground := Ground.data }, { on := 3, ground := Ground.data }], guard := none }, { dst := some 69, op := Op.load 9 (Operand.tmp 68), type := 9, pos := "parts.go:795", after := #[{ on := 4, ground := Ground.data }], guard := none }, { dst := some 70, op := Op.load 31 (Operand.tmp 15), type := 31, pos := "parts.go:795", after := #[], guard := none }, { dst := some 71, op := Op.build 48 #[(0, Operand.tmp 69), (1, Operand.tmp 70)], type := 48, pos := "parts.go:795", after := #[{ on := 5, ground := Ground.data }, { on := 6, ground := Ground.data }], guard := none }, { dst := some 72, op := Op.buildSlice 29 1 #[(0, Operand.tmp 71)], type := 29, pos := "parts.go:795", after := #[{ on := 7, ground := Ground.data }], guard := none }, { dst := some 73, op := Op.call { callee := Callee.builtin Builtin.append, args := #[Operand.tmp 65, Operand.tmp 72], argTypes := #[29, 29] }, type := 29, pos := "parts.go:795", after := #[{ on := 1, ground := Ground.data }, { on := 8, ground := Ground.data }], guard := none }, { dst := some 74, op := Op.fieldAddr 31 (Operand.tmp 10) 7, type := 0, pos := "parts.go:795", after := #[{ on := 0, ground := Ground.phase }, { on := 1, ground := Ground.phase }, { on := 2, ground := Ground.phase }, { on := 3, ground := Ground.phase }, { on := 4, ground := Ground.phase }, { on := 5, ground := Ground.phase }, { on := 6, ground := Ground.phase }, { on := 7, ground := Ground.phase }, { on := 8, ground := Ground.phase }, { on := 9, ground := Ground.phase }], guard := none }, { dst := none, op := Op.store 29 (Operand.tmp 74) (Operand.tmp 73), type := 0, pos := "parts.go:795", after := #[{ on := 10, ground := Ground.data }, { on := 9, ground := Ground.data }, { on := 9, ground := Ground.chain }, { on := 0, ground := Ground.phase }, { on := 1, ground := Ground.phase }, { on := 2, ground := Ground.phase }, { on := 3, ground := Ground.phase }, { on := 4, ground := Ground.phase }, { on := 5, ground := Ground.phase }, { on := 6, ground := Ground.phase }, { on := 7, ground := Ground.phase }, { on := 8, ground := Ground.phase }, { on := 9, ground := Ground.phase }], guard := none }] : Array Oper)[j]? = some o → (∀ e ∈ o.after, Region.binds .any e = true → (#[c0, c1, c2, c3, c4, c5, c6, c7, c8, c9, c10, c11] : Array Bool).getD e.on false = true) → False := fun j h1 o h2 h3 => by
      have := (mem_ready (md := .any)).2 ⟨h1, o, h2, h3⟩
      rw [hrd] at this
      cases this
    have d0 : c0 = true := by
      cases e : c0 with
      | true => rfl
      | false => exact (kk 0 (by simp [e]) _ rfl (by simp [Region.binds])).elim
    have d1 : c1 = true := by
      cases e : c1 with
      | true => rfl
      | false => exact (kk 1 (by simp [e]) _ rfl (by simp [Region.binds, d0])).elim
    have d2 : c2 = true := by
      cases e : c2 with
      | true => rfl
      | false => exact (kk 2 (by simp [e]) _ rfl (by simp [Region.binds, d0, d1])).elim
    have d3 : c3 = true := by
      cases e : c3 with
      | true => rfl
      | false => exact (kk 3 (by simp [e]) _ rfl (by simp [Region.binds, d0, d1, d2])).elim
    have d4 : c4 = true := by
      cases e : c4 with
      | true => rfl
      | false => exact (kk 4 (by simp [e]) _ rfl (by simp [Region.binds, d0, d1, d2, d3])).elim
    have d5 : c5 = true := by
      cases e : c5 with
      | true => rfl
      | false => exact (kk 5 (by simp [e]) _ rfl (by simp [Region.binds, d0, d1, d2, d3, d4])).elim
    have d6 : c6 = true := by
      cases e : c6 with
      | true => rfl
      | false => exact (kk 6 (by simp [e]) _ rfl (by simp [Region.binds, d0, d1, d2, d3, d4, d5])).elim
    have d7 : c7 = true := by
      cases e : c7 with
      | true => rfl
      | false => exact (kk 7 (by simp [e]) _ rfl (by simp [Region.binds, d0, d1, d2, d3, d4, d5, d6])).elim
    have d8 : c8 = true := by
      cases e : c8 with
      | true => rfl
      | false => exact (kk 8 (by simp [e]) _ rfl (by simp [Region.binds, d0, d1, d2, d3, d4, d5, d6, d7])).elim
    have d9 : c9 = true := by
      cases e : c9 with
      | true => rfl
      | false => exact (kk 9 (by simp [e]) _ rfl (by simp [Region.binds, d0, d1, d2, d3, d4, d5, d6, d7, d8])).elim
    have d10 : c10 = true := by
      cases e : c10 with
      | true => rfl
      | false => exact (kk 10 (by simp [e]) _ rfl (by simp [Region.binds, d0, d1, d2, d3, d4, d5, d6, d7, d8, d9])).elim
    have d11 : c11 = true := by
      cases e : c11 with
      | true => rfl
      | false => exact (kk 11 (by simp [e]) _ rfl (by simp [Region.binds, d0, d1, d2, d3, d4, d5, d6, d7, d8, d9, d10])).elim
    obtain ⟨v', W2, h1, rfl⟩ := h.p3 d11
    exact HQ.out _ _ _ h1 e10 e13 e14 e15 h.g0 h.g1 h.g2 h.g3 h.g4 h.g5 h.g6 h.g7 h.g8 h.g9 h.g11 h.g12 h.g16 h.g17 h.g18 h.g19 h.g20 h.g21 h.g22 h.g23 h.g24 h.g25 h.g26 h.g27 h.g28 h.g29 h.g30 h.g31 h.g32 h.g33 h.g34 h.g35 h.g36 h.g37 h.g38 h.g39 h.g40 h.g41 h.g42 h.g43 h.g44 h.g45 h.g46 h.g47 h.g48 h.g49 h.g50 h.g51 h.g52 h.g53 h.g54 h.g55 h.g56 h.g57 h.g58 h.g59 h.g60 h.g61 h.g62 h.g63 h.g75
  case step =>
    clear ha e10 e13 e14 e15 hV
    rintro listed a W jj ⟨X, c0, c1, c2, c3, c4, c5, c6, c7, c8, c9, c10, c11, rfl, rfl, e10, e13, e14, e15, h⟩ hjj
    obtain ⟨hu, o, ho, hd⟩ := mem_ready.1 hjj
    have hlt : jj < 12 := (Array.getElem?_eq_some_iff.1 ho).1
    clear hjj
    obtain rfl | rfl | rfl | rfl | rfl | rfl | rfl | rfl | rfl | rfl | rfl | rfl : jj = 0 ∨ jj = 1 ∨ jj = 2 ∨ jj = 3 ∨ jj = 4 ∨ jj = 5 ∨ jj = 6 ∨ jj = 7 ∨ jj = 8 ∨ jj = 9 ∨ jj = 10 ∨ jj = 11 := by omega
    · have ho2 := ho
      simp at ho; subst ho
      simp [Region.binds] at hd hu
      subst hu
      refine opP_of ho2 rfl ?_
      simp only [frm3, e10]
      go_simp
      exact ⟨_, _, _, _, _, _, _, _, _, _, _, _, _, frame_at3 rfl, rfl, rfl, rfl, rfl, rfl, ⟨(fun _ => rfl), h.f1, h.f2, h.f3, h.f4, h.f5, h.f6, h.f7, h.f8, h.f10, (fun _ => rfl), h.q4, h.q5, h.q7, h.q8, h.q9, h.q11, h.p0, h.p1, h.p2, h.p3, h.g0, h.g1, h.g2, h.g3, h.g4, h.g5, h.g6, h.g7, h.g8, h.g9, h.g11, h.g12, h.g16, h.g17, h.g18, h.g19, h.g20, h.g21, h.g22, h.g23, h.g24, h.g25, h.g26, h.g27, h.g28, h.g29, h.g30, h.g31, h.g32, h.g33, h.g34, h.g35, h.g36, h.g37, h.g38, h.g39, h.g40, h.g41, h.g42, h.g43, h.g44, h.g45, h.g46, h.g47, h.g48, h.g49, h.g50, h.g51, h.g52, h.g53, h.g54, h.g55, h.g56, h.g57, h.g58, h.g59, h.g60, h.g61, h.g62, h.g63, h.g75⟩⟩
    · have ho2 := ho
      simp at ho; subst ho
      simp [Region.binds] at hd hu
      subst hu
      obtain rfl : c0 = true := by simp [hd]
      have x0 := h.f0 rfl
      have c9f : c9 = false := by cases e : c9 with | false => rfl | true => cases (h.q9 e).1
      subst c9f
      have hc : W.cell? ⟨nb, 7, none⟩ = some vk := by
        cases e8 : c8 with
        | false => rw [h.p0 e8]; exact H7.out
        | true => rw [h.p1 e8 rfl]; exact mle_below ((Below.refl _ V).alloc (Nat.le_refl _) _) _ _ H7.out
      refine opP_of ho2 rfl ?_
      simp only [frm3, x0]
      go_simp
      exact ⟨_, _, _, _, _, _, _, _, _, _, _, _, _, frame_at3 rfl, rfl, rfl, rfl, rfl, rfl, ⟨(fun _ => rfl), (fun _ => rfl), h.f2, h.f3, h.f4, h.f5, h.f6, h.f7, h.f8, h.f10, (fun _ => rfl), h.q4, h.q5, h.q7, h.q8, (fun e => ⟨rfl, (h.q9 e).2⟩), h.q11, h.p0, h.p1, h.p2, h.p3, h.g0, h.g1, h.g2, h.g3, h.g4, h.g5, h.g6, h.g7, h.g8, h.g9, h.g11, h.g12, h.g16, h.g17, h.g18, h.g19, h.g20, h.g21, h.g22, h.g23, h.g24, h.g25, h.g26, h.g27, h.g28, h.g29, h.g30, h.g31, h.g32, h.g33, h.g34, h.g35, h.g36, h.g37, h.g38, h.g39, h.g40, h.g41, h.g42, h.g43, h.g44, h.g45, h.g46, h.g47, h.g48, h.g49, h.g50, h.g51, h.g52, h.g53, h.g54, h.g55, h.g56, h.g57, h.g58, h.g59, h.g60, h.g61, h.g62, h.g63, h.g75⟩⟩
    · have ho2 := ho
      simp at ho; subst ho
      simp [Region.binds] at hd hu
      subst hu
      refine opP_of ho2 rfl ?_
      simp only [frm3, e13]
      go_simp
      exact ⟨_, _, _, _, _, _, _, _, _, _, _, _, _, frame_at3 rfl, rfl, rfl, rfl, rfl, rfl, ⟨h.f0, h.f1, (fun _ => rfl), h.f3, h.f4, h.f5, h.f6, h.f7, h.f8, h.f10, h.q1, (fun e => ⟨rfl, (h.q4 e).2⟩), h.q5, h.q7, h.q8, h.q9, h.q11, h.p0, h.p1, h.p2, h.p3, h.g0, h.g1, h.g2, h.g3, h.g4, h.g5, h.g6, h.g7, h.g8, h.g9, h.g11, h.g12, h.g16, h.g17, h.g18, h.g19, h.g20, h.g21, h.g22, h.g23, h.g24, h.g25, h.g26, h.g27, h.g28, h.g29, h.g30, h.g31, h.g32, h.g33, h.g34, h.g35, h.g36, h.g37, h.g38, h.g39, h.g40, h.g41, h.g42, h.g43, h.g44, h.g45, h.g46, h.g47, h.g48, h.g49, h.g50, h.g51, h.g52, h.g53, h.g54, h.g55, h.g56, h.g57, h.g58, h.g59, h.g60, h.g61, h.g62, h.g63, h.g75⟩⟩
    · have ho2 := ho
      simp at ho; subst ho
      simp [Region.binds] at hd hu
      subst hu
      refine opP_of ho2 rfl ?_
      simp only [frm3, e14]
      go_simp
      exact ⟨_, _, _, _, _, _, _, _, _, _, _, _, _, frame_at3 rfl, rfl, rfl, rfl, rfl, rfl, ⟨h.f0, h.f1, h.f2, (fun _ => rfl), h.f4, h.f5, h.f6, h.f7, h.f8, h.f10, h.q1, (fun e => ⟨(h.q4 e).1, rfl⟩), h.q5, h.q7, h.q8, h.q9, h.q11, h.p0, h.p1, h.p2, h.p3, h.g0, h.g1, h.g2, h.g3, h.g4, h.g5, h.g6, h.g7, h.g8, h.g9, h.g11, h.g12, h.g16, h.g17, h.g18, h.g19, h.g20, h.g21, h.g22, h.g23, h.g24, h.g25, h.g26, h.g27, h.g28, h.g29, h.g30, h.g31, h.g32, h.g33, h.g34, h.g35, h.g36, h.g37, h.g38, h.g39, h.g40, h.g41, h.g42, h.g43, h.g44, h.g45, h.g46, h.g47, h.g48, h.g49, h.g50, h.g51, h.g52, h.g53, h.g54, h.g55, h.g56, h.g57, h.g58, h.g59, h.g60, h.g61, h.g62, h.g63, h.g75⟩⟩
    · have ho2 := ho
      simp at ho; subst ho
      simp [Region.binds] at hd hu
      subst hu
      obtain ⟨rfl, rfl⟩ : c2 = true ∧ c3 = true := by simp [hd]
      have x2 := h.f2 rfl
      have x3 := h.f3 rfl
      have hi1 : (0 : Int) ≤ (j : Int) := by omega
      have hi2 : (j : Int) < (ln : Int) := by omega
      have hi3 : (j : Int).toNat = j := by omega
      refine opP_of ho2 rfl ?_
      simp only [frm3, x2, x3]
      go_simp
      exact ⟨_, _, _, _, _, _, _, _, _, _, _, _, _, frame_at3 rfl, rfl, rfl, rfl, rfl, rfl, ⟨h.f0, h.f1, (fun _ => rfl), (fun _ => rfl), (fun _ => rfl), h.f5, h.f6, h.f7, h.f8, h.f10, h.q1, (fun _ => ⟨rfl, rfl⟩), (fun _ => rfl), h.q7, h.q8, h.q9, h.q11, h.p0, h.p1, h.p2, h.p3, h.g0, h.g1, h.g2, h.g3, h.g4, h.g5, h.g6, h.g7, h.g8, h.g9, h.g11, h.g12, h.g16, h.g17, h.g18, h.g19, h.g20, h.g21, h.g22, h.g23, h.g24, h.g25, h.g26, h.g27, h.g28, h.g29, h.g30, h.g31, h.g32, h.g33, h.g34, h.g35, h.g36, h.g37, h.g38, h.g39, h.g40, h.g41, h.g42, h.g43, h.g44, h.g45, h.g46, h.g47, h.g48, h.g49, h.g50, h.g51, h.g52, h.g53, h.g54, h.g55, h.g56, h.g57, h.g58, h.g59, h.g60, h.g61, h.g62, h.g63, h.g75⟩⟩
    · have ho2 := ho
      simp at ho; subst ho
      simp [Region.binds] at hd hu
      subst hu
      obtain rfl : c4 = true := by simp [hd]
      have x4 := h.f4 rfl
      obtain rfl := h.p0 (by cases e : c8 with | false => rfl | true => cases (h.q7 (h.q8 e)).1)
      have hc := HL.out
      refine opP_of ho2 rfl ?_
      simp only [frm3, x4]
      go_simp
      exact ⟨_, _, _, _, _, _, _, _, _, _, _, _, _, frame_at3 rfl, rfl, rfl, rfl, rfl, rfl, ⟨h.f0, h.f1, h.f2, h.f3, (fun _ => rfl), (fun _ => rfl), h.f6, h.f7, h.f8, h.f10, h.q1, h.q4, (fun _ => rfl), (fun e => ⟨rfl, (h.q7 e).2⟩), h.q8, h.q9, h.q11, h.p0, h.p1, h.p2, h.p3, h.g0, h.g1, h.g2, h.g3, h.g4, h.g5, h.g6, h.g7, h.g8, h.g9, h.g11, h.g12, h.g16, h.g17, h.g18, h.g19, h.g20, h.g21, h.g22, h.g23, h.g24, h.g25, h.g26, h.g27, h.g28, h.g29, h.g30, h.g31, h.g32, h.g33, h.g34, h.g35, h.g36, h.g37, h.g38, h.g39, h.g40, h.g41, h.g42, h.g43, h.g44, h.g45, h.g46, h.g47, h.g48, h.g49, h.g50, h.g51, h.g52, h.g53, h.g54, h.g55, h.g56, h.g57, h.g58, h.g59, h.g60, h.g61, h.g62, h.g63, h.g75⟩⟩
    · have ho2 := ho
      simp at ho; subst ho
      simp [Region.binds] at hd hu
      subst hu
      obtain rfl := h.p0 (by cases e : c8 with | false => rfl | true => cases (h.q7 (h.q8 e)).2)
      obtain ⟨m0, m1, m2, m3, m4, m5, m6, m7⟩ := HXB.out
      refine opP_of ho2 rfl ?_
      simp only [frm3, e15]
      go_simp
      exact ⟨_, _, _, _, _, _, _, _, _, _, _, _, _, frame_at3 rfl, rfl, rfl, rfl, rfl, rfl, ⟨h.f0, h.f1, h.f2, h.f3, h.f4, h.f5, (fun _ => rfl), h.f7, h.f8, h.f10, h.q1, h.q4, h.q5, (fun e => ⟨(h.q7 e).1, rfl⟩), h.q8, h.q9, h.q11, h.p0, h.p1, h.p2, h.p3, h.g0, h.g1, h.g2, h.g3, h.g4, h.g5, h.g6, h.g7, h.g8, h.g9, h.g11, h.g12, h.g16, h.g17, h.g18, h.g19, h.g20, h.g21, h.g22, h.g23, h.g24, h.g25, h.g26, h.g27, h.g28, h.g29, h.g30, h.g31, h.g32, h.g33, h.g34, h.g35, h.g36, h.g37, h.g38, h.g39, h.g40, h.g41, h.g42, h.g43, h.g44, h.g45, h.g46, h.g47, h.g48, h.g49, h.g50, h.g51, h.g52, h.g53, h.g54, h.g55, h.g56, h.g57, h.g58, h.g59, h.g60, h.g61, h.g62, h.g63, h.g75⟩⟩
    · have ho2 := ho
      simp at ho; subst ho
      simp [Region.binds] at hd hu
      subst hu
      obtain ⟨rfl, rfl⟩ : c5 = true ∧ c6 = true := by simp [hd]
      have x5 := h.f5 rfl
      have x6 := h.f6 rfl
      refine opP_of ho2 rfl ?_
      simp only [frm3, x5, x6]
      go_simp
      exact ⟨_, _, _, _, _, _, _, _, _, _, _, _, _, frame_at3 rfl, rfl, rfl, rfl, rfl, rfl, ⟨h.f0, h.f1, h.f2, h.f3, h.f4, (fun _ => rfl), (fun _ => rfl), (fun _ => rfl), h.f8, h.f10, h.q1, h.q4, h.q5, (fun _ => ⟨rfl, rfl⟩), (fun _ => rfl), h.q9, h.q11, h.p0, h.p1, h.p2, h.p3, h.g0, h.g1, h.g2, h.g3, h.g4, h.g5, h.g6, h.g7, h.g8, h.g9, h.g11, h.g12, h.g16, h.g17, h.g18, h.g19, h.g20, h.g21, h.g22, h.g23, h.g24, h.g25, h.g26, h.g27, h.g28, h.g29, h.g30, h.g31, h.g32, h.g33, h.g34, h.g35, h.g36, h.g37, h.g38, h.g39, h.g40, h.g41, h.g42, h.g43, h.g44, h.g45, h.g46, h.g47, h.g48, h.g49, h.g50, h.g51, h.g52, h.g53, h.g54, h.g55, h.g56, h.g57, h.g58, h.g59, h.g60, h.g61, h.g62, h.g63, h.g75⟩⟩
    · have ho2 := ho
      simp at ho; subst ho
      simp [Region.binds] at hd hu
      subst hu
      obtain rfl : c7 = true := by simp [hd]
      have x7 := h.f7 rfl
      obtain rfl := h.p0 rfl
      refine opP_of ho2 rfl ?_
      simp only [frm3, x7]
      go_simp
      exact ⟨_, _, _, _, _, _, _, _, _, _, _, _, _, frame_at3 rfl, rfl, rfl, rfl, rfl, rfl, ⟨h.f0, h.f1, h.f2, h.f3, h.f4, h.f5, h.f6, (fun _ => rfl), (fun _ => rfl), h.f10, h.q1, h.q4, h.q5, h.q7, (fun _ => rfl), (fun e => ⟨(h.q9 e).1, rfl⟩), h.q11, (fun e => by cases e), (fun _ _ => rfl), (fun e => by cases (h.q9 e).2), (fun e => by cases (h.q9 (h.q11 e).2).2), h.g0, h.g1, h.g2, h.g3, h.g4, h.g5, h.g6, h.g7, h.g8, h.g9, h.g11, h.g12, h.g16, h.g17, h.g18, h.g19, h.g20, h.g21, h.g22, h.g23, h.g24, h.g25, h.g26, h.g27, h.g28, h.g29, h.g30, h.g31, h.g32, h.g33, h.g34, h.g35, h.g36, h.g37, h.g38, h.g39, h.g40, h.g41, h.g42, h.g43, h.g44, h.g45, h.g46, h.g47, h.g48, h.g49, h.g50, h.g51, h.g52, h.g53, h.g54, h.g55, h.g56, h.g57, h.g58, h.g59, h.g60, h.g61, h.g62, h.g63, h.g75⟩⟩
    · have ho2 := ho
      simp at ho; subst ho
      simp [Region.binds] at hd hu
      subst hu
      obtain ⟨rfl, rfl⟩ : c1 = true ∧ c8 = true := by simp [hd]
      have x1 := h.f1 rfl
      have x8 := h.f8 rfl
      have hW := h.p1 rfl rfl
      subst hW
      refine opP_of ho2 rfl (wp_append_src _ (.tmp 65) (.tmp 72) 29 rfl base 48 i0 zK 9 120 Try.underlying29 HI0.out HI1.out HI2.out HI3.out rfl (by decide) vk n fl x1 (World.ownsRow.alloc HROW.out _) (some ⟨V.heap.size, 0, none⟩) 1 1 (kfl [(nm, (Nd.mk rk rm ru rg ro ra rd rs), hr)]) x8 rfl (.inr ⟨_, rfl, fun j u hj => ?_⟩) (kfl_one _) (by unfold maxLen; omega) (by omega) (by rw [World.size_alloc]; omega) ?_)
      · rw [addr_add, Nat.zero_add]
        refine (World.cell?_alloc_at _ _ _ _ rfl).trans ?_
        simpa [kfl, ndL] using hj
      intro v' w' ho1 hg1 hh1
      have c11f : c11 = false := by cases e : c11 with | false => rfl | true => cases (h.q11 e).2
      subst c11f
      simp only [frm3]
      exact ⟨_, _, _, _, _, _, _, _, _, _, _, _, _, frame_at3 rfl, rfl, e10, e13, e14, e15, ⟨h.f0, (h.f1), h.f2, h.f3, h.f4, h.f5, h.f6, h.f7, (h.f8), h.f10, h.q1, h.q4, h.q5, h.q7, h.q8, (fun _ => ⟨rfl, rfl⟩), (fun e => ⟨(h.q11 e).1, rfl⟩), (fun e => by cases e), (fun _ e => by cases e), (fun _ _ => ⟨ho1, hg1, hh1⟩), (fun e => by cases e), h.g0, h.g1, h.g2, h.g3, h.g4, h.g5, h.g6, h.g7, h.g8, h.g9, h.g11, h.g12, h.g16, h.g17, h.g18, h.g19, h.g20, h.g21, h.g22, h.g23, h.g24, h.g25, h.g26, h.g27, h.g28, h.g29, h.g30, h.g31, h.g32, h.g33, h.g34, h.g35, h.g36, h.g37, h.g38, h.g39, h.g40, h.g41, h.g42, h.g43, h.g44, h.g45, h.g46, h.g47, h.g48, h.g49, h.g50, h.g51, h.g52, h.g53, h.g54, h.g55, h.g56, h.g57, h.g58, h.g59, h.g60, h.g61, h.g62, h.g63, h.g75⟩⟩
    · have ho2 := ho
      simp at ho; subst ho
      simp [Region.binds] at hd hu
      subst hu
      obtain ⟨rfl, rfl, rfl, rfl, rfl, rfl, rfl, rfl, rfl, rfl⟩ : c0 = true ∧ c1 = true ∧ c2 = true ∧ c3 = true ∧ c4 = true ∧ c5 = true ∧ c6 = true ∧ c7 = true ∧ c8 = true ∧ c9 = true := by simp [hd]
      refine opP_of ho2 rfl ?_
      simp only [frm3, e10]
      go_simp
      exact ⟨_, _, _, _, _, _, _, _, _, _, _, _, _, frame_at3 rfl, rfl, rfl, rfl, rfl, rfl, ⟨h.f0, h.f1, h.f2, h.f3, h.f4, h.f5, h.f6, h.f7, h.f8, (fun _ => rfl), h.q1, h.q4, h.q5, h.q7, h.q8, h.q9, (fun e => ⟨rfl, (h.q11 e).2⟩), h.p0, h.p1, h.p2, h.p3, h.g0, h.g1, h.g2, h.g3, h.g4, h.g5, h.g6, h.g7, h.g8, h.g9, h.g11, h.g12, h.g16, h.g17, h.g18, h.g19, h.g20, h.g21, h.g22, h.g23, h.g24, h.g25, h.g26, h.g27, h.g28, h.g29, h.g30, h.g31, h.g32, h.g33, h.g34, h.g35, h.g36, h.g37, h.g38, h.g39, h.g40, h.g41, h.g42, h.g43, h.g44, h.g45, h.g46, h.g47, h.g48, h.g49, h.g50, h.g51, h.g52, h.g53, h.g54, h.g55, h.g56, h.g57, h.g58, h.g59, h.g60, h.g61, h.g62, h.g63, h.g75⟩⟩
    · have ho2 := ho
      simp at ho; subst ho
      simp [Region.binds] at hd hu
      subst hu
      obtain ⟨rfl, rfl, rfl, rfl, rfl, rfl, rfl, rfl, rfl, rfl, rfl⟩ : c0 = true ∧ c1 = true ∧ c2 = true ∧ c3 = true ∧ c4 = true ∧ c5 = true ∧ c6 = true ∧ c7 = true ∧ c8 = true ∧ c9 = true ∧ c10 = true := by simp [hd]
      have x10 := h.f10 rfl
      have hA := h.p2 rfl rfl
      obtain ⟨ggx, ccx, hv⟩ := ownsRow_succ hA.own
      have hlt7 : nb < V.heap.size := World.block_lt_of_cell? _ _ H7.out
      have hbk : W.heap[nb]? = V.heap[nb]? := (hA.gro.block nb (by rw [World.size_alloc]; omega) HNE.out).trans (Below.heap_alloc _ _ _ hlt7)
      have hc : W.cell? ⟨nb, 7, none⟩ = some vk := (World.cell?_of_block (w := V) hbk).trans H7.out
      have hf : W.frozen? ⟨nb, 7, none⟩ = false := (World.frozen?_of_block (w := V) hbk).trans HF7.out
      have HA : Hid _ := hA
      have HV : Hid _ := hv
      clear hA hbk
      refine opP_of ho2 rfl ?_
      simp only [frm3, x10, hv]
      go_simp
      exact ⟨_, _, _, _, _, _, _, _, _, _, _, _, _, frame_at3 rfl, rfl, rfl, rfl, rfl, rfl, ⟨h.f0, h.f1, h.f2, h.f3, h.f4, h.f5, h.f6, h.f7, h.f8, (fun _ => rfl), h.q1, h.q4, h.q5, h.q7, h.q8, h.q9, (fun _ => ⟨rfl, rfl⟩), (fun e => by cases e), (fun _ e => by cases e), (fun _ e => by cases e), (fun _ => ⟨_, W, HA.out, by rw [HV.out]⟩), h.g0, h.g1, h.g2, h.g3, h.g4, h.g5, h.g6, h.g7, h.g8, h.g9, h.g11, h.g12, h.g16, h.g17, h.g18, h.g19, h.g20, h.g21, h.g22, h.g23, h.g24, h.g25, h.g26, h.g27, h.g28, h.g29, h.g30, h.g31, h.g32, h.g33, h.g34, h.g35, h.g36, h.g37, h.g38, h.g39, h.g40, h.g41, h.g42, h.g43, h.g44, h.g45, h.g46, h.g47, h.g48, h.g49, h.g50, h.g51, h.g52, h.g53, h.g54, h.g55, h.g56, h.g57, h.g58, h.g59, h.g60, h.g61, h.g62, h.g63, h.g75⟩⟩
end Go.Proofs.Ytgmeecfdkcbggaa
