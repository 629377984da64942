/-
  THE REGION IN WHICH THE DOCUMENT's List PUTS A NAME WHERE IT BELONGS: each operation.
-/
import Derived.Test.YtgmeecfdkcbggaaNcX
import Derived.Orders
import Derived.RegionTactic
namespace Go.Proofs.Ytgmeecfdkcbggaa
open Go.RowKit Go.Shelf
/-- A frame of so many slots. -/
def frm2 (X : Nat → Value) : Array Value := #[X 0, X 1, X 2, X 3, X 4, X 5, X 6, X 7, X 8, X 9, X 10, X 11, X 12, X 13, X 14, X 15, X 16, X 17, X 18, X 19, X 20, X 21, X 22, X 23, X 24, X 25, X 26, X 27, X 28, X 29, X 30, X 31, X 32, X 33, X 34, X 35, X 36, X 37, X 38, X 39, X 40, X 41, X 42, X 43, X 44, X 45, X 46, X 47, X 48, X 49, X 50, X 51, X 52, X 53, X 54, X 55, X 56, X 57, X 58, X 59, X 60, X 61, X 62, X 63, X 64, X 65, X 66, X 67, X 68, X 69, X 70, X 71, X 72, X 73, X 74, X 75, X 76, X 77, X 78, X 79, X 80, X 81, X 82, X 83, X 84, X 85, X 86, X 87, X 88, X 89, X 90, X 91]
set_option maxRecDepth 100000 in
theorem frm2_of (A : Array Value) (h : A.size = 92) : A = frm2 (fun i => A.getD i undef) := by
  have e : frm2 (fun i => A.getD i undef) = ((List.range 92).map (fun i => A.getD i undef)).toArray := rfl
  rw [e]
  apply Array.ext
  · simp [h]
  · intro i h1 h2
    simp [Array.getD, h1]
theorem frame_at2 {A : Array Value} {ds : List Deferred} (h : A.size = 92) : ({ tmps := A, defers := ds } : Act) = { tmps := frm2 (fun i => A.getD i undef), defers := ds } := by rw [← frm2_of A h]
/-- What each operation keeps, whichever may come up, holds at the end. -/
theorem any_kept {P : Program} {md : Region.Mode} {ops : Array Oper} {Q : Exit → Act → World → Prop} (I : Array Bool → Act → World → Prop)
    (hstep : ∀ listed a w i, I listed a w → i ∈ Region.ready md ops listed → wpOp P ops Q i (I (listed.setIfInBounds i true)) a w)
    (hfin : ∀ listed a w, I listed a w → Region.ready md ops listed = [] → Q .normal a w) :
    ∀ (fuel : Nat) (listed : Array Bool) (a : Act) (w : World), left listed ≤ fuel → I listed a w → wpAny P md ops Q fuel listed a w
  | 0, listed, a, w, hl, h => by
    have e : Region.ready md ops listed = [] := by
      cases hr : Region.ready md ops listed with
      | nil => rfl
      | cons i r =>
        have hi : i ∈ Region.ready md ops listed := by rw [hr]; exact List.mem_cons_self ..
        have := left_set (mem_ready.1 hi).1
        omega
    exact ⟨e, hfin _ _ _ h e⟩
  | fuel + 1, listed, a, w, hl, h => by
    refine ⟨hfin _ _ _ h, fun i hi => ?_⟩
    refine wpOp_mono (fun a' w' h' => any_kept I hstep hfin fuel _ a' w' ?_ h') (hstep _ _ _ _ h hi)
    have := left_set (mem_ready.1 hi).1
    omega
theorem opP_of {P : Program} {ops : Array Oper} {Q : Exit → Act → World → Prop} {i : Nat} {o : Oper} {K : Act → World → Prop} {a : Act} {w : World} (ho : ops[i]? = some o) (hgd : o.guard = none) (h : o.wp P a w K Q) : wpOp P ops Q i K a w := by
  unfold wpOp
  rw [ho]
  have hw : Region.wanted o (yielded ops a.tmps) = true := by simp [Region.wanted, hgd]
  simp only [hw, if_true]
  exact .inl h
structure RL (P : List ByteArray) (nm : ByteArray) (gg gc r : Nat) (AD : Option Addr) (X0 : Nat → Value) (V : World) (c0 c1 c2 c3 c4 c5 c6 c7 c8 c9 c10 c11 : Bool) (X : Nat → Value) (W : World) : Prop where
  f0 : c0 = true → X 80 = .slice (some ⟨gg, 0, none⟩) P.length gc
  f1 : c1 = true → X 81 = .int .i64 r
  f2 : c2 = true → X 82 = .slice (some ⟨gg, 0, none⟩) r gc
  f4 : c4 = true → X 84 = .string nm
  f7 : c7 = true → X 87 = .slice (some ⟨gg, 0, none⟩) P.length gc
  f8 : c8 = true → X 88 = .int .i64 r
  f9 : c9 = true → X 89 = .slice AD (P.length - r) (gc - r)
  q2 : c2 = true → c0 = true ∧ c1 = true
  q3 : c3 = true → c2 = true
  q5 : c5 = true → c4 = true
  q6 : c6 = true → c3 = true ∧ c5 = true
  q9 : c9 = true → c7 = true ∧ c8 = true
  q10 : c10 = true → c6 = true ∧ c9 = true
  q11 : c11 = true → c10 = true
  low : Below V.heap.size V W
  p3 : c3 = true → c6 = false → W.ownsRow V.heap.size 9 1 (X 83) (0 + r) ([] ++ strL (P.take r))
  p5 : c5 = true → c6 = false → ∃ tb, X 85 = .slice (some ⟨tb, 0, none⟩) 1 1 ∧ W.cell? ⟨tb, 0, none⟩ = some (.string nm)
  p6 : c6 = true → c10 = false → W.ownsRow V.heap.size 9 1 (X 86) (0 + r + 1) ([] ++ strL (P.take r) ++ strL [nm])
  p10 : c10 = true → W.ownsRow V.heap.size 9 1 (X 90) (0 + r + 1 + (P.length - r)) ([] ++ strL (P.take r) ++ strL [nm] ++ strL (P.drop r))
  p11 : c11 = true → X 6 = X 90
  n6 : c11 = false → X 6 = .slice (some ⟨gg, 0, none⟩) P.length gc
  g0 : X 0 = X0 0
  g1 : X 1 = X0 1
  g2 : X 2 = X0 2
  g3 : X 3 = X0 3
  g4 : X 4 = X0 4
  g5 : X 5 = X0 5
  g7 : X 7 = X0 7
  g8 : X 8 = X0 8
  g10 : X 10 = X0 10
  g12 : X 12 = X0 12
  g13 : X 13 = X0 13
  g14 : X 14 = X0 14
  g15 : X 15 = X0 15
  g16 : X 16 = X0 16
  g17 : X 17 = X0 17
  g18 : X 18 = X0 18
  g19 : X 19 = X0 19
  g20 : X 20 = X0 20
  g21 : X 21 = X0 21
  g22 : X 22 = X0 22
  g23 : X 23 = X0 23
  g24 : X 24 = X0 24
  g25 : X 25 = X0 25
  g26 : X 26 = X0 26
  g27 : X 27 = X0 27
  g28 : X 28 = X0 28
  g29 : X 29 = X0 29
  g30 : X 30 = X0 30
  g31 : X 31 = X0 31
  g32 : X 32 = X0 32
  g33 : X 33 = X0 33
  g34 : X 34 = X0 34
  g35 : X 35 = X0 35
  g36 : X 36 = X0 36
  g37 : X 37 = X0 37
  g38 : X 38 = X0 38
  g39 : X 39 = X0 39
  g40 : X 40 = X0 40
  g41 : X 41 = X0 41
  g42 : X 42 = X0 42
  g43 : X 43 = X0 43
  g44 : X 44 = X0 44
  g45 : X 45 = X0 45
  g46 : X 46 = X0 46
  g47 : X 47 = X0 47
  g48 : X 48 = X0 48
  g49 : X 49 = X0 49
  g50 : X 50 = X0 50
  g51 : X 51 = X0 51
  g52 : X 52 = X0 52
  g53 : X 53 = X0 53
  g54 : X 54 = X0 54
  g55 : X 55 = X0 55
  g56 : X 56 = X0 56
  g57 : X 57 = X0 57
  g58 : X 58 = X0 58
  g59 : X 59 = X0 59
  g60 : X 60 = X0 60
  g61 : X 61 = X0 61
  g62 : X 62 = X0 62
  g63 : X 63 = X0 63
  g64 : X 64 = X0 64
  g65 : X 65 = X0 65
  g66 : X 66 = X0 66
  g67 : X 67 = X0 67
  g68 : X 68 = X0 68
  g69 : X 69 = X0 69
  g70 : X 70 = X0 70
  g71 : X 71 = X0 71
  g72 : X 72 = X0 72
  g73 : X 73 = X0 73
  g74 : X 74 = X0 74
  g75 : X 75 = X0 75
  g76 : X 76 = X0 76
  g77 : X 77 = X0 77
  g78 : X 78 = X0 78
  g79 : X 79 = X0 79
  g91 : X 91 = X0 91
def RLI (P : List ByteArray) (nm : ByteArray) (gg gc r : Nat) (AD : Option Addr) (X0 : Nat → Value) (V : World) (listed : Array Bool) (a : Act) (W : World) : Prop := ∃ (X : Nat → Value) (c0 c1 c2 c3 c4 c5 c6 c7 c8 c9 c10 c11 : Bool), a = { tmps := frm2 X, defers := [] } ∧ listed = #[c0, c1, c2, c3, c4, c5, c6, c7, c8, c9, c10, c11] ∧ X 9 = .string nm ∧ X 11 = .int .i64 r ∧ RL P nm gg gc r AD X0 V c0 c1 c2 c3 c4 c5 c6 c7 c8 c9 c10 c11 X W
set_option maxRecDepth 100000 in
set_option maxHeartbeats 8000000 in
theorem rl15 {P : List ByteArray} {nm : ByteArray} {gg gc r : Nat} {AD : Option Addr} {X0 : Nat → Value} {V : World} {Q : Exit → Act → World → Prop} {a0 : Act} {W0 : World} (hV : W0.drew = V) (ha : a0 = { tmps := frm2 X0, defers := [] }) (e6 : X0 6 = .slice (some ⟨gg, 0, none⟩) P.length gc) (e9 : X0 9 = .string nm) (e11 : X0 11 = .int .i64 r)
    (hcP : ∀ (k : Nat) x, P[k]? = some x → V.cell? ⟨gg, k, none⟩ = some (.string x)) (hr : r ≤ P.length) (hpc : P.length ≤ gc) (hpl : P.length ≤ 1000) (hAD : (if gc = r then some (⟨gg, 0, none⟩ : Addr) else some ⟨gg, r, none⟩) = AD)
    (hQ : ∀ (X : Nat → Value) (W : World), W.ownsRow V.heap.size 9 1 (X 6) (0 + r + 1 + (P.length - r)) ([] ++ strL (P.take r) ++ strL [nm] ++ strL (P.drop r)) → Below V.heap.size V W → X 9 = .string nm → X 11 = .int .i64 r → X 0 = X0 0 → X 1 = X0 1 → X 2 = X0 2 → X 3 = X0 3 → X 4 = X0 4 → X 5 = X0 5 → X 7 = X0 7 → X 8 = X0 8 → X 10 = X0 10 → X 12 = X0 12 → X 13 = X0 13 → X 14 = X0 14 → X 15 = X0 15 → X 16 = X0 16 → X 17 = X0 17 → X 18 = X0 18 → X 19 = X0 19 → X 20 = X0 20 → X 21 = X0 21 → X 22 = X0 22 → X 23 = X0 23 → X 24 = X0 24 → X 25 = X0 25 → X 26 = X0 26 → X 27 = X0 27 → X 28 = X0 28 → X 29 = X0 29 → X 30 = X0 30 → X 31 = X0 31 → X 32 = X0 32 → X 33 = X0 33 → X 34 = X0 34 → X 35 = X0 35 → X 36 = X0 36 → X 37 = X0 37 → X 38 = X0 38 → X 39 = X0 39 → X 40 = X0 40 → X 41 = X0 41 → X 42 = X0 42 → X 43 = X0 43 → X 44 = X0 44 → X 45 = X0 45 → X 46 = X0 46 → X 47 = X0 47 → X 48 = X0 48 → X 49 = X0 49 → X 50 = X0 50 → X 51 = X0 51 → X 52 = X0 52 → X 53 = X0 53 → X 54 = X0 54 → X 55 = X0 55 → X 56 = X0 56 → X 57 = X0 57 → X 58 = X0 58 → X 59 = X0 59 → X 60 = X0 60 → X 61 = X0 61 → X 62 = X0 62 → X 63 = X0 63 → X 64 = X0 64 → X 65 = X0 65 → X 66 = X0 66 → X 67 = X0 67 → X 68 = X0 68 → X 69 = X0 69 → X 70 = X0 70 → X 71 = X0 71 → X 72 = X0 72 → X 73 = X0 73 → X 74 = X0 74 → X 75 = X0 75 → X 76 = X0 76 → X 77 = X0 77 → X 78 = X0 78 → X 79 = X0 79 → X 91 = X0 91 → Q .normal { tmps := frm2 X, defers := [] } W) :
    (Code.region 15 #[{ dst := some 80, op := Op.move (Operand.tmp 6), type := 23, pos := "parts.go:775", after := #[], guard := none }, { dst := some 81, op := Op.move (Operand.tmp 11), type := 3, pos := "parts.go:775", after := #[], guard := none }, { dst := some 82, op := Op.slice 23 (Operand.tmp 80) none (some (Operand.tmp 81)) none, type := 23, pos := "parts.go:775", after := #[{ on := 0, ground := Ground.data }, { on := 1, ground := Ground.data }], guard := none }, { dst := some 83, op := Op.call { callee := Callee.builtin Builtin.append, args := #[Operand.const (Value.slice none 0 0), Operand.tmp 82], argTypes := #[23, 23] }, type := 23, pos := "parts.go:775", after := #[{ on := 2, ground := Ground.data }], guard := none }, { dst := some 84, op := Op.move (Operand.tmp 9), type := 9, pos := "parts.go:775", after := #[], guard := none }, { dst := some 85, op := Op.buildSlice 23 1 #[(0, Operand.tmp 84)], type := 23, pos := "parts.go:775", after := #[{ on := 4, ground := Ground.data }], guard := none }, { dst := some 86, op := Op.call { callee := Callee.builtin Builtin.append, args := #[Operand.tmp 83, Operand.tmp 85], argTypes := #[23, 23] }, type := 23, pos := "parts.go:775", after := #[{ on := 3, ground := Ground.data }, { on := 5, ground := Ground.data }, { on := 3, ground := Ground.chain }], guard := none }, { dst := some 87, op := Op.move (Operand.tmp 6), type := 23, pos := "parts.go:775", after := #[], guard := none }, { dst := some 88, op := Op.move (Operand.tmp 11), type := 3, pos := "parts.go:775", after := #[], guard := none }, { dst := some 89, op := Op.slice 23 (Operand.tmp 87) (some (Operand.tmp 88)) none none, type := 23, pos := "parts.go:775", after := #[{ on := 7, ground := Ground.data }, { on := 8, ground := Ground.data }], guard := none }, { dst := some 90, op := Op.call { callee := Callee.builtin Builtin.append, args := #[Operand.tmp 86, Operand.tmp 89], argTypes := #[23, 23] }, type := 23, pos := "parts.go:775", after := #[{ on := 6, ground := Ground.data }, { on := 9, ground := Ground.data }, { on := 6, ground := Ground.chain }], guard := none }, { dst := some 6, op := Op.assign (Operand.tmp 90), type := 23, pos := "parts.go:775", after := #[{ on := 10, ground := Ground.data }, { on := 10, ground := Ground.chain }, { on := 0, ground := Ground.phase }, { on := 1, ground := Ground.phase }, { on := 2, ground := Ground.phase }, { on := 3, ground := Ground.phase }, { on := 4, ground := Ground.phase }, { on := 5, ground := Ground.phase }, { on := 6, ground := Ground.phase }, { on := 7, ground := Ground.phase }, { on := 8, ground := Ground.phase }, { on := 9, ground := Ground.phase }, { on := 10, ground := Ground.phase }], guard := none }] true).wp Try.prog Q a0 W0 := by
  obtain ⟨i0, hi0, hi1, hi2, hi3⟩ := info_three Try.infoStr
  have HI0 : Hid _ := hi0
  have HI1 : Hid _ := hi1
  have HI2 : Hid _ := hi2
  have HI3 : Hid _ := hi3
  have HQ : Hid _ := hQ
  have HCP : Hid (∀ (k : Nat) x, P[k]? = some x → V.cell? ⟨gg, k, none⟩ = some (.string x)) := hcP
  have HAD : Hid ((if gc = r then some (⟨gg, 0, none⟩ : Addr) else some ⟨gg, r, none⟩) = AD) := hAD
  clear hi0 hi1 hi2 hi3 hQ hcP
  refine wp_region_any (by first | assumption | rfl | kernel_rfl) ?_
  refine any_kept (RLI P nm gg gc r AD X0 V) ?step ?fin _ _ _ _ ?le ?init
  case le => decide
  case init =>
    refine ⟨X0, false, false, false, false, false, false, false, false, false, false, false, false, ha, rfl, e9, e11, ?_⟩
    have hlow : Below V.heap.size V W0.drew := by rw [hV]; exact Below.refl _ _
    exact ⟨(fun e => by cases e), (fun e => by cases e), (fun e => by cases e), (fun e => by cases e), (fun e => by cases e), (fun e => by cases e), (fun e => by cases e), (fun e => by cases e), (fun e => by cases e), (fun e => by cases e), (fun e => by cases e), (fun e => by cases e), (fun e => by cases e), (fun e => by cases e), hlow, (fun e => by cases e), (fun e => by cases e), (fun e => by cases e), (fun e => by cases e), (fun e => by cases e), (fun _ => e6), rfl, rfl, rfl, rfl, rfl, rfl, rfl, rfl, rfl, rfl, rfl, rfl, rfl, rfl, rfl, rfl, rfl, rfl, rfl, rfl, rfl, rfl, rfl, rfl, rfl, rfl, rfl, rfl, rfl, rfl, rfl, rfl, rfl, rfl, rfl, rfl, rfl, rfl, rfl, rfl, rfl, rfl, rfl, rfl, rfl, rfl, rfl, rfl, rfl, rfl, rfl, rfl, rfl, rfl, rfl, rfl, rfl, rfl, rfl, rfl, rfl, rfl, rfl, rfl, rfl, rfl, rfl, rfl, rfl, rfl, rfl, rfl, rfl, rfl, rfl, rfl, rfl, rfl⟩
  case fin =>
    clear ha e6 e9 e11 hV
    rintro listed a W ⟨X, c0, c1, c2, c3, c4, c5, c6, c7, c8, c9, c10, c11, rfl, rfl, e9, e11, h⟩ hrd
    have kk : ∀ j, (#[c0, c1, c2, c3, c4, c5, c6, c7, c8, c9, c10, c11] : Array Bool).getD j true = false → ∀ o, (#[{ dst := some 80, op := Op.move (Operand.tmp 6), type := 23, pos := "parts.go:775", after := #[], guard := none }, { dst := some 81, op := Op.move (Operand.tmp 11), type := 3, pos := "parts.go:775", after := #[], guard := none }, { dst := some 82, op := Op.slice 23 (Operand.tmp 80) none (some (Operand.tmp 81)) none, type := 23, pos := "parts.go:775", after := #[{ on := 0, ground := Ground.data }, { on := 1, ground := Ground.data }], guard := none }, { dst := some 83, op := Op.call { callee := Callee.builtin Builtin.append, args := #[Operand.const (Value.slice none 0 0), Operand.tmp 82], argTypes := #[23, 23] }, type := 23, pos := "parts.go:775", after := #[{ on := 2, ground := Ground.data }], guard := none }, { dst := some 84, op := Op.move (Operand.tmp 9), type := 9, pos := "parts.go:775", after := #[], guard := none }, { dst := some 85, op := Op.buildSlice 23 1 #[(0, Operand.tmp 84)], type := 23, pos := "parts.go:775", after := #[{ on := 4, ground := Ground.data }], guard := none }, { dst := some 86, op := Op.call { callee := Callee.builtin Builtin.append, args := #[Operand.tmp 83, Operand.tmp 85], argTypes := #[23, 23] }, type := 23, pos := "parts.go:775", after := #[{ on := 3, ground := Ground.data }, { on := 5, ground := Ground.data }, { on := 3, ground := Ground.chain }], guard := none }, { dst := some 87, op := Op.move (Operand.tmp 6), type := 23, pos := "parts.go:775", after := #[], guard := none }, { dst := some 88, op := Op.move (Operand.tmp 11), type := 3, pos := "parts.go:775", after := #[], guard := none }, { dst := some 89, op := Op.slice 23 (Operand.tmp 87) (some (Operand.tmp 88)) none none, type := 23, pos := "parts.go:775", after := #[{ on := 7, ground := Ground.data }, { on := 8, ground := Ground.data }], guard := none }, { dst := some 90, op := Op.call { callee := Callee.builtin Builtin.append, args := #[Operand.tmp 86, Operand.tmp 89], argTypes := #[23, 23] }, type := 23, pos := "parts.go:775", after := #[{ on := 6, ground := Ground.data }, { on := 9, ground := Ground.data }, { on := 6, ground := Ground.chain }], guard := none }, { dst := some 6, op := Op.assign (Operand.tmp 90), type := 23, pos := "parts.go:775", after := #[{ on := 10, ground := Ground.data }, { on := 10, ground := Ground.chain }, { on := 0, ground := Ground.phase }, { on := 1, ground := Ground.phase }, { on := 2, ground := Ground.phase }, { on := 3, ground := Ground.phase }, { on := 4, ground := Ground.phase }, { on := 5, ground := Ground.phase }, { on := 6, ground := Ground.phase }, { on := 7, ground := Ground.phase }, { on := 8, ground := Ground.phase }, { on := 9, ground := Ground.phase }, { on := 10, ground := Ground.phase }], guard := none }] : Array Oper)[j]? = some o → (∀ e ∈ o.after, Region.binds .any e = true → (#[c0, c1, c2, c3, c4, c5, c6, c7, c8, c9, c10, c11] : Array Bool).getD e.on false = true) → False := fun j h1 o h2 h3 => by
      have := (mem_ready (md := .any)).2 ⟨h1, o, h2, h3⟩
      rw [hrd] at this
      cases this
    have d0 : c0 = true := by
      cases e : c0 with
      | true => rfl
      | false => exact (kk 0 (by simp [e]) _ rfl (by simp [Region.binds])).elim
    have d1 : c1 = true := by
      cases e : c1 with
      | true => rfl
      | false => exact (kk 1 (by simp [e]) _ rfl (by simp [Region.binds, d0])).elim
    have d2 : c2 = true := by
      cases e : c2 with
      | true => rfl
      | false => exact (kk 2 (by simp [e]) _ rfl (by simp [Region.binds, d0, d1])).elim
    have d3 : c3 = true := by
      cases e : c3 with
      | true => rfl
      | false => exact (kk 3 (by simp [e]) _ rfl (by simp [Region.binds, d0, d1, d2])).elim
    have d4 : c4 = true := by
      cases e : c4 with
      | true => rfl
      | false => exact (kk 4 (by simp [e]) _ rfl (by simp [Region.binds, d0, d1, d2, d3])).elim
    have d5 : c5 = true := by
      cases e : c5 with
      | true => rfl
      | false => exact (kk 5 (by simp [e]) _ rfl (by simp [Region.binds, d0, d1, d2, d3, d4])).elim
    have d6 : c6 = true := by
      cases e : c6 with
      | true => rfl
      | false => exact (kk 6 (by simp [e]) _ rfl (by simp [Region.binds, d0, d1, d2, d3, d4, d5])).elim
    have d7 : c7 = true := by
      cases e : c7 with
      | true => rfl
      | false => exact (kk 7 (by simp [e]) _ rfl (by simp [Region.binds, d0, d1, d2, d3, d4, d5, d6])).elim
    have d8 : c8 = true := by
      cases e : c8 with
      | true => rfl
      | false => exact (kk 8 (by simp [e]) _ rfl (by simp [Region.binds, d0, d1, d2, d3, d4, d5, d6, d7])).elim
    have d9 : c9 = true := by
      cases e : c9 with
      | true => rfl
      | false => exact (kk 9 (by simp [e]) _ rfl (by simp [Region.binds, d0, d1, d2, d3, d4, d5, d6, d7, d8])).elim
    have d10 : c10 = true := by
      cases e : c10 with
      | true => rfl
      | false => exact (kk 10 (by simp [e]) _ rfl (by simp [Region.binds, d0, d1, d2, d3, d4, d5, d6, d7, d8, d9])).elim
    have d11 : c11 = true := by
      cases e : c11 with
      | true => rfl
      | false => exact (kk 11 (by simp [e]) _ rfl (by simp [Region.binds, d0, d1, d2, d3, d4, d5, d6, d7, d8, d9, d10])).elim
    have h10 := h.p10 d10
    rw [← h.p11 d11] at h10
    exact HQ.out _ _ h10 h.low e9 e11 h.g0 h.g1 h.g2 h.g3 h.g4 h.g5 h.g7 h.g8 h.g10 h.g12 h.g13 h.g14 h.g15 h.g16 h.g17 h.g18 h.g19 h.g20 h.g21 h.g22 h.g23 h.g24 h.g25 h.g26 h.g27 h.g28 h.g29 h.g30 h.g31 h.g32 h.g33 h.g34 h.g35 h.g36 h.g37 h.g38 h.g39 h.g40 h.g41 h.g42 h.g43 h.g44 h.g45 h.g46 h.g47 h.g48 h.g49 h.g50 h.g51 h.g52 h.g53 h.g54 h.g55 h.g56 h.g57 h.g58 h.g59 h.g60 h.g61 h.g62 h.g63 h.g64 h.g65 h.g66 h.g67 h.g68 h.g69 h.g70 h.g71 h.g72 h.g73 h.g74 h.g75 h.g76 h.g77 h.g78 h.g79 h.g91
  case step =>
    clear ha e6 e9 e11 hV
    rintro listed a W j ⟨X, c0, c1, c2, c3, c4, c5, c6, c7, c8, c9, c10, c11, rfl, rfl, e9, e11, h⟩ hj
    obtain ⟨hu, o, ho, hd⟩ := mem_ready.1 hj
    have hlt : j < 12 := (Array.getElem?_eq_some_iff.1 ho).1
    clear hj
    obtain rfl | rfl | rfl | rfl | rfl | rfl | rfl | rfl | rfl | rfl | rfl | rfl : j = 0 ∨ j = 1 ∨ j = 2 ∨ j = 3 ∨ j = 4 ∨ j = 5 ∨ j = 6 ∨ j = 7 ∨ j = 8 ∨ j = 9 ∨ j = 10 ∨ j = 11 := by omega
    · have ho2 := ho
      simp at ho; subst ho
      simp [Region.binds] at hd hu
      subst hu
      have c11f : c11 = false := by cases e : c11 with | false => rfl | true => cases (h.q2 (h.q3 (h.q6 (h.q10 (h.q11 e)).1).1)).1
      subst c11f
      have x6 := h.n6 rfl
      refine opP_of ho2 rfl ?_
      simp only [frm2, e9, e11, x6]
      go_simp
      exact ⟨_, _, _, _, _, _, _, _, _, _, _, _, _, frame_at2 rfl, rfl, rfl, rfl, ⟨(fun _ => rfl), h.f1, h.f2, h.f4, h.f7, h.f8, h.f9, (fun e => ⟨rfl, (h.q2 e).2⟩), h.q3, h.q5, h.q6, h.q9, h.q10, h.q11, h.low, h.p3, h.p5, h.p6, h.p10, (fun e => by cases e), (fun _ => rfl), h.g0, h.g1, h.g2, h.g3, h.g4, h.g5, h.g7, h.g8, h.g10, h.g12, h.g13, h.g14, h.g15, h.g16, h.g17, h.g18, h.g19, h.g20, h.g21, h.g22, h.g23, h.g24, h.g25, h.g26, h.g27, h.g28, h.g29, h.g30, h.g31, h.g32, h.g33, h.g34, h.g35, h.g36, h.g37, h.g38, h.g39, h.g40, h.g41, h.g42, h.g43, h.g44, h.g45, h.g46, h.g47, h.g48, h.g49, h.g50, h.g51, h.g52, h.g53, h.g54, h.g55, h.g56, h.g57, h.g58, h.g59, h.g60, h.g61, h.g62, h.g63, h.g64, h.g65, h.g66, h.g67, h.g68, h.g69, h.g70, h.g71, h.g72, h.g73, h.g74, h.g75, h.g76, h.g77, h.g78, h.g79, h.g91⟩⟩
    · have ho2 := ho
      simp at ho; subst ho
      simp [Region.binds] at hd hu
      subst hu
      refine opP_of ho2 rfl ?_
      simp only [frm2, e9, e11]
      go_simp
      exact ⟨_, _, _, _, _, _, _, _, _, _, _, _, _, frame_at2 rfl, rfl, rfl, rfl, ⟨h.f0, (fun _ => rfl), h.f2, h.f4, h.f7, h.f8, h.f9, (fun e => ⟨(h.q2 e).1, rfl⟩), h.q3, h.q5, h.q6, h.q9, h.q10, h.q11, h.low, h.p3, h.p5, h.p6, h.p10, h.p11, h.n6, h.g0, h.g1, h.g2, h.g3, h.g4, h.g5, h.g7, h.g8, h.g10, h.g12, h.g13, h.g14, h.g15, h.g16, h.g17, h.g18, h.g19, h.g20, h.g21, h.g22, h.g23, h.g24, h.g25, h.g26, h.g27, h.g28, h.g29, h.g30, h.g31, h.g32, h.g33, h.g34, h.g35, h.g36, h.g37, h.g38, h.g39, h.g40, h.g41, h.g42, h.g43, h.g44, h.g45, h.g46, h.g47, h.g48, h.g49, h.g50, h.g51, h.g52, h.g53, h.g54, h.g55, h.g56, h.g57, h.g58, h.g59, h.g60, h.g61, h.g62, h.g63, h.g64, h.g65, h.g66, h.g67, h.g68, h.g69, h.g70, h.g71, h.g72, h.g73, h.g74, h.g75, h.g76, h.g77, h.g78, h.g79, h.g91⟩⟩
    · have ho2 := ho
      simp at ho; subst ho
      simp [Region.binds] at hd hu
      subst hu
      obtain ⟨rfl, rfl⟩ : c0 = true ∧ c1 = true := by simp [hd]
      have x0 := h.f0 rfl
      have x1 := h.f1 rfl
      have hi1 : (0 : Int) ≤ (r : Int) := by omega
      have hi2 : (r : Int) ≤ (gc : Int) := by omega
      have hi3 : (r : Int).toNat = r := by omega
      refine opP_of ho2 rfl ?_
      simp only [frm2, e9, e11, x0, x1]
      go_simp
      exact ⟨_, _, _, _, _, _, _, _, _, _, _, _, _, frame_at2 rfl, rfl, rfl, rfl, ⟨(fun _ => rfl), (fun _ => rfl), (fun _ => rfl), h.f4, h.f7, h.f8, h.f9, (fun _ => ⟨rfl, rfl⟩), (fun _ => rfl), h.q5, h.q6, h.q9, h.q10, h.q11, h.low, h.p3, h.p5, h.p6, h.p10, h.p11, h.n6, h.g0, h.g1, h.g2, h.g3, h.g4, h.g5, h.g7, h.g8, h.g10, h.g12, h.g13, h.g14, h.g15, h.g16, h.g17, h.g18, h.g19, h.g20, h.g21, h.g22, h.g23, h.g24, h.g25, h.g26, h.g27, h.g28, h.g29, h.g30, h.g31, h.g32, h.g33, h.g34, h.g35, h.g36, h.g37, h.g38, h.g39, h.g40, h.g41, h.g42, h.g43, h.g44, h.g45, h.g46, h.g47, h.g48, h.g49, h.g50, h.g51, h.g52, h.g53, h.g54, h.g55, h.g56, h.g57, h.g58, h.g59, h.g60, h.g61, h.g62, h.g63, h.g64, h.g65, h.g66, h.g67, h.g68, h.g69, h.g70, h.g71, h.g72, h.g73, h.g74, h.g75, h.g76, h.g77, h.g78, h.g79, h.g91⟩⟩
    · have ho2 := ho
      simp at ho; subst ho
      simp [Region.binds] at hd hu
      subst hu
      obtain rfl : c2 = true := by simp [hd]
      have x2 := h.f2 rfl
      have c6f : c6 = false := by cases e : c6 with | false => rfl | true => cases (h.q6 e).1
      subst c6f
      refine opP_of ho2 rfl (wp_append_src W (.const (.slice none 0 0)) (.tmp 82) 23 rfl V.heap.size 9 i0 (.string ⟨#[]⟩) 1 16 Try.underlying23 HI0.out HI1.out HI2.out HI3.out rfl (by decide) (.slice none 0 0) 0 [] rfl (World.ownsRow_nil _ _ _ _) (some ⟨gg, 0, none⟩) r gc (strL (P.take r)) x2 (by rw [strL_len, List.length_take]; omega) (.inr ⟨_, rfl, str_take (fun k x hk => mle_below h.low _ _ (HCP.out k x hk)) r⟩) (strL_one _) (by unfold maxLen; omega) (by omega) h.low.size ?_)
      intro v' w' ho1 hg1 hh1
      have hbl := grown_noneG hg1
      simp only [frm2]
      exact ⟨_, _, _, _, _, _, _, _, _, _, _, _, _, frame_at2 rfl, rfl, e9, e11, ⟨h.f0, h.f1, (h.f2), h.f4, h.f7, h.f8, h.f9, h.q2, (fun _ => rfl), h.q5, (fun e => ⟨rfl, (h.q6 e).2⟩), h.q9, h.q10, h.q11, (h.low.trans (hbl.mono h.low.size)), (fun _ _ => ho1), (fun e e2 => by obtain ⟨tb, t1, t2⟩ := h.p5 e e2; exact ⟨tb, t1, mle_below hbl _ _ t2⟩), (fun e => by cases e), (fun e => by cases (h.q10 e).1), (fun e => by cases (h.q10 (h.q11 e)).1), h.n6, h.g0, h.g1, h.g2, h.g3, h.g4, h.g5, h.g7, h.g8, h.g10, h.g12, h.g13, h.g14, h.g15, h.g16, h.g17, h.g18, h.g19, h.g20, h.g21, h.g22, h.g23, h.g24, h.g25, h.g26, h.g27, h.g28, h.g29, h.g30, h.g31, h.g32, h.g33, h.g34, h.g35, h.g36, h.g37, h.g38, h.g39, h.g40, h.g41, h.g42, h.g43, h.g44, h.g45, h.g46, h.g47, h.g48, h.g49, h.g50, h.g51, h.g52, h.g53, h.g54, h.g55, h.g56, h.g57, h.g58, h.g59, h.g60, h.g61, h.g62, h.g63, h.g64, h.g65, h.g66, h.g67, h.g68, h.g69, h.g70, h.g71, h.g72, h.g73, h.g74, h.g75, h.g76, h.g77, h.g78, h.g79, h.g91⟩⟩
    · have ho2 := ho
      simp at ho; subst ho
      simp [Region.binds] at hd hu
      subst hu
      refine opP_of ho2 rfl ?_
      simp only [frm2, e9, e11]
      go_simp
      exact ⟨_, _, _, _, _, _, _, _, _, _, _, _, _, frame_at2 rfl, rfl, rfl, rfl, ⟨h.f0, h.f1, h.f2, (fun _ => rfl), h.f7, h.f8, h.f9, h.q2, h.q3, (fun _ => rfl), h.q6, h.q9, h.q10, h.q11, h.low, h.p3, h.p5, h.p6, h.p10, h.p11, h.n6, h.g0, h.g1, h.g2, h.g3, h.g4, h.g5, h.g7, h.g8, h.g10, h.g12, h.g13, h.g14, h.g15, h.g16, h.g17, h.g18, h.g19, h.g20, h.g21, h.g22, h.g23, h.g24, h.g25, h.g26, h.g27, h.g28, h.g29, h.g30, h.g31, h.g32, h.g33, h.g34, h.g35, h.g36, h.g37, h.g38, h.g39, h.g40, h.g41, h.g42, h.g43, h.g44, h.g45, h.g46, h.g47, h.g48, h.g49, h.g50, h.g51, h.g52, h.g53, h.g54, h.g55, h.g56, h.g57, h.g58, h.g59, h.g60, h.g61, h.g62, h.g63, h.g64, h.g65, h.g66, h.g67, h.g68, h.g69, h.g70, h.g71, h.g72, h.g73, h.g74, h.g75, h.g76, h.g77, h.g78, h.g79, h.g91⟩⟩
    · have ho2 := ho
      simp at ho; subst ho
      simp [Region.binds] at hd hu
      subst hu
      obtain rfl : c4 = true := by simp [hd]
      have x4 := h.f4 rfl
      have c6f : c6 = false := by cases e : c6 with | false => rfl | true => cases (h.q6 e).2
      subst c6f
      have hal := (Below.refl V.heap.size W).alloc h.low.size (.cells #[.string nm] 9)
      refine opP_of ho2 rfl ?_
      simp only [frm2, e9, e11, x4]
      go_simp
      exact ⟨_, _, _, _, _, _, _, _, _, _, _, _, _, frame_at2 rfl, rfl, rfl, rfl, ⟨h.f0, h.f1, h.f2, (fun _ => rfl), h.f7, h.f8, h.f9, h.q2, h.q3, (fun _ => rfl), (fun e => ⟨(h.q6 e).1, rfl⟩), h.q9, h.q10, h.q11, (h.low.trans hal), (fun e _ => World.ownsRow.alloc (h.p3 e rfl) _), (fun _ _ => ⟨W.heap.size, rfl, World.cell?_alloc_at _ _ _ _ rfl⟩), (fun e => by cases e), (fun e => by cases (h.q10 e).1), (fun e => by cases (h.q10 (h.q11 e)).1), h.n6, h.g0, h.g1, h.g2, h.g3, h.g4, h.g5, h.g7, h.g8, h.g10, h.g12, h.g13, h.g14, h.g15, h.g16, h.g17, h.g18, h.g19, h.g20, h.g21, h.g22, h.g23, h.g24, h.g25, h.g26, h.g27, h.g28, h.g29, h.g30, h.g31, h.g32, h.g33, h.g34, h.g35, h.g36, h.g37, h.g38, h.g39, h.g40, h.g41, h.g42, h.g43, h.g44, h.g45, h.g46, h.g47, h.g48, h.g49, h.g50, h.g51, h.g52, h.g53, h.g54, h.g55, h.g56, h.g57, h.g58, h.g59, h.g60, h.g61, h.g62, h.g63, h.g64, h.g65, h.g66, h.g67, h.g68, h.g69, h.g70, h.g71, h.g72, h.g73, h.g74, h.g75, h.g76, h.g77, h.g78, h.g79, h.g91⟩⟩
    · have ho2 := ho
      simp at ho; subst ho
      simp [Region.binds] at hd hu
      subst hu
      obtain ⟨rfl, rfl⟩ : c3 = true ∧ c5 = true := by simp [hd]
      have c10f : c10 = false := by cases e : c10 with | false => rfl | true => cases (h.q10 e).1
      subst c10f
      obtain ⟨tb, t1, t2⟩ := h.p5 rfl rfl
      have hown := h.p3 rfl rfl
      refine opP_of ho2 rfl (wp_append_src W (.tmp 83) (.tmp 85) 23 rfl V.heap.size 9 i0 (.string ⟨#[]⟩) 1 16 Try.underlying23 HI0.out HI1.out HI2.out HI3.out rfl (by decide) (X 83) (0 + r) ([] ++ strL (P.take r)) rfl hown (some ⟨tb, 0, none⟩) 1 1 (strL [nm]) t1 rfl (.inr ⟨_, rfl, str_one t2⟩) (strL_one _) (by unfold maxLen; omega) (by omega) h.low.size ?_)
      intro v' w' ho1 hg1 hh1
      have hbl := h.low.grown hg1 h.low.size (fun g e => (World.ownsRow.lt hown g e).1)
      simp only [frm2]
      exact ⟨_, _, _, _, _, _, _, _, _, _, _, _, _, frame_at2 rfl, rfl, e9, e11, ⟨h.f0, h.f1, h.f2, h.f4, h.f7, h.f8, h.f9, h.q2, h.q3, h.q5, (fun _ => ⟨rfl, rfl⟩), h.q9, (fun e => ⟨rfl, (h.q10 e).2⟩), h.q11, (hbl), (fun _ e => by cases e), (fun _ e => by cases e), (fun _ _ => ho1), (fun e => by cases e), (fun e => by cases h.q11 e), h.n6, h.g0, h.g1, h.g2, h.g3, h.g4, h.g5, h.g7, h.g8, h.g10, h.g12, h.g13, h.g14, h.g15, h.g16, h.g17, h.g18, h.g19, h.g20, h.g21, h.g22, h.g23, h.g24, h.g25, h.g26, h.g27, h.g28, h.g29, h.g30, h.g31, h.g32, h.g33, h.g34, h.g35, h.g36, h.g37, h.g38, h.g39, h.g40, h.g41, h.g42, h.g43, h.g44, h.g45, h.g46, h.g47, h.g48, h.g49, h.g50, h.g51, h.g52, h.g53, h.g54, h.g55, h.g56, h.g57, h.g58, h.g59, h.g60, h.g61, h.g62, h.g63, h.g64, h.g65, h.g66, h.g67, h.g68, h.g69, h.g70, h.g71, h.g72, h.g73, h.g74, h.g75, h.g76, h.g77, h.g78, h.g79, h.g91⟩⟩
    · have ho2 := ho
      simp at ho; subst ho
      simp [Region.binds] at hd hu
      subst hu
      have c11f : c11 = false := by cases e : c11 with | false => rfl | true => cases (h.q9 (h.q10 (h.q11 e)).2).1
      subst c11f
      have x6 := h.n6 rfl
      refine opP_of ho2 rfl ?_
      simp only [frm2, e9, e11, x6]
      go_simp
      exact ⟨_, _, _, _, _, _, _, _, _, _, _, _, _, frame_at2 rfl, rfl, rfl, rfl, ⟨h.f0, h.f1, h.f2, h.f4, (fun _ => rfl), h.f8, h.f9, h.q2, h.q3, h.q5, h.q6, (fun e => ⟨rfl, (h.q9 e).2⟩), h.q10, h.q11, h.low, h.p3, h.p5, h.p6, h.p10, (fun e => by cases e), (fun _ => rfl), h.g0, h.g1, h.g2, h.g3, h.g4, h.g5, h.g7, h.g8, h.g10, h.g12, h.g13, h.g14, h.g15, h.g16, h.g17, h.g18, h.g19, h.g20, h.g21, h.g22, h.g23, h.g24, h.g25, h.g26, h.g27, h.g28, h.g29, h.g30, h.g31, h.g32, h.g33, h.g34, h.g35, h.g36, h.g37, h.g38, h.g39, h.g40, h.g41, h.g42, h.g43, h.g44, h.g45, h.g46, h.g47, h.g48, h.g49, h.g50, h.g51, h.g52, h.g53, h.g54, h.g55, h.g56, h.g57, h.g58, h.g59, h.g60, h.g61, h.g62, h.g63, h.g64, h.g65, h.g66, h.g67, h.g68, h.g69, h.g70, h.g71, h.g72, h.g73, h.g74, h.g75, h.g76, h.g77, h.g78, h.g79, h.g91⟩⟩
    · have ho2 := ho
      simp at ho; subst ho
      simp [Region.binds] at hd hu
      subst hu
      refine opP_of ho2 rfl ?_
      simp only [frm2, e9, e11]
      go_simp
      exact ⟨_, _, _, _, _, _, _, _, _, _, _, _, _, frame_at2 rfl, rfl, rfl, rfl, ⟨h.f0, h.f1, h.f2, h.f4, h.f7, (fun _ => rfl), h.f9, h.q2, h.q3, h.q5, h.q6, (fun e => ⟨(h.q9 e).1, rfl⟩), h.q10, h.q11, h.low, h.p3, h.p5, h.p6, h.p10, h.p11, h.n6, h.g0, h.g1, h.g2, h.g3, h.g4, h.g5, h.g7, h.g8, h.g10, h.g12, h.g13, h.g14, h.g15, h.g16, h.g17, h.g18, h.g19, h.g20, h.g21, h.g22, h.g23, h.g24, h.g25, h.g26, h.g27, h.g28, h.g29, h.g30, h.g31, h.g32, h.g33, h.g34, h.g35, h.g36, h.g37, h.g38, h.g39, h.g40, h.g41, h.g42, h.g43, h.g44, h.g45, h.g46, h.g47, h.g48, h.g49, h.g50, h.g51, h.g52, h.g53, h.g54, h.g55, h.g56, h.g57, h.g58, h.g59, h.g60, h.g61, h.g62, h.g63, h.g64, h.g65, h.g66, h.g67, h.g68, h.g69, h.g70, h.g71, h.g72, h.g73, h.g74, h.g75, h.g76, h.g77, h.g78, h.g79, h.g91⟩⟩
    · have ho2 := ho
      simp at ho; subst ho
      simp [Region.binds] at hd hu
      subst hu
      obtain ⟨rfl, rfl⟩ : c7 = true ∧ c8 = true := by simp [hd]
      have x7 := h.f7 rfl
      have x8 := h.f8 rfl
      have hi1 : (0 : Int) ≤ (r : Int) := by omega
      have hi2 : (r : Int) ≤ (P.length : Int) := by omega
      have hi3 : (r : Int).toNat = r := by omega
      have hAD2 := HAD.out
      refine opP_of ho2 rfl ?_
      simp only [frm2, e9, e11, x7, x8]
      go_simp
      exact ⟨_, _, _, _, _, _, _, _, _, _, _, _, _, frame_at2 rfl, rfl, rfl, rfl, ⟨h.f0, h.f1, h.f2, h.f4, (fun _ => rfl), (fun _ => rfl), (fun _ => rfl), h.q2, h.q3, h.q5, h.q6, (fun _ => ⟨rfl, rfl⟩), (fun e => ⟨(h.q10 e).1, rfl⟩), h.q11, h.low, h.p3, h.p5, h.p6, h.p10, h.p11, h.n6, h.g0, h.g1, h.g2, h.g3, h.g4, h.g5, h.g7, h.g8, h.g10, h.g12, h.g13, h.g14, h.g15, h.g16, h.g17, h.g18, h.g19, h.g20, h.g21, h.g22, h.g23, h.g24, h.g25, h.g26, h.g27, h.g28, h.g29, h.g30, h.g31, h.g32, h.g33, h.g34, h.g35, h.g36, h.g37, h.g38, h.g39, h.g40, h.g41, h.g42, h.g43, h.g44, h.g45, h.g46, h.g47, h.g48, h.g49, h.g50, h.g51, h.g52, h.g53, h.g54, h.g55, h.g56, h.g57, h.g58, h.g59, h.g60, h.g61, h.g62, h.g63, h.g64, h.g65, h.g66, h.g67, h.g68, h.g69, h.g70, h.g71, h.g72, h.g73, h.g74, h.g75, h.g76, h.g77, h.g78, h.g79, h.g91⟩⟩
    · have ho2 := ho
      simp at ho; subst ho
      simp [Region.binds] at hd hu
      subst hu
      obtain ⟨rfl, rfl⟩ : c6 = true ∧ c9 = true := by simp [hd]
      have x9 := h.f9 rfl
      have hown := h.p6 rfl rfl
      have hbl0 := h.low
      refine opP_of ho2 rfl (wp_append_src W (.tmp 86) (.tmp 89) 23 rfl V.heap.size 9 i0 (.string ⟨#[]⟩) 1 16 Try.underlying23 HI0.out HI1.out HI2.out HI3.out rfl (by decide) (X 86) (0 + r + 1) ([] ++ strL (P.take r) ++ strL [nm]) rfl hown AD (P.length - r) (gc - r) (strL (P.drop r)) x9 (by rw [strL_len, List.length_drop]; omega) (str_drop (fun k x hk => mle_below hbl0 _ _ (HCP.out k x hk)) hpc HAD.out) (strL_one _) (by unfold maxLen; omega) (by omega) h.low.size ?_)
      intro v' w' ho1 hg1 hh1
      have hbl := h.low.grown hg1 h.low.size (fun g e => (World.ownsRow.lt hown g e).1)
      have c11f : c11 = false := by cases e : c11 with | false => rfl | true => cases h.q11 e
      subst c11f
      simp only [frm2]
      exact ⟨_, _, _, _, _, _, _, _, _, _, _, _, _, frame_at2 rfl, rfl, e9, e11, ⟨h.f0, h.f1, h.f2, h.f4, h.f7, h.f8, (h.f9), h.q2, h.q3, h.q5, h.q6, h.q9, (fun _ => ⟨rfl, rfl⟩), (fun _ => rfl), (hbl), (fun _ e2 => by cases e2), (fun e1 e2 => by cases e2), (fun _ e => by cases e), (fun _ => ho1), (fun e => by cases e), h.n6, h.g0, h.g1, h.g2, h.g3, h.g4, h.g5, h.g7, h.g8, h.g10, h.g12, h.g13, h.g14, h.g15, h.g16, h.g17, h.g18, h.g19, h.g20, h.g21, h.g22, h.g23, h.g24, h.g25, h.g26, h.g27, h.g28, h.g29, h.g30, h.g31, h.g32, h.g33, h.g34, h.g35, h.g36, h.g37, h.g38, h.g39, h.g40, h.g41, h.g42, h.g43, h.g44, h.g45, h.g46, h.g47, h.g48, h.g49, h.g50, h.g51, h.g52, h.g53, h.g54, h.g55, h.g56, h.g57, h.g58, h.g59, h.g60, h.g61, h.g62, h.g63, h.g64, h.g65, h.g66, h.g67, h.g68, h.g69, h.g70, h.g71, h.g72, h.g73, h.g74, h.g75, h.g76, h.g77, h.g78, h.g79, h.g91⟩⟩
    · have ho2 := ho
      simp at ho; subst ho
      simp [Region.binds] at hd hu
      subst hu
      obtain ⟨rfl, rfl, rfl, rfl, rfl, rfl, rfl, rfl, rfl, rfl, rfl⟩ : c0 = true ∧ c1 = true ∧ c2 = true ∧ c3 = true ∧ c4 = true ∧ c5 = true ∧ c6 = true ∧ c7 = true ∧ c8 = true ∧ c9 = true ∧ c10 = true := by simp [hd]
      refine opP_of ho2 rfl ?_
      simp only [frm2, e9, e11]
      go_simp
      exact ⟨_, _, _, _, _, _, _, _, _, _, _, _, _, frame_at2 rfl, rfl, rfl, rfl, ⟨h.f0, h.f1, h.f2, h.f4, h.f7, h.f8, h.f9, h.q2, h.q3, h.q5, h.q6, h.q9, h.q10, (fun _ => rfl), h.low, h.p3, h.p5, h.p6, h.p10, (fun _ => rfl), (fun e => by cases e), h.g0, h.g1, h.g2, h.g3, h.g4, h.g5, h.g7, h.g8, h.g10, h.g12, h.g13, h.g14, h.g15, h.g16, h.g17, h.g18, h.g19, h.g20, h.g21, h.g22, h.g23, h.g24, h.g25, h.g26, h.g27, h.g28, h.g29, h.g30, h.g31, h.g32, h.g33, h.g34, h.g35, h.g36, h.g37, h.g38, h.g39, h.g40, h.g41, h.g42, h.g43, h.g44, h.g45, h.g46, h.g47, h.g48, h.g49, h.g50, h.g51, h.g52, h.g53, h.g54, h.g55, h.g56, h.g57, h.g58, h.g59, h.g60, h.g61, h.g62, h.g63, h.g64, h.g65, h.g66, h.g67, h.g68, h.g69, h.g70, h.g71, h.g72, h.g73, h.g74, h.g75, h.g76, h.g77, h.g78, h.g79, h.g91⟩⟩
structure RLn (nm : ByteArray) (X0 : Nat → Value) (V : World) (c0 c1 c2 c3 c4 c5 c6 c7 c8 c9 c10 c11 : Bool) (X : Nat → Value) (W : World) : Prop where
  f0 : c0 = true → X 80 = .slice none 0 0
  f1 : c1 = true → X 81 = .int .i64 0
  f2 : c2 = true → X 82 = .slice none 0 0
  f4 : c4 = true → X 84 = .string nm
  f7 : c7 = true → X 87 = .slice none 0 0
  f8 : c8 = true → X 88 = .int .i64 0
  f9 : c9 = true → X 89 = .slice none 0 0
  q2 : c2 = true → c0 = true ∧ c1 = true
  q3 : c3 = true → c2 = true
  q5 : c5 = true → c4 = true
  q6 : c6 = true → c3 = true ∧ c5 = true
  q9 : c9 = true → c7 = true ∧ c8 = true
  q10 : c10 = true → c6 = true ∧ c9 = true
  q11 : c11 = true → c10 = true
  low : Below V.heap.size V W
  p3 : c3 = true → c6 = false → W.ownsRow V.heap.size 9 1 (X 83) (0 + 0) ([] ++ strL [])
  p5 : c5 = true → c6 = false → ∃ tb, X 85 = .slice (some ⟨tb, 0, none⟩) 1 1 ∧ W.cell? ⟨tb, 0, none⟩ = some (.string nm)
  p6 : c6 = true → c10 = false → W.ownsRow V.heap.size 9 1 (X 86) (0 + 0 + 1) ([] ++ strL [] ++ strL [nm])
  p10 : c10 = true → W.ownsRow V.heap.size 9 1 (X 90) (0 + 0 + 1 + 0) ([] ++ strL [] ++ strL [nm] ++ strL [])
  p11 : c11 = true → X 6 = X 90
  n6 : c11 = false → X 6 = .slice none 0 0
  g0 : X 0 = X0 0
  g1 : X 1 = X0 1
  g2 : X 2 = X0 2
  g3 : X 3 = X0 3
  g4 : X 4 = X0 4
  g5 : X 5 = X0 5
  g7 : X 7 = X0 7
  g8 : X 8 = X0 8
  g10 : X 10 = X0 10
  g12 : X 12 = X0 12
  g13 : X 13 = X0 13
  g14 : X 14 = X0 14
  g15 : X 15 = X0 15
  g16 : X 16 = X0 16
  g17 : X 17 = X0 17
  g18 : X 18 = X0 18
  g19 : X 19 = X0 19
  g20 : X 20 = X0 20
  g21 : X 21 = X0 21
  g22 : X 22 = X0 22
  g23 : X 23 = X0 23
  g24 : X 24 = X0 24
  g25 : X 25 = X0 25
  g26 : X 26 = X0 26
  g27 : X 27 = X0 27
  g28 : X 28 = X0 28
  g29 : X 29 = X0 29
  g30 : X 30 = X0 30
  g31 : X 31 = X0 31
  g32 : X 32 = X0 32
  g33 : X 33 = X0 33
  g34 : X 34 = X0 34
  g35 : X 35 = X0 35
  g36 : X 36 = X0 36
  g37 : X 37 = X0 37
  g38 : X 38 = X0 38
  g39 : X 39 = X0 39
  g40 : X 40 = X0 40
  g41 : X 41 = X0 41
  g42 : X 42 = X0 42
  g43 : X 43 = X0 43
  g44 : X 44 = X0 44
  g45 : X 45 = X0 45
  g46 : X 46 = X0 46
  g47 : X 47 = X0 47
  g48 : X 48 = X0 48
  g49 : X 49 = X0 49
  g50 : X 50 = X0 50
  g51 : X 51 = X0 51
  g52 : X 52 = X0 52
  g53 : X 53 = X0 53
  g54 : X 54 = X0 54
  g55 : X 55 = X0 55
  g56 : X 56 = X0 56
  g57 : X 57 = X0 57
  g58 : X 58 = X0 58
  g59 : X 59 = X0 59
  g60 : X 60 = X0 60
  g61 : X 61 = X0 61
  g62 : X 62 = X0 62
  g63 : X 63 = X0 63
  g64 : X 64 = X0 64
  g65 : X 65 = X0 65
  g66 : X 66 = X0 66
  g67 : X 67 = X0 67
  g68 : X 68 = X0 68
  g69 : X 69 = X0 69
  g70 : X 70 = X0 70
  g71 : X 71 = X0 71
  g72 : X 72 = X0 72
  g73 : X 73 = X0 73
  g74 : X 74 = X0 74
  g75 : X 75 = X0 75
  g76 : X 76 = X0 76
  g77 : X 77 = X0 77
  g78 : X 78 = X0 78
  g79 : X 79 = X0 79
  g91 : X 91 = X0 91
def RLIn (nm : ByteArray) (X0 : Nat → Value) (V : World) (listed : Array Bool) (a : Act) (W : World) : Prop := ∃ (X : Nat → Value) (c0 c1 c2 c3 c4 c5 c6 c7 c8 c9 c10 c11 : Bool), a = { tmps := frm2 X, defers := [] } ∧ listed = #[c0, c1, c2, c3, c4, c5, c6, c7, c8, c9, c10, c11] ∧ X 9 = .string nm ∧ X 11 = .int .i64 0 ∧ RLn nm X0 V c0 c1 c2 c3 c4 c5 c6 c7 c8 c9 c10 c11 X W
set_option maxRecDepth 100000 in
set_option maxHeartbeats 8000000 in
theorem rl15n {nm : ByteArray} {X0 : Nat → Value} {V : World} {Q : Exit → Act → World → Prop} {a0 : Act} {W0 : World} (hV : W0.drew = V) (ha : a0 = { tmps := frm2 X0, defers := [] }) (e6 : X0 6 = .slice none 0 0) (e9 : X0 9 = .string nm) (e11 : X0 11 = .int .i64 0)
    (hQ : ∀ (X : Nat → Value) (W : World), W.ownsRow V.heap.size 9 1 (X 6) (0 + 0 + 1 + 0) ([] ++ strL [] ++ strL [nm] ++ strL []) → Below V.heap.size V W → X 9 = .string nm → X 11 = .int .i64 0 → X 0 = X0 0 → X 1 = X0 1 → X 2 = X0 2 → X 3 = X0 3 → X 4 = X0 4 → X 5 = X0 5 → X 7 = X0 7 → X 8 = X0 8 → X 10 = X0 10 → X 12 = X0 12 → X 13 = X0 13 → X 14 = X0 14 → X 15 = X0 15 → X 16 = X0 16 → X 17 = X0 17 → X 18 = X0 18 → X 19 = X0 19 → X 20 = X0 20 → X 21 = X0 21 → X 22 = X0 22 → X 23 = X0 23 → X 24 = X0 24 → X 25 = X0 25 → X 26 = X0 26 → X 27 = X0 27 → X 28 = X0 28 → X 29 = X0 29 → X 30 = X0 30 → X 31 = X0 31 → X 32 = X0 32 → X 33 = X0 33 → X 34 = X0 34 → X 35 = X0 35 → X 36 = X0 36 → X 37 = X0 37 → X 38 = X0 38 → X 39 = X0 39 → X 40 = X0 40 → X 41 = X0 41 → X 42 = X0 42 → X 43 = X0 43 → X 44 = X0 44 → X 45 = X0 45 → X 46 = X0 46 → X 47 = X0 47 → X 48 = X0 48 → X 49 = X0 49 → X 50 = X0 50 → X 51 = X0 51 → X 52 = X0 52 → X 53 = X0 53 → X 54 = X0 54 → X 55 = X0 55 → X 56 = X0 56 → X 57 = X0 57 → X 58 = X0 58 → X 59 = X0 59 → X 60 = X0 60 → X 61 = X0 61 → X 62 = X0 62 → X 63 = X0 63 → X 64 = X0 64 → X 65 = X0 65 → X 66 = X0 66 → X 67 = X0 67 → X 68 = X0 68 → X 69 = X0 69 → X 70 = X0 70 → X 71 = X0 71 → X 72 = X0 72 → X 73 = X0 73 → X 74 = X0 74 → X 75 = X0 75 → X 76 = X0 76 → X 77 = X0 77 → X 78 = X0 78 → X 79 = X0 79 → X 91 = X0 91 → Q .normal { tmps := frm2 X, defers := [] } W) :
    (Code.region 15 #[{ dst := some 80, op := Op.move (Operand.tmp 6), type := 23, pos := "parts.go:775", after := #[], guard := none }, { dst := some 81, op := Op.move (Operand.tmp 11), type := 3, pos := "parts.go:775", after := #[], guard := none }, { dst := some 82, op := Op.slice 23 (Operand.tmp 80) none (some (Operand.tmp 81)) none, type := 23, pos := "parts.go:775", after := #[{ on := 0, ground := Ground.data }, { on := 1, ground := Ground.data }], guard := none }, { dst := some 83, op := Op.call { callee := Callee.builtin Builtin.append, args := #[Operand.const (Value.slice none 0 0), Operand.tmp 82], argTypes := #[23, 23] }, type := 23, pos := "parts.go:775", after := #[{ on := 2, ground := Ground.data }], guard := none }, { dst := some 84, op := Op.move (Operand.tmp 9), type := 9, pos := "parts.go:775", after := #[], guard := none }, { dst := some 85, op := Op.buildSlice 23 1 #[(0, Operand.tmp 84)], type := 23, pos := "parts.go:775", after := #[{ on := 4, ground := Ground.data }], guard := none }, { dst := some 86, op := Op.call { callee := Callee.builtin Builtin.append, args := #[Operand.tmp 83, Operand.tmp 85], argTypes := #[23, 23] }, type := 23, pos := "parts.go:775", after := #[{ on := 3, ground := Ground.data }, { on := 5, ground := Ground.data }, { on := 3, ground := Ground.chain }], guard := none }, { dst := some 87, op := Op.move (Operand.tmp 6), type := 23, pos := "parts.go:775", after := #[], guard := none }, { dst := some 88, op := Op.move (Operand.tmp 11), type := 3, pos := "parts.go:775", after := #[], guard := none }, { dst := some 89, op := Op.slice 23 (Operand.tmp 87) (some (Operand.tmp 88)) none none, type := 23, pos := "parts.go:775", after := #[{ on := 7, ground := Ground.data }, { on := 8, ground := Ground.data }], guard := none }, { dst := some 90, op := Op.call { callee := Callee.builtin Builtin.append, args := #[Operand.tmp 86, Operand.tmp 89], argTypes := #[23, 23] }, type := 23, pos := "parts.go:775", after := #[{ on := 6, ground := Ground.data }, { on := 9, ground := Ground.data }, { on := 6, ground := Ground.chain }], guard := none }, { dst := some 6, op := Op.assign (Operand.tmp 90), type := 23, pos := "parts.go:775", after := #[{ on := 10, ground := Ground.data }, { on := 10, ground := Ground.chain }, { on := 0, ground := Ground.phase }, { on := 1, ground := Ground.phase }, { on := 2, ground := Ground.phase }, { on := 3, ground := Ground.phase }, { on := 4, ground := Ground.phase }, { on := 5, ground := Ground.phase }, { on := 6, ground := Ground.phase }, { on := 7, ground := Ground.phase }, { on := 8, ground := Ground.phase }, { on := 9, ground := Ground.phase }, { on := 10, ground := Ground.phase }], guard := none }] true).wp Try.prog Q a0 W0 := by
  obtain ⟨i0, hi0, hi1, hi2, hi3⟩ := info_three Try.infoStr
  have HI0 : Hid _ := hi0
  have HI1 : Hid _ := hi1
  have HI2 : Hid _ := hi2
  have HI3 : Hid _ := hi3
  have HQ : Hid _ := hQ
  clear hi0 hi1 hi2 hi3 hQ
  refine wp_region_any (by first | assumption | rfl | kernel_rfl) ?_
  refine any_kept (RLIn nm X0 V) ?step ?fin _ _ _ _ ?le ?init
  case le => decide
  case init =>
    refine ⟨X0, false, false, false, false, false, false, false, false, false, false, false, false, ha, rfl, e9, e11, ?_⟩
    have hlow : Below V.heap.size V W0.drew := by rw [hV]; exact Below.refl _ _
    exact ⟨(fun e => by cases e), (fun e => by cases e), (fun e => by cases e), (fun e => by cases e), (fun e => by cases e), (fun e => by cases e), (fun e => by cases e), (fun e => by cases e), (fun e => by cases e), (fun e => by cases e), (fun e => by cases e), (fun e => by cases e), (fun e => by cases e), (fun e => by cases e), hlow, (fun e => by cases e), (fun e => by cases e), (fun e => by cases e), (fun e => by cases e), (fun e => by cases e), (fun _ => e6), rfl, rfl, rfl, rfl, rfl, rfl, rfl, rfl, rfl, rfl, rfl, rfl, rfl, rfl, rfl, rfl, rfl, rfl, rfl, rfl, rfl, rfl, rfl, rfl, rfl, rfl, rfl, rfl, rfl, rfl, rfl, rfl, rfl, rfl, rfl, rfl, rfl, rfl, rfl, rfl, rfl, rfl, rfl, rfl, rfl, rfl, rfl, rfl, rfl, rfl, rfl, rfl, rfl, rfl, rfl, rfl, rfl, rfl, rfl, rfl, rfl, rfl, rfl, rfl, rfl, rfl, rfl, rfl, rfl, rfl, rfl, rfl, rfl, rfl, rfl, rfl, rfl, rfl⟩
  case fin =>
    clear ha e6 e9 e11 hV
    rintro listed a W ⟨X, c0, c1, c2, c3, c4, c5, c6, c7, c8, c9, c10, c11, rfl, rfl, e9, e11, h⟩ hrd
    have kk : ∀ j, (#[c0, c1, c2, c3, c4, c5, c6, c7, c8, c9, c10, c11] : Array Bool).getD j true = false → ∀ o, (#[{ dst := some 80, op := Op.move (Operand.tmp 6), type := 23, pos := "parts.go:775", after := #[], guard := none }, { dst := some 81, op := Op.move (Operand.tmp 11), type := 3, pos := "parts.go:775", after := #[], guard := none }, { dst := some 82, op := Op.slice 23 (Operand.tmp 80) none (some (Operand.tmp 81)) none, type := 23, pos := "parts.go:775", after := #[{ on := 0, ground := Ground.data }, { on := 1, ground := Ground.data }], guard := none }, { dst := some 83, op := Op.call { callee := Callee.builtin Builtin.append, args := #[Operand.const (Value.slice none 0 0), Operand.tmp 82], argTypes := #[23, 23] }, type := 23, pos := "parts.go:775", after := #[{ on := 2, ground := Ground.data }], guard := none }, { dst := some 84, op := Op.move (Operand.tmp 9), type := 9, pos := "parts.go:775", after := #[], guard := none }, { dst := some 85, op := Op.buildSlice 23 1 #[(0, Operand.tmp 84)], type := 23, pos := "parts.go:775", after := #[{ on := 4, ground := Ground.data }], guard := none }, { dst := some 86, op := Op.call { callee := Callee.builtin Builtin.append, args := #[Operand.tmp 83, Operand.tmp 85], argTypes := #[23, 23] }, type := 23, pos := "parts.go:775", after := #[{ on := 3, ground := Ground.data }, { on := 5, ground := Ground.data }, { on := 3, ground := Ground.chain }], guard := none }, { dst := some 87, op := Op.move (Operand.tmp 6), type := 23, pos := "parts.go:775", after := #[], guard := none }, { dst := some 88, op := Op.move (Operand.tmp 11), type := 3, pos := "parts.go:775", after := #[], guard := none }, { dst := some 89, op := Op.slice 23 (Operand.tmp 87) (some (Operand.tmp 88)) none none, type := 23, pos := "parts.go:775", after := #[{ on := 7, ground := Ground.data }, { on := 8, ground := Ground.data }], guard := none }, { dst := some 90, op := Op.call { callee := Callee.builtin Builtin.append, args := #[Operand.tmp 86, Operand.tmp 89], argTypes := #[23, 23] }, type := 23, pos := "parts.go:775", after := #[{ on := 6, ground := Ground.data }, { on := 9, ground := Ground.data }, { on := 6, ground := Ground.chain }], guard := none }, { dst := some 6, op := Op.assign (Operand.tmp 90), type := 23, pos := "parts.go:775", after := #[{ on := 10, ground := Ground.data }, { on := 10, ground := Ground.chain }, { on := 0, ground := Ground.phase }, { on := 1, ground := Ground.phase }, { on := 2, ground := Ground.phase }, { on := 3, ground := Ground.phase }, { on := 4, ground := Ground.phase }, { on := 5, ground := Ground.phase }, { on := 6, ground := Ground.phase }, { on := 7, ground := Ground.phase }, { on := 8, ground := Ground.phase }, { on := 9, ground := Ground.phase }, { on := 10, ground := Ground.phase }], guard := none }] : Array Oper)[j]? = some o → (∀ e ∈ o.after, Region.binds .any e = true → (#[c0, c1, c2, c3, c4, c5, c6, c7, c8, c9, c10, c11] : Array Bool).getD e.on false = true) → False := fun j h1 o h2 h3 => by
      have := (mem_ready (md := .any)).2 ⟨h1, o, h2, h3⟩
      rw [hrd] at this
      cases this
    have d0 : c0 = true := by
      cases e : c0 with
      | true => rfl
      | false => exact (kk 0 (by simp [e]) _ rfl (by simp [Region.binds])).elim
    have d1 : c1 = true := by
      cases e : c1 with
      | true => rfl
      | false => exact (kk 1 (by simp [e]) _ rfl (by simp [Region.binds, d0])).elim
    have d2 : c2 = true := by
      cases e : c2 with
      | true => rfl
      | false => exact (kk 2 (by simp [e]) _ rfl (by simp [Region.binds, d0, d1])).elim
    have d3 : c3 = true := by
      cases e : c3 with
      | true => rfl
      | false => exact (kk 3 (by simp [e]) _ rfl (by simp [Region.binds, d0, d1, d2])).elim
    have d4 : c4 = true := by
      cases e : c4 with
      | true => rfl
      | false => exact (kk 4 (by simp [e]) _ rfl (by simp [Region.binds, d0, d1, d2, d3])).elim
    have d5 : c5 = true := by
      cases e : c5 with
      | true => rfl
      | false => exact (kk 5 (by simp [e]) _ rfl (by simp [Region.binds, d0, d1, d2, d3, d4])).elim
    have d6 : c6 = true := by
      cases e : c6 with
      | true => rfl
      | false => exact (kk 6 (by simp [e]) _ rfl (by simp [Region.binds, d0, d1, d2, d3, d4, d5])).elim
    have d7 : c7 = true := by
      cases e : c7 with
      | true => rfl
      | false => exact (kk 7 (by simp [e]) _ rfl (by simp [Region.binds, d0, d1, d2, d3, d4, d5, d6])).elim
    have d8 : c8 = true := by
      cases e : c8 with
      | true => rfl
      | false => exact (kk 8 (by simp [e]) _ rfl (by simp [Region.binds, d0, d1, d2, d3, d4, d5, d6, d7])).elim
    have d9 : c9 = true := by
      cases e : c9 with
      | true => rfl
      | false => exact (kk 9 (by simp [e]) _ rfl (by simp [Region.binds, d0, d1, d2, d3, d4, d5, d6, d7, d8])).elim
    have d10 : c10 = true := by
      cases e : c10 with
      | true => rfl
      | false => exact (kk 10 (by simp [e]) _ rfl (by simp [Region.binds, d0, d1, d2, d3, d4, d5, d6, d7, d8, d9])).elim
    have d11 : c11 = true := by
      cases e : c11 with
      | true => rfl
      | false => exact (kk 11 (by simp [e]) _ rfl (by simp [Region.binds, d0, d1, d2, d3, d4, d5, d6, d7, d8, d9, d10])).elim
    have h10 := h.p10 d10
    rw [← h.p11 d11] at h10
    exact HQ.out _ _ h10 h.low e9 e11 h.g0 h.g1 h.g2 h.g3 h.g4 h.g5 h.g7 h.g8 h.g10 h.g12 h.g13 h.g14 h.g15 h.g16 h.g17 h.g18 h.g19 h.g20 h.g21 h.g22 h.g23 h.g24 h.g25 h.g26 h.g27 h.g28 h.g29 h.g30 h.g31 h.g32 h.g33 h.g34 h.g35 h.g36 h.g37 h.g38 h.g39 h.g40 h.g41 h.g42 h.g43 h.g44 h.g45 h.g46 h.g47 h.g48 h.g49 h.g50 h.g51 h.g52 h.g53 h.g54 h.g55 h.g56 h.g57 h.g58 h.g59 h.g60 h.g61 h.g62 h.g63 h.g64 h.g65 h.g66 h.g67 h.g68 h.g69 h.g70 h.g71 h.g72 h.g73 h.g74 h.g75 h.g76 h.g77 h.g78 h.g79 h.g91
  case step =>
    clear ha e6 e9 e11 hV
    rintro listed a W j ⟨X, c0, c1, c2, c3, c4, c5, c6, c7, c8, c9, c10, c11, rfl, rfl, e9, e11, h⟩ hj
    obtain ⟨hu, o, ho, hd⟩ := mem_ready.1 hj
    have hlt : j < 12 := (Array.getElem?_eq_some_iff.1 ho).1
    clear hj
    obtain rfl | rfl | rfl | rfl | rfl | rfl | rfl | rfl | rfl | rfl | rfl | rfl : j = 0 ∨ j = 1 ∨ j = 2 ∨ j = 3 ∨ j = 4 ∨ j = 5 ∨ j = 6 ∨ j = 7 ∨ j = 8 ∨ j = 9 ∨ j = 10 ∨ j = 11 := by omega
    · have ho2 := ho
      simp at ho; subst ho
      simp [Region.binds] at hd hu
      subst hu
      have c11f : c11 = false := by cases e : c11 with | false => rfl | true => cases (h.q2 (h.q3 (h.q6 (h.q10 (h.q11 e)).1).1)).1
      subst c11f
      have x6 := h.n6 rfl
      refine opP_of ho2 rfl ?_
      simp only [frm2, e9, e11, x6]
      go_simp
      exact ⟨_, _, _, _, _, _, _, _, _, _, _, _, _, frame_at2 rfl, rfl, rfl, rfl, ⟨(fun _ => rfl), h.f1, h.f2, h.f4, h.f7, h.f8, h.f9, (fun e => ⟨rfl, (h.q2 e).2⟩), h.q3, h.q5, h.q6, h.q9, h.q10, h.q11, h.low, h.p3, h.p5, h.p6, h.p10, (fun e => by cases e), (fun _ => rfl), h.g0, h.g1, h.g2, h.g3, h.g4, h.g5, h.g7, h.g8, h.g10, h.g12, h.g13, h.g14, h.g15, h.g16, h.g17, h.g18, h.g19, h.g20, h.g21, h.g22, h.g23, h.g24, h.g25, h.g26, h.g27, h.g28, h.g29, h.g30, h.g31, h.g32, h.g33, h.g34, h.g35, h.g36, h.g37, h.g38, h.g39, h.g40, h.g41, h.g42, h.g43, h.g44, h.g45, h.g46, h.g47, h.g48, h.g49, h.g50, h.g51, h.g52, h.g53, h.g54, h.g55, h.g56, h.g57, h.g58, h.g59, h.g60, h.g61, h.g62, h.g63, h.g64, h.g65, h.g66, h.g67, h.g68, h.g69, h.g70, h.g71, h.g72, h.g73, h.g74, h.g75, h.g76, h.g77, h.g78, h.g79, h.g91⟩⟩
    · have ho2 := ho
      simp at ho; subst ho
      simp [Region.binds] at hd hu
      subst hu
      refine opP_of ho2 rfl ?_
      simp only [frm2, e9, e11]
      go_simp
      exact ⟨_, _, _, _, _, _, _, _, _, _, _, _, _, frame_at2 rfl, rfl, rfl, rfl, ⟨h.f0, (fun _ => rfl), h.f2, h.f4, h.f7, h.f8, h.f9, (fun e => ⟨(h.q2 e).1, rfl⟩), h.q3, h.q5, h.q6, h.q9, h.q10, h.q11, h.low, h.p3, h.p5, h.p6, h.p10, h.p11, h.n6, h.g0, h.g1, h.g2, h.g3, h.g4, h.g5, h.g7, h.g8, h.g10, h.g12, h.g13, h.g14, h.g15, h.g16, h.g17, h.g18, h.g19, h.g20, h.g21, h.g22, h.g23, h.g24, h.g25, h.g26, h.g27, h.g28, h.g29, h.g30, h.g31, h.g32, h.g33, h.g34, h.g35, h.g36, h.g37, h.g38, h.g39, h.g40, h.g41, h.g42, h.g43, h.g44, h.g45, h.g46, h.g47, h.g48, h.g49, h.g50, h.g51, h.g52, h.g53, h.g54, h.g55, h.g56, h.g57, h.g58, h.g59, h.g60, h.g61, h.g62, h.g63, h.g64, h.g65, h.g66, h.g67, h.g68, h.g69, h.g70, h.g71, h.g72, h.g73, h.g74, h.g75, h.g76, h.g77, h.g78, h.g79, h.g91⟩⟩
    · have ho2 := ho
      simp at ho; subst ho
      simp [Region.binds] at hd hu
      subst hu
      obtain ⟨rfl, rfl⟩ : c0 = true ∧ c1 = true := by simp [hd]
      have x0 := h.f0 rfl
      have x1 := h.f1 rfl
      refine opP_of ho2 rfl ?_
      simp only [frm2, e9, e11, x0, x1]
      go_simp
      exact ⟨_, _, _, _, _, _, _, _, _, _, _, _, _, frame_at2 rfl, rfl, rfl, rfl, ⟨(fun _ => rfl), (fun _ => rfl), (fun _ => rfl), h.f4, h.f7, h.f8, h.f9, (fun _ => ⟨rfl, rfl⟩), (fun _ => rfl), h.q5, h.q6, h.q9, h.q10, h.q11, h.low, h.p3, h.p5, h.p6, h.p10, h.p11, h.n6, h.g0, h.g1, h.g2, h.g3, h.g4, h.g5, h.g7, h.g8, h.g10, h.g12, h.g13, h.g14, h.g15, h.g16, h.g17, h.g18, h.g19, h.g20, h.g21, h.g22, h.g23, h.g24, h.g25, h.g26, h.g27, h.g28, h.g29, h.g30, h.g31, h.g32, h.g33, h.g34, h.g35, h.g36, h.g37, h.g38, h.g39, h.g40, h.g41, h.g42, h.g43, h.g44, h.g45, h.g46, h.g47, h.g48, h.g49, h.g50, h.g51, h.g52, h.g53, h.g54, h.g55, h.g56, h.g57, h.g58, h.g59, h.g60, h.g61, h.g62, h.g63, h.g64, h.g65, h.g66, h.g67, h.g68, h.g69, h.g70, h.g71, h.g72, h.g73, h.g74, h.g75, h.g76, h.g77, h.g78, h.g79, h.g91⟩⟩
    · have ho2 := ho
      simp at ho; subst ho
      simp [Region.binds] at hd hu
      subst hu
      obtain rfl : c2 = true := by simp [hd]
      have x2 := h.f2 rfl
      have c6f : c6 = false := by cases e : c6 with | false => rfl | true => cases (h.q6 e).1
      subst c6f
      refine opP_of ho2 rfl (wp_append_src W (.const (.slice none 0 0)) (.tmp 82) 23 rfl V.heap.size 9 i0 (.string ⟨#[]⟩) 1 16 Try.underlying23 HI0.out HI1.out HI2.out HI3.out rfl (by decide) (.slice none 0 0) 0 [] rfl (World.ownsRow_nil _ _ _ _) none 0 0 (strL []) x2 rfl (.inl ⟨rfl, rfl⟩) (strL_one _) (by unfold maxLen; omega) (by omega) h.low.size ?_)
      intro v' w' ho1 hg1 hh1
      have hbl := grown_noneG hg1
      simp only [frm2]
      exact ⟨_, _, _, _, _, _, _, _, _, _, _, _, _, frame_at2 rfl, rfl, e9, e11, ⟨h.f0, h.f1, (h.f2), h.f4, h.f7, h.f8, h.f9, h.q2, (fun _ => rfl), h.q5, (fun e => ⟨rfl, (h.q6 e).2⟩), h.q9, h.q10, h.q11, (h.low.trans (hbl.mono h.low.size)), (fun _ _ => ho1), (fun e e2 => by obtain ⟨tb, t1, t2⟩ := h.p5 e e2; exact ⟨tb, t1, mle_below hbl _ _ t2⟩), (fun e => by cases e), (fun e => by cases (h.q10 e).1), (fun e => by cases (h.q10 (h.q11 e)).1), h.n6, h.g0, h.g1, h.g2, h.g3, h.g4, h.g5, h.g7, h.g8, h.g10, h.g12, h.g13, h.g14, h.g15, h.g16, h.g17, h.g18, h.g19, h.g20, h.g21, h.g22, h.g23, h.g24, h.g25, h.g26, h.g27, h.g28, h.g29, h.g30, h.g31, h.g32, h.g33, h.g34, h.g35, h.g36, h.g37, h.g38, h.g39, h.g40, h.g41, h.g42, h.g43, h.g44, h.g45, h.g46, h.g47, h.g48, h.g49, h.g50, h.g51, h.g52, h.g53, h.g54, h.g55, h.g56, h.g57, h.g58, h.g59, h.g60, h.g61, h.g62, h.g63, h.g64, h.g65, h.g66, h.g67, h.g68, h.g69, h.g70, h.g71, h.g72, h.g73, h.g74, h.g75, h.g76, h.g77, h.g78, h.g79, h.g91⟩⟩
    · have ho2 := ho
      simp at ho; subst ho
      simp [Region.binds] at hd hu
      subst hu
      refine opP_of ho2 rfl ?_
      simp only [frm2, e9, e11]
      go_simp
      exact ⟨_, _, _, _, _, _, _, _, _, _, _, _, _, frame_at2 rfl, rfl, rfl, rfl, ⟨h.f0, h.f1, h.f2, (fun _ => rfl), h.f7, h.f8, h.f9, h.q2, h.q3, (fun _ => rfl), h.q6, h.q9, h.q10, h.q11, h.low, h.p3, h.p5, h.p6, h.p10, h.p11, h.n6, h.g0, h.g1, h.g2, h.g3, h.g4, h.g5, h.g7, h.g8, h.g10, h.g12, h.g13, h.g14, h.g15, h.g16, h.g17, h.g18, h.g19, h.g20, h.g21, h.g22, h.g23, h.g24, h.g25, h.g26, h.g27, h.g28, h.g29, h.g30, h.g31, h.g32, h.g33, h.g34, h.g35, h.g36, h.g37, h.g38, h.g39, h.g40, h.g41, h.g42, h.g43, h.g44, h.g45, h.g46, h.g47, h.g48, h.g49, h.g50, h.g51, h.g52, h.g53, h.g54, h.g55, h.g56, h.g57, h.g58, h.g59, h.g60, h.g61, h.g62, h.g63, h.g64, h.g65, h.g66, h.g67, h.g68, h.g69, h.g70, h.g71, h.g72, h.g73, h.g74, h.g75, h.g76, h.g77, h.g78, h.g79, h.g91⟩⟩
    · have ho2 := ho
      simp at ho; subst ho
      simp [Region.binds] at hd hu
      subst hu
      obtain rfl : c4 = true := by simp [hd]
      have x4 := h.f4 rfl
      have c6f : c6 = false := by cases e : c6 with | false => rfl | true => cases (h.q6 e).2
      subst c6f
      have hal := (Below.refl V.heap.size W).alloc h.low.size (.cells #[.string nm] 9)
      refine opP_of ho2 rfl ?_
      simp only [frm2, e9, e11, x4]
      go_simp
      exact ⟨_, _, _, _, _, _, _, _, _, _, _, _, _, frame_at2 rfl, rfl, rfl, rfl, ⟨h.f0, h.f1, h.f2, (fun _ => rfl), h.f7, h.f8, h.f9, h.q2, h.q3, (fun _ => rfl), (fun e => ⟨(h.q6 e).1, rfl⟩), h.q9, h.q10, h.q11, (h.low.trans hal), (fun e _ => World.ownsRow.alloc (h.p3 e rfl) _), (fun _ _ => ⟨W.heap.size, rfl, World.cell?_alloc_at _ _ _ _ rfl⟩), (fun e => by cases e), (fun e => by cases (h.q10 e).1), (fun e => by cases (h.q10 (h.q11 e)).1), h.n6, h.g0, h.g1, h.g2, h.g3, h.g4, h.g5, h.g7, h.g8, h.g10, h.g12, h.g13, h.g14, h.g15, h.g16, h.g17, h.g18, h.g19, h.g20, h.g21, h.g22, h.g23, h.g24, h.g25, h.g26, h.g27, h.g28, h.g29, h.g30, h.g31, h.g32, h.g33, h.g34, h.g35, h.g36, h.g37, h.g38, h.g39, h.g40, h.g41, h.g42, h.g43, h.g44, h.g45, h.g46, h.g47, h.g48, h.g49, h.g50, h.g51, h.g52, h.g53, h.g54, h.g55, h.g56, h.g57, h.g58, h.g59, h.g60, h.g61, h.g62, h.g63, h.g64, h.g65, h.g66, h.g67, h.g68, h.g69, h.g70, h.g71, h.g72, h.g73, h.g74, h.g75, h.g76, h.g77, h.g78, h.g79, h.g91⟩⟩
    · have ho2 := ho
      simp at ho; subst ho
      simp [Region.binds] at hd hu
      subst hu
      obtain ⟨rfl, rfl⟩ : c3 = true ∧ c5 = true := by simp [hd]
      have c10f : c10 = false := by cases e : c10 with | false => rfl | true => cases (h.q10 e).1
      subst c10f
      obtain ⟨tb, t1, t2⟩ := h.p5 rfl rfl
      have hown := h.p3 rfl rfl
      refine opP_of ho2 rfl (wp_append_src W (.tmp 83) (.tmp 85) 23 rfl V.heap.size 9 i0 (.string ⟨#[]⟩) 1 16 Try.underlying23 HI0.out HI1.out HI2.out HI3.out rfl (by decide) (X 83) (0 + 0) ([] ++ strL []) rfl hown (some ⟨tb, 0, none⟩) 1 1 (strL [nm]) t1 rfl (.inr ⟨_, rfl, str_one t2⟩) (strL_one _) (by unfold maxLen; omega) (by omega) h.low.size ?_)
      intro v' w' ho1 hg1 hh1
      have hbl := h.low.grown hg1 h.low.size (fun g e => (World.ownsRow.lt hown g e).1)
      simp only [frm2]
      exact ⟨_, _, _, _, _, _, _, _, _, _, _, _, _, frame_at2 rfl, rfl, e9, e11, ⟨h.f0, h.f1, h.f2, h.f4, h.f7, h.f8, h.f9, h.q2, h.q3, h.q5, (fun _ => ⟨rfl, rfl⟩), h.q9, (fun e => ⟨rfl, (h.q10 e).2⟩), h.q11, (hbl), (fun _ e => by cases e), (fun _ e => by cases e), (fun _ _ => ho1), (fun e => by cases e), (fun e => by cases h.q11 e), h.n6, h.g0, h.g1, h.g2, h.g3, h.g4, h.g5, h.g7, h.g8, h.g10, h.g12, h.g13, h.g14, h.g15, h.g16, h.g17, h.g18, h.g19, h.g20, h.g21, h.g22, h.g23, h.g24, h.g25, h.g26, h.g27, h.g28, h.g29, h.g30, h.g31, h.g32, h.g33, h.g34, h.g35, h.g36, h.g37, h.g38, h.g39, h.g40, h.g41, h.g42, h.g43, h.g44, h.g45, h.g46, h.g47, h.g48, h.g49, h.g50, h.g51, h.g52, h.g53, h.g54, h.g55, h.g56, h.g57, h.g58, h.g59, h.g60, h.g61, h.g62, h.g63, h.g64, h.g65, h.g66, h.g67, h.g68, h.g69, h.g70, h.g71, h.g72, h.g73, h.g74, h.g75, h.g76, h.g77, h.g78, h.g79, h.g91⟩⟩
    · have ho2 := ho
      simp at ho; subst ho
      simp [Region.binds] at hd hu
      subst hu
      have c11f : c11 = false := by cases e : c11 with | false => rfl | true => cases (h.q9 (h.q10 (h.q11 e)).2).1
      subst c11f
      have x6 := h.n6 rfl
      refine opP_of ho2 rfl ?_
      simp only [frm2, e9, e11, x6]
      go_simp
      exact ⟨_, _, _, _, _, _, _, _, _, _, _, _, _, frame_at2 rfl, rfl, rfl, rfl, ⟨h.f0, h.f1, h.f2, h.f4, (fun _ => rfl), h.f8, h.f9, h.q2, h.q3, h.q5, h.q6, (fun e => ⟨rfl, (h.q9 e).2⟩), h.q10, h.q11, h.low, h.p3, h.p5, h.p6, h.p10, (fun e => by cases e), (fun _ => rfl), h.g0, h.g1, h.g2, h.g3, h.g4, h.g5, h.g7, h.g8, h.g10, h.g12, h.g13, h.g14, h.g15, h.g16, h.g17, h.g18, h.g19, h.g20, h.g21, h.g22, h.g23, h.g24, h.g25, h.g26, h.g27, h.g28, h.g29, h.g30, h.g31, h.g32, h.g33, h.g34, h.g35, h.g36, h.g37, h.g38, h.g39, h.g40, h.g41, h.g42, h.g43, h.g44, h.g45, h.g46, h.g47, h.g48, h.g49, h.g50, h.g51, h.g52, h.g53, h.g54, h.g55, h.g56, h.g57, h.g58, h.g59, h.g60, h.g61, h.g62, h.g63, h.g64, h.g65, h.g66, h.g67, h.g68, h.g69, h.g70, h.g71, h.g72, h.g73, h.g74, h.g75, h.g76, h.g77, h.g78, h.g79, h.g91⟩⟩
    · have ho2 := ho
      simp at ho; subst ho
      simp [Region.binds] at hd hu
      subst hu
      refine opP_of ho2 rfl ?_
      simp only [frm2, e9, e11]
      go_simp
      exact ⟨_, _, _, _, _, _, _, _, _, _, _, _, _, frame_at2 rfl, rfl, rfl, rfl, ⟨h.f0, h.f1, h.f2, h.f4, h.f7, (fun _ => rfl), h.f9, h.q2, h.q3, h.q5, h.q6, (fun e => ⟨(h.q9 e).1, rfl⟩), h.q10, h.q11, h.low, h.p3, h.p5, h.p6, h.p10, h.p11, h.n6, h.g0, h.g1, h.g2, h.g3, h.g4, h.g5, h.g7, h.g8, h.g10, h.g12, h.g13, h.g14, h.g15, h.g16, h.g17, h.g18, h.g19, h.g20, h.g21, h.g22, h.g23, h.g24, h.g25, h.g26, h.g27, h.g28, h.g29, h.g30, h.g31, h.g32, h.g33, h.g34, h.g35, h.g36, h.g37, h.g38, h.g39, h.g40, h.g41, h.g42, h.g43, h.g44, h.g45, h.g46, h.g47, h.g48, h.g49, h.g50, h.g51, h.g52, h.g53, h.g54, h.g55, h.g56, h.g57, h.g58, h.g59, h.g60, h.g61, h.g62, h.g63, h.g64, h.g65, h.g66, h.g67, h.g68, h.g69, h.g70, h.g71, h.g72, h.g73, h.g74, h.g75, h.g76, h.g77, h.g78, h.g79, h.g91⟩⟩
    · have ho2 := ho
      simp at ho; subst ho
      simp [Region.binds] at hd hu
      subst hu
      obtain ⟨rfl, rfl⟩ : c7 = true ∧ c8 = true := by simp [hd]
      have x7 := h.f7 rfl
      have x8 := h.f8 rfl
      refine opP_of ho2 rfl ?_
      simp only [frm2, e9, e11, x7, x8]
      go_simp
      exact ⟨_, _, _, _, _, _, _, _, _, _, _, _, _, frame_at2 rfl, rfl, rfl, rfl, ⟨h.f0, h.f1, h.f2, h.f4, (fun _ => rfl), (fun _ => rfl), (fun _ => rfl), h.q2, h.q3, h.q5, h.q6, (fun _ => ⟨rfl, rfl⟩), (fun e => ⟨(h.q10 e).1, rfl⟩), h.q11, h.low, h.p3, h.p5, h.p6, h.p10, h.p11, h.n6, h.g0, h.g1, h.g2, h.g3, h.g4, h.g5, h.g7, h.g8, h.g10, h.g12, h.g13, h.g14, h.g15, h.g16, h.g17, h.g18, h.g19, h.g20, h.g21, h.g22, h.g23, h.g24, h.g25, h.g26, h.g27, h.g28, h.g29, h.g30, h.g31, h.g32, h.g33, h.g34, h.g35, h.g36, h.g37, h.g38, h.g39, h.g40, h.g41, h.g42, h.g43, h.g44, h.g45, h.g46, h.g47, h.g48, h.g49, h.g50, h.g51, h.g52, h.g53, h.g54, h.g55, h.g56, h.g57, h.g58, h.g59, h.g60, h.g61, h.g62, h.g63, h.g64, h.g65, h.g66, h.g67, h.g68, h.g69, h.g70, h.g71, h.g72, h.g73, h.g74, h.g75, h.g76, h.g77, h.g78, h.g79, h.g91⟩⟩
    · have ho2 := ho
      simp at ho; subst ho
      simp [Region.binds] at hd hu
      subst hu
      obtain ⟨rfl, rfl⟩ : c6 = true ∧ c9 = true := by simp [hd]
      have x9 := h.f9 rfl
      have hown := h.p6 rfl rfl
      have hbl0 := h.low
      refine opP_of ho2 rfl (wp_append_src W (.tmp 86) (.tmp 89) 23 rfl V.heap.size 9 i0 (.string ⟨#[]⟩) 1 16 Try.underlying23 HI0.out HI1.out HI2.out HI3.out rfl (by decide) (X 86) (0 + 0 + 1) ([] ++ strL [] ++ strL [nm]) rfl hown none 0 0 (strL []) x9 rfl (.inl ⟨rfl, rfl⟩) (strL_one _) (by unfold maxLen; omega) (by omega) h.low.size ?_)
      intro v' w' ho1 hg1 hh1
      have hbl := h.low.grown hg1 h.low.size (fun g e => (World.ownsRow.lt hown g e).1)
      have c11f : c11 = false := by cases e : c11 with | false => rfl | true => cases h.q11 e
      subst c11f
      simp only [frm2]
      exact ⟨_, _, _, _, _, _, _, _, _, _, _, _, _, frame_at2 rfl, rfl, e9, e11, ⟨h.f0, h.f1, h.f2, h.f4, h.f7, h.f8, (h.f9), h.q2, h.q3, h.q5, h.q6, h.q9, (fun _ => ⟨rfl, rfl⟩), (fun _ => rfl), (hbl), (fun _ e2 => by cases e2), (fun e1 e2 => by cases e2), (fun _ e => by cases e), (fun _ => ho1), (fun e => by cases e), h.n6, h.g0, h.g1, h.g2, h.g3, h.g4, h.g5, h.g7, h.g8, h.g10, h.g12, h.g13, h.g14, h.g15, h.g16, h.g17, h.g18, h.g19, h.g20, h.g21, h.g22, h.g23, h.g24, h.g25, h.g26, h.g27, h.g28, h.g29, h.g30, h.g31, h.g32, h.g33, h.g34, h.g35, h.g36, h.g37, h.g38, h.g39, h.g40, h.g41, h.g42, h.g43, h.g44, h.g45, h.g46, h.g47, h.g48, h.g49, h.g50, h.g51, h.g52, h.g53, h.g54, h.g55, h.g56, h.g57, h.g58, h.g59, h.g60, h.g61, h.g62, h.g63, h.g64, h.g65, h.g66, h.g67, h.g68, h.g69, h.g70, h.g71, h.g72, h.g73, h.g74, h.g75, h.g76, h.g77, h.g78, h.g79, h.g91⟩⟩
    · have ho2 := ho
      simp at ho; subst ho
      simp [Region.binds] at hd hu
      subst hu
      obtain ⟨rfl, rfl, rfl, rfl, rfl, rfl, rfl, rfl, rfl, rfl, rfl⟩ : c0 = true ∧ c1 = true ∧ c2 = true ∧ c3 = true ∧ c4 = true ∧ c5 = true ∧ c6 = true ∧ c7 = true ∧ c8 = true ∧ c9 = true ∧ c10 = true := by simp [hd]
      refine opP_of ho2 rfl ?_
      simp only [frm2, e9, e11]
      go_simp
      exact ⟨_, _, _, _, _, _, _, _, _, _, _, _, _, frame_at2 rfl, rfl, rfl, rfl, ⟨h.f0, h.f1, h.f2, h.f4, h.f7, h.f8, h.f9, h.q2, h.q3, h.q5, h.q6, h.q9, h.q10, (fun _ => rfl), h.low, h.p3, h.p5, h.p6, h.p10, (fun _ => rfl), (fun e => by cases e), h.g0, h.g1, h.g2, h.g3, h.g4, h.g5, h.g7, h.g8, h.g10, h.g12, h.g13, h.g14, h.g15, h.g16, h.g17, h.g18, h.g19, h.g20, h.g21, h.g22, h.g23, h.g24, h.g25, h.g26, h.g27, h.g28, h.g29, h.g30, h.g31, h.g32, h.g33, h.g34, h.g35, h.g36, h.g37, h.g38, h.g39, h.g40, h.g41, h.g42, h.g43, h.g44, h.g45, h.g46, h.g47, h.g48, h.g49, h.g50, h.g51, h.g52, h.g53, h.g54, h.g55, h.g56, h.g57, h.g58, h.g59, h.g60, h.g61, h.g62, h.g63, h.g64, h.g65, h.g66, h.g67, h.g68, h.g69, h.g70, h.g71, h.g72, h.g73, h.g74, h.g75, h.g76, h.g77, h.g78, h.g79, h.g91⟩⟩
end Go.Proofs.Ytgmeecfdkcbggaa
