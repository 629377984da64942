/-
  THE REGION IN WHICH Flat PUTS A KID ONTO ITS WORK: each operation.
-/
import Derived.Test.YtlbabnffiibnpaaGreatFdX
import Derived.Test.YtlbabnffiibnpaaGreatUkX
namespace Go.Proofs.YtlbabnffiibnpaaGreat
open Go.RowKit Go.Shelf
theorem Tryz.infoTk : (Tryz.prog.info? 86).map (fun i => (i.zero, i.size, i.bytes)) = some (some (.agg #[.pointer none, .slice none 0 0]), 2, 32) := by kernel_rfl
/-- What an append leaves. -/
structure Apd (base : Nat) (vw : Value) (m : Nat) (fl : List Value) (tv : List Value) (V : World) (v' : Value) (W : World) : Prop where
  own : W.ownsRow base 86 2 v' (m + 1) (fl ++ tv)
  gro : V.grownBy W vw.ownBlock
  blk : v'.ownBlock = vw.ownBlock ∨ v'.ownBlock = some V.heap.size
structure FV (base wb g n c i pb el ec m : Nat) (ea : Option Addr) (vw : Value) (fl : List Value) (V : World) (c0 c1 c2 c3 c4 c5 c6 c7 c8 c9 c10 c11 c12 : Bool) (X : Nat → Value) (W : World) : Prop where
  f0 : c0 = true → X 92 = vw
  f1 : c1 = true → X 93 = .slice (some ⟨g, 0, none⟩) n c
  f2 : c2 = true → X 94 = .int .i64 0
  f3 : c3 = true → X 95 = .int .i64 i
  f4 : c4 = true → X 96 = .int .i64 i
  f5 : c5 = true → X 97 = .pointer (some ⟨g, i * 9, none⟩)
  f6 : c6 = true → X 98 = .pointer (some ⟨g, i * 9 + 1, none⟩)
  f7 : c7 = true → X 99 = .pointer (some ⟨pb, 1, none⟩)
  f8 : c8 = true → X 100 = .slice ea el ec
  f9 : c9 = true → X 101 = .agg #[.pointer (some ⟨g, i * 9 + 1, none⟩), .slice ea el ec]
  f10 : c10 = true → X 102 = .slice (some ⟨V.heap.size, 0, none⟩) 1 1
  q4 : c4 = true → c2 = true ∧ c3 = true
  q5 : c5 = true → c1 = true ∧ c4 = true
  q6 : c6 = true → c5 = true
  q8 : c8 = true → c7 = true
  q9 : c9 = true → c6 = true ∧ c8 = true
  q10 : c10 = true → c9 = true
  q11 : c11 = true → c0 = true ∧ c10 = true
  q12 : c12 = true → c11 = true
  p0 : c10 = false → W = V
  p1 : c10 = true → c11 = false → W = V.alloc (.cells #[.pointer (some ⟨g, i * 9 + 1, none⟩), .slice ea el ec] 86)
  p2 : c11 = true → c12 = false → Apd base vw m fl [.pointer (some ⟨g, i * 9 + 1, none⟩), .slice ea el ec] (V.alloc (.cells #[.pointer (some ⟨g, i * 9 + 1, none⟩), .slice ea el ec] 86)) (X 103) W
  p3 : c12 = true → ∃ v' W2, Apd base vw m fl [.pointer (some ⟨g, i * 9 + 1, none⟩), .slice ea el ec] (V.alloc (.cells #[.pointer (some ⟨g, i * 9 + 1, none⟩), .slice ea el ec] 86)) v' W2 ∧ W = W2.setCell ⟨wb, 0, none⟩ v'
def FVI (base wb g n c i pb el ec m : Nat) (ea : Option Addr) (vw : Value) (fl : List Value) (V : World) (cb ib : Nat) (listed : Array Bool) (a : Act) (W : World) : Prop := ∃ (X : Nat → Value) (c0 c1 c2 c3 c4 c5 c6 c7 c8 c9 c10 c11 c12 : Bool), a = { tmps := frm X, defers := [] } ∧ listed = #[c0, c1, c2, c3, c4, c5, c6, c7, c8, c9, c10, c11, c12] ∧ X 9 = .pointer (some ⟨wb, 0, none⟩) ∧ X 12 = .pointer (some ⟨cb, 0, none⟩) ∧ X 15 = .pointer (some ⟨ib, 0, none⟩) ∧ X 16 = .int .i64 i ∧ X 17 = .pointer (some ⟨pb, 0, none⟩) ∧ FV base wb g n c i pb el ec m ea vw fl V c0 c1 c2 c3 c4 c5 c6 c7 c8 c9 c10 c11 c12 X W
set_option maxRecDepth 100000 in
set_option maxHeartbeats 4000000 in
theorem fl23 {base wb g n c i pb el ec m : Nat} {ea : Option Addr} {vw : Value} {fl : List Value} {V : World} {cb ib l : Nat} {Q : Exit → Act → World → Prop} {a0 : Act} {W0 : World} {X : Nat → Value} (hV : W0.drew = V) (ha : a0 = { tmps := frm X, defers := [] }) (e9 : X 9 = .pointer (some ⟨wb, 0, none⟩)) (e12 : X 12 = .pointer (some ⟨cb, 0, none⟩)) (e15 : X 15 = .pointer (some ⟨ib, 0, none⟩)) (e16 : X 16 = .int .i64 i) (e17 : X 17 = .pointer (some ⟨pb, 0, none⟩))
    (hbx : Boxed V wb 87 vw) (hrow : V.ownsRow base 86 2 vw m fl) (hm : m ≤ 2000) (hbase : base ≤ V.heap.size) (h12 : V.cell? ⟨cb, 0, none⟩ = some (.slice (some ⟨g, 0, none⟩) n c)) (h15 : V.cell? ⟨ib, 0, none⟩ = some (.int .i64 0)) (h17 : V.cell? ⟨pb, 1, none⟩ = some (.slice ea el ec)) (hi : i < n) (hn : n ≤ 1000)
    (hQ : ∀ a v' W2, Apd base vw m fl [.pointer (some ⟨g, i * 9 + 1, none⟩), .slice ea el ec] (V.alloc (.cells #[.pointer (some ⟨g, i * 9 + 1, none⟩), .slice ea el ec] 86)) v' W2 → Q .normal a (W2.setCell ⟨wb, 0, none⟩ v')) :
    (Code.region 23 #[{ dst := some 92, op := Op.load 87 (Operand.tmp 9), type := 87, pos := "merge.go:82", after := #[], guard := none }, { dst := some 93, op := Op.load 32 (Operand.tmp 12), type := 32, pos := "merge.go:82", after := #[], guard := none }, { dst := some 94, op := Op.load 3 (Operand.tmp 15), type := 3, pos := "merge.go:82", after := #[], guard := none }, { dst := some 95, op := Op.move (Operand.tmp 16), type := 3, pos := "merge.go:82", after := #[], guard := none }, { dst := some 96, op := Op.binOp BinOp.add 3 (Operand.tmp 94) (Operand.tmp 95) 3, type := 3, pos := "merge.go:82", after := #[{ on := 2, ground := Ground.data }, { on := 3, ground := Ground.data }], guard := none }, { dst := some 97, op := Op.indexAddr 32 (Operand.tmp 93) (Operand.tmp 96), type := 0, pos := "merge.go:82", after := #[{ on := 1, ground := Ground.data }, { on := 4, ground := Ground.data }], guard := none }, { dst := some 98, op := Op.fieldAddr 61 (Operand.tmp 97) 1, type := 0, pos := "merge.go:82", after := #[{ on := 5, ground := Ground.data }], guard := none }, { dst := some 99, op := Op.fieldAddr 92 (Operand.tmp 17) 1, type := 0, pos := "merge.go:82", after := #[], guard := none }, { dst := some 100, op := Op.load 55 (Operand.tmp 99), type := 55, pos := "merge.go:82", after := #[{ on := 7, ground := Ground.data }], guard := none }, { dst := some 101, op := Op.build 86 #[(0, Operand.tmp 98), (1, Operand.tmp 100)], type := 86, pos := "merge.go:82", after := #[{ on := 6, ground := Ground.data }, { on := 8, ground := Ground.data }], guard := none }, { dst := some 102, op := Op.buildSlice 87 1 #[(0, Operand.tmp 101)], type := 87, pos := "merge.go:82", after := #[{ on := 9, ground := Ground.data }], guard := none }, { dst := some 103, op := Op.call { callee := Callee.builtin Builtin.append, args := #[Operand.tmp 92, Operand.tmp 102], argTypes := #[87, 87] }, type := 87, pos := "merge.go:82", after := #[{ on := 0, ground := Ground.data }, { on := 10, ground := Ground.data }], guard := none }, { dst := none, op := Op.store 87 (Operand.tmp 9) (Operand.tmp 103), type := 0, pos := "merge.go:82", after := #[{ on := 11, ground := Ground.data }, { on := 11, ground := Ground.chain }, { on := 0, ground := Ground.phase }, { on := 1, ground := Ground.phase }, { on := 2, ground := Ground.phase }, { on := 3, ground := Ground.phase }, { on := 4, ground := Ground.phase }, { on := 5, ground := Ground.phase }, { on := 6, ground := Ground.phase }, { on := 7, ground := Ground.phase }, { on := 8, ground := Ground.phase }, { on := 9, ground := Ground.phase }, { on := 10, ground := Ground.phase }, { on := 11, ground := Ground.phase }], guard := none }] true).wpIn (Fence.wide.inRound l) 0 Tryz.prog Q a0 W0 := by
  obtain ⟨i0, hi0, hi1, hi2, hi3⟩ := info_three Tryz.infoTk
  have HI0 : Hid _ := hi0
  have HI1 : Hid _ := hi1
  have HI2 : Hid _ := hi2
  have HI3 : Hid _ := hi3
  have HQ : Hid _ := hQ
  have HBX : Hid _ := hbx
  have HROW : Hid _ := hrow
  clear hi0 hi1 hi2 hi3 hQ hbx hrow
  refine wpIn_region_any (by first | assumption | rfl | kernel_rfl) ?_
  refine anyIn_kept (FVI base wb g n c i pb el ec m ea vw fl V cb ib) ?step ?fin _ _ _ _ ?le ?init
  case le => decide
  case init =>
    refine ⟨X, false, false, false, false, false, false, false, false, false, false, false, false, false, ha, rfl, e9, e12, e15, e16, e17, ?_⟩
    exact ⟨(fun e => by cases e), (fun e => by cases e), (fun e => by cases e), (fun e => by cases e), (fun e => by cases e), (fun e => by cases e), (fun e => by cases e), (fun e => by cases e), (fun e => by cases e), (fun e => by cases e), (fun e => by cases e), (fun e => by cases e), (fun e => by cases e), (fun e => by cases e), (fun e => by cases e), (fun e => by cases e), (fun e => by cases e), (fun e => by cases e), (fun e => by cases e), fun _ => hV, (fun e => by cases e), (fun e => by cases e), (fun e => by cases e)⟩
  case fin =>
    clear ha e9 e12 e15 e16 e17
    rintro listed a W ⟨X, c0, c1, c2, c3, c4, c5, c6, c7, c8, c9, c10, c11, c12, rfl, rfl, e9, e12, e15, e16, e17, h⟩ hr
    have kk : ∀ j, (#[c0, c1, c2, c3, c4, c5, c6, c7, c8, c9, c10, c11, c12] : Array Bool).getD j true = false → ∀ o, (#[{ dst := some 92, op := Op.load 87 (Operand.tmp 9), type := 87, pos := "merge.go:82", after := #[], guard := none }, { dst := some 93, op := Op.load 32 (Operand.tmp 12), type := 32, pos := "merge.go:82", after := #[], guard := none }, { dst := some 94, op := Op.load 3 (Operand.tmp 15), type := 3, pos := "merge.go:82", after := #[], guard := none }, { dst := some 95, op := Op.move (Operand.tmp 16), type := 3, pos := "merge.go:82", after := #[], guard := none }, { dst := some 96, op := Op.binOp BinOp.add 3 (Operand.tmp 94) (Operand.tmp 95) 3, type := 3, pos := "merge.go:82", after := #[{ on := 2, ground := Ground.data }, { on := 3, ground := Ground.data }], guard := none }, { dst := some 97, op := Op.indexAddr 32 (Operand.tmp 93) (Operand.tmp 96), type := 0, pos := "merge.go:82", after := #[{ on := 1, ground := Ground.data }, { on := 4, ground := Ground.data }], guard := none }, { dst := some 98, op := Op.fieldAddr 61 (Operand.tmp 97) 1, type := 0, pos := "merge.go:82", after := #[{ on := 5, ground := Ground.data }], guard := none }, { dst := some 99, op := Op.fieldAddr 92 (Operand.tmp 17) 1, type := 0, pos := "merge.go:82", after := #[], guard := none }, { dst := some 100, op := Op.load 55 (Operand.tmp 99), type := 55, pos := "merge.go:82", after := #[{ on := 7, ground := Ground.data }], guard := none }, { dst := some 101, op := Op.build 86 #[(0, Operand.tmp 98), (1, Operand.tmp 100)], type := 86, pos := "merge.go:82", after := #[{ on := 6, ground := Ground.data }, { on := 8, ground := Ground.data }], guard := none }, { dst := some 102, op := Op.buildSlice 87 1 #[(0, Operand.tmp 101)], type := 87, pos := "merge.go:82", after := #[{ on := 9, ground := Ground.data }], guard := none }, { dst := some 103, op := Op.call { callee := Callee.builtin Builtin.append, args := #[Operand.tmp 92, Operand.tmp 102], argTypes := #[87, 87] }, type := 87, pos := "merge.go:82", after := #[{ on := 0, ground := Ground.data }, { on := 10, ground := Ground.data }], guard := none }, { dst := none, op := Op.store 87 (Operand.tmp 9) (Operand.tmp 103), type := 0, pos := "merge.go:82", after := #[{ on := 11, ground := Ground.data }, { on := 11, ground := Ground.chain }, { on := 0, ground := Ground.phase }, { on := 1, ground := Ground.phase }, { on := 2, ground := Ground.phase }, { on := 3, ground := Ground.phase }, { on := 4, ground := Ground.phase }, { on := 5, ground := Ground.phase }, { on := 6, ground := Ground.phase }, { on := 7, ground := Ground.phase }, { on := 8, ground := Ground.phase }, { on := 9, ground := Ground.phase }, { on := 10, ground := Ground.phase }, { on := 11, ground := Ground.phase }], guard := none }] : Array Oper)[j]? = some o → (∀ e ∈ o.after, Region.binds .any e = true → (#[c0, c1, c2, c3, c4, c5, c6, c7, c8, c9, c10, c11, c12] : Array Bool).getD e.on false = true) → False := fun j h1 o h2 h3 => by
      have := (mem_ready (md := .any)).2 ⟨h1, o, h2, h3⟩
      rw [hr] at this
      cases this
    have d0 : c0 = true := by
      cases e : c0 with
      | true => rfl
      | false => exact (kk 0 (by simp [e]) _ rfl (by simp [Region.binds])).elim
    have d1 : c1 = true := by
      cases e : c1 with
      | true => rfl
      | false => exact (kk 1 (by simp [e]) _ rfl (by simp [Region.binds, d0])).elim
    have d2 : c2 = true := by
      cases e : c2 with
      | true => rfl
      | false => exact (kk 2 (by simp [e]) _ rfl (by simp [Region.binds, d0, d1])).elim
    have d3 : c3 = true := by
      cases e : c3 with
      | true => rfl
      | false => exact (kk 3 (by simp [e]) _ rfl (by simp [Region.binds, d0, d1, d2])).elim
    have d4 : c4 = true := by
      cases e : c4 with
      | true => rfl
      | false => exact (kk 4 (by simp [e]) _ rfl (by simp [Region.binds, d0, d1, d2, d3])).elim
    have d5 : c5 = true := by
      cases e : c5 with
      | true => rfl
      | false => exact (kk 5 (by simp [e]) _ rfl (by simp [Region.binds, d0, d1, d2, d3, d4])).elim
    have d6 : c6 = true := by
      cases e : c6 with
      | true => rfl
      | false => exact (kk 6 (by simp [e]) _ rfl (by simp [Region.binds, d0, d1, d2, d3, d4, d5])).elim
    have d7 : c7 = true := by
      cases e : c7 with
      | true => rfl
      | false => exact (kk 7 (by simp [e]) _ rfl (by simp [Region.binds, d0, d1, d2, d3, d4, d5, d6])).elim
    have d8 : c8 = true := by
      cases e : c8 with
      | true => rfl
      | false => exact (kk 8 (by simp [e]) _ rfl (by simp [Region.binds, d0, d1, d2, d3, d4, d5, d6, d7])).elim
    have d9 : c9 = true := by
      cases e : c9 with
      | true => rfl
      | false => exact (kk 9 (by simp [e]) _ rfl (by simp [Region.binds, d0, d1, d2, d3, d4, d5, d6, d7, d8])).elim
    have d10 : c10 = true := by
      cases e : c10 with
      | true => rfl
      | false => exact (kk 10 (by simp [e]) _ rfl (by simp [Region.binds, d0, d1, d2, d3, d4, d5, d6, d7, d8, d9])).elim
    have d11 : c11 = true := by
      cases e : c11 with
      | true => rfl
      | false => exact (kk 11 (by simp [e]) _ rfl (by simp [Region.binds, d0, d1, d2, d3, d4, d5, d6, d7, d8, d9, d10])).elim
    have d12 : c12 = true := by
      cases e : c12 with
      | true => rfl
      | false => exact (kk 12 (by simp [e]) _ rfl (by simp [Region.binds, d0, d1, d2, d3, d4, d5, d6, d7, d8, d9, d10, d11])).elim
    obtain ⟨v', W2, h1, rfl⟩ := h.p3 d12
    exact HQ.out _ _ _ h1
  case step =>
    clear ha e9 e12 e15 e16 e17
    rintro listed a W j ⟨X, c0, c1, c2, c3, c4, c5, c6, c7, c8, c9, c10, c11, c12, rfl, rfl, e9, e12, e15, e16, e17, h⟩ hj
    obtain ⟨hu, o, ho, hd⟩ := mem_ready.1 hj
    have hlt : j < 13 := (Array.getElem?_eq_some_iff.1 ho).1
    clear hj
    obtain rfl | rfl | rfl | rfl | rfl | rfl | rfl | rfl | rfl | rfl | rfl | rfl | rfl : j = 0 ∨ j = 1 ∨ j = 2 ∨ j = 3 ∨ j = 4 ∨ j = 5 ∨ j = 6 ∨ j = 7 ∨ j = 8 ∨ j = 9 ∨ j = 10 ∨ j = 11 ∨ j = 12 := by omega
    · have ho2 := ho
      simp at ho; subst ho
      simp [Region.binds] at hd hu
      subst hu
      have hc : W.cell? ⟨wb, 0, none⟩ = some vw := by
        cases e10 : c10 with
        | false => rw [h.p0 e10]; exact Boxed.cell HBX.out
        | true =>
          rw [h.p1 e10 (by cases e : c11 with | false => rfl | true => cases (h.q11 e).1)]
          exact (Boxed.alloc HBX.out _).cell
      refine opIn_of ho2 rfl (by intro c; simp) ?_ ?_
      · intro r args w'; simp only [frm, e9, e12, e15, e16, e17]; go_simp
      · simp only [frm, e9, e12, e15, e16, e17]; go_simp; exact ⟨_, _, _, _, _, _, _, _, _, _, _, _, _, _, frame_at rfl, rfl, rfl, rfl, rfl, rfl, rfl, ⟨(fun _ => rfl), h.f1, h.f2, h.f3, h.f4, h.f5, h.f6, h.f7, h.f8, h.f9, h.f10, h.q4, h.q5, h.q6, h.q8, h.q9, h.q10, (fun e => ⟨rfl, (h.q11 e).2⟩), h.q12, h.p0, h.p1, h.p2, h.p3⟩⟩
    · have ho2 := ho
      simp at ho; subst ho
      simp [Region.binds] at hd hu
      subst hu
      obtain rfl := h.p0 (by cases e : c10 with | false => rfl | true => cases (h.q5 (h.q6 (h.q9 (h.q10 e)).1)).1)
      refine opIn_of ho2 rfl (by intro c; simp) ?_ ?_
      · intro r args w'; simp only [frm, e9, e12, e15, e16, e17]; go_simp
      · simp only [frm, e9, e12, e15, e16, e17]; go_simp; exact ⟨_, _, _, _, _, _, _, _, _, _, _, _, _, _, frame_at rfl, rfl, rfl, rfl, rfl, rfl, rfl, ⟨h.f0, (fun _ => rfl), h.f2, h.f3, h.f4, h.f5, h.f6, h.f7, h.f8, h.f9, h.f10, h.q4, (fun e => ⟨rfl, (h.q5 e).2⟩), h.q6, h.q8, h.q9, h.q10, h.q11, h.q12, h.p0, h.p1, h.p2, h.p3⟩⟩
    · have ho2 := ho
      simp at ho; subst ho
      simp [Region.binds] at hd hu
      subst hu
      obtain rfl := h.p0 (by cases e : c10 with | false => rfl | true => cases (h.q4 (h.q5 (h.q6 (h.q9 (h.q10 e)).1)).2).1)
      refine opIn_of ho2 rfl (by intro c; simp) ?_ ?_
      · intro r args w'; simp only [frm, e9, e12, e15, e16, e17]; go_simp
      · simp only [frm, e9, e12, e15, e16, e17]; go_simp; exact ⟨_, _, _, _, _, _, _, _, _, _, _, _, _, _, frame_at rfl, rfl, rfl, rfl, rfl, rfl, rfl, ⟨h.f0, h.f1, (fun _ => rfl), h.f3, h.f4, h.f5, h.f6, h.f7, h.f8, h.f9, h.f10, (fun e => ⟨rfl, (h.q4 e).2⟩), h.q5, h.q6, h.q8, h.q9, h.q10, h.q11, h.q12, h.p0, h.p1, h.p2, h.p3⟩⟩
    · have ho2 := ho
      simp at ho; subst ho
      simp [Region.binds] at hd hu
      subst hu
      refine opIn_of ho2 rfl (by intro c; simp) ?_ ?_
      · intro r args w'; simp only [frm, e9, e12, e15, e16, e17]; go_simp
      · simp only [frm, e9, e12, e15, e16, e17]; go_simp; exact ⟨_, _, _, _, _, _, _, _, _, _, _, _, _, _, frame_at rfl, rfl, rfl, rfl, rfl, rfl, rfl, ⟨h.f0, h.f1, h.f2, (fun _ => rfl), h.f4, h.f5, h.f6, h.f7, h.f8, h.f9, h.f10, (fun e => ⟨(h.q4 e).1, rfl⟩), h.q5, h.q6, h.q8, h.q9, h.q10, h.q11, h.q12, h.p0, h.p1, h.p2, h.p3⟩⟩
    · have ho2 := ho
      simp at ho; subst ho
      simp [Region.binds] at hd hu
      subst hu
      obtain ⟨rfl, rfl⟩ : c2 = true ∧ c3 = true := by simp [hd]
      have x2 := h.f2 rfl
      have x3 := h.f3 rfl
      have iw : IntKind.i64.wrap ((0 : Int) + (i : Int)) = (i : Int) := (wrap_small (by omega) (by omega)).trans (by omega)
      have iz : (0 : Int) + (i : Int) = (i : Int) := by omega
      have iw2 : IntKind.i64.wrap (i : Int) = (i : Int) := wrap_small (by omega) (by omega)
      refine opIn_of ho2 rfl (by intro c; simp) ?_ ?_
      · intro r args w'; simp only [frm, e9, e12, e15, e16, e17, x2, x3]; go_simp
      · simp only [frm, e9, e12, e15, e16, e17, x2, x3]; go_simp; exact ⟨_, _, _, _, _, _, _, _, _, _, _, _, _, _, frame_at rfl, rfl, rfl, rfl, rfl, rfl, rfl, ⟨h.f0, h.f1, (fun _ => rfl), (fun _ => rfl), (fun _ => rfl), h.f5, h.f6, h.f7, h.f8, h.f9, h.f10, (fun _ => ⟨rfl, rfl⟩), (fun e => ⟨(h.q5 e).1, rfl⟩), h.q6, h.q8, h.q9, h.q10, h.q11, h.q12, h.p0, h.p1, h.p2, h.p3⟩⟩
    · have ho2 := ho
      simp at ho; subst ho
      simp [Region.binds] at hd hu
      subst hu
      obtain ⟨rfl, rfl⟩ : c1 = true ∧ c4 = true := by simp [hd]
      have x1 := h.f1 rfl
      have x4 := h.f4 rfl
      have hin : (i : Int) < (n : Int) := by omega
      have hi0 : (0 : Int) ≤ (i : Int) := by omega
      have hi2 : (i : Int).toNat = i := by omega
      refine opIn_of ho2 rfl (by intro c; simp) ?_ ?_
      · intro r args w'; simp only [frm, e9, e12, e15, e16, e17, x1, x4]; go_simp
      · simp only [frm, e9, e12, e15, e16, e17, x1, x4]; go_simp; exact ⟨_, _, _, _, _, _, _, _, _, _, _, _, _, _, frame_at rfl, rfl, rfl, rfl, rfl, rfl, rfl, ⟨h.f0, (fun _ => rfl), h.f2, h.f3, (fun _ => rfl), (fun _ => rfl), h.f6, h.f7, h.f8, h.f9, h.f10, h.q4, (fun _ => ⟨rfl, rfl⟩), (fun _ => rfl), h.q8, h.q9, h.q10, h.q11, h.q12, h.p0, h.p1, h.p2, h.p3⟩⟩
    · have ho2 := ho
      simp at ho; subst ho
      simp [Region.binds] at hd hu
      subst hu
      obtain rfl : c5 = true := by simp [hd]
      have x5 := h.f5 rfl
      refine opIn_of ho2 rfl (by intro c; simp) ?_ ?_
      · intro r args w'; simp only [frm, e9, e12, e15, e16, e17, x5]; go_simp
      · simp only [frm, e9, e12, e15, e16, e17, x5]; go_simp; exact ⟨_, _, _, _, _, _, _, _, _, _, _, _, _, _, frame_at rfl, rfl, rfl, rfl, rfl, rfl, rfl, ⟨h.f0, h.f1, h.f2, h.f3, h.f4, (fun _ => rfl), (fun _ => rfl), h.f7, h.f8, h.f9, h.f10, h.q4, h.q5, (fun _ => rfl), h.q8, (fun e => ⟨rfl, (h.q9 e).2⟩), h.q10, h.q11, h.q12, h.p0, h.p1, h.p2, h.p3⟩⟩
    · have ho2 := ho
      simp at ho; subst ho
      simp [Region.binds] at hd hu
      subst hu
      refine opIn_of ho2 rfl (by intro c; simp) ?_ ?_
      · intro r args w'; simp only [frm, e9, e12, e15, e16, e17]; go_simp
      · simp only [frm, e9, e12, e15, e16, e17]; go_simp; exact ⟨_, _, _, _, _, _, _, _, _, _, _, _, _, _, frame_at rfl, rfl, rfl, rfl, rfl, rfl, rfl, ⟨h.f0, h.f1, h.f2, h.f3, h.f4, h.f5, h.f6, (fun _ => rfl), h.f8, h.f9, h.f10, h.q4, h.q5, h.q6, (fun _ => rfl), h.q9, h.q10, h.q11, h.q12, h.p0, h.p1, h.p2, h.p3⟩⟩
    · have ho2 := ho
      simp at ho; subst ho
      simp [Region.binds] at hd hu
      subst hu
      obtain rfl : c7 = true := by simp [hd]
      obtain rfl := h.p0 (by cases e : c10 with | false => rfl | true => cases (h.q9 (h.q10 e)).2)
      have x7 := h.f7 rfl
      refine opIn_of ho2 rfl (by intro c; simp) ?_ ?_
      · intro r args w'; simp only [frm, e9, e12, e15, e16, e17, x7]; go_simp
      · simp only [frm, e9, e12, e15, e16, e17, x7]; go_simp; exact ⟨_, _, _, _, _, _, _, _, _, _, _, _, _, _, frame_at rfl, rfl, rfl, rfl, rfl, rfl, rfl, ⟨h.f0, h.f1, h.f2, h.f3, h.f4, h.f5, h.f6, (fun _ => rfl), (fun _ => rfl), h.f9, h.f10, h.q4, h.q5, h.q6, (fun _ => rfl), (fun e => ⟨(h.q9 e).1, rfl⟩), h.q10, h.q11, h.q12, h.p0, h.p1, h.p2, h.p3⟩⟩
    · have ho2 := ho
      simp at ho; subst ho
      simp [Region.binds] at hd hu
      subst hu
      obtain ⟨rfl, rfl⟩ : c6 = true ∧ c8 = true := by simp [hd]
      have x6 := h.f6 rfl
      have x8 := h.f8 rfl
      refine opIn_of ho2 rfl (by intro c; simp) ?_ ?_
      · intro r args w'; simp only [frm, e9, e12, e15, e16, e17, x6, x8]; go_simp
      · simp only [frm, e9, e12, e15, e16, e17, x6, x8]; go_simp; exact ⟨_, _, _, _, _, _, _, _, _, _, _, _, _, _, frame_at rfl, rfl, rfl, rfl, rfl, rfl, rfl, ⟨h.f0, h.f1, h.f2, h.f3, h.f4, h.f5, (fun _ => rfl), h.f7, (fun _ => rfl), (fun _ => rfl), h.f10, h.q4, h.q5, h.q6, h.q8, (fun _ => ⟨rfl, rfl⟩), (fun _ => rfl), h.q11, h.q12, h.p0, h.p1, h.p2, h.p3⟩⟩
    · have ho2 := ho
      simp at ho; subst ho
      simp [Region.binds] at hd hu
      subst hu
      obtain rfl : c9 = true := by simp [hd]
      have x9 := h.f9 rfl
      obtain rfl := h.p0 rfl
      refine opIn_of ho2 rfl (by intro c; simp) ?_ ?_
      · intro r args w'; simp only [frm, e9, e12, e15, e16, e17, x9]; go_simp
      · simp only [frm, e9, e12, e15, e16, e17, x9]; go_simp; exact ⟨_, _, _, _, _, _, _, _, _, _, _, _, _, _, frame_at rfl, rfl, rfl, rfl, rfl, rfl, rfl, ⟨h.f0, h.f1, h.f2, h.f3, h.f4, h.f5, h.f6, h.f7, h.f8, (fun _ => rfl), (fun _ => rfl), h.q4, h.q5, h.q6, h.q8, h.q9, (fun _ => rfl), (fun e => ⟨(h.q11 e).1, rfl⟩), h.q12, (fun e => by cases e), (fun _ _ => rfl), (fun e => by cases (h.q11 e).2), (fun e => by cases (h.q11 (h.q12 e)).2)⟩⟩
    · have ho2 := ho
      simp at ho; subst ho
      simp [Region.binds] at hd hu
      subst hu
      obtain ⟨rfl, rfl⟩ : c0 = true ∧ c10 = true := by simp [hd]
      have x0 := h.f0 rfl
      have x10 := h.f10 rfl
      have hW := h.p1 rfl rfl
      subst hW
      refine opIn_append_src _ ho2 rfl (.tmp 92) (.tmp 102) 87 rfl base 86 i0 _ 2 32 Tryz.underlying87 HI0.out HI1.out HI2.out HI3.out rfl (by decide) vw m fl x0 (World.ownsRow.alloc HROW.out _) (some ⟨V.heap.size, 0, none⟩) 1 1 [.pointer (some ⟨g, i * 9 + 1, none⟩), .slice ea el ec] x10 rfl (.inr ⟨_, rfl, fun j u hj => ?_⟩) (by simp [Value.oneCell']) (by unfold maxLen; omega) (by omega) (by rw [World.size_alloc]; omega) ?_
      · rw [addr_add, Nat.zero_add]
        refine (World.cell?_alloc_at _ _ _ _ rfl).trans ?_
        simpa using hj
      intro v' w' ho1 hg1 hh1
      simp only [frm, e9, e12, e15, e16, e17]
      exact ⟨_, _, _, _, _, _, _, _, _, _, _, _, _, _, frame_at rfl, rfl, rfl, rfl, rfl, rfl, rfl, ⟨h.f0, h.f1, h.f2, h.f3, h.f4, h.f5, h.f6, h.f7, h.f8, h.f9, h.f10, h.q4, h.q5, h.q6, h.q8, h.q9, h.q10, (fun _ => ⟨rfl, rfl⟩), (fun _ => rfl), (fun e => by cases e), (fun _ e => by cases e), (fun _ _ => ⟨ho1, hg1, hh1⟩), (fun e => by cases h.q12 e)⟩⟩
    · have ho2 := ho
      simp at ho; subst ho
      simp [Region.binds] at hd hu
      subst hu
      obtain ⟨rfl, rfl, rfl, rfl, rfl, rfl, rfl, rfl, rfl, rfl, rfl, rfl⟩ : c0 = true ∧ c1 = true ∧ c2 = true ∧ c3 = true ∧ c4 = true ∧ c5 = true ∧ c6 = true ∧ c7 = true ∧ c8 = true ∧ c9 = true ∧ c10 = true ∧ c11 = true := by simp [hd]
      have hA := h.p2 rfl rfl
      obtain ⟨gg, cc, hv⟩ := ownsRow_succ hA.own
      have hb : Boxed W wb 87 vw := (Boxed.alloc HBX.out _).kept hA.gro (Boxed.not_row HBX.out (by decide) HROW.out)
      have hc := hb.cell
      have hf := hb.frozen
      have HA : Hid _ := hA
      have HV : Hid _ := hv
      clear hA hb
      refine opIn_of ho2 rfl (by intro c; simp) ?_ ?_
      · intro r args w'; simp only [frm, e9, e12, e15, e16, e17, hv]; go_simp
      · simp only [frm, e9, e12, e15, e16, e17, hv]; go_simp; exact ⟨_, _, _, _, _, _, _, _, _, _, _, _, _, _, frame_at rfl, rfl, rfl, rfl, rfl, rfl, rfl, ⟨h.f0, h.f1, h.f2, h.f3, h.f4, h.f5, h.f6, h.f7, h.f8, h.f9, h.f10, h.q4, h.q5, h.q6, h.q8, h.q9, h.q10, h.q11, (fun _ => rfl), (fun e => by cases e), (fun _ e => by cases e), (fun _ e => by cases e), (fun _ => ⟨_, W, HA.out, by rw [HV.out]⟩)⟩⟩
end Go.Proofs.YtlbabnffiibnpaaGreat
