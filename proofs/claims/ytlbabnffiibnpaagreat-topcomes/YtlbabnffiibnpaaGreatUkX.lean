/-
  WHAT IS KEPT WHILE Along LAYS WHAT IT SAW INTO ITS ROWS, operation by operation: no walk.
  THE REGION IN WHICH Along LAYS WHAT IT SAW INTO ITS ROWS: each operation.
-/
import Derived.Test.YtlbabnffiibnpaaGreatFdX
import Derived.RangeFuncCalls
namespace Go.Proofs.YtlbabnffiibnpaaGreat
open Go.RowKit Go.Shelf
structure AlSt (S : Nat → Bool) (w A : World) (Sx : Nat → Bool) (st : Loop) (vn vf : Value) (L : List Fl) (N : Nd) (hb : Hd) (ly nbx vb vo : Nat) (vs : Value) (c0 c1 c2 c3 c4 c5 c6 c7 c8 c9 c10 c11 c12 c13 : Bool) (t24 t25 t26 t27 t28 t29 t30 t31 t32 t33 t34 t35 : Value) (W : World) : Prop where
  f0 : c0 = true → t24 = vn
  f1 : c1 = true → t25 = ndV N hb
  f5 : c5 = true → t29 = vf
  f6 : c6 = true → t30 = vs
  f7 : c7 = true → t31 = .pointer (some ⟨vb, vo, none⟩)
  f8 : c8 = true → t32 = .pointer (some ⟨vb, vo + 1, none⟩)
  f9 : c9 = true → t33 = .int .i64 ly
  q2 : c2 = true → c1 = true
  q3 : c3 = true → c2 = true
  q4 : c4 = true → c0 = true ∧ c3 = true
  q10 : c10 = true → c9 = true
  q11 : c11 = true → c4 = true ∧ c5 = true ∧ c10 = true
  q12 : c12 = true → c11 = true
  q13 : c13 = true → c12 = true
  p0 : c2 = false → XA S w A Sx st vn vf L L vn vf W ∧ NBw W nbx N hb ∧ NdV (offS W.cell? (alS w.heap.size vn vf S)) N hb
  p1 : c2 = true → c3 = false → ∃ h', t26 = ndV N h' ∧ XA S w A Sx st vn vf L L vn vf W ∧ NdV (offS W.cell? (alS w.heap.size vn vf S)) N h'
  p2 : c3 = true → c4 = false → ∃ h' g, t27 = .slice (some ⟨g, 0, none⟩) 1 1 ∧ XA S w A Sx st vn vf L L vn vf W ∧ NdV (offS W.cell? (alS w.heap.size vn vf S)) N h' ∧ ∀ j u, (ndL N h')[j]? = some u → W.cell? ⟨g, j, none⟩ = some u
  p3 : c4 = true → c11 = false → ∃ h', XA S w A Sx st t28 vf (L ++ [(⟨N, h', ly⟩ : Fl)]) L vn vf W
  p4 : c11 = true → c12 = false → ∃ h', XA S w A Sx st t28 t35 (L ++ [(⟨N, h', ly⟩ : Fl)]) (L ++ [(⟨N, h', ly⟩ : Fl)]) vn vf W
  p5 : c12 = true → c13 = false → ∃ h', XA S w A Sx st t28 t35 (L ++ [(⟨N, h', ly⟩ : Fl)]) (L ++ [(⟨N, h', ly⟩ : Fl)]) t28 vf W
  p6 : c13 = true → ∃ h', XA S w A Sx st t28 t35 (L ++ [(⟨N, h', ly⟩ : Fl)]) (L ++ [(⟨N, h', ly⟩ : Fl)]) t28 t35 W
  p10 : c10 = true → c11 = false → ∃ g, t34 = .slice (some ⟨g, 0, none⟩) 1 1 ∧ W.cell? ⟨g, 0, none⟩ = some (.int .i64 ly) ∧ A.heap.size ≤ g
theorem AlSt.below {S : Nat → Bool} {w A : World} {Sx : Nat → Bool} {st : Loop} {vn vf : Value} {L : List Fl} {N : Nd} {hb : Hd} {ly nbx vb vo : Nat} {vs : Value} {c0 c1 c2 c3 c4 c5 c6 c7 c8 c9 c10 c11 c12 c13 : Bool} {t24 t25 t26 t27 t28 t29 t30 t31 t32 t33 t34 t35 : Value} {W W' : World} (h : AlSt S w A Sx st vn vf L N hb ly nbx vb vo vs c0 c1 c2 c3 c4 c5 c6 c7 c8 c9 c10 c11 c12 c13 t24 t25 t26 t27 t28 t29 t30 t31 t32 t33 t34 t35 W) (hB : Below W.heap.size W W') : AlSt S w A Sx st vn vf L N hb ly nbx vb vo vs c0 c1 c2 c3 c4 c5 c6 c7 c8 c9 c10 c11 c12 c13 t24 t25 t26 t27 t28 t29 t30 t31 t32 t33 t34 t35 W' :=
  ⟨h.f0, h.f1, h.f5, h.f6, h.f7, h.f8, h.f9, h.q2, h.q3, h.q4, h.q10, h.q11, h.q12, h.q13, fun e => (h.p0 e).imp (fun x => x.below hB) (fun x => x.imp (fun y => y.below hB) (fun y => y.on (mle_S hB))),
    fun e e2 => let ⟨h', a, b, c⟩ := h.p1 e e2; ⟨h', a, b.below hB, c.on (mle_S hB)⟩,
    fun e e2 => let ⟨h', g, a, b, c, d⟩ := h.p2 e e2; ⟨h', g, a, b.below hB, c.on (mle_S hB), fun j u hj => mle_below hB _ _ (d j u hj)⟩,
    fun e e2 => let ⟨h', a⟩ := h.p3 e e2; ⟨h', a.below hB⟩, fun e e2 => let ⟨h', a⟩ := h.p4 e e2; ⟨h', a.below hB⟩, fun e e2 => let ⟨h', a⟩ := h.p5 e e2; ⟨h', a.below hB⟩, fun e => let ⟨h', a⟩ := h.p6 e; ⟨h', a.below hB⟩,
    fun e e2 => let ⟨g, a, b, c⟩ := h.p10 e e2; ⟨g, a, mle_below hB _ _ b, c⟩⟩
theorem AlSt.o0 {S : Nat → Bool} {w A : World} {Sx : Nat → Bool} {st : Loop} {vn vf : Value} {L : List Fl} {N : Nd} {hb : Hd} {ly nbx vb vo : Nat} {vs : Value} {c1 c2 c3 c4 c5 c6 c7 c8 c9 c10 c11 c12 c13 : Bool} {t24 t25 t26 t27 t28 t29 t30 t31 t32 t33 t34 t35 : Value} {W : World} (h : AlSt S w A Sx st vn vf L N hb ly nbx vb vo vs false c1 c2 c3 c4 c5 c6 c7 c8 c9 c10 c11 c12 c13 t24 t25 t26 t27 t28 t29 t30 t31 t32 t33 t34 t35 W) : AlSt S w A Sx st vn vf L N hb ly nbx vb vo vs true c1 c2 c3 c4 c5 c6 c7 c8 c9 c10 c11 c12 c13 (vn) t25 t26 t27 t28 t29 t30 t31 t32 t33 t34 t35 W :=
  ⟨(fun _ => rfl), h.f1, h.f5, h.f6, h.f7, h.f8, h.f9, h.q2, h.q3, (fun e => ⟨rfl, (h.q4 e).2⟩), h.q10, h.q11, h.q12, h.q13, h.p0, h.p1, h.p2, h.p3, h.p4, h.p5, h.p6, h.p10⟩
theorem AlSt.o1 {S : Nat → Bool} {w A : World} {Sx : Nat → Bool} {st : Loop} {vn vf : Value} {L : List Fl} {N : Nd} {hb : Hd} {ly nbx vb vo : Nat} {vs : Value} {c0 c2 c3 c4 c5 c6 c7 c8 c9 c10 c11 c12 c13 : Bool} {t24 t25 t26 t27 t28 t29 t30 t31 t32 t33 t34 t35 : Value} {W : World} (h : AlSt S w A Sx st vn vf L N hb ly nbx vb vo vs c0 false c2 c3 c4 c5 c6 c7 c8 c9 c10 c11 c12 c13 t24 t25 t26 t27 t28 t29 t30 t31 t32 t33 t34 t35 W) : AlSt S w A Sx st vn vf L N hb ly nbx vb vo vs c0 true c2 c3 c4 c5 c6 c7 c8 c9 c10 c11 c12 c13 t24 (ndV N hb) t26 t27 t28 t29 t30 t31 t32 t33 t34 t35 W :=
  ⟨h.f0, (fun _ => rfl), h.f5, h.f6, h.f7, h.f8, h.f9, (fun _ => rfl), h.q3, h.q4, h.q10, h.q11, h.q12, h.q13, h.p0, h.p1, h.p2, h.p3, h.p4, h.p5, h.p6, h.p10⟩
theorem AlSt.o5 {S : Nat → Bool} {w A : World} {Sx : Nat → Bool} {st : Loop} {vn vf : Value} {L : List Fl} {N : Nd} {hb : Hd} {ly nbx vb vo : Nat} {vs : Value} {c0 c1 c2 c3 c4 c6 c7 c8 c9 c10 c11 c12 c13 : Bool} {t24 t25 t26 t27 t28 t29 t30 t31 t32 t33 t34 t35 : Value} {W : World} (h : AlSt S w A Sx st vn vf L N hb ly nbx vb vo vs c0 c1 c2 c3 c4 false c6 c7 c8 c9 c10 c11 c12 c13 t24 t25 t26 t27 t28 t29 t30 t31 t32 t33 t34 t35 W) : AlSt S w A Sx st vn vf L N hb ly nbx vb vo vs c0 c1 c2 c3 c4 true c6 c7 c8 c9 c10 c11 c12 c13 t24 t25 t26 t27 t28 (vf) t30 t31 t32 t33 t34 t35 W :=
  ⟨h.f0, h.f1, (fun _ => rfl), h.f6, h.f7, h.f8, h.f9, h.q2, h.q3, h.q4, h.q10, (fun e => ⟨(h.q11 e).1, rfl, (h.q11 e).2.2⟩), h.q12, h.q13, h.p0, h.p1, h.p2, h.p3, h.p4, h.p5, h.p6, h.p10⟩
theorem AlSt.o6 {S : Nat → Bool} {w A : World} {Sx : Nat → Bool} {st : Loop} {vn vf : Value} {L : List Fl} {N : Nd} {hb : Hd} {ly nbx vb vo : Nat} {vs : Value} {c0 c1 c2 c3 c4 c5 c7 c8 c9 c10 c11 c12 c13 : Bool} {t24 t25 t26 t27 t28 t29 t30 t31 t32 t33 t34 t35 : Value} {W : World} (h : AlSt S w A Sx st vn vf L N hb ly nbx vb vo vs c0 c1 c2 c3 c4 c5 false c7 c8 c9 c10 c11 c12 c13 t24 t25 t26 t27 t28 t29 t30 t31 t32 t33 t34 t35 W) : AlSt S w A Sx st vn vf L N hb ly nbx vb vo vs c0 c1 c2 c3 c4 c5 true c7 c8 c9 c10 c11 c12 c13 t24 t25 t26 t27 t28 t29 (vs) t31 t32 t33 t34 t35 W :=
  ⟨h.f0, h.f1, h.f5, (fun _ => rfl), h.f7, h.f8, h.f9, h.q2, h.q3, h.q4, h.q10, h.q11, h.q12, h.q13, h.p0, h.p1, h.p2, h.p3, h.p4, h.p5, h.p6, h.p10⟩
theorem AlSt.o7 {S : Nat → Bool} {w A : World} {Sx : Nat → Bool} {st : Loop} {vn vf : Value} {L : List Fl} {N : Nd} {hb : Hd} {ly nbx vb vo : Nat} {vs : Value} {c0 c1 c2 c3 c4 c5 c8 c9 c10 c11 c12 c13 : Bool} {t24 t25 t26 t27 t28 t29 t30 t31 t32 t33 t34 t35 : Value} {W : World} (h : AlSt S w A Sx st vn vf L N hb ly nbx vb vo vs c0 c1 c2 c3 c4 c5 true false c8 c9 c10 c11 c12 c13 t24 t25 t26 t27 t28 t29 t30 t31 t32 t33 t34 t35 W) : AlSt S w A Sx st vn vf L N hb ly nbx vb vo vs c0 c1 c2 c3 c4 c5 true true c8 c9 c10 c11 c12 c13 t24 t25 t26 t27 t28 t29 t30 (.pointer (some ⟨vb, vo, none⟩)) t32 t33 t34 t35 W :=
  ⟨h.f0, h.f1, h.f5, h.f6, (fun _ => rfl), h.f8, h.f9, h.q2, h.q3, h.q4, h.q10, h.q11, h.q12, h.q13, h.p0, h.p1, h.p2, h.p3, h.p4, h.p5, h.p6, h.p10⟩
theorem AlSt.o8 {S : Nat → Bool} {w A : World} {Sx : Nat → Bool} {st : Loop} {vn vf : Value} {L : List Fl} {N : Nd} {hb : Hd} {ly nbx vb vo : Nat} {vs : Value} {c0 c1 c2 c3 c4 c5 c6 c9 c10 c11 c12 c13 : Bool} {t24 t25 t26 t27 t28 t29 t30 t31 t32 t33 t34 t35 : Value} {W : World} (h : AlSt S w A Sx st vn vf L N hb ly nbx vb vo vs c0 c1 c2 c3 c4 c5 c6 true false c9 c10 c11 c12 c13 t24 t25 t26 t27 t28 t29 t30 t31 t32 t33 t34 t35 W) : AlSt S w A Sx st vn vf L N hb ly nbx vb vo vs c0 c1 c2 c3 c4 c5 c6 true true c9 c10 c11 c12 c13 t24 t25 t26 t27 t28 t29 t30 t31 (.pointer (some ⟨vb, vo + 1, none⟩)) t33 t34 t35 W :=
  ⟨h.f0, h.f1, h.f5, h.f6, h.f7, (fun _ => rfl), h.f9, h.q2, h.q3, h.q4, h.q10, h.q11, h.q12, h.q13, h.p0, h.p1, h.p2, h.p3, h.p4, h.p5, h.p6, h.p10⟩
theorem AlSt.o9 {S : Nat → Bool} {w A : World} {Sx : Nat → Bool} {st : Loop} {vn vf : Value} {L : List Fl} {N : Nd} {hb : Hd} {ly nbx vb vo : Nat} {vs : Value} {c0 c1 c2 c3 c4 c5 c6 c7 c10 c11 c12 c13 : Bool} {t24 t25 t26 t27 t28 t29 t30 t31 t32 t33 t34 t35 : Value} {W : World} (h : AlSt S w A Sx st vn vf L N hb ly nbx vb vo vs c0 c1 c2 c3 c4 c5 c6 c7 true false c10 c11 c12 c13 t24 t25 t26 t27 t28 t29 t30 t31 t32 t33 t34 t35 W) : AlSt S w A Sx st vn vf L N hb ly nbx vb vo vs c0 c1 c2 c3 c4 c5 c6 c7 true true c10 c11 c12 c13 t24 t25 t26 t27 t28 t29 t30 t31 t32 (.int .i64 ly) t34 t35 W :=
  ⟨h.f0, h.f1, h.f5, h.f6, h.f7, h.f8, (fun _ => rfl), h.q2, h.q3, h.q4, (fun _ => rfl), h.q11, h.q12, h.q13, h.p0, h.p1, h.p2, h.p3, h.p4, h.p5, h.p6, h.p10⟩
theorem AlSt.o2 {S : Nat → Bool} {w A : World} {Sx : Nat → Bool} {st : Loop} {vn vf : Value} {L : List Fl} {N : Nd} {hb : Hd} {ly nbx vb vo : Nat} {vs : Value} {c0 c3 c4 c5 c6 c7 c8 c9 c10 c11 c12 c13 : Bool} {t24 t25 t26 t27 t28 t29 t30 t31 t32 t33 t34 t35 : Value} {W W' : World} (h : AlSt S w A Sx st vn vf L N hb ly nbx vb vo vs c0 true false c3 c4 c5 c6 c7 c8 c9 c10 c11 c12 c13 t24 t25 t26 t27 t28 t29 t30 t31 t32 t33 t34 t35 W) {h' : Hd} (hB : Below W.heap.size W W') (hn : NdV (offS W'.cell? (alS w.heap.size vn vf S)) N h') : AlSt S w A Sx st vn vf L N hb ly nbx vb vo vs c0 true true c3 c4 c5 c6 c7 c8 c9 c10 c11 c12 c13 t24 t25 (ndV N h') t27 t28 t29 t30 t31 t32 t33 t34 t35 W' := by
  have h := h.below hB
  exact ⟨h.f0, h.f1, h.f5, h.f6, h.f7, h.f8, h.f9, (fun _ => rfl), (fun _ => rfl), h.q4, h.q10, h.q11, h.q12, h.q13, (fun e => by cases e), (fun _ _ => ⟨h', rfl, (h.p0 rfl).1, hn⟩), (fun e => by cases h.q3 e), h.p3, h.p4, h.p5, h.p6, h.p10⟩
theorem AlSt.o3 {S : Nat → Bool} {w A : World} {Sx : Nat → Bool} {st : Loop} {vn vf : Value} {L : List Fl} {N : Nd} {hb : Hd} {ly nbx vb vo : Nat} {vs : Value} {c0 c1 c4 c5 c6 c7 c8 c9 c10 c11 c12 c13 : Bool} {t24 t25 t26 t27 t28 t29 t30 t31 t32 t33 t34 t35 : Value} {W W' : World} (h : AlSt S w A Sx st vn vf L N hb ly nbx vb vo vs c0 c1 true false c4 c5 c6 c7 c8 c9 c10 c11 c12 c13 t24 t25 t26 t27 t28 t29 t30 t31 t32 t33 t34 t35 W) {h' : Hd} {g : Nat} (_ht : t26 = ndV N h') (hn : NdV (offS W.cell? (alS w.heap.size vn vf S)) N h') (hB : Below W.heap.size W W') (hc : ∀ j u, (ndL N h')[j]? = some u → W'.cell? ⟨g, j, none⟩ = some u) : AlSt S w A Sx st vn vf L N hb ly nbx vb vo vs c0 c1 true true c4 c5 c6 c7 c8 c9 c10 c11 c12 c13 t24 t25 t26 (.slice (some ⟨g, 0, none⟩) 1 1) t28 t29 t30 t31 t32 t33 t34 t35 W' := by
  have hX := (let ⟨_, _, b, _⟩ := (h.below hB).p1 rfl rfl; b)
  have h := h.below hB
  exact ⟨h.f0, h.f1, h.f5, h.f6, h.f7, h.f8, h.f9, h.q2, (fun _ => rfl), (fun e => ⟨(h.q4 e).1, rfl⟩), h.q10, h.q11, h.q12, h.q13, h.p0, (fun _ e => by cases e), (fun _ _ => ⟨h', g, rfl, hX, hn.on (mle_S hB), hc⟩), (fun e => by cases (h.q4 e).2), h.p4, h.p5, h.p6, h.p10⟩
theorem AlSt.o4 {S : Nat → Bool} {w A : World} {Sx : Nat → Bool} {st : Loop} {vn vf : Value} {L : List Fl} {N : Nd} {hb : Hd} {ly nbx vb vo : Nat} {vs : Value} {c1 c2 c5 c6 c7 c8 c9 c10 c11 c12 c13 : Bool} {t24 t25 t26 t27 t28 t29 t30 t31 t32 t33 t34 t35 : Value} {W W' : World} (h : AlSt S w A Sx st vn vf L N hb ly nbx vb vo vs true c1 c2 true false c5 c6 c7 c8 c9 c10 c11 c12 c13 t24 t25 t26 t27 t28 t29 t30 t31 t32 t33 t34 t35 W) {h' : Hd} {vn' : Value} (hA : ∀ g, vn.ownBlock = some g → g < A.heap.size) (hX : XA S w A Sx st vn vf L L vn vf W) (hn : NdV (offS W.cell? (alS w.heap.size vn vf S)) N h') (hown : W'.ownsRow (w.heap.size + 1 + 1) 34 8 vn' (L ++ [(⟨N, h', ly⟩ : Fl)]).length (flN (L ++ [(⟨N, h', ly⟩ : Fl)]))) (hg : W.grownBy W' vn.ownBlock) (ho : vn'.ownBlock = vn.ownBlock ∨ vn'.ownBlock = some W.heap.size) : AlSt S w A Sx st vn vf L N hb ly nbx vb vo vs true c1 c2 true true c5 c6 c7 c8 c9 c10 c11 c12 c13 t24 t25 t26 t27 (vn') t29 t30 t31 t32 t33 t34 t35 W' := by
  exact ⟨h.f0, h.f1, h.f5, h.f6, h.f7, h.f8, h.f9, h.q2, h.q3, (fun _ => ⟨rfl, rfl⟩), h.q10, (fun e => ⟨rfl, (h.q11 e).2⟩), h.q12, h.q13, (fun e => by cases e.symm.trans (h.q3 rfl)), (fun _ e => by cases e), (fun _ e => by cases e), (fun _ _ => ⟨h', hX.appN (f := ⟨N, h', ly⟩) hn hown hg ho⟩), (fun e => by cases (h.q11 e).1), (fun e => by cases (h.q11 (h.q12 e)).1), (fun e => by cases (h.q11 (h.q12 (h.q13 e))).1), (fun e e2 => let ⟨g, a, b, c⟩ := h.p10 e e2; ⟨g, a, (World.cell?_of_block (a := ⟨g, 0, none⟩) (hg.block g (World.block_lt_of_cell? _ _ b) (fun e => by have := hA g e.symm; omega))).trans b, c⟩)⟩
theorem AlSt.o10 {S : Nat → Bool} {w A : World} {Sx : Nat → Bool} {st : Loop} {vn vf : Value} {L : List Fl} {N : Nd} {hb : Hd} {ly nbx vb vo : Nat} {vs : Value} {c0 c1 c2 c3 c4 c5 c6 c7 c8 c11 c12 c13 : Bool} {t24 t25 t26 t27 t28 t29 t30 t31 t32 t33 t34 t35 : Value} {W W' : World} (h : AlSt S w A Sx st vn vf L N hb ly nbx vb vo vs c0 c1 c2 c3 c4 c5 c6 c7 c8 true false c11 c12 c13 t24 t25 t26 t27 t28 t29 t30 t31 t32 t33 t34 t35 W) {g : Nat} (hB : Below W.heap.size W W') (hc : W'.cell? ⟨g, 0, none⟩ = some (.int .i64 ly)) (hg : A.heap.size ≤ g) : AlSt S w A Sx st vn vf L N hb ly nbx vb vo vs c0 c1 c2 c3 c4 c5 c6 c7 c8 true true c11 c12 c13 t24 t25 t26 t27 t28 t29 t30 t31 t32 t33 (.slice (some ⟨g, 0, none⟩) 1 1) t35 W' := by
  have h := h.below hB
  exact ⟨h.f0, h.f1, h.f5, h.f6, h.f7, h.f8, h.f9, h.q2, h.q3, h.q4, (fun _ => rfl), (fun e => ⟨(h.q11 e).1, (h.q11 e).2.1, rfl⟩), h.q12, h.q13, h.p0, h.p1, h.p2, h.p3, h.p4, h.p5, h.p6, (fun _ _ => ⟨g, rfl, hc, hg⟩)⟩
theorem AlSt.o11 {S : Nat → Bool} {w A : World} {Sx : Nat → Bool} {st : Loop} {vn vf : Value} {L : List Fl} {N : Nd} {hb : Hd} {ly nbx vb vo : Nat} {vs : Value} {c0 c1 c2 c3 c6 c7 c8 c9 c12 c13 : Bool} {t24 t25 t26 t27 t28 t29 t30 t31 t32 t33 t34 t35 : Value} {W W' : World} (h : AlSt S w A Sx st vn vf L N hb ly nbx vb vo vs c0 c1 c2 c3 true true c6 c7 c8 c9 true false c12 c13 t24 t25 t26 t27 t28 t29 t30 t31 t32 t33 t34 t35 W) {h' : Hd} {vf' : Value} (hX : XA S w A Sx st t28 vf (L ++ [(⟨N, h', ly⟩ : Fl)]) L vn vf W) (hown : W'.ownsRow (w.heap.size + 1 + 1) 3 1 vf' (L ++ [(⟨N, h', ly⟩ : Fl)]).length (flI (L ++ [(⟨N, h', ly⟩ : Fl)]))) (hg : W.grownBy W' vf.ownBlock) (ho : vf'.ownBlock = vf.ownBlock ∨ vf'.ownBlock = some W.heap.size) : AlSt S w A Sx st vn vf L N hb ly nbx vb vo vs c0 c1 c2 c3 true true c6 c7 c8 c9 true true c12 c13 t24 t25 t26 t27 t28 t29 t30 t31 t32 t33 t34 (vf') W' := by
  exact ⟨h.f0, h.f1, h.f5, h.f6, h.f7, h.f8, h.f9, h.q2, h.q3, h.q4, h.q10, (fun _ => ⟨rfl, rfl, rfl⟩), (fun _ => rfl), h.q13, (fun e => by cases e.symm.trans (h.q3 (h.q4 rfl).2)), (fun _ e => by cases e.symm.trans (h.q4 rfl).2), (fun _ e => by cases e), (fun _ e => by cases e), (fun _ _ => ⟨h', hX.appF (f := ⟨N, h', ly⟩) hown hg ho⟩), (fun e => by cases h.q12 e), (fun e => by cases h.q12 (h.q13 e)), (fun _ e => by cases e)⟩
theorem AlSt.o12 {S : Nat → Bool} {w A : World} {Sx : Nat → Bool} {st : Loop} {vn vf : Value} {L : List Fl} {N : Nd} {hb : Hd} {ly nbx vb vo : Nat} {vs : Value} {c0 c1 c2 c3 c5 c6 c7 c8 c9 c10 c13 : Bool} {t24 t25 t26 t27 t28 t29 t30 t31 t32 t33 t34 t35 : Value} {W : World} (h : AlSt S w A Sx st vn vf L N hb ly nbx vb vo vs c0 c1 c2 c3 true c5 c6 c7 c8 c9 c10 true false c13 t24 t25 t26 t27 t28 t29 t30 t31 t32 t33 t34 t35 W)  : AlSt S w A Sx st vn vf L N hb ly nbx vb vo vs c0 c1 c2 c3 true c5 c6 c7 c8 c9 c10 true true c13 t24 t25 t26 t27 t28 t29 t30 t31 t32 t33 t34 t35 (W.setCell ⟨w.heap.size, 0, none⟩ t28) := by
  exact ⟨h.f0, h.f1, h.f5, h.f6, h.f7, h.f8, h.f9, h.q2, h.q3, h.q4, h.q10, h.q11, (fun _ => rfl), (fun _ => rfl), (fun e => by cases e.symm.trans (h.q3 (h.q4 rfl).2)), (fun _ e => by cases e.symm.trans (h.q4 rfl).2), (fun _ e => by cases e), (fun _ e => by cases e), (fun _ e => by cases e), (fun _ _ => let ⟨h', a⟩ := h.p4 rfl rfl; ⟨h', a.set6 _⟩), (fun e => by cases h.q13 e), (fun _ e => by cases e)⟩
theorem AlSt.o13 {S : Nat → Bool} {w A : World} {Sx : Nat → Bool} {st : Loop} {vn vf : Value} {L : List Fl} {N : Nd} {hb : Hd} {ly nbx vb vo : Nat} {vs : Value} {c0 c1 c2 c3 c4 c5 c6 c7 c8 c9 c10 : Bool} {t24 t25 t26 t27 t28 t29 t30 t31 t32 t33 t34 t35 : Value} {W : World} (h : AlSt S w A Sx st vn vf L N hb ly nbx vb vo vs c0 c1 c2 c3 c4 c5 c6 c7 c8 c9 c10 true true false t24 t25 t26 t27 t28 t29 t30 t31 t32 t33 t34 t35 W)  : AlSt S w A Sx st vn vf L N hb ly nbx vb vo vs c0 c1 c2 c3 c4 c5 c6 c7 c8 c9 c10 true true true t24 t25 t26 t27 t28 t29 t30 t31 t32 t33 t34 t35 (W.setCell ⟨w.heap.size + 1, 0, none⟩ t35) := by
  exact ⟨h.f0, h.f1, h.f5, h.f6, h.f7, h.f8, h.f9, h.q2, h.q3, h.q4, h.q10, h.q11, h.q12, (fun _ => rfl), (fun e => by cases e.symm.trans (h.q3 (h.q4 (h.q11 rfl).1).2)), (fun _ e => by cases e.symm.trans (h.q4 (h.q11 rfl).1).2), (fun _ e => by cases e.symm.trans (h.q11 rfl).1), (fun _ e => by cases e), (fun _ e => by cases e), (fun _ e => by cases e), (fun _ => let ⟨h', a⟩ := h.p5 rfl rfl; ⟨h', a.set7 _⟩), (fun _ e => by cases e)⟩
end Go.Proofs.YtlbabnffiibnpaaGreat
namespace Go.Proofs.YtlbabnffiibnpaaGreat
open Go.RowKit Go.Shelf
theorem opIn_of {l n : Nat} {P : Program} {ops : Array Oper} {Q : Exit → Act → World → Prop} {i : Nat} {o : Oper} {K : Act → World → Prop} {a : Act} {w : World} (ho : ops[i]? = some o) (hgd : o.guard = none) (hnd : ∀ c, o.op ≠ .defer c) (hrow : ∀ r args w', (execOp a.eval o).run P w ≠ .ok (.row r args) w')
    (h : o.wp P a w K Q) : wpOpIn (Fence.wide.inRound l) n P ops Q i K a w := by
  unfold wpOpIn
  rw [ho]
  have hw : Region.wanted o (yielded ops a.tmps) = true := by simp [Region.wanted, hgd]
  simp only [hw, if_true]
  refine ⟨fun f _ => trivial, ?_⟩
  unfold Oper.wp at h
  rw [Fence.inRound_round, Oper.semAt_some _ _ _ hnd]
  generalize (execOp a.eval o).run P w = r at *
  cases r with
  | ok x w' =>
    cases x <;> simp only [Oper.upon, Oper.uponIn] at h ⊢
    case value => exact h
    case skip => exact h
    case defer => exact h
    case enter f args => exact ⟨fun e => by simp [Fence.inRound, Fence.wide] at e, CallsIn.inRound l (callsIn_wide.2 h)⟩
    case row => exact absurd rfl (hrow _ _ _)
  | halt x w' => cases x <;> simp only [Oper.upon, Oper.uponIn] at h ⊢ <;> exact h
theorem opIn_append_src {l n' : Nat} {P : Program} (w : World) {ops : Array Oper} {Q : Exit → Act → World → Prop} {j : Nat} {o : Oper} {K : Act → World → Prop} {a : Act} (hoj : ops[j]? = some o) (hgd : o.guard = none) (s x : Operand) (t : TypeId)
    (ho : o.op = .call { callee := .builtin .append, args := #[s, x], argTypes := #[t, t] })
    (base : Nat) (e : TypeId) (i : TypeInfo) (z : Value) (size bytes : Nat) (ht : P.underlying t = some (.slice e)) (hi : P.info? e = some i) (hz : i.zero = some z)
    (hsize : i.size = size) (hby : i.bytes = bytes) (hzs : z.cells.size = size) (hsz : 0 < size)
    (v : Value) (n : Nat) (xs : List Value) (hs : a.eval s = v) (hown : w.ownsRow base e size v n xs)
    (ao : Option Addr) (m c : Nat) (news : List Value) (hx : a.eval x = .slice ao m c) (hl : news.length = m * size) (hsrc : (ao = none ∧ m = 0) ∨ ∃ ad, ao = some ad ∧ ∀ j u, news[j]? = some u → w.cell? (ad.add j) = some u) (h1 : ∀ u ∈ news, u.oneCell' = true)
    (h63 : n + m ≤ maxLen) (hbytes : (n + m) * bytes ≤ 140737488355328) (hbase : base ≤ w.heap.size)
    (h : ∀ v' w', w'.ownsRow base e size v' (n + m) (xs ++ news) → w.grownBy w' v.ownBlock → (v'.ownBlock = v.ownBlock ∨ v'.ownBlock = some w.heap.size) → K (a.put o.dst v') w') : wpOpIn (Fence.wide.inRound l) n' P ops Q j K a w := by
  obtain ⟨v', w', hr, h2, h3, h4⟩ := run_append_src (P := P) w base t o.type e i z size bytes ht hi hz hsize hby hzs hsz v n xs hown ao m c news hl hsrc h1 h63 hbytes hbase
  refine opIn_of hoj hgd (fun c => by rw [ho]; simp) ?_ (wp_append_src w s x t ho base e i z size bytes ht hi hz hsize hby hzs hsz v n xs hs hown ao m c news hx hl hsrc h1 h63 hbytes hbase h)
  intro r args w'
  unfold execOp
  simp only [ho, resolve, invoke, builtin, Sem.run_bind, Sem.run_pure, Result.andThen_ok, List.map_toArray, List.map_cons, List.map_nil, hs, hx, hr]
  simp
theorem nd_newA (w : World) (x : Nd) (h : Hd) (t : TypeId) : ∀ j u, (ndL x h)[j]? = some u → (w.alloc (.cells (ndL x h).toArray t)).cell? ⟨w.heap.size, j, none⟩ = some u := by
  intro j u hj
  refine (World.cell?_alloc_at _ _ _ _ rfl).trans ?_
  simpa using hj
theorem ndV_agg (k m u g : Int) (o : Bool) (at_ : List Kv) (d : ByteArray) (ks : Kds) (h : Hd) : ndV (.mk k m u g o at_ d ks) h = .agg #[.int .i64 k, .int .i64 m, .int .i64 u, .int .i64 g, .bool o, .slice h.aa at_.length h.ca, .string d, .slice h.ak ks.length h.ck] := rfl
theorem AlSt.early {S : Nat → Bool} {w A : World} {Sx : Nat → Bool} {st : Loop} {vn vf : Value} {L : List Fl} {N : Nd} {hb : Hd} {ly nbx vb vo : Nat} {vs : Value} {c0 c1 c2 c3 c4 c5 c6 c7 c8 c9 c10 c11 c12 c13 : Bool} {t24 t25 t26 t27 t28 t29 t30 t31 t32 t33 t34 t35 : Value} {W : World} (h : AlSt S w A Sx st vn vf L N hb ly nbx vb vo vs c0 c1 c2 c3 c4 c5 c6 c7 c8 c9 c10 c11 c12 c13 t24 t25 t26 t27 t28 t29 t30 t31 t32 t33 t34 t35 W) (e : c4 = false) : XA S w A Sx st vn vf L L vn vf W := by
  cases h2 : c2 with
  | false => exact (h.p0 h2).1
  | true =>
    cases h3 : c3 with
    | false => obtain ⟨_, _, b, _⟩ := h.p1 h2 h3; exact b
    | true => obtain ⟨_, _, _, b, _⟩ := h.p2 h3 e; exact b
theorem AlSt.mid {S : Nat → Bool} {w A : World} {Sx : Nat → Bool} {st : Loop} {vn vf : Value} {L : List Fl} {N : Nd} {hb : Hd} {ly nbx vb vo : Nat} {vs : Value} {c0 c1 c2 c3 c4 c5 c6 c7 c8 c9 c10 c11 c12 c13 : Bool} {t24 t25 t26 t27 t28 t29 t30 t31 t32 t33 t34 t35 : Value} {W : World} (h : AlSt S w A Sx st vn vf L N hb ly nbx vb vo vs c0 c1 c2 c3 c4 c5 c6 c7 c8 c9 c10 c11 c12 c13 t24 t25 t26 t27 t28 t29 t30 t31 t32 t33 t34 t35 W) (e : c11 = false) : ∃ cn LN, XA S w A Sx st cn vf LN L vn vf W := by
  cases h4 : c4 with
  | false => exact ⟨_, _, h.early h4⟩
  | true => obtain ⟨_, b⟩ := h.p3 h4 e; exact ⟨_, _, b⟩
theorem XA.hid {S : Nat → Bool} {w A : World} {Sx : Nat → Bool} {st : Loop} {cn cf : Value} {LN LF : List Fl} {b6 b7 : Value} {W : World} (hS0 : ∀ k, S k = true → k < w.heap.size) (h : XA S w A Sx st cn cf LN LF b6 b7 W) : ∀ k, alS w.heap.size cn cf S k = true → k < W.heap.size := fun k hk => by
  simp [alS] at hk
  have hl := (Array.getElem?_eq_some_iff.1 h.lk).1
  rcases hk with (((e | e) | e) | e | e) | e
  · rw [e]; exact h.bn.lt
  · rw [e]; exact h.bf.lt
  · omega
  · exact (h.r.rn.lt k e).2
  · exact (h.r.rf.lt k e).2
  · exact Nat.lt_of_lt_of_le (hS0 k e) h.low.size
theorem Tryz.infoNd : (Tryz.prog.info? 34).map (fun i => (i.zero, i.size, i.bytes)) = some (some (.agg #[.int .i64 0, .int .i64 0, .int .i64 0, .int .i64 0, .bool false, .slice none 0 0, .string ⟨#[]⟩, .slice none 0 0]), 8, 104) := by kernel_rfl
theorem Tryz.infoInt : (Tryz.prog.info? 3).map (fun i => (i.zero, i.size, i.bytes)) = some (some (.int .i64 0), 1, 8) := by kernel_rfl
/-- What is kept. -/
def Al8I (S : Nat → Bool) (w A : World) (Sx : Nat → Bool) (st : Loop) (vn vf : Value) (L : List Fl) (N : Nd) (hb : Hd) (ly nbx vb vo : Nat) (vs : Value) (s0 s1 s2 s3 s4 s5 s10 s11 s12 s13 s14 s15 s16 s17 s18 s19 s20 s21 s22 s23 s36 s37 : Value) (listed : Array Bool) (a : Act) (W : World) : Prop := ∃ (c0 c1 c2 c3 c4 c5 c6 c7 c8 c9 c10 c11 c12 c13 : Bool) (t24 t25 t26 t27 t28 t29 t30 t31 t32 t33 t34 t35 : Value), listed = #[c0, c1, c2, c3, c4, c5, c6, c7, c8, c9, c10, c11, c12, c13] ∧ a = (⟨(s0 :: s1 :: s2 :: s3 :: s4 :: s5 :: .pointer (some ⟨w.heap.size, 0, none⟩) :: .pointer (some ⟨w.heap.size + 1, 0, none⟩) :: vs :: .pointer (some ⟨nbx, 0, none⟩) :: s10 :: s11 :: s12 :: s13 :: s14 :: s15 :: s16 :: s17 :: s18 :: s19 :: s20 :: s21 :: s22 :: s23 :: t24 :: t25 :: t26 :: t27 :: t28 :: t29 :: t30 :: t31 :: t32 :: t33 :: t34 :: t35 :: s36 :: s37 :: []).toArray, []⟩ : Act) ∧ AlSt S w A Sx st vn vf L N hb ly nbx vb vo vs c0 c1 c2 c3 c4 c5 c6 c7 c8 c9 c10 c11 c12 c13 t24 t25 t26 t27 t28 t29 t30 t31 t32 t33 t34 t35 W
set_option maxRecDepth 100000 in
set_option maxHeartbeats 4000000 in
theorem al8 {S : Nat → Bool} {w A : World} {Sx : Nat → Bool} {st : Loop} {vn vf vs : Value} {L : List Fl} {N : Nd} {hb : Hd} {ly nbx vb vo dl vc : Nat} (hS0 : ∀ k, S k = true → k < w.heap.size) (hlim : Lim N) (hcnt : cnt N ≤ 1000) (hA : ∀ g, vn.ownBlock = some g → g < A.heap.size) (hL : L.length ≤ 1000) (hsp : offS A.cell? Sx ⟨vb, vo + 1, none⟩ = some (.int .i64 ly)) (hvs : vs = .slice (some ⟨vb, vo, none⟩) (dl + 1) vc)
    {Q : Exit → Act → World → Prop} {l : Nat} {s0 s1 s2 s3 s4 s5 s10 s11 s12 s13 s14 s15 s16 s17 s18 s19 s20 s21 s22 s23 s36 s37 : Value} {t24 t25 t26 t27 t28 t29 t30 t31 t32 t33 t34 t35 : Value} {W0 : World} (h0 : AlSt S w A Sx st vn vf L N hb ly nbx vb vo vs false false false false false false false false false false false false false false t24 t25 t26 t27 t28 t29 t30 t31 t32 t33 t34 t35 W0.drew)
    (hQ : ∀ a W' t28 t35 h', XA S w A Sx st t28 t35 (L ++ [(⟨N, h', ly⟩ : Fl)]) (L ++ [(⟨N, h', ly⟩ : Fl)]) t28 t35 W' → Q .normal a W') :
    (Code.region 8 #[{ dst := some 24, op := Op.load 22 (Operand.tmp 6), type := 22, pos := "merge.go:30", after := #[], guard := none }, { dst := some 25, op := Op.load 34 (Operand.tmp 9), type := 34, pos := "merge.go:30", after := #[], guard := none }, { dst := some 26, op := Op.call { callee := Callee.value (Operand.func 14), args := #[Operand.tmp 25], argTypes := #[34] }, type := 34, pos := "merge.go:30", after := #[{ on := 1, ground := Ground.data }], guard := none }, { dst := some 27, op := Op.buildSlice 22 1 #[(0, Operand.tmp 26)], type := 22, pos := "merge.go:30", after := #[{ on := 2, ground := Ground.data }], guard := none }, { dst := some 28, op := Op.call { callee := Callee.builtin Builtin.append, args := #[Operand.tmp 24, Operand.tmp 27], argTypes := #[22, 22] }, type := 22, pos := "merge.go:30", after := #[{ on := 0, ground := Ground.data }, { on := 3, ground := Ground.data }, { on := 2, ground := Ground.chain }], guard := none }, { dst := some 29, op := Op.load 48 (Operand.tmp 7), type := 48, pos := "merge.go:30", after := #[], guard := none }, { dst := some 30, op := Op.move (Operand.tmp 8), type := 55, pos := "merge.go:30", after := #[], guard := none }, { dst := some 31, op := Op.indexAddr 55 (Operand.tmp 30) (Operand.const (Value.int IntKind.i64 0)), type := 0, pos := "merge.go:30", after := #[{ on := 6, ground := Ground.data }], guard := none }, { dst := some 32, op := Op.fieldAddr 59 (Operand.tmp 31) 1, type := 0, pos := "merge.go:30", after := #[{ on := 7, ground := Ground.data }], guard := none }, { dst := some 33, op := Op.load 3 (Operand.tmp 32), type := 3, pos := "merge.go:30", after := #[{ on := 8, ground := Ground.data }], guard := none }, { dst := some 34, op := Op.buildSlice 48 1 #[(0, Operand.tmp 33)], type := 48, pos := "merge.go:30", after := #[{ on := 9, ground := Ground.data }], guard := none }, { dst := some 35, op := Op.call { callee := Callee.builtin Builtin.append, args := #[Operand.tmp 29, Operand.tmp 34], argTypes := #[48, 48] }, type := 48, pos := "merge.go:30", after := #[{ on := 5, ground := Ground.data }, { on := 10, ground := Ground.data }, { on := 4, ground := Ground.chain }], guard := none }, { dst := none, op := Op.store 22 (Operand.tmp 6) (Operand.tmp 28), type := 0, pos := "merge.go:30", after := #[{ on := 4, ground := Ground.data }, { on := 11, ground := Ground.chain }, { on := 0, ground := Ground.phase }, { on := 1, ground := Ground.phase }, { on := 2, ground := Ground.phase }, { on := 3, ground := Ground.phase }, { on := 4, ground := Ground.phase }, { on := 5, ground := Ground.textOnly Departure.inlinedCapture }, { on := 6, ground := Ground.textOnly Departure.lateStores }, { on := 7, ground := Ground.textOnly Departure.inlinedCapture }, { on := 8, ground := Ground.textOnly Departure.inlinedCapture }, { on := 9, ground := Ground.textOnly Departure.inlinedCapture }, { on := 10, ground := Ground.textOnly Departure.inlinedCapture }, { on := 11, ground := Ground.textOnly Departure.lateStoresUnsure }], guard := none }, { dst := none, op := Op.store 48 (Operand.tmp 7) (Operand.tmp 35), type := 0, pos := "merge.go:30", after := #[{ on := 11, ground := Ground.data }, { on := 12, ground := Ground.chain }, { on := 0, ground := Ground.phase }, { on := 1, ground := Ground.phase }, { on := 2, ground := Ground.phase }, { on := 3, ground := Ground.phase }, { on := 4, ground := Ground.phase }, { on := 5, ground := Ground.phase }, { on := 6, ground := Ground.phase }, { on := 7, ground := Ground.phase }, { on := 8, ground := Ground.phase }, { on := 9, ground := Ground.phase }, { on := 10, ground := Ground.phase }, { on := 11, ground := Ground.phase }, { on := 12, ground := Ground.phase }], guard := none }] true).wpIn (Fence.wide.inRound l) 0 Tryz.prog Q ⟨(s0 :: s1 :: s2 :: s3 :: s4 :: s5 :: .pointer (some ⟨w.heap.size, 0, none⟩) :: .pointer (some ⟨w.heap.size + 1, 0, none⟩) :: vs :: .pointer (some ⟨nbx, 0, none⟩) :: s10 :: s11 :: s12 :: s13 :: s14 :: s15 :: s16 :: s17 :: s18 :: s19 :: s20 :: s21 :: s22 :: s23 :: t24 :: t25 :: t26 :: t27 :: t28 :: t29 :: t30 :: t31 :: t32 :: t33 :: t34 :: t35 :: s36 :: s37 :: []).toArray, []⟩ W0 := by
  subst hvs
  obtain ⟨k, m, u, g, o, at_, d, ks⟩ := N
  obtain ⟨i0, hi0, hi1, hi2, hi3⟩ := info_three Tryz.infoNd
  have HI0 : Hid _ := hi0
  have HI1 : Hid _ := hi1
  have HI2 : Hid _ := hi2
  have HI3 : Hid _ := hi3
  obtain ⟨j0, hj0, hj1, hj2, hj3⟩ := info_three Tryz.infoInt
  have HJ0 : Hid _ := hj0
  have HJ1 : Hid _ := hj1
  have HJ2 : Hid _ := hj2
  have HJ3 : Hid _ := hj3
  clear hi0 hi1 hi2 hi3 hj0 hj1 hj2 hj3
  refine wpIn_region_any (by first | assumption | rfl | kernel_rfl) ?_
  refine anyIn_kept (Al8I S w A Sx st vn vf L (.mk k m u g o at_ d ks) hb ly nbx vb vo (.slice (some ⟨vb, vo, none⟩) (dl + 1) vc) s0 s1 s2 s3 s4 s5 s10 s11 s12 s13 s14 s15 s16 s17 s18 s19 s20 s21 s22 s23 s36 s37) ?step ?fin _ _ _ _ ?le ?init
  case le => decide
  case init => exact ⟨_, _, _, _, _, _, _, _, _, _, _, _, _, _, _, _, _, _, _, _, _, _, _, _, _, _, rfl, rfl, h0⟩
  case fin =>
    rintro listed a W ⟨c0, c1, c2, c3, c4, c5, c6, c7, c8, c9, c10, c11, c12, c13, t24, t25, t26, t27, t28, t29, t30, t31, t32, t33, t34, t35, rfl, rfl, h⟩ hr
    have kk : ∀ j, (#[c0, c1, c2, c3, c4, c5, c6, c7, c8, c9, c10, c11, c12, c13] : Array Bool).getD j true = false → ∀ o, (#[{ dst := some 24, op := Op.load 22 (Operand.tmp 6), type := 22, pos := "merge.go:30", after := #[], guard := none }, { dst := some 25, op := Op.load 34 (Operand.tmp 9), type := 34, pos := "merge.go:30", after := #[], guard := none }, { dst := some 26, op := Op.call { callee := Callee.value (Operand.func 14), args := #[Operand.tmp 25], argTypes := #[34] }, type := 34, pos := "merge.go:30", after := #[{ on := 1, ground := Ground.data }], guard := none }, { dst := some 27, op := Op.buildSlice 22 1 #[(0, Operand.tmp 26)], type := 22, pos := "merge.go:30", after := #[{ on := 2, ground := Ground.data }], guard := none }, { dst := some 28, op := Op.call { callee := Callee.builtin Builtin.append, args := #[Operand.tmp 24, Operand.tmp 27], argTypes := #[22, 22] }, type := 22, pos := "merge.go:30", after := #[{ on := 0, ground := Ground.data }, { on := 3, ground := Ground.data }, { on := 2, ground := Ground.chain }], guard := none }, { dst := some 29, op := Op.load 48 (Operand.tmp 7), type := 48, pos := "merge.go:30", after := #[], guard := none }, { dst := some 30, op := Op.move (Operand.tmp 8), type := 55, pos := "merge.go:30", after := #[], guard := none }, { dst := some 31, op := Op.indexAddr 55 (Operand.tmp 30) (Operand.const (Value.int IntKind.i64 0)), type := 0, pos := "merge.go:30", after := #[{ on := 6, ground := Ground.data }], guard := none }, { dst := some 32, op := Op.fieldAddr 59 (Operand.tmp 31) 1, type := 0, pos := "merge.go:30", after := #[{ on := 7, ground := Ground.data }], guard := none }, { dst := some 33, op := Op.load 3 (Operand.tmp 32), type := 3, pos := "merge.go:30", after := #[{ on := 8, ground := Ground.data }], guard := none }, { dst := some 34, op := Op.buildSlice 48 1 #[(0, Operand.tmp 33)], type := 48, pos := "merge.go:30", after := #[{ on := 9, ground := Ground.data }], guard := none }, { dst := some 35, op := Op.call { callee := Callee.builtin Builtin.append, args := #[Operand.tmp 29, Operand.tmp 34], argTypes := #[48, 48] }, type := 48, pos := "merge.go:30", after := #[{ on := 5, ground := Ground.data }, { on := 10, ground := Ground.data }, { on := 4, ground := Ground.chain }], guard := none }, { dst := none, op := Op.store 22 (Operand.tmp 6) (Operand.tmp 28), type := 0, pos := "merge.go:30", after := #[{ on := 4, ground := Ground.data }, { on := 11, ground := Ground.chain }, { on := 0, ground := Ground.phase }, { on := 1, ground := Ground.phase }, { on := 2, ground := Ground.phase }, { on := 3, ground := Ground.phase }, { on := 4, ground := Ground.phase }, { on := 5, ground := Ground.textOnly Departure.inlinedCapture }, { on := 6, ground := Ground.textOnly Departure.lateStores }, { on := 7, ground := Ground.textOnly Departure.inlinedCapture }, { on := 8, ground := Ground.textOnly Departure.inlinedCapture }, { on := 9, ground := Ground.textOnly Departure.inlinedCapture }, { on := 10, ground := Ground.textOnly Departure.inlinedCapture }, { on := 11, ground := Ground.textOnly Departure.lateStoresUnsure }], guard := none }, { dst := none, op := Op.store 48 (Operand.tmp 7) (Operand.tmp 35), type := 0, pos := "merge.go:30", after := #[{ on := 11, ground := Ground.data }, { on := 12, ground := Ground.chain }, { on := 0, ground := Ground.phase }, { on := 1, ground := Ground.phase }, { on := 2, ground := Ground.phase }, { on := 3, ground := Ground.phase }, { on := 4, ground := Ground.phase }, { on := 5, ground := Ground.phase }, { on := 6, ground := Ground.phase }, { on := 7, ground := Ground.phase }, { on := 8, ground := Ground.phase }, { on := 9, ground := Ground.phase }, { on := 10, ground := Ground.phase }, { on := 11, ground := Ground.phase }, { on := 12, ground := Ground.phase }], guard := none }] : Array Oper)[j]? = some o → (∀ e ∈ o.after, Region.binds .any e = true → (#[c0, c1, c2, c3, c4, c5, c6, c7, c8, c9, c10, c11, c12, c13] : Array Bool).getD e.on false = true) → False := fun j h1 o h2 h3 => by
      have := (mem_ready (md := .any)).2 ⟨h1, o, h2, h3⟩
      rw [hr] at this
      cases this
    have e0 : c0 = true := by
      cases e : c0 with
      | true => rfl
      | false => exact (kk 0 (by simp [e]) _ rfl (by simp [Region.binds])).elim
    have e1 : c1 = true := by
      cases e : c1 with
      | true => rfl
      | false => exact (kk 1 (by simp [e]) _ rfl (by simp [Region.binds, e0])).elim
    have e5 : c5 = true := by
      cases e : c5 with
      | true => rfl
      | false => exact (kk 5 (by simp [e]) _ rfl (by simp [Region.binds, e0, e1])).elim
    have e6 : c6 = true := by
      cases e : c6 with
      | true => rfl
      | false => exact (kk 6 (by simp [e]) _ rfl (by simp [Region.binds, e0, e1, e5])).elim
    have e2 : c2 = true := by
      cases e : c2 with
      | true => rfl
      | false => exact (kk 2 (by simp [e]) _ rfl (by simp [Region.binds, e0, e1, e5, e6])).elim
    have e3 : c3 = true := by
      cases e : c3 with
      | true => rfl
      | false => exact (kk 3 (by simp [e]) _ rfl (by simp [Region.binds, e0, e1, e5, e6, e2])).elim
    have e4 : c4 = true := by
      cases e : c4 with
      | true => rfl
      | false => exact (kk 4 (by simp [e]) _ rfl (by simp [Region.binds, e0, e1, e5, e6, e2, e3])).elim
    have e7 : c7 = true := by
      cases e : c7 with
      | true => rfl
      | false => exact (kk 7 (by simp [e]) _ rfl (by simp [Region.binds, e0, e1, e5, e6, e2, e3, e4])).elim
    have e8 : c8 = true := by
      cases e : c8 with
      | true => rfl
      | false => exact (kk 8 (by simp [e]) _ rfl (by simp [Region.binds, e0, e1, e5, e6, e2, e3, e4, e7])).elim
    have e9 : c9 = true := by
      cases e : c9 with
      | true => rfl
      | false => exact (kk 9 (by simp [e]) _ rfl (by simp [Region.binds, e0, e1, e5, e6, e2, e3, e4, e7, e8])).elim
    have e10 : c10 = true := by
      cases e : c10 with
      | true => rfl
      | false => exact (kk 10 (by simp [e]) _ rfl (by simp [Region.binds, e0, e1, e5, e6, e2, e3, e4, e7, e8, e9])).elim
    have e11 : c11 = true := by
      cases e : c11 with
      | true => rfl
      | false => exact (kk 11 (by simp [e]) _ rfl (by simp [Region.binds, e0, e1, e5, e6, e2, e3, e4, e7, e8, e9, e10])).elim
    have e12 : c12 = true := by
      cases e : c12 with
      | true => rfl
      | false => exact (kk 12 (by simp [e]) _ rfl (by simp [Region.binds, e0, e1, e5, e6, e2, e3, e4, e7, e8, e9, e10, e11])).elim
    have e13 : c13 = true := by
      cases e : c13 with
      | true => rfl
      | false => exact (kk 13 (by simp [e]) _ rfl (by simp [Region.binds, e0, e1, e5, e6, e2, e3, e4, e7, e8, e9, e10, e11, e12])).elim
    obtain ⟨h', hX⟩ := h.p6 e13
    exact hQ _ _ _ _ _ hX
  case step =>
    rintro listed a W i ⟨c0, c1, c2, c3, c4, c5, c6, c7, c8, c9, c10, c11, c12, c13, t24, t25, t26, t27, t28, t29, t30, t31, t32, t33, t34, t35, rfl, rfl, h⟩ hi
    obtain ⟨hu, o, ho, hd⟩ := mem_ready.1 hi
    have hlt : i < 14 := (Array.getElem?_eq_some_iff.1 ho).1
    clear hi
    obtain rfl | rfl | rfl | rfl | rfl | rfl | rfl | rfl | rfl | rfl | rfl | rfl | rfl | rfl : i = 0 ∨ i = 1 ∨ i = 2 ∨ i = 3 ∨ i = 4 ∨ i = 5 ∨ i = 6 ∨ i = 7 ∨ i = 8 ∨ i = 9 ∨ i = 10 ∨ i = 11 ∨ i = 12 ∨ i = 13 := by omega
    · have ho2 := ho
      simp at ho; subst ho
      simp [Region.binds] at hd hu
      subst hu
      have hc := (h.early (by cases e : c4 with | false => rfl | true => cases (h.q4 e).1)).bn.cell
      refine opIn_of ho2 rfl (by intro c; simp) ?_ ?_
      · intro r args w'; go_simp
      · go_simp; exact ⟨_, _, _, _, _, _, _, _, _, _, _, _, _, _, _, _, _, _, _, _, _, _, _, _, _, _, rfl, rfl, h.o0⟩
    · have ho2 := ho
      simp at ho; subst ho
      simp [Region.binds] at hd hu
      subst hu
      have hc := (h.p0 (by cases e : c2 with | false => rfl | true => cases h.q2 e)).2.1.1
      obtain ⟨f0, f1, f2, f3, f4, f5, f6, f7⟩ := hc
      refine opIn_of ho2 rfl (by intro c; simp) ?_ ?_
      · intro r args w'; go_simp
      · go_simp; exact ⟨_, _, _, _, _, _, _, _, _, _, _, _, _, _, _, _, _, _, _, _, _, _, _, _, _, _, rfl, rfl, h.o1⟩
    · have ho2 := ho
      simp at ho; subst ho
      simp [Region.binds] at hd hu
      subst hu
      subst hd
      obtain rfl := h.f1 rfl
      have hX := h.p0 rfl
      have HO : Hid (Calls Tryz.prog 14 #[.agg #[.int .i64 k, .int .i64 m, .int .i64 u, .int .i64 g, .bool o, .slice hb.aa at_.length hb.ca, .string d, .slice hb.ak ks.length hb.ck]] W fun e W' => (∃ h', e = .returned (.agg #[.int .i64 k, .int .i64 m, .int .i64 u, .int .i64 g, .bool o, .slice h'.aa at_.length h'.ca, .string d, .slice h'.ak ks.length h'.ck]) ∧ NdV (offS W'.cell? (alS w.heap.size vn vf S)) (.mk k m u g o at_ d ks) h') ∧ Below W.heap.size W W') := own_any (x := (.mk k m u g o at_ d ks)) (h := hb) (hX.1.hid hS0) hX.2.2 hlim hcnt
      clear hX
      refine opIn_of ho2 rfl (by intro c; simp) ?_ ?_
      · intro r args w'; rw [ndV_agg]; go_simp
      · rw [ndV_agg]; go_simp
        with_reducible refine Calls.mono HO.out ?_
        rintro e w' ⟨⟨h', rfl, hn⟩, hB⟩
        exact ⟨_, _, _, _, _, _, _, _, _, _, _, _, _, _, _, _, _, _, _, _, _, _, _, _, _, _, rfl, rfl, h.o2 hB hn⟩
    · have ho2 := ho
      simp at ho; subst ho
      simp [Region.binds] at hd hu
      subst hu
      subst hd
      obtain ⟨h', rfl, hX, hn⟩ := h.p1 rfl rfl
      refine opIn_of ho2 rfl (by intro c; simp) ?_ ?_
      · intro r args w'; rw [ndV_agg]; go_simp
      · rw [ndV_agg]; go_simp; exact ⟨_, _, _, _, _, _, _, _, _, _, _, _, _, _, _, _, _, _, _, _, _, _, _, _, _, _, rfl, rfl, h.o3 rfl hn ((Below.refl _ W).alloc (Nat.le_refl _) _) (nd_newA W _ h' _)⟩
    · have ho2 := ho
      simp at ho; subst ho
      simp [Region.binds] at hd hu
      subst hu
      obtain ⟨rfl, rfl, rfl⟩ := hd
      obtain rfl := h.f0 rfl
      obtain ⟨h', gg, rfl, hX, hn, hc⟩ := h.p2 rfl rfl
      refine opIn_append_src W ho2 rfl (.tmp 24) (.tmp 27) 22 rfl (w.heap.size + 1 + 1) 34 i0 _ 8 104 Tryz.underlying22 HI0.out HI1.out HI2.out HI3.out rfl (by decide) t24 L.length (flN L) rfl hX.r.rn (some ⟨gg, 0, none⟩) 1 1 (ndL (.mk k m u g o at_ d ks) h') rfl (by rw [ndL_length]) (.inr ⟨_, rfl, fun j u hj => by rw [addr_add, Nat.zero_add]; exact hc j u hj⟩) (ndL_one _ _) (by unfold maxLen; omega) (by omega) (by have := hX.low.size; have := hX.az; have := hX.bf.lt; omega) ?_
      intro v' w' ho1 hg1 hh1
      have hown : w'.ownsRow (w.heap.size + 1 + 1) 34 8 v' (L ++ [(⟨(.mk k m u g o at_ d ks), h', ly⟩ : Fl)]).length (flN (L ++ [(⟨(.mk k m u g o at_ d ks), h', ly⟩ : Fl)])) := by rw [flN_app, List.length_append]; simpa [flN] using ho1
      exact ⟨_, _, _, _, _, _, _, _, _, _, _, _, _, _, _, _, _, _, _, _, _, _, _, _, _, _, rfl, rfl, h.o4 hA hX hn hown hg1 hh1⟩
    · have ho2 := ho
      simp at ho; subst ho
      simp [Region.binds] at hd hu
      subst hu
      obtain ⟨_, _, hX⟩ := h.mid (by cases e : c11 with | false => rfl | true => cases (h.q11 e).2.1)
      have hc := hX.bf.cell
      clear hX
      refine opIn_of ho2 rfl (by intro c; simp) ?_ ?_
      · intro r args w'; go_simp
      · go_simp; exact ⟨_, _, _, _, _, _, _, _, _, _, _, _, _, _, _, _, _, _, _, _, _, _, _, _, _, _, rfl, rfl, h.o5⟩
    · have ho2 := ho
      simp at ho; subst ho
      simp [Region.binds] at hd hu
      subst hu
      refine opIn_of ho2 rfl (by intro c; simp) ?_ ?_
      · intro r args w'; go_simp
      · go_simp; exact ⟨_, _, _, _, _, _, _, _, _, _, _, _, _, _, _, _, _, _, _, _, _, _, _, _, _, _, rfl, rfl, h.o6⟩
    · have ho2 := ho
      simp at ho; subst ho
      simp [Region.binds] at hd hu
      subst hu
      subst hd
      obtain rfl := h.f6 rfl
      refine opIn_of ho2 rfl (by intro c; simp) ?_ ?_
      · intro r args w'; go_simp
      · go_simp; exact ⟨_, _, _, _, _, _, _, _, _, _, _, _, _, _, _, _, _, _, _, _, _, _, _, _, _, _, rfl, rfl, h.o7⟩
    · have ho2 := ho
      simp at ho; subst ho
      simp [Region.binds] at hd hu
      subst hu
      subst hd
      obtain rfl := h.f7 rfl
      refine opIn_of ho2 rfl (by intro c; simp) ?_ ?_
      · intro r args w'; go_simp
      · go_simp; exact ⟨_, _, _, _, _, _, _, _, _, _, _, _, _, _, _, _, _, _, _, _, _, _, _, _, _, _, rfl, rfl, h.o8⟩
    · have ho2 := ho
      simp at ho; subst ho
      simp [Region.binds] at hd hu
      subst hu
      subst hd
      obtain rfl := h.f8 rfl
      obtain ⟨_, _, hX⟩ := h.mid (by cases e : c11 with | false => rfl | true => cases h.q10 (h.q11 e).2.2)
      have hc := offS_le _ _ _ _ (hX.ml _ _ hsp)
      clear hX
      refine opIn_of ho2 rfl (by intro c; simp) ?_ ?_
      · intro r args w'; go_simp
      · go_simp; exact ⟨_, _, _, _, _, _, _, _, _, _, _, _, _, _, _, _, _, _, _, _, _, _, _, _, _, _, rfl, rfl, h.o9⟩
    · have ho2 := ho
      simp at ho; subst ho
      simp [Region.binds] at hd hu
      subst hu
      subst hd
      obtain rfl := h.f9 rfl
      obtain ⟨_, _, hX⟩ := h.mid (by cases e : c11 with | false => rfl | true => cases (h.q11 e).2.2)
      have HZ : Hid (A.heap.size ≤ W.heap.size) := hX.az
      clear hX
      refine opIn_of ho2 rfl (by intro c; simp) ?_ ?_
      · intro r args w'; go_simp
      · go_simp; exact ⟨_, _, _, _, _, _, _, _, _, _, _, _, _, _, _, _, _, _, _, _, _, _, _, _, _, _, rfl, rfl, h.o10 ((Below.refl _ W).alloc (Nat.le_refl _) _) (World.cell?_alloc_at _ _ _ _ rfl) HZ.out⟩
    · have ho2 := ho
      simp at ho; subst ho
      simp [Region.binds] at hd hu
      subst hu
      obtain ⟨rfl, rfl, rfl⟩ := hd
      obtain rfl := h.f5 rfl
      obtain ⟨h', hX⟩ := h.p3 rfl rfl
      obtain ⟨gg, rfl, hc, _⟩ := h.p10 rfl rfl
      refine opIn_append_src W ho2 rfl (.tmp 29) (.tmp 34) 48 rfl (w.heap.size + 1 + 1) 3 j0 _ 1 8 Tryz.underlying48 HJ0.out HJ1.out HJ2.out HJ3.out rfl (by decide) t29 L.length (flI L) rfl hX.r.rf (some ⟨gg, 0, none⟩) 1 1 [.int .i64 ly] rfl rfl (.inr ⟨_, rfl, fun j u hj => by rw [addr_add, Nat.zero_add]; match j, hj with | 0, hj => simp at hj; subst hj; exact hc⟩) (by simp [Value.oneCell']) (by unfold maxLen; omega) (by omega) (by have := hX.low.size; have := hX.az; have := hX.bf.lt; omega) ?_
      intro v' w' ho1 hg1 hh1
      have hown : w'.ownsRow (w.heap.size + 1 + 1) 3 1 v' (L ++ [(⟨(.mk k m u g o at_ d ks), h', ly⟩ : Fl)]).length (flI (L ++ [(⟨(.mk k m u g o at_ d ks), h', ly⟩ : Fl)])) := by rw [flI_app, List.length_append]; simpa [flI] using ho1
      exact ⟨_, _, _, _, _, _, _, _, _, _, _, _, _, _, _, _, _, _, _, _, _, _, _, _, _, _, rfl, rfl, h.o11 hX hown hg1 hh1⟩
    · have ho2 := ho
      simp at ho; subst ho
      simp [Region.binds] at hd hu
      subst hu
      obtain ⟨rfl, rfl, rfl, rfl, rfl, rfl⟩ : c4 = true ∧ c11 = true ∧ c0 = true ∧ c1 = true ∧ c2 = true ∧ c3 = true := by simp [hd]
      obtain ⟨h', hX⟩ := h.p4 rfl rfl
      obtain ⟨gg, cc, rfl⟩ := ownsRow_succ (show W.ownsRow _ _ _ t28 (L.length + 1) _ from by have := hX.r.rn; rw [List.length_append] at this; exact this)
      have hc := hX.bn.cell
      have hf := hX.bn.frozen
      clear hX
      refine opIn_of ho2 rfl (by intro c; simp) ?_ ?_
      · intro r args w'; go_simp
      · go_simp; exact ⟨_, _, _, _, _, _, _, _, _, _, _, _, _, _, _, _, _, _, _, _, _, _, _, _, _, _, rfl, rfl, h.o12⟩
    · have ho2 := ho
      simp at ho; subst ho
      simp [Region.binds] at hd hu
      subst hu
      obtain ⟨rfl, rfl, rfl, rfl, rfl, rfl, rfl, rfl, rfl, rfl, rfl, rfl, rfl⟩ : c0 = true ∧ c1 = true ∧ c2 = true ∧ c3 = true ∧ c4 = true ∧ c5 = true ∧ c6 = true ∧ c7 = true ∧ c8 = true ∧ c9 = true ∧ c10 = true ∧ c11 = true ∧ c12 = true := by simp [hd]
      obtain ⟨h', hX⟩ := h.p5 rfl rfl
      obtain ⟨gg, cc, rfl⟩ := ownsRow_succ (show W.ownsRow _ _ _ t35 (L.length + 1) _ from by have := hX.r.rf; rw [List.length_append] at this; exact this)
      have hc := hX.bf.cell
      have hf := hX.bf.frozen
      clear hX
      refine opIn_of ho2 rfl (by intro c; simp) ?_ ?_
      · intro r args w'; go_simp
      · go_simp; exact ⟨_, _, _, _, _, _, _, _, _, _, _, _, _, _, _, _, _, _, _, _, _, _, _, _, _, _, rfl, rfl, h.o13⟩
end Go.Proofs.YtlbabnffiibnpaaGreat
