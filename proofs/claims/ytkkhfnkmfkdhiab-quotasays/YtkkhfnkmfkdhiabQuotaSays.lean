/-
  PROVED: for every room, all steps and every tree the call of QuotaSays returns true, and the arguments read behind it as they read before. No condition.
-/
import Derived.Test.YtkkhfnkmfkdhiabQe
import Derived.Test.YtkkhfnkmfkdhiabWv
import Derived.ChangeMaps5
namespace Go.Proofs.Ytkkhfnkmfkdhiab
open Go.ChangeShapes Go.WideShapes Go.ChangeAt Go.RowKit Go.Deep Go.ChangeMaps

namespace QuotaSaysRow
theorem cellsTS : Try.prog.cellsOf 84 = 3 := by kernel_rfl
theorem three_of {α : Type} {l : List α} (h : l.length = 3) : ∃ a b c, l = [a, b, c] := by
  match l, h with
  | [a, b, c], _ => exact ⟨a, b, c, rfl⟩
/-- A slice of steps that came in. -/
theorem steps_of_trod {H : Type} {enc : TypeId × Value → H} {W : World} {m : Nat} {v : Value} {y : DataW H × List MemPlace} (h : DataW.trod enc Try.prog W 0 (fun _ => true) true m 75 [v] = some y) :
    ∃ a n cap l, v = .slice a n cap ∧ l.length = n ∧ StM W.cell? a l ∧ ∀ r ∈ l, (Lit.int .i64 r.w).wf = true ∧ (Lit.int .i64 r.n).wf = true := by
  rcases open_slice Try.underlying75 h with ⟨hcs, _⟩ | ⟨x, len, cap, mm, n, D, Pl, hcs, _, hl, _, hmm, _, hx⟩
  · obtain rfl : v = .slice none 0 0 := by simpa using hcs
    exact ⟨none, 0, 0, [], rfl, rfl, .inl rfl, by simp⟩
  · obtain rfl : v = .slice (some x) len cap := by simpa using hcs
    have hlm : len ≤ mm := by rw [hmm]; simp; exact hl
    have each : ∀ i, i < len → ∃ r : Stp, (W.cell? (x.add (i * 3)) = some (.bool r.g) ∧ W.cell? ((x.add (i * 3)).add 1) = some (.int .i64 r.w) ∧ W.cell? ((x.add (i * 3)).add 2) = some (.int .i64 r.n)) ∧ (Lit.int .i64 r.w).wf = true ∧ (Lit.int .i64 r.n).wf = true := by
      intro i hi
      obtain ⟨cs', h1, h2⟩ := hx i (by omega)
      rw [cellsTS] at h1
      obtain ⟨_, hlen, hcell⟩ := World.cells?_some h1
      obtain ⟨c0, c1, c2, rfl⟩ := three_of hlen
      obtain ⟨y0, y1, y2, k, _, _, t0, t1, t2⟩ := trod_struct3 Try.underlying84 h2
      rw [RowsIn.cells4] at t0
      rw [RowsIn.cells3] at t1 t2
      obtain ⟨u0, e0, _⟩ := DataW.trod_bool Try.underlying4 t0
      obtain ⟨u1, e1, _, w1⟩ := DataW.trod_int Try.underlying3 t1
      obtain ⟨u2, e2, _, w2⟩ := DataW.trod_int Try.underlying3 t2
      simp at e0 e1 e2
      subst e0 e1 e2
      have g0 := hcell 0 (by omega)
      have g1 := hcell 1 (by omega)
      have g2 := hcell 2 (by omega)
      exact ⟨⟨u0, u1, u2⟩, ⟨by simpa [Addr.add] using g0, by simpa using g1, by simpa using g2⟩, w1, w2⟩
    obtain ⟨f, hf⟩ : ∃ f : Nat → Stp, ∀ i, i < len → (W.cell? (x.add (i * 3)) = some (.bool (f i).g) ∧ W.cell? ((x.add (i * 3)).add 1) = some (.int .i64 (f i).w) ∧ W.cell? ((x.add (i * 3)).add 2) = some (.int .i64 (f i).n)) ∧ (Lit.int .i64 (f i).w).wf = true ∧ (Lit.int .i64 (f i).n).wf = true := by
      refine ⟨fun i => if h : i < len then Classical.choose (each i h) else ⟨false, 0, 0⟩, fun i hi => ?_⟩
      simp only [hi, dite_true]
      exact Classical.choose_spec (each i hi)
    refine ⟨some x, len, cap, (List.range len).map f, rfl, by simp, ?_, ?_⟩
    · by_cases h0 : len = 0
      · subst h0; exact .inl rfl
      · obtain ⟨b, off, spot⟩ := x
        have hspot : spot = none := by
          have := World.cell?_spot (hf 0 (by omega)).1.1
          simpa [Addr.add] using this
        subst hspot
        refine .inr ⟨b, off, rfl, fun k r hk => ?_⟩
        have hkl : k < len := by have := (List.getElem?_eq_some_iff.1 hk).1; simpa using this
        have er : r = f k := by simp [hkl] at hk; exact hk.symm
        subst er
        obtain ⟨⟨g0, g1, g2⟩, _⟩ := hf k hkl
        have e : (⟨b, off, none⟩ : Addr).add (k * 3) = ⟨b, off + k * 3, none⟩ := by by_cases hj0 : k * 3 = 0 <;> simp [Addr.add, hj0]
        rw [e] at g0 g1 g2
        exact ⟨g0, by simpa [Addr.add] using g1, by simpa [Addr.add] using g2⟩
    · intro r hr
      obtain ⟨i, hi, rfl⟩ := List.mem_map.1 hr
      exact (hf i (by simpa using hi)).2
theorem walk {W : World} {x : Nd} {h : Hd} (hN : NdV W.cell? x h) (room : Int) (a : Option Addr) (n cap : Nat) (l : List Stp) (hn : l.length = n) (hS : StM W.cell? a l) (hwf : ∀ r ∈ l, (Lit.int .i64 r.w).wf = true ∧ (Lit.int .i64 r.n).wf = true) :
    Calls Try.prog 9 #[.int .i64 room, .slice a n cap, ndV x h] W fun e w' => e = .returned (.bool true) ∧ Below W.heap.size W w' := by
  subst hn
  exact quota_any hN room a cap l hS hwf

set_option maxRecDepth 100000 in
theorem lifted (os : Os) (started : os.Started) (H : Type) (enc : TypeId × Value → H) :
    ReturnsInHanded {} Try.checked os 9 .any (Rows.quotaSaysSpec.pre6 enc Try.prog Try.f9 Rows.quotaSaysRow.domain false) (Rows.quotaSaysSpec.post enc Try.prog Try.f9 false true false false) := by
  refine returnsInHanded_of_change (C := Try.checked) RowsIn.own started (by kernel_rfl) Try.func9
    (ChangeSpec.witness6 (enc := enc) (C := Try.checked) false ⟨#[], #[.int .i64 0, .slice none 0 0, .agg #[.int .i64 0, .int .i64 0, .int .i64 0, .int .i64 0, .bool false, .slice none 0 0, .string ⟨#[]⟩, .slice none 0 0]], []⟩ 8 (by kernel_rfl) (by kernel_rfl) (by kernel_rfl) (by kernel_rfl)) ?_
  intro W base args ds gs before hval0 hW hcnd _
  have hval : ∀ (j : Nat) t v, Try.f9.params[j]? = some t → args[j]? = some v → Value.okWide Try.prog W .any base t v := hval0
  have hW' := hW
  obtain ⟨p, q, hA0, hV, rfl, hfz, hnd⟩ := hW
  have hA : DataW.TrodAll enc Try.prog W 0 (fun _ => true) true Try.f9.params.toList args.toList ds p := hA0
  rw [Try.params9] at hA hval
  obtain ⟨v0, v1, v2, d0, d1, d2, p0, p1, p2, rfl, rfl, rfl, h0, h1, h2⟩ := trodAll_three hA
  obtain ⟨rfl, rfl⟩ := trodVars_none hV
  have k1 := h1
  have k2 := h2
  have lt1 : ∀ x ∈ p1, x.block < W.heap.size := by obtain ⟨m, hm⟩ := k1; exact DataW.trod_lt m _ _ _ hm
  have lt2 : ∀ x ∈ p2, x.block < W.heap.size := by obtain ⟨m, hm⟩ := k2; exact DataW.trod_lt m _ _ _ hm
  obtain ⟨x, rfl, rfl, rfl, wx⟩ := open_int Try.underlying3 (hval 0 3 v0 rfl rfl) h0
  obtain ⟨f2, g2⟩ := h2
  obtain ⟨x2, hd2, e2, hN2⟩ := RowsIn.nd_of_arg (hval 2 25 v2 rfl rfl) g2
  obtain ⟨a1, len1, cap1, rfl⟩ := okWide_slice Try.underlying75 (hval 1 75 v1 rfl rfl)
  obtain ⟨f1, g1⟩ := h1
  obtain ⟨a, n, c, l, e1, hn, hS1, hwf⟩ := steps_of_trod (by simpa [Value.cells] using g1)
  obtain ⟨rfl, rfl, rfl⟩ : a1 = a ∧ len1 = n ∧ cap1 = c := by simpa using e1
  clear hA0 hval0
  have key := walk hN2 x a1 len1 cap1 l hn hS1 hwf
  rw [← e2] at key
  refine key.mono fun e W' ⟨he, bel⟩ => ?_
  subst he
  exact ⟨_, rfl, _, _, _, [], _, [], hW', trodAll_mk1 (shut_bool Try.underlying4 _), trodAll_mk3 (shut_int Try.underlying3 wx) (Below.trod RowsIn.laidOut (by kernel_rfl) (of_decide_eq_true (by kernel_rfl)) k1 bel lt1) (Below.trod RowsIn.laidOut (by kernel_rfl) (of_decide_eq_true (by kernel_rfl)) k2 bel lt2), rfl, bel.frame _, fun h => by cases h⟩
end QuotaSaysRow

theorem quotaSays_holds : Rows.QuotaSaysSaid :=
  OpenClaim.holds_of_wide 9 Try.f9 rfl rfl rfl rfl rfl rfl rfl ⟨rfl, rfl, rfl, rfl, rfl⟩ rfl rfl rfl rfl rfl (by kernel_rfl) Try.func9 (by kernel_rfl)
    (of_decide_eq_true (by kernel_rfl)) (by unfold Func.isWrapper; first | (rw [if_pos (by decide +kernel)]; kernel_rfl) | (rw [if_neg (by decide +kernel)]; exact ⟨rfl, rfl⟩))
    (fun os started H enc _ => QuotaSaysRow.lifted os started H enc)
#print axioms quotaSays_holds
end Go.Proofs.Ytkkhfnkmfkdhiab
