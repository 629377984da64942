/-
  PROVED: for all layers, maps, names and every node the call of CopySays returns true, and the arguments read behind it as they read before. No condition beyond the row's own.
-/
import Derived.Test.YtkkhfnkmfkdhiabPdY
import Derived.Test.YtkkhfnkmfkdhiabWvX
import Derived.ChangeMaps5
namespace Go.Proofs.Ytkkhfnkmfkdhiab
open Go.ChangeShapes Go.WideShapes Go.ChangeAt Go.RowKit Go.Deep Go.ChangeMaps

namespace CopySaysRow
set_option maxRecDepth 100000 in
theorem lifted (os : Os) (started : os.Started) (H : Type) (enc : TypeId × Value → H) :
    ReturnsInHanded {} Try.checked os 8 .any (Rows.copySaysSpec.pre6 enc Try.prog Try.f8 Rows.copySaysRow.domain false) (Rows.copySaysSpec.post enc Try.prog Try.f8 false true false false) := by
  refine returnsInHanded_of_change (C := Try.checked) RowsIn.own started (by kernel_rfl) Try.func8
    (ChangeSpec.witness6 (enc := enc) (C := Try.checked) false ⟨#[], #[.slice none 0 0, .agg #[.slice none 0 0, .slice none 0 0], .slice none 0 0, .agg #[.int .i64 0, .int .i64 0, .int .i64 0, .int .i64 0, .bool false, .slice none 0 0, .string ⟨#[]⟩, .slice none 0 0]], []⟩ 8 (by kernel_rfl) (by kernel_rfl) (by kernel_rfl) (by kernel_rfl)) ?_
  intro W base args ds gs before hval0 hW hcnd _
  have hval : ∀ (j : Nat) t v, Try.f8.params[j]? = some t → args[j]? = some v → Value.okWide Try.prog W .any base t v := hval0
  have hW' := hW
  obtain ⟨p, q, hA0, hV, rfl, hfz, hnd⟩ := hW
  have hA : DataW.TrodAll enc Try.prog W 0 (fun _ => true) true Try.f8.params.toList args.toList ds p := hA0
  rw [Try.params8] at hA hval
  obtain ⟨v0, v1, v2, v3, d0, d1, d2, d3, p0, p1, p2, p3, rfl, rfl, rfl, h0, h1, h2, h3⟩ := trodAll_four hA
  obtain ⟨rfl, rfl⟩ := trodVars_none hV
  have k0 := h0
  have k1 := h1
  have k2 := h2
  have k3 := h3
  have lt0 : ∀ x ∈ p0, x.block < W.heap.size := by obtain ⟨m, hm⟩ := k0; exact DataW.trod_lt m _ _ _ hm
  have lt1 : ∀ x ∈ p1, x.block < W.heap.size := by obtain ⟨m, hm⟩ := k1; exact DataW.trod_lt m _ _ _ hm
  have lt2 : ∀ x ∈ p2, x.block < W.heap.size := by obtain ⟨m, hm⟩ := k2; exact DataW.trod_lt m _ _ _ hm
  have lt3 : ∀ x ∈ p3, x.block < W.heap.size := by obtain ⟨m, hm⟩ := k3; exact DataW.trod_lt m _ _ _ hm
  obtain ⟨f0, g0⟩ := h0
  obtain ⟨b0, len0, cap0, rfl⟩ := okWide_slice Try.underlying50 (hval 0 50 v0 rfl rfl)
  obtain ⟨a0, n0, c0, xs, e0, hn0, hc0, hc0', hX0, hI0⟩ := RowsIn.ns_of_trod (by simpa [Value.cells] using g0)
  obtain ⟨rfl, rfl, rfl⟩ : b0 = a0 ∧ len0 = n0 ∧ cap0 = c0 := by simpa using e0
  obtain ⟨f1, g1⟩ := h1
  obtain ⟨M, e1, hu, hg, hcu, hcg, hou, hog⟩ := RowsIn.maps_of_arg (hval 1 62 v1 rfl rfl) g1
  obtain ⟨a2, len2, cap2, rfl⟩ := okWide_slice Try.underlying43 (hval 2 43 v2 rfl rfl)
  obtain ⟨f2, g2⟩ := h2
  obtain ⟨a, n, c, l, e2, hn, hc1, hc2, hS1⟩ := RowsIn.strs_of_trod (by simpa [Value.cells] using g2)
  obtain ⟨rfl, rfl, rfl⟩ : a2 = a ∧ len2 = n ∧ cap2 = c := by simpa using e2
  obtain ⟨f3, g3⟩ := h3
  obtain ⟨x3, hd3, e3, hN3, hI3⟩ := RowsIn.ndI_of_arg (hval 3 25 v3 rfl rfl) g3
  clear hA0 hval0
  subst hn0 hn
  have key := copysays_any (cap := cap0) hX0 hI0 (Nat.le_trans hc0 hc0') hu hg hcu hcg hou hog a2 cap2 l hS1 ⟨hc1, hc2⟩ hN3 hI3
  rw [← e1, ← e3] at key
  refine key.mono fun e W' ⟨he, bel⟩ => ?_
  subst he
  exact ⟨_, rfl, _, _, _, [], _, [], hW', trodAll_mk1 (shut_bool Try.underlying4 _), trodAll_mk4 (Below.trod RowsIn.laidOut (by kernel_rfl) (of_decide_eq_true (by kernel_rfl)) k0 bel lt0) (Below.trod RowsIn.laidOut (by kernel_rfl) (of_decide_eq_true (by kernel_rfl)) k1 bel lt1) (Below.trod RowsIn.laidOut (by kernel_rfl) (of_decide_eq_true (by kernel_rfl)) k2 bel lt2) (Below.trod RowsIn.laidOut (by kernel_rfl) (of_decide_eq_true (by kernel_rfl)) k3 bel lt3), rfl, bel.frame _, fun h => by cases h⟩
end CopySaysRow

theorem copySays_holds : Rows.CopySaysSaid :=
  OpenClaim.holds_of_wide 8 Try.f8 rfl rfl rfl rfl rfl rfl rfl ⟨rfl, rfl, rfl, rfl, rfl⟩ rfl rfl rfl rfl rfl (by kernel_rfl) Try.func8 (by kernel_rfl)
    (of_decide_eq_true (by kernel_rfl)) (by unfold Func.isWrapper; first | (rw [if_pos (by decide +kernel)]; kernel_rfl) | (rw [if_neg (by decide +kernel)]; exact ⟨rfl, rfl⟩))
    (fun os started H enc _ => CopySaysRow.lifted os started H enc)
#print axioms copySays_holds
end Go.Proofs.Ytkkhfnkmfkdhiab
