/-
  PROVED: for all layers, maps and names the call of TopComes returns true, and the arguments read behind it as they read before. No condition beyond the row's own.
-/
import Derived.Test.YtlbabnffiibnpaaGreatHhX
import Derived.ChangeMaps5
namespace Go.Proofs.YtlbabnffiibnpaaGreat
open Go.ChangeShapes Go.WideShapes Go.ChangeAt Go.RowKit Go.Deep Go.ChangeMaps
namespace TopComesRow
set_option maxRecDepth 100000 in
theorem lifted (os : Os) (started : os.Started) (H : Type) (enc : TypeId × Value → H) :
    ReturnsInHanded {} Tryz.checked os 3 .any (Rows.topComesSpec.pre6 enc Tryz.prog Tryz.f3 Rows.topComesRow.domain false) (Rows.topComesSpec.post enc Tryz.prog Tryz.f3 false true false false) := by
  refine returnsInHanded_of_change (C := Tryz.checked) RowsIn.own started (by kernel_rfl) Tryz.func3
    (ChangeSpec.witness6 (enc := enc) (C := Tryz.checked) false ⟨#[], #[.slice none 0 0, .agg #[.slice none 0 0, .slice none 0 0], .slice none 0 0], []⟩ 8 (by kernel_rfl) (by kernel_rfl) (by kernel_rfl) (by kernel_rfl)) ?_
  intro W base args ds gs before hval0 hW hcnd _
  have hval : ∀ (j : Nat) t v, Tryz.f3.params[j]? = some t → args[j]? = some v → Value.okWide Tryz.prog W .any base t v := hval0
  have hW' := hW
  obtain ⟨p, q, hA0, hV, rfl, hfz, hnd⟩ := hW
  have hA : DataW.TrodAll enc Tryz.prog W 0 (fun _ => true) true Tryz.f3.params.toList args.toList ds p := hA0
  rw [Tryz.params3] at hA hval
  obtain ⟨v0, v1, v2, d0, d1, d2, p0, p1, p2, rfl, rfl, rfl, h0, h1, h2⟩ := trodAll_three hA
  obtain ⟨rfl, rfl⟩ := trodVars_none hV
  have k0 := h0
  have k1 := h1
  have k2 := h2
  have lt0 : ∀ x ∈ p0, x.block < W.heap.size := by obtain ⟨m, hm⟩ := k0; exact DataW.trod_lt m _ _ _ hm
  have lt1 : ∀ x ∈ p1, x.block < W.heap.size := by obtain ⟨m, hm⟩ := k1; exact DataW.trod_lt m _ _ _ hm
  have lt2 : ∀ x ∈ p2, x.block < W.heap.size := by obtain ⟨m, hm⟩ := k2; exact DataW.trod_lt m _ _ _ hm
  obtain ⟨f0, g0⟩ := h0
  obtain ⟨b0, len0, cap0, rfl⟩ := okWide_slice Tryz.underlying22 (hval 0 22 v0 rfl rfl)
  obtain ⟨a0, n0, c0, xs, e0, hn0, hc0, hc0', hX0, hI0⟩ := RowsIn.ns_of_trod (by simpa [Value.cells] using g0)
  obtain ⟨rfl, rfl, rfl⟩ : b0 = a0 ∧ len0 = n0 ∧ cap0 = c0 := by simpa using e0
  obtain ⟨f1, g1⟩ := h1
  obtain ⟨M, e1, hu, hg, hcu, hcg, hou, hog⟩ := RowsIn.maps_of_arg (hval 1 25 v1 rfl rfl) g1
  obtain ⟨a2, len2, cap2, rfl⟩ := okWide_slice Tryz.underlying26 (hval 2 26 v2 rfl rfl)
  obtain ⟨f2, g2⟩ := h2
  obtain ⟨a, n, c, l, e2, hn, hc1, hc2, hS1⟩ := RowsIn.strs_of_trod (by simpa [Value.cells] using g2)
  obtain ⟨rfl, rfl, rfl⟩ : a2 = a ∧ len2 = n ∧ cap2 = c := by simpa using e2
  clear hA0 hval0
  subst hn0 hn
  have key := topcomes_any (cap := cap0) hX0 hI0 ⟨hc0, hc0'⟩ hu hg hcu hcg hou hog a2 cap2 l hS1 ⟨hc1, hc2⟩
  rw [← e1] at key
  refine key.mono fun e W' ⟨he, bel⟩ => ?_
  subst he
  exact ⟨_, rfl, _, _, _, [], _, [], hW', trodAll_mk1 (shut_bool Tryz.underlying4 _), trodAll_mk3 (Below.trod RowsIn.laidOut (by kernel_rfl) (of_decide_eq_true (by kernel_rfl)) k0 bel lt0) (Below.trod RowsIn.laidOut (by kernel_rfl) (of_decide_eq_true (by kernel_rfl)) k1 bel lt1) (Below.trod RowsIn.laidOut (by kernel_rfl) (of_decide_eq_true (by kernel_rfl)) k2 bel lt2), rfl, bel.frame _, fun h => by cases h⟩
end TopComesRow
theorem topComes_holds : Rows.TopComesSaid :=
  OpenClaim.holds_of_wide 3 Tryz.f3 rfl rfl rfl rfl rfl rfl rfl ⟨rfl, rfl, rfl, rfl, rfl⟩ rfl rfl rfl rfl rfl (by kernel_rfl) Tryz.func3 (by kernel_rfl)
    (of_decide_eq_true (by kernel_rfl)) (by unfold Func.isWrapper; first | (rw [if_pos (by decide +kernel)]; kernel_rfl) | (rw [if_neg (by decide +kernel)]; exact ⟨rfl, rfl⟩))
    (fun os started H enc _ => TopComesRow.lifted os started H enc)
#print axioms topComes_holds
end Go.Proofs.YtlbabnffiibnpaaGreat
