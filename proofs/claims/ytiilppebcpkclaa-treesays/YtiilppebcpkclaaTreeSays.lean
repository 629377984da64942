/-
  PROVED: for every two nodes, upper or not, and every list of names the call of TreeSays returns true, and the arguments read behind it as they read before. No condition beyond the row's own.
-/
import Derived.Test.YtiilppebcpkclaaZq
import Derived.Test.YtiilppebcpkclaaWv
import Derived.ChangeMaps5
namespace Go.Proofs.Ytiilppebcpkclaa
open Go.ChangeShapes Go.WideShapes Go.ChangeAt Go.RowKit Go.Deep Go.ChangeMaps

namespace TreeSaysRow
theorem walk {W : World} {n x : Nd} {h hx : Hd} (hN : NdV W.cell? n h) (hX : NdV W.cell? x hx) (up : Bool) (a : Option Addr) (nl cl : Nat) (l : List ByteArray) (hnl : l.length = nl) (hSl : Strs W.cell? a l) (hcl : nl ≤ cl ∧ cl ≤ 9223372036854775807) :
    Calls Try.prog 11 #[ndV n h, .bool up, .slice a nl cl, ndV x hx] W fun e W' => e = .returned (.bool true) ∧ Below W.heap.size W W' := by
  subst hnl
  exact treesays_any hN hX up a cl l hSl hcl

set_option maxRecDepth 100000 in
theorem lifted (os : Os) (started : os.Started) (H : Type) (enc : TypeId × Value → H) :
    ReturnsInHanded {} Try.checked os 11 .any (Rows.treeSaysSpec.pre6 enc Try.prog Try.f11 Rows.treeSaysRow.domain false) (Rows.treeSaysSpec.post enc Try.prog Try.f11 false true false false) := by
  refine returnsInHanded_of_change (C := Try.checked) RowsIn.own started (by kernel_rfl) Try.func11
    (ChangeSpec.witness6 (enc := enc) (C := Try.checked) false ⟨#[], #[.agg #[.int .i64 0, .int .i64 0, .int .i64 0, .int .i64 0, .bool false, .slice none 0 0, .string ⟨#[]⟩, .slice none 0 0], .bool false, .slice none 0 0, .agg #[.int .i64 0, .int .i64 0, .int .i64 0, .int .i64 0, .bool false, .slice none 0 0, .string ⟨#[]⟩, .slice none 0 0]], []⟩ 8 (by kernel_rfl) (by kernel_rfl) (by kernel_rfl) (by kernel_rfl)) ?_
  intro W base args ds gs before hval0 hW hcnd _
  have hval : ∀ (j : Nat) t v, Try.f11.params[j]? = some t → args[j]? = some v → Value.okWide Try.prog W .any base t v := hval0
  have hW' := hW
  obtain ⟨p, q, hA0, hV, rfl, hfz, hnd⟩ := hW
  have hA : DataW.TrodAll enc Try.prog W 0 (fun _ => true) true Try.f11.params.toList args.toList ds p := hA0
  rw [Try.params11] at hA hval
  obtain ⟨v0, v1, v2, v3, d0, d1, d2, d3, p0, p1, p2, p3, rfl, rfl, rfl, h0, h1, h2, h3⟩ := trodAll_four hA
  obtain ⟨rfl, rfl⟩ := trodVars_none hV
  have k0 := h0
  have k1 := h1
  have k2 := h2
  have k3 := h3
  have lt0 : ∀ x ∈ p0, x.block < W.heap.size := by obtain ⟨m, hm⟩ := k0; exact DataW.trod_lt m _ _ _ hm
  have lt1 : ∀ x ∈ p1, x.block < W.heap.size := by obtain ⟨m, hm⟩ := k1; exact DataW.trod_lt m _ _ _ hm
  have lt2 : ∀ x ∈ p2, x.block < W.heap.size := by obtain ⟨m, hm⟩ := k2; exact DataW.trod_lt m _ _ _ hm
  have lt3 : ∀ x ∈ p3, x.block < W.heap.size := by obtain ⟨m, hm⟩ := k3; exact DataW.trod_lt m _ _ _ hm
  obtain ⟨f0, g0⟩ := h0
  obtain ⟨x0, hd0, e0, hN0⟩ := RowsIn.nd_of_arg (hval 0 84 v0 rfl rfl) g0
  obtain ⟨f3, g3⟩ := h3
  obtain ⟨x3, hd3, e3, hN3⟩ := RowsIn.nd_of_arg (hval 3 84 v3 rfl rfl) g3
  obtain ⟨up, rfl⟩ := okWide_bool Try.underlying4 (hval 1 4 v1 rfl rfl)
  obtain ⟨a2, len2, cap2, rfl⟩ := okWide_slice Try.underlying85 (hval 2 85 v2 rfl rfl)
  obtain ⟨f2, g2⟩ := h2
  obtain ⟨a, n, c, l, e1, hn, hc1, hc2, hS1⟩ := RowsIn.strs_of_trod (by simpa [Value.cells] using g2)
  obtain ⟨rfl, rfl, rfl⟩ : a2 = a ∧ len2 = n ∧ cap2 = c := by simpa using e1
  clear hA0 hval0
  have key := walk hN0 hN3 up a2 len2 cap2 l hn hS1 ⟨hc1, hc2⟩
  rw [← e0, ← e3] at key
  refine key.mono fun e W' ⟨he, bel⟩ => ?_
  subst he
  exact ⟨_, rfl, _, _, _, [], _, [], hW', trodAll_mk1 (shut_bool Try.underlying4 _), trodAll_mk4 (Below.trod RowsIn.laidOut (by kernel_rfl) (of_decide_eq_true (by kernel_rfl)) k0 bel lt0) (Below.trod RowsIn.laidOut (by kernel_rfl) (of_decide_eq_true (by kernel_rfl)) k1 bel lt1) (Below.trod RowsIn.laidOut (by kernel_rfl) (of_decide_eq_true (by kernel_rfl)) k2 bel lt2) (Below.trod RowsIn.laidOut (by kernel_rfl) (of_decide_eq_true (by kernel_rfl)) k3 bel lt3), rfl, bel.frame _, fun h => by cases h⟩
end TreeSaysRow

theorem treeSays_holds : Rows.TreeSaysSaid :=
  OpenClaim.holds_of_wide 11 Try.f11 rfl rfl rfl rfl rfl rfl rfl ⟨rfl, rfl, rfl, rfl, rfl⟩ rfl rfl rfl rfl rfl (by kernel_rfl) Try.func11 (by kernel_rfl)
    (of_decide_eq_true (by kernel_rfl)) (by unfold Func.isWrapper; first | (rw [if_pos (by decide +kernel)]; kernel_rfl) | (rw [if_neg (by decide +kernel)]; exact ⟨rfl, rfl⟩))
    (fun os started H enc _ => TreeSaysRow.lifted os started H enc)
#print axioms treeSays_holds
end Go.Proofs.Ytiilppebcpkclaa
