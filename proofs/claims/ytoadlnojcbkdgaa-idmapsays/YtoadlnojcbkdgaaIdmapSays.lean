/-
  PROVED: for all maps a and b and every id x the call of IdmapSays returns true, and the arguments read behind it as they read before. No condition.
-/
import Derived.Test.YtoadlnojcbkdgaaIsA
import Derived.Test.YtoadlnojcbkdgaaIsB
import Derived.Test.YtoadlnojcbkdgaaIsC
import Derived.Test.YtoadlnojcbkdgaaIl
namespace Go.Proofs.Ytoadlnojcbkdgaa
open Go.ChangeShapes Go.WideShapes Go.ChangeAt Go.RowKit Go.Deep

namespace IdmapSaysRow
theorem own : ownKnob Try.prog.godebug = none := by kernel_rfl
theorem laidOut : laidOutB Try.prog = true := by kernel_rfl

theorem walk (a b : Option Addr) (n m c1 c2 : Nat) (x : Int) (rs ss : List Rg) (w : World) (hn : rs.length = n) (hm : ss.length = m) (hc1 : n ≤ c1) (hc2 : m ≤ c2) (hok : ∀ r ∈ rs, r.ok) (hok2 : ∀ r ∈ ss, r.ok) (hx : I64 x) (h : Rgs w a rs) (h2 : Rgs w b ss) :
    Calls Try.prog 3 #[.slice a n c1, .slice b m c2, .int .i64 x] w fun e w' => e = .returned (.bool true) ∧ Below w.heap.size w w' := by
  subst hn hm
  by_cases hl : 6 < rs.length ∨ rs.length ≤ 6 ∧ 6 < ss.length
  · exact idmap_long a b c1 c2 x rs ss w hl
  · by_cases hf : mapF rs = 0
    · by_cases hg : mapF ss = 0
      · exact idmap_good a b c1 c2 x rs ss w (by omega) (by omega) hc1 hc2 hok hok2 hx h h2 hf hg
      · exact idmap_bad2 a b c1 c2 x rs ss w (by omega) (by omega) hc1 hc2 hok hok2 hx h h2 _ hf rfl hg
    · exact idmap_bad a b c1 c2 x rs ss w (by omega) (by omega) hc1 hc2 hok hok2 hx h h2 _ _ rfl rfl hf

set_option maxRecDepth 100000 in
theorem lifted (os : Os) (started : os.Started) (H : Type) (enc : TypeId × Value → H) :
    ReturnsInHanded {} Try.checked os 3 .any (Rows.idmapSaysSpec.pre6 enc Try.prog Try.f3 Rows.idmapSaysRow.domain false) (Rows.idmapSaysSpec.post enc Try.prog Try.f3 false true false false) := by
  refine returnsInHanded_of_change (C := Try.checked) own started (by kernel_rfl) Try.func3
    (ChangeSpec.witness6 (enc := enc) (C := Try.checked) false ⟨#[], #[.slice none 0 0, .slice none 0 0, .int .i64 0], []⟩ 8 (by kernel_rfl) (by kernel_rfl) (by kernel_rfl) (by kernel_rfl)) ?_
  intro W base args ds gs before hval0 hW hcnd _
  have hval : ∀ (j : Nat) t v, Try.f3.params[j]? = some t → args[j]? = some v → Value.okWide Try.prog W .any base t v := hval0
  have hW' := hW
  obtain ⟨p, q, hA0, hV, rfl, hfz, hnd⟩ := hW
  have hA : DataW.TrodAll enc Try.prog W 0 (fun _ => true) true Try.f3.params.toList args.toList ds p := hA0
  rw [Try.params3] at hA hval
  obtain ⟨v0, v1, v2, d0, d1, d2, p0, p1, p2, rfl, rfl, rfl, h0, h1, h2⟩ := trodAll_three hA
  obtain ⟨rfl, rfl⟩ := trodVars_none hV
  have k0 := h0
  have k1 := h1
  have lt0 : ∀ x ∈ p0, x.block < W.heap.size := by obtain ⟨m, hm⟩ := k0; exact DataW.trod_lt m _ _ _ hm
  have lt1 : ∀ x ∈ p1, x.block < W.heap.size := by obtain ⟨m, hm⟩ := k1; exact DataW.trod_lt m _ _ _ hm
  obtain ⟨a0, len0, cap0, rfl⟩ := okWide_slice Try.underlying22 (hval 0 22 v0 rfl rfl)
  obtain ⟨a1, len1, cap1, rfl⟩ := okWide_slice Try.underlying22 (hval 1 22 v1 rfl rfl)
  obtain ⟨f0, g0⟩ := h0
  obtain ⟨f1, g1⟩ := h1
  obtain ⟨a, n, c, rs, e0, hc, hn, hR, hok⟩ := RowsIn.rgs_of_trod (by simpa [Value.cells] using g0)
  obtain ⟨b, m, c', ss, e1, hc', hm, hR', hok'⟩ := RowsIn.rgs_of_trod (by simpa [Value.cells] using g1)
  obtain ⟨rfl, rfl, rfl⟩ : a0 = a ∧ len0 = n ∧ cap0 = c := by simpa using e0
  obtain ⟨rfl, rfl, rfl⟩ : a1 = b ∧ len1 = m ∧ cap1 = c' := by simpa using e1
  obtain ⟨x, rfl, rfl, rfl, wx⟩ := open_int Try.underlying3 (hval 2 3 v2 rfl rfl) h2
  clear hA0 hval0
  refine (walk a0 a1 len0 len1 cap0 cap1 x rs ss W hn hm hc hc' hok hok' (RowsIn.i64_of_wf wx) hR hR').mono fun e W' ⟨he, bel⟩ => ?_
  subst he
  exact ⟨_, rfl, _, _, _, [], _, [], hW', trodAll_mk1 (shut_bool Try.underlying4 _), trodAll_mk3 (Below.trod laidOut (by kernel_rfl) (of_decide_eq_true (by kernel_rfl)) k0 bel lt0) (Below.trod laidOut (by kernel_rfl) (of_decide_eq_true (by kernel_rfl)) k1 bel lt1) (shut_int Try.underlying3 wx), rfl, bel.frame _, fun h => by cases h⟩
end IdmapSaysRow

theorem idmapSays_holds : Rows.IdmapSaysSaid :=
  OpenClaim.holds_of_wide 3 Try.f3 rfl rfl rfl rfl rfl rfl rfl ⟨rfl, rfl, rfl, rfl, rfl⟩ rfl rfl rfl rfl rfl (by kernel_rfl) Try.func3 (by kernel_rfl)
    (of_decide_eq_true (by kernel_rfl)) (by unfold Func.isWrapper; first | (rw [if_pos (by decide +kernel)]; kernel_rfl) | (rw [if_neg (by decide +kernel)]; exact ⟨rfl, rfl⟩))
    (fun os started H enc _ => IdmapSaysRow.lifted os started H enc)
#print axioms idmapSays_holds
end Go.Proofs.Ytoadlnojcbkdgaa
