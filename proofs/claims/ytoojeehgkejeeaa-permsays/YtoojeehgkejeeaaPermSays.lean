/-
  PROVED: for every cred, two things and every number the call of PermSays returns true, and the arguments read behind it as they read before. No condition.
-/
import Derived.Test.YtoojeehgkejeeaaPj
import Derived.Test.YtoojeehgkejeeaaPg
namespace Go.Proofs.Ytoojeehgkejeeaa
open Go.ChangeShapes Go.WideShapes Go.ChangeAt Go.RowKit Go.Joins

namespace PermRow
theorem walk (u g c : Int) (ad : Option Addr) (n cap : Nat) (zs : List Int) (d : Bool) (m tu tg : Int) (mp : Bool) (dd : Bool) (dm du dg : Int) (dmp : Bool) (want : Int) (w : World) (hn : zs.length = n) (hl : n ≤ 9223372036854775807) (h : Ints w ad zs) :
    Calls Try.prog 7 #[.agg #[.int .i64 u, .int .i64 g, .slice ad n cap, .int .i64 c], .agg #[.bool d, .int .i64 m, .int .i64 tu, .int .i64 tg, .bool mp], .agg #[.bool dd, .int .i64 dm, .int .i64 du, .int .i64 dg, .bool dmp], .int .i64 want] w fun e w' =>
      e = .returned (.bool true) ∧ Below w.heap.size w w' := by
  subst hn
  by_cases hf : credF u g zs c = 0
  · by_cases hout : m < 0 ∨ 4095 < m ∨ dm < 0 ∨ 4095 < dm
    · exact permSays_out u g c ad cap zs d m tu tg mp dd dm du dg dmp want w hl h hf hout
    · exact permSays_in u g c ad cap zs d m tu tg mp dd dm du dg dmp want w hl h hf (by omega) (by omega) (by omega) (by omega)
  · have := credF_nonneg u g zs c
    exact permSays_bad u g c ad cap zs d m tu tg mp dd dm du dg dmp want w hl h _ rfl (by omega)

set_option maxRecDepth 100000 in
theorem lifted (os : Os) (started : os.Started) (H : Type) (enc : TypeId × Value → H) :
    ReturnsInHanded {} Try.checked os 7 .any (Rows.permSaysSpec.pre6 enc Try.prog Try.f7 Rows.permSaysRow.domain false) (Rows.permSaysSpec.post enc Try.prog Try.f7 false true false false) := by
  refine returnsInHanded_of_change (C := Try.checked) RowsIn.own started (by kernel_rfl) Try.func7
    (ChangeSpec.witness6 (enc := enc) (C := Try.checked) false ⟨#[], #[.agg #[.int .i64 0, .int .i64 0, .slice none 0 0, .int .i64 0], .agg #[.bool false, .int .i64 0, .int .i64 0, .int .i64 0, .bool false], .agg #[.bool false, .int .i64 0, .int .i64 0, .int .i64 0, .bool false], .int .i64 0], []⟩ 8 (by kernel_rfl) (by kernel_rfl) (by kernel_rfl) (by kernel_rfl)) ?_
  intro W base args ds gs before hval0 hW hcnd _
  have hval : ∀ (j : Nat) t v, Try.f7.params[j]? = some t → args[j]? = some v → Value.okWide Try.prog W .any base t v := hval0
  have hW' := hW
  obtain ⟨p, q, hA0, hV, rfl, hfz, hnd⟩ := hW
  have hA : DataW.TrodAll enc Try.prog W 0 (fun _ => true) true Try.f7.params.toList args.toList ds p := hA0
  rw [Try.params7] at hA hval
  obtain ⟨v0, vs0, d0, ds0, p0, q0, hargs, rfl, rfl, h0, r0⟩ := trodAll_cons hA
  obtain ⟨v1, vs1, d1, ds1, p1, q1, rfl, rfl, rfl, h1, r1⟩ := trodAll_cons r0
  obtain ⟨v2, vs2, d2, ds2, p2, q2, rfl, rfl, rfl, h2, r2⟩ := trodAll_cons r1
  obtain ⟨v3, vs3, d3, ds3, p3, q3, rfl, rfl, rfl, h3, r3⟩ := trodAll_cons r2
  obtain ⟨rfl, rfl, rfl⟩ := trodAll_nil r3
  obtain rfl : args = #[v0, v1, v2, v3] := by cases args; simp_all
  obtain ⟨rfl, rfl⟩ := trodVars_none hV
  have k0 := h0
  have k1 := h1
  have k2 := h2
  have lt0 : ∀ x ∈ p0, x.block < W.heap.size := by obtain ⟨m, hm⟩ := k0; exact DataW.trod_lt m _ _ _ hm
  have lt1 : ∀ x ∈ p1, x.block < W.heap.size := by obtain ⟨m, hm⟩ := k1; exact DataW.trod_lt m _ _ _ hm
  have lt2 : ∀ x ∈ p2, x.block < W.heap.size := by obtain ⟨m, hm⟩ := k2; exact DataW.trod_lt m _ _ _ hm
  obtain ⟨u, g, ad, n, cap, zs, c, rfl, hn, hm, hin⟩ := RowsIn.cred_of (hval 0 40 v0 rfl rfl) h0
  obtain ⟨d, m, tu, tg, mp, rfl⟩ := RowsIn.thing_of (hval 1 56 v1 rfl rfl) h1
  obtain ⟨dd, dm, du, dg, dmp, rfl⟩ := RowsIn.thing_of (hval 2 56 v2 rfl rfl) h2
  obtain ⟨want, rfl, rfl, rfl, w3⟩ := open_int Try.underlying3 (hval 3 3 v3 rfl rfl) h3
  clear hA0 hval0
  refine (walk u g c ad n cap zs d m tu tg mp dd dm du dg dmp want W hn hm hin).mono fun e W' ⟨he, bel⟩ => ?_
  subst he
  exact ⟨_, rfl, _, _, _, [], _, [], hW', trodAll_mk1 (shut_bool Try.underlying4 _), (trodAll_cons_mk (Below.trod RowsIn.laidOut (by kernel_rfl) (of_decide_eq_true (by kernel_rfl)) k0 bel lt0) (trodAll_cons_mk (Below.trod RowsIn.laidOut (by kernel_rfl) (of_decide_eq_true (by kernel_rfl)) k1 bel lt1) (trodAll_cons_mk (Below.trod RowsIn.laidOut (by kernel_rfl) (of_decide_eq_true (by kernel_rfl)) k2 bel lt2) (trodAll_cons_mk (shut_int Try.underlying3 w3) trodAll_mk0)))), rfl, bel.frame _, fun h => by cases h⟩
end PermRow

theorem permSays_holds : Rows.PermSaysSaid :=
  OpenClaim.holds_of_wide 7 Try.f7 rfl rfl rfl rfl rfl rfl rfl ⟨rfl, rfl, rfl, rfl, rfl⟩ rfl rfl rfl rfl rfl (by kernel_rfl) Try.func7 (by kernel_rfl)
    (of_decide_eq_true (by kernel_rfl)) (by unfold Func.isWrapper; first | (rw [if_pos (by decide +kernel)]; kernel_rfl) | (rw [if_neg (by decide +kernel)]; exact ⟨rfl, rfl⟩))
    (fun os started H enc _ => PermRow.lifted os started H enc)
#print axioms permSays_holds
end Go.Proofs.Ytoojeehgkejeeaa
