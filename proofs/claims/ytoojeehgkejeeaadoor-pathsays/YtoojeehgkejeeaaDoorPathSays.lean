/-
  PROVED: for every text and two lists of texts the call of PathSays returns true, and the arguments read behind it as they read before, in whatever memory in which the two listed tables read as the card ties them. No other condition.
-/
import Derived.Test.YtoojeehgkejeeaaDoorTie
import Derived.Test.YtoojeehgkejeeaaDoorCards
import Derived.Test.YtoojeehgkejeeaaDoorDh
import Derived.Test.YtoojeehgkejeeaaDoorDi
import Derived.SevenTiedAt
namespace Go.Proofs.YtoojeehgkejeeaaDoor
open Go.ChangeShapes Go.WideShapes Go.ChangeAt Go.RowKit Go.ChangeMaps

namespace PathRow
theorem walk (s : ByteArray) (a b : Option Addr) (n k c1 c2 : Nat) (xs ys : List ByteArray) (w : World) (m : Int) (hm : w.cell? ⟨1, 0, none⟩ = some (.int .i64 m)) (hn : xs.length = n) (hk : ys.length = k) (hc1 : n ≤ c1) (hm1 : c1 ≤ 9223372036854775807) (h : Strs w a xs) (h2 : Strs w b ys) :
    Calls Tryd.prog 4 #[.string s, .slice a n c1, .slice b k c2] w fun e w' => e = .returned (.bool true) ∧ Below w.heap.size w w' := by
  subst hn hk
  by_cases h3 : 300 < s.size
  · exact pathSays_out s a b c1 c2 xs ys w m hm h h2 (.inl h3)
  · cases f1 : fewB xs with
    | false => exact pathSays_out s a b c1 c2 xs ys w m hm h h2 (.inr (.inl f1))
    | true =>
      cases f2 : fewB ys with
      | false => exact pathSays_out s a b c1 c2 xs ys w m hm h h2 (.inr (.inr f2))
      | true => exact pathSays_in s a b c1 c2 xs ys w m hm hc1 hm1 h h2 h3 f1 f2

set_option maxRecDepth 100000 in
theorem lifted (os : Os) (started : os.Started) (H : Type) (enc : TypeId × Value → H) :
    ReturnsInHanded {} Tryd.checked os 4 .any (fun w args => (Rows.pathSaysSpec.pre enc Tryd.prog Tryd.f4 [] false w args ∧ laidMetH Tryd.prog Rows.pathSaysRow.laid w) ∧ sizedMet enc Tryd.prog Tryd.f4 (OpenSpec.ofChange Rows.pathSaysSpec) false w args)
      (Rows.pathSaysSpec.post enc Tryd.prog Tryd.f4 false true false false) := by
  refine RowsIn.handed (X := fun w _ => laidMetH Tryd.prog Rows.pathSaysRow.laid w) (fun _ _ _ hh h => h.of_heap hh) started (by kernel_rfl) Tryd.func4
    (ChangeSpec.witness_shaped (enc := enc) (C := Tryd.checked) (os := os) (X := fun w _ => laidMetH Tryd.prog Rows.pathSaysRow.laid w) false (World.laidAll Tryd.prog os Rows.pathSaysRow.laid) #[.string ⟨#[]⟩, .slice none 0 0, .slice none 0 0] 8 (World.laidAll_os _ _ _)
      (World.shaped_of_ZipB (by kernel_rfl) (by kernel_rfl)) (by kernel_rfl) (by kernel_rfl) (by kernel_rfl)
      (by rw [MakeChecks.laidMetH_plain _ _ _ (by kernel_rfl)]; exact laidMet_laidAll _ (by kernel_rfl) (by kernel_rfl))) ?_
  intro W base args ds gs before hval0 hW hsh
  have hval : ∀ (j : Nat) t v, Tryd.f4.params[j]? = some t → args[j]? = some v → Value.okWide Tryd.prog W .any base t v := hval0
  have hW' := hW
  obtain ⟨p, q, hA0, hV, rfl, hfz, hnd⟩ := hW
  have hA : DataW.TrodAll enc Tryd.prog W 0 (fun _ => true) true Tryd.f4.params.toList args.toList ds p := hA0
  rw [Tryd.params4] at hA hval
  obtain ⟨v0, v1, v2, d0, d1, d2, p0, p1, p2, rfl, rfl, rfl, h0, h1, h2⟩ := trodAll_three hA
  obtain ⟨rfl, rfl⟩ := trodVars_none hV
  obtain ⟨m, hm⟩ := RowsIn.maxLen_cell hsh
  have k1 := h1
  have k2 := h2
  have lt1 : ∀ x ∈ p1, x.block < W.heap.size := by obtain ⟨m, hm⟩ := k1; exact DataW.trod_lt m _ _ _ hm
  have lt2 : ∀ x ∈ p2, x.block < W.heap.size := by obtain ⟨m, hm⟩ := k2; exact DataW.trod_lt m _ _ _ hm
  obtain ⟨s, rfl, rfl, rfl, ws⟩ := open_string Tryd.underlying9 (hval 0 9 v0 rfl rfl) h0
  obtain ⟨a1, len1, cap1, rfl⟩ := okWide_slice Tryd.underlying31 (hval 1 31 v1 rfl rfl)
  obtain ⟨a2, len2, cap2, rfl⟩ := okWide_slice Tryd.underlying31 (hval 2 31 v2 rfl rfl)
  obtain ⟨f1, g1⟩ := h1
  obtain ⟨f2, g2⟩ := h2
  obtain ⟨a, n, c, xs, e1, hn, hc, hcm, hS⟩ := RowsIn.strs_of_trod (by simpa [Value.cells] using g1)
  obtain ⟨b, k, c', ys, e2, hk, _, _, hS'⟩ := RowsIn.strs_of_trod (by simpa [Value.cells] using g2)
  obtain ⟨rfl, rfl, rfl⟩ : a1 = a ∧ len1 = n ∧ cap1 = c := by simpa using e1
  obtain ⟨rfl, rfl, rfl⟩ : a2 = b ∧ len2 = k ∧ cap2 = c' := by simpa using e2
  clear hA0 hval0
  refine (walk s a1 a2 len1 len2 cap1 cap2 xs ys W m hm hn hk hc hcm hS hS').mono fun e W' ⟨he, bel⟩ => ?_
  subst he
  exact ⟨_, rfl, _, _, _, [], _, [], hW', trodAll_mk1 (shut_bool Tryd.underlying4 _), trodAll_mk3 (shut_string Tryd.underlying9 ws) (Below.trod RowsIn.laidOut (by kernel_rfl) (of_decide_eq_true (by kernel_rfl)) k1 bel lt1) (Below.trod RowsIn.laidOut (by kernel_rfl) (of_decide_eq_true (by kernel_rfl)) k2 bel lt2), rfl, bel.frame _, fun h => by cases h⟩
end PathRow

theorem pathSays_row : Rows.PathSaysSaid :=
  OpenClaim.holds_of_wide 4 Tryd.f4 rfl rfl rfl rfl rfl rfl rfl ⟨rfl, rfl, rfl, rfl, rfl⟩ rfl rfl rfl rfl rfl (by kernel_rfl) Tryd.func4 (by kernel_rfl)
    (of_decide_eq_true (by kernel_rfl)) (by unfold Func.isWrapper; first | (rw [if_pos (by decide +kernel)]; kernel_rfl) | (rw [if_neg (by decide +kernel)]; exact ⟨rfl, rfl⟩))
    (fun os started H enc _ => PathRow.lifted os started H enc)

theorem pathSays_card : Rows.PathSaysCardSaid :=
  Claim7.holds_tied_plain_at .later [] [.data, .pinned] true (true, "bab3a6383799565575c6be293d2ac2e55e442f8ace6d593ee0256806967eec32") true
    pathSays_row (fun _ h => by cases h) (by kernel_rfl) (fun _ h => by cases h) pathSays_row_tie rfl ⟨rfl, rfl⟩ (by kernel_rfl) rfl
    (fun f fn hf hfn => by
      obtain rfl : f = 4 := Option.some.inj ((show Tryd.prog.funcNamed "idshift/idshiftlaw.PathSays" = some 4 by kernel_rfl).symm.trans hf) |>.symm
      obtain rfl : fn = Tryd.f4 := (Option.some.inj (Tryd.func4.symm.trans hfn)).symm
      exact ⟨by kernel_rfl, fun j t ht => by
        rw [Tryd.params4] at ht
        have hm : t ∈ [9, 31, 31] := by simpa using Array.mem_of_getElem? ht
        have hall : ([9, 31, 31].all fun u => !Tryd.prog.wantsStandIn u) = true := by kernel_rfl
        exact (show Tryd.prog.wantsStandIn t = false by simpa using List.all_eq_true.1 hall t hm)⟩)
    (by kernel_rfl)
#print axioms pathSays_card
end Go.Proofs.YtoojeehgkejeeaaDoor
