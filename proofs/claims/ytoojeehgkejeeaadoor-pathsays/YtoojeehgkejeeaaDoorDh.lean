/-
  PathSays ANSWERS true: the walk.
-/
import Derived.Test.YtoojeehgkejeeaaDoorDg
namespace Go.Proofs.YtoojeehgkejeeaaDoor
open Go.RowKit

theorem cell_below {w w' : World} {m : Int} (hm : w.cell? ⟨1, 0, none⟩ = some (.int .i64 m)) (hb : Below w.heap.size w w') : w'.cell? ⟨1, 0, none⟩ = some (.int .i64 m) :=
  (hb.cell (p := ⟨1, 0, none⟩) (World.block_lt_of_cell? _ _ hm)).trans hm
theorem ab_zero : spF [47, 97, 47, 98] = 0 := by decide +kernel
theorem ab_two : spL [47, 97, 47, 98] = [⟨#[97]⟩, ⟨#[98]⟩] := by decide +kernel
theorem strs_two (w : World) (x y : ByteArray) : Strs (w.alloc (.cells #[.string x, .string y] 9)) (some ⟨w.heap.size, 0, none⟩) [x, y] := strs_pieces w [x, y]

set_option maxRecDepth 100000 in
set_option maxHeartbeats 1000000 in
theorem parts_any (w : World) (m : Int) (hm : w.cell? ⟨1, 0, none⟩ = some (.int .i64 m)) : Calls Tryd.prog 9 #[] w fun e w' => e = .returned (.bool true) ∧ Below w.heap.size w w' := by
  have HZ : Hid (spF (⟨#[47, 97, 47, 98]⟩ : ByteArray).data.toList = 0) := ab_zero
  have HT : Hid (spL (⟨#[47, 97, 47, 98]⟩ : ByteArray).data.toList = [⟨#[97]⟩, ⟨#[98]⟩]) := ab_two
  go_enter Tryd.func9, Tryd.ntmps9
  go_wp2_with fail
  refine (split_any ⟨#[47, 97, 47, 98]⟩ _ m hm).mono ?_
  rintro e w1 ⟨⟨ao, cp, rfl, _, _, hR⟩, hb⟩
  rw [HZ.out, HT.out]
  rw [HT.out] at hR
  rw [errV_nil rfl]
  go_wp2_with (go_at_call 6; refine (same_nil _).mono ?_; rintro e w' ⟨rfl, rfl⟩)
  refine (sameNames_any ao _ _ _ 2 2 [⟨#[97]⟩, ⟨#[98]⟩] [⟨#[97]⟩, ⟨#[98]⟩] _ rfl rfl (by decide) (by decide) (hR.below ((Below.refl _ _).alloc (Nat.le_refl _) _)) (strs_two w1 _ _)).mono ?_
  rintro e w2 ⟨rfl, hb2⟩
  go_wp2
  go_ret
  exact ⟨by simp, hb.trans ((((Below.refl _ _).alloc (Nat.le_refl _) _).trans (hb2.mono (by simp))).mono hb.size)⟩

theorem src_of_strs {w : World} {a : Option Addr} {xs : List ByteArray} (h : Strs w a xs) : (a = none ∧ xs.length = 0) ∨ ∃ ad, a = some ad ∧ ∀ j u, (xs.map Value.string)[j]? = some u → w.cell? (ad.add j) = some u := by
  rcases h with rfl | ⟨b, off, rfl, hc⟩
  · cases a with
    | none => exact .inl ⟨rfl, rfl⟩
    | some ad => exact .inr ⟨ad, rfl, fun j u hu => by simp at hu⟩
  · refine .inr ⟨_, rfl, fun j u hj => ?_⟩
    have e : (⟨b, off, none⟩ : Addr).add j = ⟨b, off + j, none⟩ := by by_cases hj0 : j = 0 <;> simp [Addr.add, hj0]
    rw [e]
    rw [List.getElem?_map] at hj
    cases hx : xs[j]? with
    | none => rw [hx] at hj; cases hj
    | some x => rw [hx] at hj; simp at hj; subst hj; exact hc j x hx
theorem one_strs (xs : List ByteArray) : ∀ u ∈ xs.map Value.string, u.oneCell' = true := by
  intro u hu; simp at hu; obtain ⟨x, _, rfl⟩ := hu; rfl

set_option maxRecDepth 100000 in
set_option maxHeartbeats 2000000 in
theorem pathSays_out (s : ByteArray) (a b : Option Addr) (c1 c2 : Nat) (xs ys : List ByteArray) (w : World) (m : Int) (hm : w.cell? ⟨1, 0, none⟩ = some (.int .i64 m)) (h : Strs w a xs) (h2 : Strs w b ys) (hout : 300 < s.size ∨ fewB xs = false ∨ fewB ys = false) :
    Calls Tryd.prog 4 #[.string s, .slice a xs.length c1, .slice b ys.length c2] w fun e w' => e = .returned (.bool true) ∧ Below w.heap.size w w' := by
  by_cases h3 : 300 < s.size
  · have d3 : decide (300 < (s.size : Int)) = true := decide_eq_true (by omega)
    go_enter Tryd.func4, Tryd.ntmps4
    go_wp2_with fail
    refine (parts_any _ m hm).mono ?_
    rintro e w1 ⟨rfl, hB⟩
    go_wp2
    go_ret
    exact ⟨rfl, hB⟩
  have d3 : decide (300 < (s.size : Int)) = false := decide_eq_false (by omega)
  obtain ⟨f1, F1⟩ : ∃ t, Hid (fewB xs = t) := ⟨_, rfl⟩
  obtain ⟨f2, F2⟩ : ∃ t, Hid (fewB ys = t) := ⟨_, rfl⟩
  have hff : f1 = false ∨ f2 = false := by rw [← F1.out, ← F2.out]; exact hout.resolve_left h3
  clear hout
  cases f1
  · go_enter Tryd.func4, Tryd.ntmps4
    go_wp2_with fail
    refine (parts_any _ m hm).mono ?_
    rintro e w1 ⟨rfl, hB⟩
    go_wp2_with fail
    refine (few_any a c1 xs _ (h.below hB)).mono ?_
    rintro e w' ⟨rfl, rfl⟩
    rw [F1.out]
    go_wp2
    go_ret
    exact ⟨rfl, hB⟩
  · have hf2 : f2 = false := by simpa using hff
    subst hf2
    clear hff
    go_enter Tryd.func4, Tryd.ntmps4
    go_wp2_with fail
    refine (parts_any _ m hm).mono ?_
    rintro e w1 ⟨rfl, hB⟩
    go_wp2_with fail
    refine (few_any a c1 xs _ (h.below hB)).mono ?_
    rintro e w' ⟨rfl, rfl⟩
    rw [F1.out]
    go_wp2_with fail
    refine (few_any b c2 ys _ (h2.below hB)).mono ?_
    rintro e w' ⟨rfl, rfl⟩
    rw [F2.out]
    go_wp2
    go_ret
    exact ⟨rfl, hB⟩

theorem few_parts {xs : List ByteArray} (h : fewB xs = true) : xs.length ≤ 12 ∧ ∀ x ∈ xs, x.size ≤ 60 := by
  unfold fewB at h
  simp only [Bool.and_eq_true, decide_eq_true_eq, List.all_eq_true] at h
  exact ⟨h.1, fun x hx => h.2 x hx⟩

set_option maxRecDepth 100000 in
set_option maxHeartbeats 4000000 in
theorem pathSays_in (s : ByteArray) (a b : Option Addr) (c1 c2 : Nat) (xs ys : List ByteArray) (w : World) (m : Int) (hm : w.cell? ⟨1, 0, none⟩ = some (.int .i64 m)) (hc1 : xs.length ≤ c1) (hm1 : c1 ≤ 9223372036854775807) (h : Strs w a xs) (h2 : Strs w b ys) (h3 : ¬ 300 < s.size) (F1 : Hid (fewB xs = true)) (F2 : Hid (fewB ys = true)) :
    Calls Tryd.prog 4 #[.string s, .slice a xs.length c1, .slice b ys.length c2] w fun e w' => e = .returned (.bool true) ∧ Below w.heap.size w w' := by
  have d3 : decide (300 < (s.size : Int)) = false := decide_eq_false (by omega)
  obtain ⟨hx12, hxz⟩ := few_parts F1.out
  obtain ⟨hy12, _⟩ := few_parts F2.out
  obtain ⟨i0, hi0, hz0, hz1, hz2⟩ := info_parts Tryd.info9
  have hF0 := spF_nonneg s.data.toList
  have hC0 : 0 ≤ chkF xs := by rcases chkF_cases xs with e | e | e <;> rw [e] <;> decide
  have hS80 := spL_length s.data.toList
  obtain ⟨F, HF⟩ : ∃ t, Hid (spF s.data.toList = t) := ⟨_, rfl⟩
  obtain ⟨S, HS⟩ : ∃ t, Hid (spL s.data.toList = t) := ⟨_, rfl⟩
  obtain ⟨C, HC⟩ : ∃ t, Hid (chkF xs = t) := ⟨_, rfl⟩
  obtain ⟨J, HJ⟩ : ∃ t, Hid (mkB (jnL xs) = t) := ⟨_, rfl⟩
  obtain ⟨N, HN⟩ : ∃ t, Hid (nameB s = t) := ⟨_, rfl⟩
  obtain ⟨U, HU⟩ : ∃ t, Hid (underB ys xs = t) := ⟨_, rfl⟩
  rw [HF.out] at hF0
  rw [HC.out] at hC0
  rw [HS.out] at hS80
  have y1 : (N != N) = false := by simp
  have y2 : (J.toList == J.toList) = true := by simp
  have y3 : (U == U) = true := by simp
  go_enter Tryd.func4, Tryd.ntmps4
  go_wp2_with fail
  refine (parts_any _ m hm).mono ?_
  rintro e w1 ⟨rfl, hB⟩
  go_wp2_with fail
  refine (few_any a c1 xs _ (h.below hB)).mono ?_
  rintro e w' ⟨rfl, rfl⟩
  rw [F1.out]
  go_wp2_with fail
  refine (few_any b c2 ys _ (h2.below hB)).mono ?_
  rintro e w' ⟨rfl, rfl⟩
  rw [F2.out]
  have hbs := hB.size
  go_wp2_with (at_builtin; refine wpList_append_src _ rfl (.const (.slice none 0 0)) (.tmp 36) 31 rfl w1.heap.size 9 i0 (.string ⟨#[]⟩) 1 16 Tryd.underlying31 hi0 hz0 hz1 hz2 rfl (by decide) _ 0 [] rfl (World.ownsRow_nil _ _ _ _) a xs.length c1 (xs.map Value.string) rfl (by simp) (src_of_strs (h.below hB)) (one_strs _) (by unfold maxLen; omega) (by omega) (Nat.le_refl _) ?_)
  intro v2 w2 hown2 hgrow2 _
  have hb2 : Below w1.heap.size w1 w2 := (Below.refl _ _).grown hgrow2 (Nat.le_refl _) (fun q e => by simp [Value.ownBlock] at e)
  have hB2 := hB.trans (hb2.mono hB.size)
  clear hgrow2
  have hown3 := hown2.alloc (.cells #[.string ⟨#[109, 97, 114, 107]⟩] 9)
  have hb3 := hb2.alloc hb2.size (.cells #[.string ⟨#[109, 97, 114, 107]⟩] 9)
  have hz3 := hb3.size
  go_wp2_with (at_builtin; refine wpList_append_src _ rfl (.tmp 37) (.tmp 38) 31 rfl w1.heap.size 9 i0 (.string ⟨#[]⟩) 1 16 Tryd.underlying31 hi0 hz0 hz1 hz2 rfl (by decide) _ xs.length (xs.map Value.string) rfl hown3 (some ⟨w2.heap.size, 0, none⟩) 1 1 [.string ⟨#[109, 97, 114, 107]⟩] rfl rfl (.inr ⟨_, rfl, new1 w2 _⟩) (one_str _) (by unfold maxLen; omega) (by omega) hz3 ?_)
  intro v4 w4 hown4 hgrow4 _
  have hb4 := hb3.grown hgrow4 hz3 (fun q e => (hown2.lt q e).1)
  have hB4 := hB.trans (hb4.mono hB.size)
  have hown5 : w4.ownsRow w1.heap.size 9 1 v4 (xs.length + 1) ((xs ++ [(⟨#[109, 97, 114, 107]⟩ : ByteArray)]).map Value.string) := by rw [List.map_append]; exact hown4
  obtain ⟨ao, co, hv, hco, hcm, hR0⟩ := strs_of_owns hown5
  subst hv
  have hR : Strs w4 ao xs := by
    have := hR0.take xs.length
    rwa [List.take_left'  rfl] at this
  unfold maxLen at hcm
  clear hown2 hown3 hown4 hown5 hgrow4 hB hB2 hb2 hb3 hb4 hz3 hR0 hbs
  go_wp2_with fail
  refine (split_any s _ m (cell_below hm hB4)).mono ?_
  rintro e w5 ⟨⟨aa, ca, rfl, _, _, hA5⟩, hb⟩
  have hB5 := hB4.trans (hb.mono hB4.size)
  have hR5 := hR.below hb
  clear hB4 hb hR
  rw [HF.out, HS.out]
  rw [HS.out] at hA5
  go_wp2_with fail
  refine (splitr_any s _ (by omega)).mono ?_
  rintro e w6 ⟨⟨ar, cr, rfl, hE6⟩, hb⟩
  have hB6 := hB5.trans (hb.mono hB5.size)
  have hR6 := hR5.below hb
  have hA6 := hA5.below hb
  clear hB5 hb hR5 hA5
  rw [HF.out, HS.out]
  rw [HS.out] at hE6
  go_wp2_with fail
  refine (join_any ao co xs _ (by omega) (by omega) hR6).mono ?_
  rintro e w7 ⟨rfl, hb⟩
  have hB7 := hB6.trans (hb.mono hB6.size)
  have hR7 := hR6.below hb
  have hA7 := hA6.below hb
  have hE7 := hE6.below hb
  clear hB6 hb hR6 hA6 hE6
  rw [HJ.out, HC.out]
  go_wp2_with fail
  refine (joinr_any a c1 xs _ (by omega) (fun x hx => Nat.le_trans (hxz x hx) (by decide)) (h.below hB7)).mono ?_
  rintro e w' ⟨rfl, rfl⟩
  rw [HJ.out, HC.out]
  go_wp2_with fail
  refine (name_any s _).mono ?_
  rintro e w' ⟨rfl, rfl⟩
  rw [HN.out]
  go_wp2_with fail
  refine (namer_any s _ (by omega)).mono ?_
  rintro e w' ⟨rfl, rfl⟩
  rw [HN.out]
  go_wp2_with (go_at_call 6; refine (same_errV F hF0 _).mono ?_; rintro e w' ⟨rfl, rfl⟩)
  refine (sameNames_any aa ar ca cr S.length S.length S S _ rfl rfl (by omega) (by omega) hA7 hE7).mono ?_
  rintro e w8 ⟨rfl, hb⟩
  have hB8 := hB7.trans (hb.mono hB7.size)
  have hR8 := hR7.below hb
  have hA8 := hA7.below hb
  have hE8 := hE7.below hb
  clear hB7 hb hR7 hA7 hE7
  rw [show decide (S = S) = true from decide_eq_true rfl]
  go_wp2_with (go_at_call 6; refine (same_errV C hC0 _).mono ?_; rintro e w' ⟨rfl, rfl⟩)
  refine (sameNames_any ao a co c1 xs.length xs.length xs xs _ rfl rfl (by omega) (by omega) hR8 (h.below hB8)).mono ?_
  rintro e w9 ⟨rfl, hb⟩
  have hB9 := hB8.trans (hb.mono hB8.size)
  have hR9 := hR8.below hb
  have hA9 := hA8.below hb
  have hE9 := hE8.below hb
  clear hB8 hb hR8 hA8 hE8
  rw [show decide (xs = xs) = true from decide_eq_true rfl]
  go_wp2_with fail
  refine (under_any b ao c2 co ys xs _ (by omega) (by omega) (h2.below hB9) hR9).mono ?_
  rintro e w' ⟨rfl, rfl⟩
  rw [HU.out]
  go_wp2_with fail
  refine (underr_any b a c2 c1 ys xs _ (by omega) (by omega) hc1 hm1 (h2.below hB9) (h.below hB9)).mono ?_
  rintro e w10 ⟨rfl, hb⟩
  have hB10 := hB9.trans (hb.mono hB9.size)
  have hR10 := hR9.below hb
  have hA10 := hA9.below hb
  have hE10 := hE9.below hb
  clear hB9 hb hR9 hA9 hE9
  rw [HU.out]
  go_wp2
  go_ret
  exact ⟨rfl, hB10⟩
end Go.Proofs.YtoojeehgkejeeaaDoor
