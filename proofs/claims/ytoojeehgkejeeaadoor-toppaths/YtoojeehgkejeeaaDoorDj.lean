/-
  NAMES THAT MAKE A PATH ARE ITS NAMES, AND A PATH IS WHAT ITS NAMES MAKE: the facts.
-/
import Derived.Test.YtoojeehgkejeeaaDoorDf
namespace Go.Proofs.YtoojeehgkejeeaaDoor
open Go.RowKit

theorem split_app : ∀ (x r : List UInt8), (∀ c ∈ x, c ≠ 47) → splitL (x ++ r) = splitP x r
  | [], r, _ => (splitP_none r).symm
  | c :: x, r, h => by
    have ih := split_app x r (fun d hd => h d (by simp [hd]))
    have hc : c ≠ 47 := h c (by simp)
    obtain ⟨y, ys, e⟩ := splitL_cons r
    rw [List.cons_append, splitL, if_neg hc, ih]
    simp [splitP, e]
theorem split_join : ∀ (l : List (List UInt8)) (x : List UInt8), (∀ y ∈ x :: l, ∀ c ∈ y, c ≠ 47) → splitL (x ++ (l.map (fun y => 47 :: y)).flatten) = x :: l
  | [], x, h => by rw [split_app _ _ (h x (by simp))]; simp [splitP_end]
  | y :: l, x, h => by
    rw [split_app _ _ (h x (by simp))]
    have ih := split_join l y (fun z hz => h z (List.mem_cons_of_mem _ hz))
    simp only [List.map_cons, List.flatten_cons, List.cons_append, splitP_slash, ih]
theorem join_split : ∀ r : List UInt8, ((splitL r).map (fun y => 47 :: y)).flatten = 47 :: r
  | [] => by simp [splitL]
  | c :: r => by
    have ih := join_split r
    by_cases h : c = 47
    · subst h; simp [splitL, ih]
    · obtain ⟨x, xs, e⟩ := splitL_cons r
      rw [e] at ih
      simp only [List.map_cons, List.flatten_cons, List.cons_append, List.cons.injEq, true_and] at ih
      simp [splitL, h, e, ih]
theorem name_slash {x : ByteArray} (h : nameB x = true) : ∀ c ∈ x.data.toList, c ≠ 47 := by
  intro c hc e
  subst e
  unfold nameB nameL at h
  rw [Bool.and_eq_true, List.all_eq_true] at h
  exact absurd (h.2 47 hc) (by decide)
theorem name_some {x : ByteArray} (h : nameB x = true) : x.data.toList ≠ [] := by
  intro e
  unfold nameB nameL at h
  rw [e] at h
  exact absurd h (by decide)
theorem pcs_names {xs : List ByteArray} (h : xs.all nameB = true) (hn : xs ≠ []) : pcsL ((xs.map (fun x => 47 :: x.data.toList)).flatten.drop 1) = xs := by
  cases xs with
  | nil => exact absurd rfl hn
  | cons x l =>
    rw [List.all_eq_true] at h
    have e : (((x :: l).map (fun x => 47 :: x.data.toList)).flatten.drop 1) = x.data.toList ++ ((l.map (·.data.toList)).map (fun y => 47 :: y)).flatten := by
      simp [Function.comp_def]
    rw [e]
    unfold pcsL
    rw [split_join _ _ (fun y hy => by
      rcases List.mem_cons.1 hy with rfl | hy
      · exact name_slash (h x (by simp))
      · obtain ⟨z, hz, rfl⟩ := List.mem_map.1 hy
        exact name_slash (h z (by simp [hz])))]
    exact (map_mkB (xs := x :: l) (L := x.data.toList :: l.map (·.data.toList)) rfl).symm
/-- Names that make a path are its names. -/
theorem names_path {xs : List ByteArray} (h : chkF xs = 0) : spF (jnL xs) = 0 ∧ spL (jnL xs) = xs := by
  obtain ⟨ha, h6⟩ := chk_zero h
  have hj : jnL xs = joinL xs := by unfold jnL; rw [if_pos h]
  rw [hj]
  by_cases hn : xs = []
  · subst hn
    exact ⟨by decide +kernel, by decide +kernel⟩
  · have hl := flat_len xs ha
    have hp := pcs_names ha hn
    have hjl : joinL xs = (xs.map (fun x => 47 :: x.data.toList)).flatten := by unfold joinL; rw [if_neg hn]
    rw [hjl]
    have hhd : ((xs.map (fun x => 47 :: x.data.toList)).flatten).head? = some 47 := by
      cases xs with
      | nil => exact absurd rfl hn
      | cons x l => simp
    have hne : (xs.map (fun x => 47 :: x.data.toList)).flatten ≠ [47] := by
      cases xs with
      | nil => exact absurd rfl hn
      | cons x l =>
        rw [List.all_eq_true] at ha
        have := name_some (ha x (by simp))
        intro e
        simp at e
        exact this (by simpa using e.1)
    have h0 : spF ((xs.map (fun x => 47 :: x.data.toList)).flatten) = 0 := by
      unfold spF
      rw [if_neg, if_neg hne, hp, h]
      rintro (e | e | e)
      · rw [e] at hhd; cases hhd
      · omega
      · exact e hhd
    exact ⟨h0, by unfold spL; rw [if_pos ⟨h0, hne⟩, hp]⟩
/-- A path is what its names make. -/
theorem path_names {l : List UInt8} (h : spF l = 0) : chkF (spL l) = 0 ∧ jnL (spL l) = l := by
  by_cases h47 : l = [47]
  · subst h47
    exact ⟨by decide +kernel, by decide +kernel⟩
  · have hL : spL l = pcsL (l.drop 1) := by unfold spL; rw [if_pos ⟨h, h47⟩]
    rw [hL]
    unfold spF at h
    split at h
    · cases h
    · rename_i hb
      refine ⟨h, ?_⟩
      have hn : pcsL (l.drop 1) ≠ [] := by unfold pcsL; intro e; exact splitL_ne _ (by simpa using e)
      unfold jnL joinL
      rw [if_pos h, if_neg hn]
      have e : (pcsL (l.drop 1)).map (fun x => 47 :: x.data.toList) = (splitL (l.drop 1)).map (fun y => 47 :: y) := by
        unfold pcsL; rw [List.map_map]; rfl
      rw [e, join_split]
      cases l with
      | nil => exact absurd (.inl rfl) hb
      | cons c r =>
        have : c = 47 := by
          refine Classical.byContradiction fun hc => hb (.inr (.inr ?_))
          simpa using hc
        subst this
        rfl
theorem spL_bad {l : List UInt8} (h : spF l ≠ 0) : spL l = [] := by unfold spL; rw [if_neg (fun e => h e.1)]
end Go.Proofs.YtoojeehgkejeeaaDoor
