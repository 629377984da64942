/-
  WHAT THE DOCUMENT's OWN Put MAKES OF A LIST, kid by kid: the facts of no program.
-/
import Derived.Test.YtkkhfnkmfkdhiabWnX
import Derived.Test.YtkkhfnkmfkdhiabNcX
namespace Go.Proofs.Ytkkhfnkmfkdhiab
open Go.RowKit

def cutO (cut : Bool) (x : Nd) : Option Nd := if cut = true then none else some x
/-- One kid. -/
def stepB (cut : Bool) (A : Int) (m : ByteArray) (x : Nd) (hx : Hd) (j : Nat) (e : ByteArray × Nd × Hd) (s : Khs × Bool) : Khs × Bool :=
  if (j : Int) = A then (if cut = true then s.1 else s.1 ++ [(m, x, hx)], true) else if A < 0 ∧ s.2 = false ∧ ltB m e.1 = true then (s.1 ++ [(m, x, hx)] ++ [e], true) else (s.1 ++ [e], s.2)
def stF (cut : Bool) (A : Int) (m : ByteArray) (x : Nd) (hx : Hd) (L : Khs) : Nat → Khs × Bool
  | 0 => ([], cut)
  | j + 1 => match L[j]? with
    | none => stF cut A m x hx L j
    | some e => stepB cut A m x hx j e (stF cut A m x hx L j)
theorem stF_next {cut : Bool} {A : Int} {m : ByteArray} {x : Nd} {hx : Hd} {L : Khs} {j : Nat} {e : ByteArray × Nd × Hd} (h : L[j]? = some e) : stF cut A m x hx L (j + 1) = stepB cut A m x hx j e (stF cut A m x hx L j) := by rw [stF, h]
theorem stF_len (cut : Bool) (A : Int) (m : ByteArray) (x : Nd) (hx : Hd) (L : Khs) : ∀ j, (stF cut A m x hx L j).1.length ≤ 2 * j
  | 0 => by simp [stF]
  | j + 1 => by
    have := stF_len cut A m x hx L j
    rw [stF]
    cases L[j]? with
    | none => show (stF cut A m x hx L j).1.length ≤ _; omega
    | some e =>
      show (stepB _ _ _ _ _ _ _ _).1.length ≤ _
      unfold stepB
      split
      · split
        · show (stF cut A m x hx L j).1.length ≤ _; omega
        · simp; omega
      · split <;> simp <;> omega
theorem stepB_mem {cut : Bool} {A : Int} {m : ByteArray} {x : Nd} {hx : Hd} {j : Nat} {e' : ByteArray × Nd × Hd} {s : Khs × Bool} {e : ByteArray × Nd × Hd} (h : e ∈ (stepB cut A m x hx j e' s).1) : e ∈ s.1 ∨ e = (m, x, hx) ∨ e = e' := by
  unfold stepB at h
  by_cases h1 : (j : Int) = A
  · rw [if_pos h1] at h
    cases cut with
    | true => exact .inl h
    | false =>
      replace h : e ∈ s.1 ++ [(m, x, hx)] := h
      simp only [List.mem_append, List.mem_singleton] at h
      rcases h with h | h
      · exact .inl h
      · exact .inr (.inl h)
  · rw [if_neg h1] at h
    by_cases h2 : A < 0 ∧ s.2 = false ∧ ltB m e'.1 = true
    · rw [if_pos h2] at h
      simp only [List.mem_append, List.mem_singleton] at h
      rcases h with (h | h) | h
      · exact .inl h
      · exact .inr (.inl h)
      · exact .inr (.inr h)
    · rw [if_neg h2] at h
      simp only [List.mem_append, List.mem_singleton] at h
      rcases h with h | h
      · exact .inl h
      · exact .inr (.inr h)
theorem stF_mem {cut : Bool} {A : Int} {m : ByteArray} {x : Nd} {hx : Hd} {L : Khs} : ∀ j, ∀ e ∈ (stF cut A m x hx L j).1, e = (m, x, hx) ∨ e ∈ L
  | 0, e, h => by simp [stF] at h
  | j + 1, e, h => by
    cases hj : L[j]? with
    | none => rw [stF, hj] at h; exact stF_mem j e h
    | some e' =>
      rw [stF_next hj] at h
      have hm : e' ∈ L := List.mem_of_getElem? hj
      rcases stepB_mem h with h | h | h
      · exact stF_mem j e h
      · exact .inl h
      · rw [h]; exact .inr hm
theorem take_next {α : Type} {L : List α} {j : Nat} {e : α} (h : L[j]? = some e) : L.take (j + 1) = L.take j ++ [e] := by rw [List.take_add_one, h]; rfl
/-- Where the name is. -/
theorem st_at {cut : Bool} {p : Nat} {m : ByteArray} {x : Nd} {hx : Hd} {L : Khs} : ∀ j, j ≤ L.length → stF cut (p : Int) m x hx L j = if j ≤ p then (L.take j, cut) else (L.take p ++ ((if cut = true then [] else [(m, x, hx)]) ++ (L.take j).drop (p + 1)), true)
  | 0, _ => by simp [stF]
  | j + 1, hj => by
    obtain ⟨e, he⟩ : ∃ e, L[j]? = some e := ⟨L[j], List.getElem?_eq_getElem _⟩
    rw [stF_next he, st_at j (by omega)]
    unfold stepB
    by_cases h1 : j < p
    · rw [if_pos (show j ≤ p by omega), if_pos (show j + 1 ≤ p by omega), if_neg (show ¬ (j : Int) = (p : Int) by omega), if_neg (fun q => absurd q.1 (show ¬ (p : Int) < 0 by omega)), take_next he]
    · by_cases h2 : j = p
      · subst h2
        rw [if_pos (Nat.le_refl j), if_neg (show ¬ j + 1 ≤ j by omega), if_pos (show (j : Int) = (j : Int) from rfl)]
        have : (L.take (j + 1)).drop (j + 1) = [] := List.drop_of_length_le (by simp; omega)
        rw [this]
        cases cut <;> simp
      · rw [if_neg (show ¬ j ≤ p by omega), if_neg (show ¬ j + 1 ≤ p by omega), if_neg (show ¬ (j : Int) = (p : Int) by omega), if_neg (fun q => absurd q.1 (show ¬ (p : Int) < 0 by omega)), take_next he]
        have : (L.take j ++ [e]).drop (p + 1) = (L.take j).drop (p + 1) ++ [e] := List.drop_append_of_le_length (by simp; omega)
        rw [this]; simp
/-- Where it is not. -/
theorem st_none {A : Int} {m : ByteArray} {x : Nd} {hx : Hd} {L : Khs} (hA : A < 0) : ∀ j, j ≤ L.length → stF false A m x hx L j = if j ≤ abvN m (bare L) then (L.take j, false) else (L.take (abvN m (bare L)) ++ ([(m, x, hx)] ++ (L.take j).drop (abvN m (bare L))), true)
  | 0, _ => by simp [stF]
  | j + 1, hj => by
    obtain ⟨e, he⟩ : ∃ e, L[j]? = some e := ⟨L[j], List.getElem?_eq_getElem _⟩
    have hb : (bare L)[j]? = some (e.1, e.2.1) := by unfold bare; rw [List.getElem?_map, he]; rfl
    rw [stF_next he, st_none hA j (by omega)]
    unfold stepB
    rw [if_neg (show ¬ (j : Int) = A by omega)]
    by_cases h1 : j < abvN m (bare L)
    · have hn : ¬ ltB m e.1 = true := by
        have := List.not_of_lt_findIdx h1
        obtain ⟨q1, q2⟩ := List.getElem?_eq_some_iff.1 hb
        rw [q2] at this
        simpa using this
      rw [if_pos (show j ≤ abvN m (bare L) by omega), if_pos (show j + 1 ≤ abvN m (bare L) by omega), if_neg (fun q => hn q.2.2), take_next he]
    · by_cases h2 : j = abvN m (bare L)
      · have hy : ltB m e.1 = true := by
          have hlt : abvN m (bare L) < (bare L).length := by rw [bare_length]; omega
          have := List.findIdx_getElem (w := hlt)
          obtain ⟨q1, q2⟩ := List.getElem?_eq_some_iff.1 hb
          have q3 : (bare L)[abvN m (bare L)]'hlt = (e.1, e.2.1) := by simp only [← h2]; exact q2
          unfold abvN at q3
          rw [q3] at this
          simpa using this
        rw [if_pos (show j ≤ abvN m (bare L) by omega), if_neg (show ¬ j + 1 ≤ abvN m (bare L) by omega), if_pos ⟨hA, rfl, hy⟩, take_next he, ← h2]
        have : (L.take j ++ [e]).drop j = [e] := by rw [List.drop_append_of_le_length (by simp; omega), List.drop_of_length_le (by simp; omega)]; rfl
        rw [this]; simp
      · rw [if_neg (show ¬ j ≤ abvN m (bare L) by omega), if_neg (show ¬ j + 1 ≤ abvN m (bare L) by omega), if_neg (fun q => Bool.noConfusion q.2.1), take_next he]
        have : (L.take j ++ [e]).drop (abvN m (bare L)) = (L.take j).drop (abvN m (bare L)) ++ [e] := List.drop_append_of_le_length (by simp; omega)
        rw [this]; simp
/-- At the end. -/
theorem st_fin {cut : Bool} {m : ByteArray} {x : Nd} {hx : Hd} {L : Khs} (hc : cut = true → ¬ kidI m (bare L) 0 < 0) :
    (if (stF cut (kidI m (bare L) 0) m x hx L L.length).2 = true then (stF cut (kidI m (bare L) 0) m x hx L L.length).1 else (stF cut (kidI m (bare L) 0) m x hx L L.length).1 ++ [(m, x, hx)]) = if cut = true then cutH m L else putH m x hx L := by
  rcases kidI_at m (bare L) 0 with ⟨hn, _⟩ | ⟨p, z, hp, hx', _⟩
  · have hcf : cut = false := by cases cut with
      | false => rfl
      | true => exact absurd (by rw [hn]; decide) (hc rfl)
    subst hcf
    rw [hn, st_none (by decide) _ (Nat.le_refl _)]
    have hab := abvN_le m (bare L)
    rw [bare_length] at hab
    show _ = putH m x hx L
    unfold putH
    rw [hn, if_pos (show (-1 : Int) < 0 by decide)]
    by_cases h : L.length ≤ abvN m (bare L)
    · have e : abvN m (bare L) = L.length := by omega
      rw [if_pos h, e, if_neg (show ¬ (L.take L.length, false).2 = true by simp), List.take_of_length_le (Nat.le_refl _), List.drop_of_length_le (Nat.le_refl _)]; rfl
    · rw [if_neg h, List.take_of_length_le (Nat.le_refl L.length)]; exact if_pos rfl
  · rw [Nat.zero_add] at hp
    have hlt : p < L.length := by have := (List.getElem?_eq_some_iff.1 hx').1; rwa [bare_length] at this
    rw [hp, st_at _ (Nat.le_refl _), if_neg (show ¬ L.length ≤ p by omega), List.take_of_length_le (Nat.le_refl L.length), if_pos (show (L.take p ++ ((if cut = true then [] else [(m, x, hx)]) ++ L.drop (p + 1)), true).2 = true from rfl)]
    cases cut with
    | true => show _ = cutH m L; unfold cutH; rw [hp]; rfl
    | false => show _ = putH m x hx L; unfold putH; rw [hp, if_neg (show ¬ (p : Int) < 0 by omega)]; rfl
end Go.Proofs.Ytkkhfnkmfkdhiab
