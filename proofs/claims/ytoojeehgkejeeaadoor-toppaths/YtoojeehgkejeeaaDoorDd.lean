/-
  A TEXT CUT AT EACH SLASH, AND NAMES JOINED BY THEM: the facts, of no program.
-/
import Derived.Test.YtoojeehgkejeeaaDoorDc
import Derived.Lib.SplitLaws
import Derived.Test.YtoojeehgkejeeaaDoorSh
namespace Go.Proofs.YtoojeehgkejeeaaDoor
open Go.RowKit

/-- A text cut at each slash. -/
def splitL : List UInt8 → List (List UInt8)
  | [] => [[]]
  | c :: l => if c = 47 then [] :: splitL l else match splitL l with
    | x :: xs => (c :: x) :: xs
    | [] => [[c]]
theorem splitL_ne : ∀ l, splitL l ≠ []
  | [] => by simp [splitL]
  | c :: l => by
    unfold splitL
    split
    · simp
    · split <;> simp
theorem splitL_cons (l : List UInt8) : ∃ x xs, splitL l = x :: xs := by
  cases h : splitL l with
  | nil => exact absurd h (splitL_ne l)
  | cons x xs => exact ⟨x, xs, rfl⟩
/-- .. with what stands ahead of the first piece. -/
def splitP (cur l : List UInt8) : List (List UInt8) := match splitL l with
  | x :: xs => (cur ++ x) :: xs
  | [] => [cur]
theorem splitP_none (l : List UInt8) : splitP [] l = splitL l := by
  obtain ⟨x, xs, h⟩ := splitL_cons l
  simp [splitP, h]
theorem splitP_end (cur : List UInt8) : splitP cur [] = [cur] := by simp [splitP, splitL]
theorem splitP_slash (cur l : List UInt8) : splitP cur (47 :: l) = cur :: splitL l := by simp [splitP, splitL]
theorem splitP_on (cur l : List UInt8) (c : UInt8) (h : c ≠ 47) : splitP cur (c :: l) = splitP (cur ++ [c]) l := by
  obtain ⟨x, xs, e⟩ := splitL_cons l
  simp [splitP, splitL, h, e]

theorem index_slash (l : List UInt8) : Lib.index (47 :: l) [47] = 0 := by rw [Lib.index]; simp [List.isPrefixOf]
theorem index_on (b : UInt8) (l : List UInt8) (h : b ≠ 47) : Lib.index (b :: l) [47] = if Lib.index l [47] == -1 then -1 else Lib.index l [47] + 1 := by
  have hp : ([47] : List UInt8).isPrefixOf (b :: l) = false := by simp [List.isPrefixOf, Ne.symm h]
  rw [Lib.index, hp]; simp
theorem splitK_eq : ∀ l : List UInt8, Lib.splitK [47] 0 (Lib.count l [47]) l = splitL l
  | [] => by rw [Lib.count_miss (by simp [Lib.index])]; rfl
  | b :: l => by
    have ih := splitK_eq l
    by_cases h : b = 47
    · subst h
      rw [Lib.count_cons_eq, Nat.add_comm, Lib.splitK, if_neg (by rw [index_slash]; decide), index_slash]
      simp [splitL, ih]
    · rw [Lib.count_cons_ne b 47 l h]
      cases hn : Lib.count l [47] with
      | zero =>
        rw [hn] at ih
        have e : splitL l = [l] := ih.symm
        simp [Lib.splitK, splitL, h, e]
      | succ k =>
        rw [hn] at ih
        have hm : ¬ Lib.index l [47] = -1 := fun e => by rw [Lib.count_miss e] at hn; cases hn
        have hge := Lib.index_ge l [47]
        obtain ⟨j, hj⟩ : ∃ j : Nat, Lib.index l [47] = j := ⟨(Lib.index l [47]).toNat, by omega⟩
        have hix : Lib.index (b :: l) [47] = ((j + 1 : Nat) : Int) := by rw [index_on b l h, if_neg (fun e => hm (beq_iff_eq.1 e)), hj]; omega
        rw [Lib.splitK, if_neg (by rw [hj]; intro e; have := beq_iff_eq.1 e; omega), hj] at ih
        rw [Lib.splitK, if_neg (by rw [hix]; intro e; have := beq_iff_eq.1 e; omega), hix]
        simp only [splitL, h, if_false, ← ih]
        simp

/-- Bytes as a text. -/
def mkB (l : List UInt8) : ByteArray := ⟨l.toArray⟩
theorem mkB_data (l : List UInt8) : (mkB l).data.toList = l := rfl
theorem data_mkB (s : ByteArray) : mkB s.data.toList = s := by cases s; rfl
theorem map_mkB {xs : List ByteArray} {L : List (List UInt8)} (h : xs.map (·.data.toList) = L) : xs = L.map mkB := by
  subst h
  rw [List.map_map]
  conv => lhs; rw [← List.map_id xs]
  apply List.map_congr_left
  intro x _
  exact (data_mkB x).symm
/-- The pieces of a text. -/
def pcsL (l : List UInt8) : List ByteArray := (splitL l).map mkB
theorem splitB_eq (s : ByteArray) : Lib.splitB ⟨#[47]⟩ 0 (Lib.countB s ⟨#[47]⟩) s = pcsL s.data.toList := by
  refine map_mkB ?_
  rw [Lib.splitB_data]
  exact splitK_eq s.data.toList
theorem pcsL_length (s : ByteArray) : (pcsL s.data.toList).length = Lib.countB s ⟨#[47]⟩ + 1 := by
  rw [← splitB_eq]; exact Lib.splitB_all _ (by decide) 0 _ s rfl

/-- What is wrong with a path. -/
def spF (l : List UInt8) : Int := if l = [] ∨ 79 < l.length ∨ l.head? ≠ some 47 then 4 else if l = [47] then 0 else chkF (pcsL (l.drop 1))
/-- Its names. -/
def spL (l : List UInt8) : List ByteArray := if spF l = 0 ∧ l ≠ [47] then pcsL (l.drop 1) else []
theorem chkF_cases (xs : List ByteArray) : chkF xs = 0 ∨ chkF xs = 2 ∨ chkF xs = 4 := by
  unfold chkF
  split
  · split
    · exact .inr (.inl rfl)
    · exact .inl rfl
  · exact .inr (.inr rfl)
theorem spF_nonneg (l : List UInt8) : 0 ≤ spF l := by
  unfold spF
  split
  · decide
  · split
    · decide
    · rcases chkF_cases (pcsL (l.drop 1)) with h | h | h <;> rw [h] <;> decide
theorem splitL_length : ∀ l : List UInt8, (splitL l).length ≤ l.length + 1
  | [] => by simp [splitL]
  | c :: l => by
    have ih := splitL_length l
    unfold splitL
    split
    · simp; omega
    · split
      · rename_i x xs e; rw [e] at ih; simp at ih ⊢; omega
      · simp
theorem spL_length (l : List UInt8) : (spL l).length ≤ 80 := by
  unfold spL
  split
  · rename_i h
    have h79 : l.length ≤ 79 := by
      refine Nat.le_of_not_lt fun hlt => ?_
      have : spF l = 4 := by unfold spF; rw [if_pos (.inr (.inl hlt))]
      rw [this] at h; simp at h
    have := splitL_length (l.drop 1)
    simp [pcsL] at this ⊢; omega
  · simp

/-- Names joined. -/
def joinL (xs : List ByteArray) : List UInt8 := if xs = [] then [47] else (xs.map (fun x => 47 :: x.data.toList)).flatten
def jnL (xs : List ByteArray) : List UInt8 := if chkF xs = 0 then joinL xs else []
theorem inter_slash : ∀ xs : List (List UInt8), xs ≠ [] → 47 :: Lib.join xs [47] = (xs.map (fun x => 47 :: x)).flatten
  | [], h => absurd rfl h
  | [x], _ => by simp [Lib.join, List.intercalate]
  | x :: y :: l, _ => by
    have ih := inter_slash (y :: l) (by simp)
    simp only [Lib.join, List.intercalate, List.intersperse, List.flatten_cons, List.map_cons] at ih ⊢
    rw [← ih]
    simp
end Go.Proofs.YtoojeehgkejeeaaDoor
