/-
  ATTRIBUTES, the facts of no program: names that may be, their classes, what is wrong with a list, where a name belongs, what is set and dropped.
-/
import Derived.WalkKit
import Derived.Lib.Strings
import Derived.Lib.IndexMore
namespace Go.Proofs.Ytkkhfnkmfkdhiab
open Go.RowKit

/-- May a name have that byte? -/
def signB (n : Int) : Bool := ((((decide (97 ≤ n) && decide (n ≤ 122)) || (decide (48 ≤ n) && decide (n ≤ 57))) || n == 46) || n == 95) || n == 45
/-- May it be a name? -/
def nameL (l : List UInt8) : Bool := ((((!l.isEmpty) && decide (l.length ≤ 12)) && !(l == [46])) && !(l == [46, 46])) && l.all (fun b => signB (b.toNat : Int))
def nameB (s : ByteArray) : Bool := nameL s.data.toList

/-- A name's class, as the document says it. -/
def classL (l : List UInt8) : Int := if nameL (l.drop 2) = true then (if l.take 2 = [117, 46] then 1 else if l.take 2 = [116, 46] then 2 else 0) else 0
def classB (s : ByteArray) : Int := classL s.data.toList
/-- .. as the program finds it: cut at the first dot. -/
theorem index_none (l : List UInt8) (h : l = []) : Lib.index l [46] = -1 := by subst h; simp [Lib.index]
theorem index_dot (l : List UInt8) : Lib.index (46 :: l) [46] = 0 := by rw [Lib.index]; simp [List.isPrefixOf]
theorem index_on (b : UInt8) (l : List UInt8) (h : b ≠ 46) : Lib.index (b :: l) [46] = if Lib.index l [46] == -1 then -1 else Lib.index l [46] + 1 := by
  have hp : ([46] : List UInt8).isPrefixOf (b :: l) = false := by simp [List.isPrefixOf, Ne.symm h]
  rw [Lib.index, hp]; simp
theorem cut_dot (l : List UInt8) : Lib.cut (46 :: l) [46] = ([], l, true) := by
  unfold Lib.cut; rw [index_dot]; simp
theorem cut_on (b : UInt8) (l : List UInt8) (h : b ≠ 46) : (Lib.cut (b :: l) [46]).1 = b :: (Lib.cut l [46]).1 ∧ (Lib.cut (b :: l) [46]).2.1 = (Lib.cut l [46]).2.1 := by
  have hge := Lib.index_ge l [46]
  unfold Lib.cut
  rw [index_on b l h]
  by_cases hm : Lib.index l [46] = -1
  · rw [hm]; simp
  · obtain ⟨j, hj⟩ : ∃ j : Nat, Lib.index l [46] = j := ⟨(Lib.index l [46]).toNat, by omega⟩
    have hb : (Lib.index l [46] == -1) = false := by simpa using hm
    rw [hb, hj]
    simp only [Bool.false_eq_true, if_false]
    rw [if_pos (by omega), if_pos (by omega)]
    have e1 : ((j : Int) + 1).toNat = j + 1 := by omega
    have e2 : ((j : Int)).toNat = j := by omega
    rw [e1, e2]
    simp
theorem class_cut (l : List UInt8) : classL l = if nameL (Lib.cut l [46]).2.1 = true then (if (Lib.cut l [46]).1 = [117] then 1 else if (Lib.cut l [46]).1 = [116] then 2 else 0) else 0 := by
  have n0 : nameL [] = false := rfl
  have c0 : Lib.cut [] [46] = ([], [], false) := by unfold Lib.cut; rw [index_none [] rfl]; rfl
  match l with
  | [] => rw [c0]; rfl
  | a :: l =>
    by_cases ha : a = 46
    · subst ha
      rw [cut_dot]
      unfold classL
      have e1 : ¬ (46 :: l).take 2 = [117, 46] := by simp
      have e2 : ¬ (46 :: l).take 2 = [116, 46] := by simp
      rw [if_neg e1, if_neg e2]
      simp
    · obtain ⟨h1, h2⟩ := cut_on a l ha
      rw [h1, h2]
      match l with
      | [] => rw [c0]; unfold classL; simp [n0]
      | b :: r =>
        by_cases hb : b = 46
        · subst hb
          rw [cut_dot]
          unfold classL
          simp
        · obtain ⟨h3, h4⟩ := cut_on b r hb
          rw [h3]
          unfold classL
          simp [hb]

/-- An attribute. -/
structure Kv where
  n : ByteArray
  v : ByteArray

/-- Is one name below another? -/
def ltB (a b : ByteArray) : Bool := Op.bytesLess a.toList b.toList
theorem less_irrefl : ∀ l : List UInt8, Op.bytesLess l l = false
  | [] => rfl
  | a :: l => by simp [Op.bytesLess, less_irrefl l]
theorem less_trans : ∀ {x y z : List UInt8}, Op.bytesLess x y = true → Op.bytesLess y z = true → Op.bytesLess x z = true
  | _, [], _, h, _ => by simp [Op.bytesLess] at h
  | _, _ :: _, [], _, h => by simp [Op.bytesLess] at h
  | [], _ :: _, _ :: _, _, _ => rfl
  | a :: x, b :: y, c :: z, h1, h2 => by
    simp only [Op.bytesLess, Bool.or_eq_true, Bool.and_eq_true, decide_eq_true_eq, beq_iff_eq] at h1 h2 ⊢
    rcases h1 with h1 | ⟨rfl, h1⟩
    · rcases h2 with h2 | ⟨rfl, h2⟩
      · exact .inl (UInt8.lt_trans h1 h2)
      · exact .inl h1
    · rcases h2 with h2 | ⟨rfl, h2⟩
      · exact .inl h2
      · exact .inr ⟨rfl, less_trans h1 h2⟩
theorem less_total : ∀ x y : List UInt8, Op.bytesLess x y = true ∨ x = y ∨ Op.bytesLess y x = true
  | [], [] => .inr (.inl rfl)
  | [], _ :: _ => .inl rfl
  | _ :: _, [] => .inr (.inr rfl)
  | a :: x, b :: y => by
    simp only [Op.bytesLess, Bool.or_eq_true, Bool.and_eq_true, decide_eq_true_eq, beq_iff_eq]
    rcases less_total x y with h | h | h
    · rcases UInt8.lt_or_lt_of_ne |> fun f => (Decidable.em (a = b)).imp_right f with e | e | e
      · exact .inl (.inr ⟨e, h⟩)
      · exact .inl (.inl e)
      · exact .inr (.inr (.inl e))
    · rcases UInt8.lt_or_lt_of_ne |> fun f => (Decidable.em (a = b)).imp_right f with e | e | e
      · exact .inr (.inl (by rw [e, h]))
      · exact .inl (.inl e)
      · exact .inr (.inr (.inl e))
    · rcases UInt8.lt_or_lt_of_ne |> fun f => (Decidable.em (a = b)).imp_right f with e | e | e
      · exact .inr (.inr (.inr ⟨e.symm, h⟩))
      · exact .inl (.inl e)
      · exact .inr (.inr (.inl e))
theorem toList_inj {x y : ByteArray} (h : x.toList = y.toList) : x = y := by
  rw [Lib.toList_data, Lib.toList_data] at h
  have : x.data = y.data := by
    cases hx : x.data; cases hy : y.data
    rw [hx, hy] at h
    simpa using h
  cases x; cases y; simpa using this
theorem ltB_irrefl (a : ByteArray) : ltB a a = false := less_irrefl _
theorem ltB_trans {a b c : ByteArray} (h1 : ltB a b = true) (h2 : ltB b c = true) : ltB a c = true := less_trans h1 h2
theorem ltB_total (a b : ByteArray) : ltB a b = true ∨ a = b ∨ ltB b a = true := by
  rcases less_total a.toList b.toList with h | h | h
  · exact .inl h
  · exact .inr (.inl (toList_inj h))
  · exact .inr (.inr h)
theorem ltB_asymm {a b : ByteArray} (h : ltB a b = true) : ltB b a = false := by
  cases h2 : ltB b a with
  | false => rfl
  | true => have := ltB_trans h h2; rw [ltB_irrefl] at this; cases this
theorem ltB_ne {a b : ByteArray} (h : ltB a b = true) : a ≠ b := by rintro rfl; rw [ltB_irrefl] at h; cases h
/-- Not above. -/
theorem leq_eq (a b : ByteArray) : (Op.bytesLess a.toList b.toList || a.toList == b.toList) = !(ltB b a) := by
  rcases ltB_total a b with h | h | h
  · rw [ltB_asymm h]; show (ltB a b || _) = _; rw [h]; rfl
  · subst h; rw [ltB_irrefl]; simp
  · rw [h]; show (ltB a b || _) = _; rw [ltB_asymm h]
    have : ¬ a.toList = b.toList := fun e => ltB_ne h (toList_inj e).symm
    simpa using this

/-- What is wrong with the k-th of a list. -/
def stepA (l : List Kv) (k : Nat) : Int := match l[k]? with
  | none => 0
  | some x => if classB x.n = 0 then 4 else if 20 < x.v.size then 1 else match k with
    | 0 => 0
    | j + 1 => match l[j]? with
      | none => 0
      | some p => if ltB p.n x.n = true then 0 else 3
/-- The first thing that is wrong with n of a list, from the k-th on. -/
def aF (l : List Kv) (k : Nat) : Nat → Int
  | 0 => 0
  | n + 1 => if stepA l k = 0 then aF l (k + 1) n else stepA l k
/-- What is wrong with a list. -/
def chkA (l : List Kv) : Int := if 4 < l.length then 2 else aF l 0 l.length
theorem aF_ok {l : List Kv} {k n : Nat} (h : stepA l k = 0) : aF l k (n + 1) = aF l (k + 1) n := by simp [aF, h]
theorem aF_bad {l : List Kv} {k n : Nat} (h : ¬ stepA l k = 0) : aF l k (n + 1) = stepA l k := by simp [aF, h]
theorem stepA_class {l : List Kv} {k : Nat} {x : Kv} (hx : l[k]? = some x) (h : classB x.n = 0) : stepA l k = 4 := by simp [stepA, hx, h]
theorem stepA_long {l : List Kv} {k : Nat} {x : Kv} (hx : l[k]? = some x) (h : classB x.n ≠ 0) (h2 : 20 < x.v.size) : stepA l k = 1 := by simp [stepA, hx, h, h2]
theorem stepA_first {l : List Kv} {x : Kv} (hx : l[0]? = some x) (h : classB x.n ≠ 0) (h2 : ¬ 20 < x.v.size) : stepA l 0 = 0 := by
  simp only [stepA, hx]; rw [if_neg h, if_neg h2]
theorem stepA_next {l : List Kv} {j : Nat} {x p : Kv} (hx : l[j + 1]? = some x) (hp : l[j]? = some p) (h : classB x.n ≠ 0) (h2 : ¬ 20 < x.v.size) : stepA l (j + 1) = if ltB p.n x.n = true then 0 else 3 := by
  simp only [stepA, hx, hp]; rw [if_neg h, if_neg h2]
theorem stepA_range (l : List Kv) (k : Nat) : 0 ≤ stepA l k ∧ stepA l k ≤ 4 := by
  unfold stepA
  split
  · decide
  · split
    · decide
    · split
      · decide
      · split
        · decide
        · split
          · decide
          · split <;> decide
theorem aF_range (l : List Kv) : ∀ n k, 0 ≤ aF l k n ∧ aF l k n ≤ 4
  | 0, _ => by simp [aF]
  | n + 1, k => by
    unfold aF
    split
    · exact aF_range l n (k + 1)
    · exact stepA_range l k
theorem chkA_range (l : List Kv) : 0 ≤ chkA l ∧ chkA l ≤ 4 := by
  unfold chkA
  split
  · decide
  · exact aF_range l _ _

/-- A list that may be. -/
def Good (l : List Kv) : Prop := l.length ≤ 4 ∧ (∀ x ∈ l, classB x.n ≠ 0 ∧ x.v.size ≤ 20) ∧ l.Pairwise (fun p x => ltB p.n x.n = true)
theorem aF_zero (l : List Kv) : ∀ n k, aF l k n = 0 ↔ ∀ j, k ≤ j → j < k + n → stepA l j = 0
  | 0, k => by simp [aF]; intro j h1 h2; omega
  | n + 1, k => by
    by_cases h : stepA l k = 0
    · rw [aF_ok h, aF_zero l n (k + 1)]
      constructor
      · intro H j h1 h2
        by_cases e : j = k
        · rw [e]; exact h
        · exact H j (by omega) (by omega)
      · intro H j h1 h2; exact H j (by omega) (by omega)
    · rw [aF_bad h]
      constructor
      · intro e; exact absurd e h
      · intro H; exact absurd (H k (Nat.le_refl _) (by omega)) h
theorem pair_of_adj : ∀ {l : List Kv}, (∀ j p x, l[j]? = some p → l[j + 1]? = some x → ltB p.n x.n = true) → l.Pairwise (fun p x => ltB p.n x.n = true)
  | [], _ => List.Pairwise.nil
  | [_], _ => by simp
  | a :: b :: l, h => by
    have ih : (b :: l).Pairwise (fun p x => ltB p.n x.n = true) := pair_of_adj fun j p x h1 h2 => h (j + 1) p x (by simpa using h1) (by simpa using h2)
    have hab : ltB a.n b.n = true := h 0 a b rfl rfl
    refine List.pairwise_cons.2 ⟨?_, ih⟩
    intro x hx
    rcases List.mem_cons.1 hx with rfl | hx
    · exact hab
    · exact ltB_trans hab ((List.pairwise_cons.1 ih).1 x hx)
theorem good_iff (l : List Kv) : chkA l = 0 ↔ Good l := by
  unfold chkA Good
  by_cases h4 : 4 < l.length
  · rw [if_pos h4]
    constructor
    · intro h; cases h
    · intro h; omega
  · rw [if_neg h4, aF_zero]
    constructor
    · intro H
      refine ⟨by omega, ?_, ?_⟩
      · intro x hx
        obtain ⟨j, hj⟩ := List.getElem?_of_mem hx
        have hjl := (List.getElem?_eq_some_iff.1 hj).1
        have hs := H j (Nat.zero_le _) (by omega)
        by_cases hc : classB x.n = 0
        · rw [stepA_class hj hc] at hs; cases hs
        · refine ⟨hc, ?_⟩
          by_cases hv : 20 < x.v.size
          · rw [stepA_long hj hc hv] at hs; cases hs
          · omega
      · refine pair_of_adj fun j p x h1 h2 => ?_
        have hjl := (List.getElem?_eq_some_iff.1 h2).1
        have hs := H (j + 1) (Nat.zero_le _) (by omega)
        by_cases hc : classB x.n = 0
        · rw [stepA_class h2 hc] at hs; cases hs
        · by_cases hv : 20 < x.v.size
          · rw [stepA_long h2 hc hv] at hs; cases hs
          · rw [stepA_next h2 h1 hc hv] at hs
            split at hs
            · assumption
            · cases hs
    · rintro ⟨_, H1, H2⟩ j _ hj
      obtain ⟨x, hx⟩ : ∃ x, l[j]? = some x := ⟨l[j]'(by omega), List.getElem?_eq_getElem _⟩
      obtain ⟨hc, hv⟩ := H1 x (List.mem_of_getElem? hx)
      match j with
      | 0 => exact stepA_first hx hc (by omega)
      | i + 1 =>
        obtain ⟨p, hp⟩ : ∃ p, l[i]? = some p := ⟨l[i]'(by omega), List.getElem?_eq_getElem _⟩
        rw [stepA_next hx hp hc (by omega), if_pos]
        have e1 := (List.getElem?_eq_some_iff.1 hx).2
        have e2 := (List.getElem?_eq_some_iff.1 hp).2
        have := List.pairwise_iff_getElem.1 H2 i (i + 1) (by omega) (by omega) (by omega)
        rw [e1, e2] at this
        exact this
end Go.Proofs.Ytkkhfnkmfkdhiab
