/-
  TREES, the facts of no program: what a change leaves, what is found then, what may be.
-/
import Derived.Test.YtkkhfnkmfkdhiabNb
namespace Go.Proofs.Ytkkhfnkmfkdhiab
open Go.RowKit

/-- The first kid of a name. -/
def fk (m : ByteArray) : Kds → Option Nd
  | [] => none
  | (n, x) :: l => if n = m then some x else fk m l
/-- Another node in the place of the first kid of a name. -/
def setk (m : ByteArray) (z : Nd) : Kds → Kds
  | [] => []
  | (n, x) :: l => if n = m then (m, z) :: l else (n, x) :: setk m z l
def insk (m : ByteArray) (z : Nd) : Kds → Kds
  | [] => [(m, z)]
  | (n, x) :: l => if ltB m n = true then (m, z) :: (n, x) :: l else (n, x) :: insk m z l
def delk (m : ByteArray) : Kds → Kds
  | [] => []
  | (n, x) :: l => if n = m then l else (n, x) :: delk m l
theorem kid_parts (m : ByteArray) : ∀ (ks : Kds) (i : Nat), (kidI m ks i = -1 ∧ fk m ks = none) ∨ ∃ j y, kidI m ks i = ((i + j : Nat) : Int) ∧ ks[j]? = some (m, y) ∧ fk m ks = some y ∧ (∀ z, ks.set j (m, z) = setk m z ks) ∧ ks.take j ++ ks.drop (j + 1) = delk m ks ∧ ∀ z, ks.take j ++ (m, z) :: ks.drop (j + 1) = setk m z ks
  | [], i => .inl ⟨by rw [kidI], rfl⟩
  | (n, x) :: l, i => by
    rw [kidI, fk]
    by_cases h : n = m
    · rw [if_pos h, if_pos h]
      refine .inr ⟨0, x, by simp, by simp [h], rfl, fun z => by simp [setk, h], by simp [delk, h], fun z => by simp [setk, h]⟩
    · rw [if_neg h, if_neg h]
      rcases kid_parts m l (i + 1) with ⟨h1, h2⟩ | ⟨j, y, h1, h2, h3, h4, h5, h6⟩
      · exact .inl ⟨h1, h2⟩
      · refine .inr ⟨j + 1, y, by rw [h1]; congr 1; omega, by simpa using h2, h3, fun z => by simp [setk, h, h4 z], by simp [delk, h, ← h5], fun z => by simp [setk, h, ← h6 z]⟩
theorem kid_none {m : ByteArray} {ks : Kds} : kidI m ks 0 < 0 ↔ fk m ks = none := by
  rcases kid_parts m ks 0 with ⟨h1, h2⟩ | ⟨j, y, h1, _, h3, _⟩
  · rw [h1, h2]; simp
  · rw [h1, h3]; simp
theorem abv_ins (m : ByteArray) (x : Nd) : ∀ ks : Kds, ks.take (abvN m ks) ++ (m, x) :: ks.drop (abvN m ks) = insk m x ks
  | [] => rfl
  | (n, y) :: l => by
    have e : abvN m ((n, y) :: l) = if ltB m n = true then 0 else abvN m l + 1 := by
      unfold abvN
      rw [List.findIdx_cons]
      cases ltB m n <;> simp
    rw [e, insk]
    by_cases h : ltB m n = true
    · rw [if_pos h, if_pos h]; rfl
    · rw [if_neg h, if_neg h, ← abv_ins m x l]; simp
theorem put_eq (m : ByteArray) (x : Nd) (ks : Kds) : putK m x ks = if fk m ks = none then insk m x ks else setk m x ks := by
  unfold putK
  rcases kid_parts m ks 0 with ⟨h1, h2⟩ | ⟨j, y, h1, _, h3, _, _, h6⟩
  · rw [if_pos (by rw [h1]; decide), if_pos h2, abv_ins]
  · rw [if_neg (by rw [h1]; omega), if_neg (by rw [h3]; simp), h1]
    have e : ((0 + j : Nat) : Int).toNat = j := by simp
    rw [e, h6]
theorem cut_eq {m : ByteArray} {ks : Kds} (h : fk m ks ≠ none) : cutK m ks = delk m ks := by
  unfold cutK
  rcases kid_parts m ks 0 with ⟨h1, h2⟩ | ⟨j, y, h1, _, h3, _, h5, _⟩
  · exact absurd h2 h
  · rw [h1]
    have e : ((0 + j : Nat) : Int).toNat = j := by simp
    rw [e, h5]
theorem find_fk (m : ByteArray) (l : List ByteArray) (x : Nd) : findF (m :: l) x = if x.kind ≠ 2 then none else match fk m x.kids with
  | none => none
  | some y => findF l y := by
  rw [findF]
  by_cases hk : x.kind ≠ 2
  · rw [if_pos (.inl hk), if_pos hk]
  · rw [if_neg hk]
    rcases kid_parts m x.kids 0 with ⟨h1, h2⟩ | ⟨j, y, h1, h2, h3, _⟩
    · rw [if_pos (.inr (by rw [h1]; decide)), h2]
    · rw [if_neg (fun q => by rcases q with q | q; exact hk q; rw [h1] at q; omega), h3, h1]
      have e : ((0 + j : Nat) : Int).toNat = j := by simp
      have e2 : x.kid j = y := by unfold Nd.kid; rw [h2]
      rw [e, e2]
theorem chg_fk (c : Option Nd) (m m' : ByteArray) (l : List ByteArray) (x : Nd) : chgF c (m :: m' :: l) x = if x.kind ≠ 2 then .error 7 else match fk m x.kids with
  | none => .error 5
  | some y => (chgF c (m' :: l) y).map fun z => x.with (setk m z x.kids) := by
  rw [chgF]
  by_cases hk : x.kind ≠ 2
  · rw [if_pos hk, if_pos hk]
  · rw [if_neg hk, if_neg hk]
    rcases kid_parts m x.kids 0 with ⟨h1, h2⟩ | ⟨j, y, h1, h2, h3, h4, _⟩
    · rw [if_pos (by rw [h1]; decide), h2]
    · rw [if_neg (by rw [h1]; omega), h3, h1]
      have e : ((0 + j : Nat) : Int).toNat = j := by simp
      have e2 : x.kid j = y := by unfold Nd.kid; rw [h2]
      rw [e, e2]
      congr 1
      funext z
      rw [h4]
/-- The last step, by the first kid of a name. -/
def lastG (c : Option Nd) (m : ByteArray) (ks : Kds) : Except Int Kds := match c with
  | some x => if nameB m = false then .error 4 else .ok (if fk m ks = none then insk m x ks else setk m x ks)
  | none => if fk m ks = none then .error 5 else .ok (delk m ks)
theorem last_eq (c : Option Nd) (m : ByteArray) (ks : Kds) : lastF c m ks = lastG c m ks := by
  cases c with
  | some x => simp only [lastF, lastG, put_eq]
  | none =>
    simp only [lastF, lastG]
    by_cases h : fk m ks = none
    · rw [if_pos h, if_pos (kid_none.2 h)]
    · rw [if_neg h, if_neg (fun q => h (kid_none.1 q)), cut_eq h]
theorem chg_one (c : Option Nd) (m : ByteArray) (x : Nd) : chgF c [m] x = if x.kind ≠ 2 then .error 7 else (lastG c m x.kids).map x.with := by rw [chgF, last_eq]
theorem with_kids (x : Nd) (ks : Kds) : (x.with ks).kids = ks := by obtain ⟨k, m, u, g, o, at_, d, ks'⟩ := x; rfl
theorem with_kind (x : Nd) (ks : Kds) : (x.with ks).kind = x.kind := by obtain ⟨k, m, u, g, o, at_, d, ks'⟩ := x; rfl

theorem fk_set {m : ByteArray} {z : Nd} : ∀ {ks : Kds}, fk m ks ≠ none → fk m (setk m z ks) = some z
  | [], h => absurd rfl h
  | (n, x) :: l, h => by
    rw [setk]
    by_cases e : n = m
    · rw [if_pos e, fk, if_pos rfl]
    · rw [if_neg e, fk, if_neg e]; exact fk_set (by rw [fk, if_neg e] at h; exact h)
theorem fk_set_ne {m m2 : ByteArray} {z : Nd} (hne : m2 ≠ m) : ∀ ks : Kds, fk m2 (setk m z ks) = fk m2 ks
  | [] => rfl
  | (n, x) :: l => by
    rw [setk]
    by_cases e : n = m
    · rw [if_pos e, fk, fk, if_neg (fun q => hne q.symm), if_neg (fun q => hne (by rw [← q, e]))]
    · rw [if_neg e, fk, fk, fk_set_ne hne l]
theorem fk_ins {m : ByteArray} {z : Nd} : ∀ {ks : Kds}, fk m ks = none → fk m (insk m z ks) = some z
  | [], _ => by rw [insk, fk, if_pos rfl]
  | (n, x) :: l, h => by
    have hn : n ≠ m := fun e => by rw [fk, if_pos e] at h; cases h
    rw [insk]
    by_cases e : ltB m n = true
    · rw [if_pos e, fk, if_pos rfl]
    · rw [if_neg e, fk, if_neg hn]; exact fk_ins (by rw [fk, if_neg hn] at h; exact h)
theorem fk_ins_ne {m m2 : ByteArray} {z : Nd} (hne : m2 ≠ m) : ∀ ks : Kds, fk m2 (insk m z ks) = fk m2 ks
  | [] => by show (if m = m2 then some z else none) = none; rw [if_neg (fun q => hne q.symm)]
  | (n, x) :: l => by
    rw [insk]
    by_cases e : ltB m n = true
    · rw [if_pos e, fk, if_neg (fun q => hne q.symm)]
    · rw [if_neg e, fk, fk, fk_ins_ne hne l]
theorem fk_del_ne {m m2 : ByteArray} (hne : m2 ≠ m) : ∀ ks : Kds, fk m2 (delk m ks) = fk m2 ks
  | [] => rfl
  | (n, x) :: l => by
    rw [delk]
    by_cases e : n = m
    · rw [if_pos e, fk, if_neg (fun q => hne (by rw [← q, e]))]
    · rw [if_neg e, fk, fk, fk_del_ne hne l]

/-- What is put is there. -/
theorem find_put {x : Nd} : ∀ {l : List ByteArray} {n r : Nd}, chgF (some x) l n = .ok r → findF l r = some x
  | [], n, r, h => by rw [chgF] at h; cases h
  | [m], n, r, h => by
    rw [chg_one] at h
    by_cases hk : n.kind ≠ 2
    · rw [if_pos hk] at h; cases h
    rw [if_neg hk] at h
    simp only [lastG] at h
    by_cases hn : nameB m = false
    · rw [if_pos hn] at h; cases h
    rw [if_neg hn] at h
    simp only [Except.map, Except.ok.injEq] at h
    subst h
    rw [find_fk, with_kind, if_neg hk, with_kids]
    by_cases hf : fk m n.kids = none
    · rw [if_pos hf, fk_ins hf]; rfl
    · rw [if_neg hf, fk_set hf]; rfl
  | m :: m' :: l, n, r, h => by
    rw [chg_fk] at h
    by_cases hk : n.kind ≠ 2
    · rw [if_pos hk] at h; cases h
    rw [if_neg hk] at h
    cases hf : fk m n.kids with
    | none => rw [hf] at h; cases h
    | some y =>
      rw [hf] at h
      simp only at h
      cases hc : chgF (some x) (m' :: l) y with
      | error f => rw [hc] at h; cases h
      | ok z =>
        rw [hc] at h
        simp only [Except.map, Except.ok.injEq] at h
        subst h
        rw [find_fk, with_kind, if_neg hk, with_kids, fk_set (by rw [hf]; simp)]
        exact find_put hc
/-- What is elsewhere is what it was. -/
theorem find_else {c : Option Nd} : ∀ {l other : List ByteArray} {n r : Nd}, chgF c l n = .ok r → ¬ l <+: other → ¬ other <+: l → findF other r = findF other n
  | l, [], n, r, h, _, h2 => absurd (List.nil_prefix) h2
  | [], o :: other, n, r, h, h1, _ => absurd (List.nil_prefix) h1
  | [m], o :: other, n, r, h, h1, h2 => by
    have hom : o ≠ m := fun e => h1 (by rw [e]; exact ⟨other, rfl⟩)
    rw [chg_one] at h
    by_cases hk : n.kind ≠ 2
    · rw [if_pos hk] at h; cases h
    rw [if_neg hk] at h
    cases hl : lastG c m n.kids with
    | error f => rw [hl] at h; cases h
    | ok ks =>
      rw [hl] at h
      simp only [Except.map, Except.ok.injEq] at h
      subst h
      rw [find_fk, find_fk, with_kind, with_kids]
      have : fk o ks = fk o n.kids := by
        cases c with
        | some x =>
          simp only [lastG] at hl
          by_cases hn : nameB m = false
          · rw [if_pos hn] at hl; cases hl
          rw [if_neg hn] at hl
          simp only [Except.ok.injEq] at hl
          subst hl
          split
          · exact fk_ins_ne hom _
          · exact fk_set_ne hom _
        | none =>
          simp only [lastG] at hl
          by_cases hn : fk m n.kids = none
          · rw [if_pos hn] at hl; cases hl
          rw [if_neg hn] at hl
          simp only [Except.ok.injEq] at hl
          subst hl
          exact fk_del_ne hom _
      rw [this]
  | m :: m' :: l, o :: other, n, r, h, h1, h2 => by
    rw [chg_fk] at h
    by_cases hk : n.kind ≠ 2
    · rw [if_pos hk] at h; cases h
    rw [if_neg hk] at h
    cases hf : fk m n.kids with
    | none => rw [hf] at h; cases h
    | some y =>
      rw [hf] at h
      simp only at h
      cases hc : chgF c (m' :: l) y with
      | error f => rw [hc] at h; cases h
      | ok z =>
        rw [hc] at h
        simp only [Except.map, Except.ok.injEq] at h
        subst h
        rw [find_fk, find_fk, with_kind, if_neg hk, if_neg hk, with_kids]
        by_cases hom : o = m
        · subst hom
          rw [fk_set (by rw [hf]; simp), hf]
          exact find_else hc (fun q => h1 (List.cons_prefix_cons.2 ⟨rfl, q⟩)) (fun q => h2 (List.cons_prefix_cons.2 ⟨rfl, q⟩))
        · rw [fk_set_ne hom]
/-- What can't be cut isn't there. -/
theorem cut_err {f : Int} : ∀ {l : List ByteArray} {n : Nd}, chgF none l n = .error f → l = [] ∨ findF l n = none
  | [], n, h => .inl rfl
  | [m], n, h => by
    right
    rw [chg_one] at h
    rw [find_fk]
    by_cases hk : n.kind ≠ 2
    · rw [if_pos hk]
    rw [if_neg hk] at h ⊢
    simp only [lastG] at h
    by_cases hn : fk m n.kids = none
    · rw [hn]
    · rw [if_neg hn] at h; cases h
  | m :: m' :: l, n, h => by
    right
    rw [chg_fk] at h
    rw [find_fk]
    by_cases hk : n.kind ≠ 2
    · rw [if_pos hk]
    rw [if_neg hk] at h ⊢
    cases hf : fk m n.kids with
    | none => rfl
    | some y =>
      rw [hf] at h
      simp only at h ⊢
      cases hc : chgF none (m' :: l) y with
      | ok z => rw [hc] at h; cases h
      | error g =>
        rcases cut_err hc with e | e
        · cases e
        · exact e
theorem chg_err7 {c : Option Nd} {l : List ByteArray} {n : Nd} {f : Int} (h : chgF c l n = .error f) : 0 < f ∧ f ≤ 7 := by
  revert n
  induction l with
  | nil => intro n h; rw [chgF] at h; simp only [Except.error.injEq] at h; omega
  | cons m l ih =>
    intro n h
    cases l with
    | nil =>
      rw [chg_one] at h
      by_cases hk : n.kind ≠ 2
      · rw [if_pos hk] at h; simp only [Except.error.injEq] at h; omega
      rw [if_neg hk] at h
      cases c with
      | some x =>
        simp only [lastG] at h
        by_cases hn : nameB m = false
        · rw [if_pos hn] at h; simp only [Except.map, Except.error.injEq] at h; omega
        · rw [if_neg hn] at h; cases h
      | none =>
        simp only [lastG] at h
        by_cases hn : fk m n.kids = none
        · rw [if_pos hn] at h; simp only [Except.map, Except.error.injEq] at h; omega
        · rw [if_neg hn] at h; cases h
    | cons m' l =>
      rw [chg_fk] at h
      by_cases hk : n.kind ≠ 2
      · rw [if_pos hk] at h; simp only [Except.error.injEq] at h; omega
      rw [if_neg hk] at h
      cases hf : fk m n.kids with
      | none => rw [hf] at h; simp only [Except.error.injEq] at h; omega
      | some y =>
        rw [hf] at h
        simp only at h
        cases hc : chgF c (m' :: l) y with
        | ok z => rw [hc] at h; cases h
        | error g => rw [hc] at h; simp only [Except.map, Except.error.injEq] at h; subst h; exact ih hc
end Go.Proofs.Ytkkhfnkmfkdhiab
