/-
  TREES, the facts of no program: what a change leaves, what is found then, what may be.
  TREES, the facts of no program: bounds of what a change makes; trees that may be, and that stay so.
  TREES, the facts of no program: trees that may be, and that stay so when something is cut.
-/
import Derived.Test.YtkkhfnkmfkdhiabNaX
import Derived.Test.YtkkhfnkmfkdhiabWaX
namespace Go.Proofs.Ytkkhfnkmfkdhiab
open Go.RowKit

/-- The first kid of a name. -/
def fk (m : ByteArray) : Kds → Option Nd
  | [] => none
  | (n, x) :: l => if n = m then some x else fk m l
/-- Another node in the place of the first kid of a name. -/
def setk (m : ByteArray) (z : Nd) : Kds → Kds
  | [] => []
  | (n, x) :: l => if n = m then (m, z) :: l else (n, x) :: setk m z l
def insk (m : ByteArray) (z : Nd) : Kds → Kds
  | [] => [(m, z)]
  | (n, x) :: l => if ltB m n = true then (m, z) :: (n, x) :: l else (n, x) :: insk m z l
def delk (m : ByteArray) : Kds → Kds
  | [] => []
  | (n, x) :: l => if n = m then l else (n, x) :: delk m l
theorem kid_parts (m : ByteArray) : ∀ (ks : Kds) (i : Nat), (kidI m ks i = -1 ∧ fk m ks = none) ∨ ∃ j y, kidI m ks i = ((i + j : Nat) : Int) ∧ ks[j]? = some (m, y) ∧ fk m ks = some y ∧ (∀ z, ks.set j (m, z) = setk m z ks) ∧ ks.take j ++ ks.drop (j + 1) = delk m ks ∧ ∀ z, ks.take j ++ (m, z) :: ks.drop (j + 1) = setk m z ks
  | [], i => .inl ⟨by rw [kidI], rfl⟩
  | (n, x) :: l, i => by
    rw [kidI, fk]
    by_cases h : n = m
    · rw [if_pos h, if_pos h]
      refine .inr ⟨0, x, by simp, by simp [h], rfl, fun z => by simp [setk, h], by simp [delk, h], fun z => by simp [setk, h]⟩
    · rw [if_neg h, if_neg h]
      rcases kid_parts m l (i + 1) with ⟨h1, h2⟩ | ⟨j, y, h1, h2, h3, h4, h5, h6⟩
      · exact .inl ⟨h1, h2⟩
      · refine .inr ⟨j + 1, y, by rw [h1]; congr 1; omega, by simpa using h2, h3, fun z => by simp [setk, h, h4 z], by simp [delk, h, ← h5], fun z => by simp [setk, h, ← h6 z]⟩
theorem kid_none {m : ByteArray} {ks : Kds} : kidI m ks 0 < 0 ↔ fk m ks = none := by
  rcases kid_parts m ks 0 with ⟨h1, h2⟩ | ⟨j, y, h1, _, h3, _⟩
  · rw [h1, h2]; simp
  · rw [h1, h3]; simp
theorem abv_ins (m : ByteArray) (x : Nd) : ∀ ks : Kds, ks.take (abvN m ks) ++ (m, x) :: ks.drop (abvN m ks) = insk m x ks
  | [] => rfl
  | (n, y) :: l => by
    have e : abvN m ((n, y) :: l) = if ltB m n = true then 0 else abvN m l + 1 := by
      unfold abvN
      rw [List.findIdx_cons]
      cases ltB m n <;> simp
    rw [e, insk]
    by_cases h : ltB m n = true
    · rw [if_pos h, if_pos h]; rfl
    · rw [if_neg h, if_neg h, ← abv_ins m x l]; simp
theorem put_eq (m : ByteArray) (x : Nd) (ks : Kds) : putK m x ks = if fk m ks = none then insk m x ks else setk m x ks := by
  unfold putK
  rcases kid_parts m ks 0 with ⟨h1, h2⟩ | ⟨j, y, h1, _, h3, _, _, h6⟩
  · rw [if_pos (by rw [h1]; decide), if_pos h2, abv_ins]
  · rw [if_neg (by rw [h1]; omega), if_neg (by rw [h3]; simp), h1]
    have e : ((0 + j : Nat) : Int).toNat = j := by simp
    rw [e, h6]
theorem cut_eq {m : ByteArray} {ks : Kds} (h : fk m ks ≠ none) : cutK m ks = delk m ks := by
  unfold cutK
  rcases kid_parts m ks 0 with ⟨h1, h2⟩ | ⟨j, y, h1, _, h3, _, h5, _⟩
  · exact absurd h2 h
  · rw [h1]
    have e : ((0 + j : Nat) : Int).toNat = j := by simp
    rw [e, h5]
theorem find_fk (m : ByteArray) (l : List ByteArray) (x : Nd) : findF (m :: l) x = if x.kind ≠ 2 then none else match fk m x.kids with
  | none => none
  | some y => findF l y := by
  rw [findF]
  by_cases hk : x.kind ≠ 2
  · rw [if_pos (.inl hk), if_pos hk]
  · rw [if_neg hk]
    rcases kid_parts m x.kids 0 with ⟨h1, h2⟩ | ⟨j, y, h1, h2, h3, _⟩
    · rw [if_pos (.inr (by rw [h1]; decide)), h2]
    · rw [if_neg (fun q => by rcases q with q | q; exact hk q; rw [h1] at q; omega), h3, h1]
      have e : ((0 + j : Nat) : Int).toNat = j := by simp
      have e2 : x.kid j = y := by unfold Nd.kid; rw [h2]
      rw [e, e2]
theorem chg_fk (c : Option Nd) (m m' : ByteArray) (l : List ByteArray) (x : Nd) : chgF c (m :: m' :: l) x = if x.kind ≠ 2 then .error 7 else match fk m x.kids with
  | none => .error 5
  | some y => (chgF c (m' :: l) y).map fun z => x.with (setk m z x.kids) := by
  rw [chgF]
  by_cases hk : x.kind ≠ 2
  · rw [if_pos hk, if_pos hk]
  · rw [if_neg hk, if_neg hk]
    rcases kid_parts m x.kids 0 with ⟨h1, h2⟩ | ⟨j, y, h1, h2, h3, h4, _⟩
    · rw [if_pos (by rw [h1]; decide), h2]
    · rw [if_neg (by rw [h1]; omega), h3, h1]
      have e : ((0 + j : Nat) : Int).toNat = j := by simp
      have e2 : x.kid j = y := by unfold Nd.kid; rw [h2]
      rw [e, e2]
      congr 1
      funext z
      rw [h4]
/-- The last step, by the first kid of a name. -/
def lastG (c : Option Nd) (m : ByteArray) (ks : Kds) : Except Int Kds := match c with
  | some x => if nameB m = false then .error 4 else .ok (if fk m ks = none then insk m x ks else setk m x ks)
  | none => if fk m ks = none then .error 5 else .ok (delk m ks)
theorem last_eq (c : Option Nd) (m : ByteArray) (ks : Kds) : lastF c m ks = lastG c m ks := by
  cases c with
  | some x => simp only [lastF, lastG, put_eq]
  | none =>
    simp only [lastF, lastG]
    by_cases h : fk m ks = none
    · rw [if_pos h, if_pos (kid_none.2 h)]
    · rw [if_neg h, if_neg (fun q => h (kid_none.1 q)), cut_eq h]
theorem chg_one (c : Option Nd) (m : ByteArray) (x : Nd) : chgF c [m] x = if x.kind ≠ 2 then .error 7 else (lastG c m x.kids).map x.with := by rw [chgF, last_eq]
theorem with_kids (x : Nd) (ks : Kds) : (x.with ks).kids = ks := by obtain ⟨k, m, u, g, o, at_, d, ks'⟩ := x; rfl
theorem with_kind (x : Nd) (ks : Kds) : (x.with ks).kind = x.kind := by obtain ⟨k, m, u, g, o, at_, d, ks'⟩ := x; rfl

theorem fk_set {m : ByteArray} {z : Nd} : ∀ {ks : Kds}, fk m ks ≠ none → fk m (setk m z ks) = some z
  | [], h => absurd rfl h
  | (n, x) :: l, h => by
    rw [setk]
    by_cases e : n = m
    · rw [if_pos e, fk, if_pos rfl]
    · rw [if_neg e, fk, if_neg e]; exact fk_set (by rw [fk, if_neg e] at h; exact h)
theorem fk_set_ne {m m2 : ByteArray} {z : Nd} (hne : m2 ≠ m) : ∀ ks : Kds, fk m2 (setk m z ks) = fk m2 ks
  | [] => rfl
  | (n, x) :: l => by
    rw [setk]
    by_cases e : n = m
    · rw [if_pos e, fk, fk, if_neg (fun q => hne q.symm), if_neg (fun q => hne (by rw [← q, e]))]
    · rw [if_neg e, fk, fk, fk_set_ne hne l]
theorem fk_ins {m : ByteArray} {z : Nd} : ∀ {ks : Kds}, fk m ks = none → fk m (insk m z ks) = some z
  | [], _ => by rw [insk, fk, if_pos rfl]
  | (n, x) :: l, h => by
    have hn : n ≠ m := fun e => by rw [fk, if_pos e] at h; cases h
    rw [insk]
    by_cases e : ltB m n = true
    · rw [if_pos e, fk, if_pos rfl]
    · rw [if_neg e, fk, if_neg hn]; exact fk_ins (by rw [fk, if_neg hn] at h; exact h)
theorem fk_ins_ne {m m2 : ByteArray} {z : Nd} (hne : m2 ≠ m) : ∀ ks : Kds, fk m2 (insk m z ks) = fk m2 ks
  | [] => by show (if m = m2 then some z else none) = none; rw [if_neg (fun q => hne q.symm)]
  | (n, x) :: l => by
    rw [insk]
    by_cases e : ltB m n = true
    · rw [if_pos e, fk, if_neg (fun q => hne q.symm)]
    · rw [if_neg e, fk, fk, fk_ins_ne hne l]
theorem fk_del_ne {m m2 : ByteArray} (hne : m2 ≠ m) : ∀ ks : Kds, fk m2 (delk m ks) = fk m2 ks
  | [] => rfl
  | (n, x) :: l => by
    rw [delk]
    by_cases e : n = m
    · rw [if_pos e, fk, if_neg (fun q => hne (by rw [← q, e]))]
    · rw [if_neg e, fk, fk, fk_del_ne hne l]

/-- What is put is there. -/
theorem find_put {x : Nd} : ∀ {l : List ByteArray} {n r : Nd}, chgF (some x) l n = .ok r → findF l r = some x
  | [], n, r, h => by rw [chgF] at h; cases h
  | [m], n, r, h => by
    rw [chg_one] at h
    by_cases hk : n.kind ≠ 2
    · rw [if_pos hk] at h; cases h
    rw [if_neg hk] at h
    simp only [lastG] at h
    by_cases hn : nameB m = false
    · rw [if_pos hn] at h; cases h
    rw [if_neg hn] at h
    simp only [Except.map, Except.ok.injEq] at h
    subst h
    rw [find_fk, with_kind, if_neg hk, with_kids]
    by_cases hf : fk m n.kids = none
    · rw [if_pos hf, fk_ins hf]; rfl
    · rw [if_neg hf, fk_set hf]; rfl
  | m :: m' :: l, n, r, h => by
    rw [chg_fk] at h
    by_cases hk : n.kind ≠ 2
    · rw [if_pos hk] at h; cases h
    rw [if_neg hk] at h
    cases hf : fk m n.kids with
    | none => rw [hf] at h; cases h
    | some y =>
      rw [hf] at h
      simp only at h
      cases hc : chgF (some x) (m' :: l) y with
      | error f => rw [hc] at h; cases h
      | ok z =>
        rw [hc] at h
        simp only [Except.map, Except.ok.injEq] at h
        subst h
        rw [find_fk, with_kind, if_neg hk, with_kids, fk_set (by rw [hf]; simp)]
        exact find_put hc
/-- What is elsewhere is what it was. -/
theorem find_else {c : Option Nd} : ∀ {l other : List ByteArray} {n r : Nd}, chgF c l n = .ok r → ¬ l <+: other → ¬ other <+: l → findF other r = findF other n
  | l, [], n, r, h, _, h2 => absurd (List.nil_prefix) h2
  | [], o :: other, n, r, h, h1, _ => absurd (List.nil_prefix) h1
  | [m], o :: other, n, r, h, h1, h2 => by
    have hom : o ≠ m := fun e => h1 (by rw [e]; exact ⟨other, rfl⟩)
    rw [chg_one] at h
    by_cases hk : n.kind ≠ 2
    · rw [if_pos hk] at h; cases h
    rw [if_neg hk] at h
    cases hl : lastG c m n.kids with
    | error f => rw [hl] at h; cases h
    | ok ks =>
      rw [hl] at h
      simp only [Except.map, Except.ok.injEq] at h
      subst h
      rw [find_fk, find_fk, with_kind, with_kids]
      have : fk o ks = fk o n.kids := by
        cases c with
        | some x =>
          simp only [lastG] at hl
          by_cases hn : nameB m = false
          · rw [if_pos hn] at hl; cases hl
          rw [if_neg hn] at hl
          simp only [Except.ok.injEq] at hl
          subst hl
          split
          · exact fk_ins_ne hom _
          · exact fk_set_ne hom _
        | none =>
          simp only [lastG] at hl
          by_cases hn : fk m n.kids = none
          · rw [if_pos hn] at hl; cases hl
          rw [if_neg hn] at hl
          simp only [Except.ok.injEq] at hl
          subst hl
          exact fk_del_ne hom _
      rw [this]
  | m :: m' :: l, o :: other, n, r, h, h1, h2 => by
    rw [chg_fk] at h
    by_cases hk : n.kind ≠ 2
    · rw [if_pos hk] at h; cases h
    rw [if_neg hk] at h
    cases hf : fk m n.kids with
    | none => rw [hf] at h; cases h
    | some y =>
      rw [hf] at h
      simp only at h
      cases hc : chgF c (m' :: l) y with
      | error f => rw [hc] at h; cases h
      | ok z =>
        rw [hc] at h
        simp only [Except.map, Except.ok.injEq] at h
        subst h
        rw [find_fk, find_fk, with_kind, if_neg hk, if_neg hk, with_kids]
        by_cases hom : o = m
        · subst hom
          rw [fk_set (by rw [hf]; simp), hf]
          exact find_else hc (fun q => h1 (List.cons_prefix_cons.2 ⟨rfl, q⟩)) (fun q => h2 (List.cons_prefix_cons.2 ⟨rfl, q⟩))
        · rw [fk_set_ne hom]
/-- What can't be cut isn't there. -/
theorem cut_err {f : Int} : ∀ {l : List ByteArray} {n : Nd}, chgF none l n = .error f → l = [] ∨ findF l n = none
  | [], n, h => .inl rfl
  | [m], n, h => by
    right
    rw [chg_one] at h
    rw [find_fk]
    by_cases hk : n.kind ≠ 2
    · rw [if_pos hk]
    rw [if_neg hk] at h ⊢
    simp only [lastG] at h
    by_cases hn : fk m n.kids = none
    · rw [hn]
    · rw [if_neg hn] at h; cases h
  | m :: m' :: l, n, h => by
    right
    rw [chg_fk] at h
    rw [find_fk]
    by_cases hk : n.kind ≠ 2
    · rw [if_pos hk]
    rw [if_neg hk] at h ⊢
    cases hf : fk m n.kids with
    | none => rfl
    | some y =>
      rw [hf] at h
      simp only at h ⊢
      cases hc : chgF none (m' :: l) y with
      | ok z => rw [hc] at h; cases h
      | error g =>
        rcases cut_err hc with e | e
        · cases e
        · exact e
theorem chg_err7 {c : Option Nd} {l : List ByteArray} {n : Nd} {f : Int} (h : chgF c l n = .error f) : 0 < f ∧ f ≤ 7 := by
  revert n
  induction l with
  | nil => intro n h; rw [chgF] at h; simp only [Except.error.injEq] at h; omega
  | cons m l ih =>
    intro n h
    cases l with
    | nil =>
      rw [chg_one] at h
      by_cases hk : n.kind ≠ 2
      · rw [if_pos hk] at h; simp only [Except.error.injEq] at h; omega
      rw [if_neg hk] at h
      cases c with
      | some x =>
        simp only [lastG] at h
        by_cases hn : nameB m = false
        · rw [if_pos hn] at h; simp only [Except.map, Except.error.injEq] at h; omega
        · rw [if_neg hn] at h; cases h
      | none =>
        simp only [lastG] at h
        by_cases hn : fk m n.kids = none
        · rw [if_pos hn] at h; simp only [Except.map, Except.error.injEq] at h; omega
        · rw [if_neg hn] at h; cases h
    | cons m' l =>
      rw [chg_fk] at h
      by_cases hk : n.kind ≠ 2
      · rw [if_pos hk] at h; simp only [Except.error.injEq] at h; omega
      rw [if_neg hk] at h
      cases hf : fk m n.kids with
      | none => rw [hf] at h; simp only [Except.error.injEq] at h; omega
      | some y =>
        rw [hf] at h
        simp only at h
        cases hc : chgF c (m' :: l) y with
        | ok z => rw [hc] at h; cases h
        | error g => rw [hc] at h; simp only [Except.map, Except.error.injEq] at h; subst h; exact ih hc
end Go.Proofs.Ytkkhfnkmfkdhiab

namespace Go.Proofs.Ytkkhfnkmfkdhiab
open Go.RowKit

theorem cntL_set {m : ByteArray} {z y : Nd} : ∀ {ks : Kds}, fk m ks = some y → cntL (setk m z ks) + cnt y = cntL ks + cnt z
  | [], h => by cases h
  | (n, x) :: l, h => by
    rw [fk] at h
    rw [setk]
    by_cases e : n = m
    · rw [if_pos e] at h ⊢; simp only [Option.some.injEq] at h; subst h; rw [cntL, cntL]; omega
    · rw [if_neg e] at h ⊢; have := cntL_set (z := z) h; rw [cntL, cntL]; omega
theorem cntL_ins (m : ByteArray) (z : Nd) : ∀ ks : Kds, cntL (insk m z ks) = cntL ks + cnt z
  | [] => by rw [insk]; simp [cntL]
  | (n, x) :: l => by
    rw [insk]
    split
    · rw [cntL, cntL]; omega
    · have := cntL_ins m z l; rw [cntL, cntL]; omega
theorem cntL_del (m : ByteArray) : ∀ ks : Kds, cntL (delk m ks) ≤ cntL ks
  | [] => by rw [delk]; exact Nat.le_refl _
  | (n, x) :: l => by
    rw [delk]
    split
    · rw [cntL]; omega
    · have := cntL_del m l; rw [cntL, cntL]; omega
theorem cnt_with (x : Nd) (ks : Kds) : cnt (x.with ks) = cntL ks + 1 := by obtain ⟨k, m, u, g, o, at_, d, ks'⟩ := x; rfl
theorem cnt_nd (x : Nd) : cnt x = cntL x.kids + 1 := by obtain ⟨k, m, u, g, o, at_, d, ks'⟩ := x; rfl
def cntO : Option Nd → Nat
  | none => 0
  | some x => cnt x
/-- A change of a list keeps what each kid's node has. -/
theorem chg_ind {c : Option Nd} (P : Nd → Nd → Prop) (hlast : ∀ m n ks, n.kind = 2 → lastG c m n.kids = .ok ks → P n (n.with ks)) (hstep : ∀ m n y z, n.kind = 2 → fk m n.kids = some y → P y z → P n (n.with (setk m z n.kids))) :
    ∀ {l : List ByteArray} {n r : Nd}, chgF c l n = .ok r → P n r
  | [], n, r, h => by rw [chgF] at h; cases h
  | [m], n, r, h => by
    rw [chg_one] at h
    by_cases hk : n.kind ≠ 2
    · rw [if_pos hk] at h; cases h
    rw [if_neg hk] at h
    cases hl : lastG c m n.kids with
    | error f => rw [hl] at h; cases h
    | ok ks =>
      rw [hl] at h
      simp only [Except.map, Except.ok.injEq] at h
      subst h
      exact hlast m n ks (by simpa using hk) hl
  | m :: m' :: l, n, r, h => by
    rw [chg_fk] at h
    by_cases hk : n.kind ≠ 2
    · rw [if_pos hk] at h; cases h
    rw [if_neg hk] at h
    cases hf : fk m n.kids with
    | none => rw [hf] at h; cases h
    | some y =>
      rw [hf] at h
      simp only at h
      cases hc : chgF c (m' :: l) y with
      | error f => rw [hc] at h; cases h
      | ok z =>
        rw [hc] at h
        simp only [Except.map, Except.ok.injEq] at h
        subst h
        exact hstep m n y z (by simpa using hk) hf (chg_ind P hlast hstep hc)
theorem last_parts {c : Option Nd} {m : ByteArray} {ks ks' : Kds} (h : lastG c m ks = .ok ks') : (∃ x, c = some x ∧ nameB m = true ∧ ((fk m ks = none ∧ ks' = insk m x ks) ∨ (fk m ks ≠ none ∧ ks' = setk m x ks))) ∨ (c = none ∧ fk m ks ≠ none ∧ ks' = delk m ks) := by
  cases c with
  | some x =>
    left
    simp only [lastG] at h
    by_cases hn : nameB m = false
    · rw [if_pos hn] at h; cases h
    rw [if_neg hn] at h
    simp only [Except.ok.injEq] at h
    refine ⟨x, rfl, by simpa using hn, ?_⟩
    by_cases hf : fk m ks = none
    · rw [if_pos hf] at h; exact .inl ⟨hf, h.symm⟩
    · rw [if_neg hf] at h; exact .inr ⟨hf, h.symm⟩
  | none =>
    right
    simp only [lastG] at h
    by_cases hn : fk m ks = none
    · rw [if_pos hn] at h; cases h
    rw [if_neg hn] at h
    simp only [Except.ok.injEq] at h
    exact ⟨rfl, hn, h.symm⟩
theorem chg_cnt {c : Option Nd} {l : List ByteArray} {n r : Nd} (h : chgF c l n = .ok r) : cnt r ≤ cnt n + cntO c := by
  refine chg_ind (c := c) (fun n r => cnt r ≤ cnt n + cntO c) ?_ ?_ h
  · intro m n ks _ hl
    rw [cnt_with, cnt_nd n]
    rcases last_parts hl with ⟨x, rfl, _, ⟨_, rfl⟩ | ⟨hf, rfl⟩⟩ | ⟨rfl, _, rfl⟩
    · rw [cntL_ins]; show _ ≤ _ + cnt x; omega
    · obtain ⟨y, hy⟩ := Option.ne_none_iff_exists'.1 hf
      have := cntL_set (z := x) hy
      show _ ≤ _ + cnt x; omega
    · have := cntL_del m n.kids; omega
  · intro m n y z _ hf hz
    have := cntL_set (z := z) hf
    rw [cnt_with, cnt_nd n]; omega
mutual
/-- No list of attributes is too long. -/
def At1 : Nd → Prop
  | .mk _ _ _ _ _ at_ _ ks => at_.length ≤ 1000 ∧ At1L ks
def At1L : Kds → Prop
  | [] => True
  | (_, x) :: l => At1 x ∧ At1L l
end
theorem at1L_fk {m : ByteArray} {y : Nd} : ∀ {ks : Kds}, At1L ks → fk m ks = some y → At1 y
  | [], _, h => by cases h
  | (n, x) :: l, ha, h => by
    rw [At1L] at ha
    rw [fk] at h
    by_cases e : n = m
    · rw [if_pos e] at h; simp only [Option.some.injEq] at h; subst h; exact ha.1
    · rw [if_neg e] at h; exact at1L_fk ha.2 h
theorem at1L_set {m : ByteArray} {z : Nd} (hz : At1 z) : ∀ {ks : Kds}, At1L ks → At1L (setk m z ks)
  | [], _ => by rw [setk, At1L]; trivial
  | (n, x) :: l, ha => by
    rw [At1L] at ha
    rw [setk]
    split
    · rw [At1L]; exact ⟨hz, ha.2⟩
    · rw [At1L]; exact ⟨ha.1, at1L_set hz ha.2⟩
theorem at1L_ins {m : ByteArray} {z : Nd} (hz : At1 z) : ∀ {ks : Kds}, At1L ks → At1L (insk m z ks)
  | [], _ => by rw [insk, At1L, At1L]; exact ⟨hz, trivial⟩
  | (n, x) :: l, ha => by
    rw [insk]
    split
    · rw [At1L]; exact ⟨hz, ha⟩
    · rw [At1L] at ha ⊢; exact ⟨ha.1, at1L_ins hz ha.2⟩
theorem at1L_del {m : ByteArray} : ∀ {ks : Kds}, At1L ks → At1L (delk m ks)
  | [], _ => by rw [delk, At1L]; trivial
  | (n, x) :: l, ha => by
    rw [At1L] at ha
    rw [delk]
    split
    · exact ha.2
    · rw [At1L]; exact ⟨ha.1, at1L_del ha.2⟩
theorem at1_with {x : Nd} {ks : Kds} : At1 (x.with ks) ↔ At1 (x.with []) ∧ At1L ks := by
  obtain ⟨k, m, u, g, o, at_, d, ks'⟩ := x
  show At1 (.mk k m u g o at_ d ks) ↔ At1 (.mk k m u g o at_ d []) ∧ At1L ks
  rw [At1, At1, At1L]
  exact ⟨fun h => ⟨⟨h.1, trivial⟩, h.2⟩, fun h => ⟨h.1.1, h.2⟩⟩
theorem with_self (x : Nd) : x.with x.kids = x := by obtain ⟨k, m, u, g, o, at_, d, ks⟩ := x; rfl
theorem chg_at1 {c : Option Nd} {l : List ByteArray} {n r : Nd} (h : chgF c l n = .ok r) (hc : ∀ x, c = some x → At1 x) : At1 n → At1 r := by
  refine chg_ind (c := c) (fun n r => At1 n → At1 r) ?_ ?_ h
  · intro m n ks _ hl hn
    rw [← with_self n, at1_with] at hn
    rw [at1_with]
    refine ⟨hn.1, ?_⟩
    rcases last_parts hl with ⟨x, rfl, _, ⟨_, rfl⟩ | ⟨_, rfl⟩⟩ | ⟨rfl, _, rfl⟩
    · exact at1L_ins (hc x rfl) hn.2
    · exact at1L_set (hc x rfl) hn.2
    · exact at1L_del hn.2
  · intro m n y z _ hf hz hn
    rw [← with_self n, at1_with] at hn
    rw [at1_with]
    exact ⟨hn.1, at1L_set (hz (at1L_fk hn.2 hf)) hn.2⟩
mutual
theorem lim_at : ∀ (x : Nd), At1 x → cnt x ≤ 1000 → Lim x
  | .mk _ _ _ _ _ at_ d ks, ha, hc => by
    rw [cnt] at hc
    rw [At1] at ha
    rw [Lim]
    have := cntL_len ks
    exact ⟨ha.1, by omega, limL_at ks ha.2 (by omega)⟩
theorem limL_at : ∀ (l : Kds), At1L l → cntL l ≤ 1000 → LimL l
  | [], _, _ => by rw [LimL]; trivial
  | (n, x) :: l, ha, hc => by
    rw [cntL] at hc
    rw [At1L] at ha
    rw [LimL]
    exact ⟨lim_at x ha.1 (by omega), limL_at l ha.2 (by omega)⟩
end
mutual
theorem at_lil : ∀ (x : Nd), Lil x → At1 x
  | .mk _ _ _ _ _ at_ d ks, h => by
    rw [Lil] at h
    rw [At1]
    have h1 := h.1.1
    exact ⟨by omega, atL_lil ks h.2.2⟩
theorem atL_lil : ∀ (l : Kds), LilL l → At1L l
  | [], _ => by rw [At1L]; trivial
  | (n, x) :: l, h => by rw [LilL] at h; rw [At1L]; exact ⟨at_lil x h.2.1, atL_lil l h.2.2⟩
end
end Go.Proofs.Ytkkhfnkmfkdhiab

namespace Go.Proofs.Ytkkhfnkmfkdhiab
open Go.RowKit

mutual
/-- A tree that may be, with so many names. -/
def Val (up : Bool) : Nat → Nd → Prop
  | deep, .mk k m u g o at_ d ks => deep ≤ 6 ∧ nfF up (decide (deep = 0)) (.mk k m u g o at_ d ks) = 0 ∧ ValL up (deep + 1) none ks
def ValL (up : Bool) : Nat → Option ByteArray → Kds → Prop
  | _, _, [] => True
  | deep, p, (n, x) :: l => nameB n = true ∧ upB p n = true ∧ Val up deep x ∧ ValL up deep (some n) l
end
theorem cnt_pos (x : Nd) : 0 < cnt x := by rw [cnt_nd]; omega
mutual
theorem wlk_val (up : Bool) : ∀ (x : Nd) (deep seen : Nat), ((wlkN up x deep seen).1 = 0 ↔ Val up deep x ∧ seen + cnt x ≤ 60) ∧ ((wlkN up x deep seen).1 = 0 → (wlkN up x deep seen).2 = seen + cnt x)
  | .mk k m u g o at_ d ks, deep, seen => by
    rw [wlkN, Val, cnt]
    by_cases h1 : 60 ≤ seen ∨ 6 < deep
    · rw [if_pos h1]
      refine ⟨⟨fun h => by simp at h, fun h => by omega⟩, fun h => by simp at h⟩
    rw [if_neg h1]
    by_cases h2 : nfF up (decide (deep = 0)) (.mk k m u g o at_ d ks) = 0
    · rw [if_neg (by simpa using h2)]
      obtain ⟨e1, e2⟩ := wlkL_val up none ks (deep + 1) (seen + 1)
      refine ⟨⟨fun h => ?_, fun h => ?_⟩, fun h => ?_⟩
      · have := e1.1 h
        refine ⟨⟨by omega, h2, this.1⟩, ?_⟩
        rcases this.2 with q | q
        · subst q; rw [cntL]; omega
        · omega
      · exact e1.2 ⟨h.1.2.2, .inr (by omega)⟩
      · rw [e2 h]; omega
    · rw [if_pos h2]
      refine ⟨⟨fun h => absurd h h2, fun h => absurd h.1.2.1 h2⟩, fun h => absurd h h2⟩
theorem wlkL_val (up : Bool) : ∀ (p : Option ByteArray) (l : Kds) (deep seen : Nat), ((wlkL up p l deep seen).1 = 0 ↔ ValL up deep p l ∧ (l = [] ∨ seen + cntL l ≤ 60)) ∧ ((wlkL up p l deep seen).1 = 0 → (wlkL up p l deep seen).2 = seen + cntL l)
  | p, [], deep, seen => by
    rw [wlkL, ValL, cntL]
    exact ⟨⟨fun _ => ⟨trivial, .inl rfl⟩, fun _ => rfl⟩, fun _ => rfl⟩
  | p, (n, x) :: l, deep, seen => by
    rw [wlkL, ValL, cntL]
    by_cases h1 : nameB n = false
    · rw [if_pos h1]
      exact ⟨⟨fun h => by simp at h, fun h => by rw [h1] at h; simp at h⟩, fun h => by simp at h⟩
    rw [if_neg h1]
    by_cases h2 : upB p n = false
    · rw [if_pos h2]
      exact ⟨⟨fun h => by simp at h, fun h => by rw [h2] at h; simp at h⟩, fun h => by simp at h⟩
    rw [if_neg h2]
    obtain ⟨e1, e2⟩ := wlk_val up x deep seen
    by_cases h3 : (wlkN up x deep seen).1 = 0
    · rw [if_neg (by simpa using h3)]
      have h4 := e1.1 h3
      rw [e2 h3]
      obtain ⟨f1, f2⟩ := wlkL_val up (some n) l deep (seen + cnt x)
      refine ⟨⟨fun h => ?_, fun h => ?_⟩, fun h => ?_⟩
      · obtain ⟨g1, g2⟩ := f1.1 h
        refine ⟨⟨by simpa using h1, by simpa using h2, h4.1, g1⟩, .inr ?_⟩
        rcases g2 with g2 | g2
        · subst g2; rw [cntL]; omega
        · omega
      · refine f1.2 ⟨h.1.2.2.2, ?_⟩
        rcases h.2 with q | q
        · cases q
        · exact .inr (by omega)
      · rw [f2 h]; omega
    · rw [if_pos h3]
      refine ⟨⟨fun h => absurd h h3, fun h => ?_⟩, fun h => absurd h h3⟩
      exfalso
      refine h3 (e1.2 ⟨h.1.2.2.1, ?_⟩)
      rcases h.2 with q | q
      · cases q
      · omega
end
theorem tf_val (up : Bool) (x : Nd) : tfF up x = 0 ↔ x.kind = 2 ∧ Val up 0 x ∧ cnt x ≤ 60 := by
  obtain ⟨k, m, u, g, o, at_, d, ks⟩ := x
  rw [tfF]
  have h := (wlk_val up (.mk k m u g o at_ d ks) 0 0).1
  show _ ↔ k = 2 ∧ _
  by_cases hk : k = 2
  · rw [if_neg (by simpa using hk), h, Nat.zero_add]; exact ⟨fun q => ⟨hk, q⟩, fun q => q.2⟩
  · rw [if_pos hk]; exact ⟨fun q => by simp at q, fun q => absurd q.1 hk⟩
theorem nf_with {up root : Bool} {x : Nd} (hk : x.kind = 2) (ks : Kds) : nfF up root (x.with ks) = nfF up root x := by
  obtain ⟨k, m, u, g, o, at_, d, ks'⟩ := x
  have hk' : k = 2 := hk
  subst hk'
  show nfF up root (.mk 2 m u g o at_ d ks) = nfF up root (.mk 2 m u g o at_ d ks')
  rw [nfF, nfF]
  have e : nfR 2 m u g o at_.length d.size ks.length up root = nfR 2 m u g o at_.length d.size ks'.length up root := by
    unfold nfR
    simp
  rw [e]
theorem val_with {up : Bool} {deep : Nat} {x : Nd} (hk : x.kind = 2) {ks : Kds} (h : Val up deep x) (hl : ValL up (deep + 1) none ks) : Val up deep (x.with ks) := by
  have e := nf_with (up := up) (root := decide (deep = 0)) hk ks
  obtain ⟨k, m, u, g, o, at_, d, ks'⟩ := x
  rw [Val] at h
  show Val up deep (.mk k m u g o at_ d ks)
  rw [Val]
  exact ⟨h.1, e.trans h.2.1, hl⟩
theorem val_kids {up : Bool} {deep : Nat} {x : Nd} (h : Val up deep x) : ValL up (deep + 1) none x.kids := by
  obtain ⟨k, m, u, g, o, at_, d, ks'⟩ := x
  rw [Val] at h
  exact h.2.2
theorem up_trans {p : Option ByteArray} {n n' : ByteArray} (h1 : upB p n = true) (h2 : ltB n n' = true) : upB p n' = true := by
  cases p with
  | none => rfl
  | some p => exact ltB_trans h1 h2
theorem valL_tail {up : Bool} {deep : Nat} {p : Option ByteArray} {n : ByteArray} {l : Kds} (hp : upB p n = true) (h : ValL up deep (some n) l) : ValL up deep p l := by
  cases l with
  | nil => rw [ValL]; trivial
  | cons q l =>
    obtain ⟨n', x⟩ := q
    rw [ValL] at h ⊢
    exact ⟨h.1, up_trans hp h.2.1, h.2.2⟩
theorem valL_del {up : Bool} {deep : Nat} (m : ByteArray) : ∀ {ks : Kds} {p : Option ByteArray}, ValL up deep p ks → ValL up deep p (delk m ks)
  | [], p, h => by rw [delk]; exact h
  | (n, x) :: l, p, h => by
    rw [ValL] at h
    rw [delk]
    split
    · exact valL_tail h.2.1 h.2.2.2
    · rw [ValL]; exact ⟨h.1, h.2.1, h.2.2.1, valL_del m h.2.2.2⟩
theorem valL_set {up : Bool} {deep : Nat} {m : ByteArray} {z : Nd} (hz : Val up deep z) : ∀ {ks : Kds} {p : Option ByteArray}, ValL up deep p ks → ValL up deep p (setk m z ks)
  | [], p, h => by rw [setk]; exact h
  | (n, x) :: l, p, h => by
    rw [ValL] at h
    rw [setk]
    by_cases e : n = m
    · rw [if_pos e, ValL]; subst e; exact ⟨h.1, h.2.1, hz, h.2.2.2⟩
    · rw [if_neg e, ValL]; exact ⟨h.1, h.2.1, h.2.2.1, valL_set hz h.2.2.2⟩
theorem valL_fk {up : Bool} {deep : Nat} {m : ByteArray} {y : Nd} : ∀ {ks : Kds} {p : Option ByteArray}, ValL up deep p ks → fk m ks = some y → Val up deep y
  | [], p, _, h => by cases h
  | (n, x) :: l, p, hv, h => by
    rw [ValL] at hv
    rw [fk] at h
    by_cases e : n = m
    · rw [if_pos e] at h; simp only [Option.some.injEq] at h; subst h; exact hv.2.2.1
    · rw [if_neg e] at h; exact valL_fk hv.2.2.2 h
theorem cut_val {up : Bool} {l : List ByteArray} {n r : Nd} (h : chgF none l n = .ok r) : ∀ deep, Val up deep n → Val up deep r := by
  refine chg_ind (c := none) (fun n r => ∀ deep, Val up deep n → Val up deep r) ?_ ?_ h
  · intro m n ks hk hl deep hv
    rcases last_parts hl with ⟨x, q, _⟩ | ⟨_, _, rfl⟩
    · cases q
    · exact val_with hk hv (valL_del m (val_kids hv))
  · intro m n y z hk hf hz deep hv
    exact val_with hk hv (valL_set (hz _ (valL_fk (val_kids hv) hf)) (val_kids hv))
theorem chg_kind {c : Option Nd} {l : List ByteArray} {n r : Nd} (h : chgF c l n = .ok r) : r.kind = n.kind :=
  chg_ind (c := c) (fun n r => r.kind = n.kind) (fun _ n ks _ _ => with_kind n ks) (fun _ n _ _ _ _ _ => with_kind n _) h
/-- A tree that may be stays one. -/
theorem cut_check {up : Bool} {l : List ByteArray} {n r : Nd} (hn : tfF up n = 0) (h : chgF none l n = .ok r) : tfF up r = 0 := by
  obtain ⟨h1, h2, h3⟩ := (tf_val up n).1 hn
  refine (tf_val up r).2 ⟨(chg_kind h).trans h1, cut_val h 0 h2, ?_⟩
  have := chg_cnt h
  show cnt r ≤ 60
  simp only [cntO] at this; omega
theorem fk_above {up : Bool} {deep : Nat} {q : ByteArray} : ∀ {l : Kds} {p : ByteArray}, ValL up deep (some p) l → (q = p ∨ ltB q p = true) → fk q l = none
  | [], p, _, _ => rfl
  | (n, x) :: l, p, h, hq => by
    rw [ValL] at h
    have hlt : ltB q n = true := by
      rcases hq with rfl | hq
      · exact h.2.1
      · exact ltB_trans hq h.2.1
    rw [fk, if_neg (fun e => ltB_ne hlt e.symm)]
    exact fk_above h.2.2.2 (.inr hlt)
theorem fk_del {up : Bool} {deep : Nat} {m : ByteArray} : ∀ {ks : Kds} {p : Option ByteArray}, ValL up deep p ks → fk m (delk m ks) = none
  | [], p, _ => rfl
  | (n, x) :: l, p, h => by
    rw [ValL] at h
    rw [delk]
    by_cases e : n = m
    · rw [if_pos e]; subst e; exact fk_above h.2.2.2 (.inl rfl)
    · rw [if_neg e, fk, if_neg e]; exact fk_del h.2.2.2
/-- What is cut away is not there. -/
theorem find_cut {up : Bool} : ∀ {l : List ByteArray} {n r : Nd} {deep : Nat}, chgF none l n = .ok r → Val up deep n → findF l r = none
  | [], n, r, _, h, _ => by rw [chgF] at h; cases h
  | [m], n, r, deep, h, hv => by
    rw [chg_one] at h
    by_cases hk : n.kind ≠ 2
    · rw [if_pos hk] at h; cases h
    rw [if_neg hk] at h
    cases hl : lastG none m n.kids with
    | error f => rw [hl] at h; cases h
    | ok ks =>
      rw [hl] at h
      simp only [Except.map, Except.ok.injEq] at h
      subst h
      rcases last_parts hl with ⟨x, q, _⟩ | ⟨_, _, rfl⟩
      · cases q
      · rw [find_fk, with_kind, if_neg hk, with_kids, fk_del (val_kids hv)]
  | m :: m' :: l, n, r, deep, h, hv => by
    rw [chg_fk] at h
    by_cases hk : n.kind ≠ 2
    · rw [if_pos hk] at h; cases h
    rw [if_neg hk] at h
    cases hf : fk m n.kids with
    | none => rw [hf] at h; cases h
    | some y =>
      rw [hf] at h
      simp only at h
      cases hc : chgF none (m' :: l) y with
      | error f => rw [hc] at h; cases h
      | ok z =>
        rw [hc] at h
        simp only [Except.map, Except.ok.injEq] at h
        subst h
        rw [find_fk, with_kind, if_neg hk, with_kids, fk_set (by rw [hf]; simp)]
        exact find_cut hc (valL_fk (val_kids hv) hf)
theorem lilL_fk {m : ByteArray} {y : Nd} : ∀ {ks : Kds}, LilL ks → fk m ks = some y → Lil y
  | [], _, h => by cases h
  | (n, x) :: l, ha, h => by
    rw [LilL] at ha
    rw [fk] at h
    by_cases e : n = m
    · rw [if_pos e] at h; simp only [Option.some.injEq] at h; subst h; exact ha.2.1
    · rw [if_neg e] at h; exact lilL_fk ha.2.2 h
theorem lilL_set {m : ByteArray} {z : Nd} (hz : Lil z) : ∀ {ks : Kds}, LilL ks → LilL (setk m z ks)
  | [], _ => by rw [setk, LilL]; trivial
  | (n, x) :: l, ha => by
    rw [LilL] at ha
    rw [setk]
    by_cases e : n = m
    · rw [if_pos e, LilL]; subst e; exact ⟨ha.1, hz, ha.2.2⟩
    · rw [if_neg e, LilL]; exact ⟨ha.1, ha.2.1, lilL_set hz ha.2.2⟩
theorem lilL_del {m : ByteArray} : ∀ {ks : Kds}, LilL ks → LilL (delk m ks)
  | [], _ => by rw [delk, LilL]; trivial
  | (n, x) :: l, ha => by
    rw [LilL] at ha
    rw [delk]
    split
    · exact ha.2.2
    · rw [LilL]; exact ⟨ha.1, ha.2.1, lilL_del ha.2.2⟩
theorem lil_with {x : Nd} {ks : Kds} : Lil (x.with ks) ↔ Lil (x.with []) ∧ LilL ks := by
  obtain ⟨k, m, u, g, o, at_, d, ks'⟩ := x
  show Lil (.mk k m u g o at_ d ks) ↔ Lil (.mk k m u g o at_ d []) ∧ LilL ks
  rw [Lil, Lil, LilL]
  exact ⟨fun h => ⟨⟨h.1, h.2.1, trivial⟩, h.2.2⟩, fun h => ⟨h.1.1, h.1.2.1, h.2⟩⟩
theorem cut_lil {l : List ByteArray} {n r : Nd} (h : chgF none l n = .ok r) : Lil n → Lil r := by
  refine chg_ind (c := none) (fun n r => Lil n → Lil r) ?_ ?_ h
  · intro m n ks _ hl hn
    rw [← with_self n, lil_with] at hn
    rw [lil_with]
    refine ⟨hn.1, ?_⟩
    rcases last_parts hl with ⟨x, q, _⟩ | ⟨_, _, rfl⟩
    · cases q
    · exact lilL_del hn.2
  · intro m n y z _ hf hz hn
    rw [← with_self n, lil_with] at hn
    rw [lil_with]
    exact ⟨hn.1, lilL_set (hz (lilL_fk hn.2 hf)) hn.2⟩
theorem find_at1 : ∀ {l : List ByteArray} {n y : Nd}, findF l n = some y → (At1 n → At1 y) ∧ cnt y ≤ cnt n
  | [], n, y, h => by rw [findF] at h; simp only [Option.some.injEq] at h; subst h; exact ⟨id, Nat.le_refl _⟩
  | m :: l, n, y, h => by
    rw [find_fk] at h
    by_cases hk : n.kind ≠ 2
    · rw [if_pos hk] at h; cases h
    rw [if_neg hk] at h
    cases hf : fk m n.kids with
    | none => rw [hf] at h; cases h
    | some z =>
      rw [hf] at h
      simp only at h
      obtain ⟨h1, h2⟩ := find_at1 h
      have hc : cnt z ≤ cntL n.kids := by
        rcases kid_parts m n.kids 0 with ⟨_, q⟩ | ⟨j, y', _, q2, q3, _⟩
        · rw [hf] at q; cases q
        · rw [hf] at q3; simp only [Option.some.injEq] at q3; subst q3; exact cntL_get q2
      refine ⟨fun ha => h1 ?_, by rw [cnt_nd n]; omega⟩
      rw [← with_self n, at1_with] at ha
      exact at1L_fk ha.2 hf
end Go.Proofs.Ytkkhfnkmfkdhiab
