/-
  PUT BELOW WHAT WAS PUT, branches: no program here.
  WHAT COMES UP: no program here: what is seen along names; name by name and at once.
-/
import Derived.Test.YtkkhfnkmfkdhiabNcX
import Derived.Test.YtkkhfnkmfkdhiabKaX
import Derived.Test.YtkkhfnkmfkdhiabMeX
namespace Go.Proofs.Ytkkhfnkmfkdhiab
open Go.RowKit

theorem setk_setk (m : ByteArray) (x y : Nd) : ∀ ks : Kds, setk m y (setk m x ks) = setk m y ks
  | [] => rfl
  | (n, z) :: l => by
    by_cases h : n = m
    · simp [setk, h]
    · simp [setk, h, setk_setk m x y l]
theorem setk_insk {m : ByteArray} {x y : Nd} : ∀ {ks : Kds}, fk m ks = none → setk m y (insk m x ks) = insk m y ks
  | [], _ => by simp [insk, setk]
  | (n, z) :: l, h => by
    rw [fk] at h
    split at h
    · cases h
    · rename_i hn
      by_cases hl : ltB m n = true
      · simp [insk, hl, setk]
      · simp [insk, hl, setk, hn, setk_insk h]
theorem with_with (x : Nd) (a b : Kds) : (x.with a).with b = x.with b := by obtain ⟨k, m, u, g, o, at_, d, ks⟩ := x; rfl
theorem chg_cons (c : Option Nd) (m : ByteArray) {l : List ByteArray} (hl : l ≠ []) (x : Nd) : chgF c (m :: l) x = if x.kind ≠ 2 then .error 7 else match fk m x.kids with
  | none => .error 5
  | some y => (chgF c l y).map fun z => x.with (setk m z x.kids) := by
  cases l with
  | nil => exact absurd rfl hl
  | cons m' l => exact chg_fk c m m' l x
theorem put_below {x : Nd} {c : Option Nd} {l' : List ByteArray} (hl' : l' ≠ []) : ∀ {l : List ByteArray} {n r : Nd}, chgF (some x) l n = .ok r → chgF c (l ++ l') r = (match chgF c l' x with | .error f => .error f | .ok y => chgF (some y) l n)
  | [], n, r, h => by rw [chgF] at h; cases h
  | [m], n, r, h => by
    rw [chg_one] at h
    by_cases hk : n.kind ≠ 2
    · rw [if_pos hk] at h; cases h
    rw [if_neg hk] at h
    simp only [lastG] at h
    by_cases hnm : nameB m = false
    · rw [if_pos hnm] at h; cases h
    rw [if_neg hnm] at h
    have e : r = n.with (if fk m n.kids = none then insk m x n.kids else setk m x n.kids) := by cases h; rfl
    have e2 : fk m (if fk m n.kids = none then insk m x n.kids else setk m x n.kids) = some x := by
      split
      · exact fk_ins ‹_›
      · exact fk_set ‹_›
    rw [List.singleton_append, chg_cons c m hl', e, with_kind, if_neg hk, with_kids, e2]
    dsimp only
    cases chgF c l' x with
    | error f => rfl
    | ok y =>
      dsimp only
      rw [chg_one, if_neg hk]
      simp only [lastG]
      rw [if_neg hnm]
      show Except.ok _ = Except.ok _
      dsimp only
      rw [with_with]
      congr 2
      split
      · exact setk_insk ‹_›
      · exact setk_setk _ _ _ _
  | m :: m2 :: l, n, r, h => by
    rw [chg_fk] at h
    by_cases hk : n.kind ≠ 2
    · rw [if_pos hk] at h; cases h
    rw [if_neg hk] at h
    cases hf : fk m n.kids with
    | none => rw [hf] at h; cases h
    | some y =>
      rw [hf] at h
      dsimp only at h
      cases hc : chgF (some x) (m2 :: l) y with
      | error f => rw [hc] at h; cases h
      | ok z =>
        rw [hc] at h
        have e : r = n.with (setk m z n.kids) := by cases h; rfl
        have ih := put_below (c := c) hl' hc
        show chgF c (m :: ((m2 :: l) ++ l')) r = _
        rw [chg_cons c m (by simp), e, with_kind, if_neg hk, with_kids, fk_set (by rw [hf]; simp)]
        dsimp only
        rw [ih]
        cases chgF c l' x with
        | error f => rfl
        | ok v =>
          dsimp only
          rw [chg_fk, if_neg hk, hf]
          dsimp only
          cases chgF (some v) (m2 :: l) y with
          | error f => rfl
          | ok v => show Except.ok _ = Except.ok _; dsimp only; rw [with_with, setk_setk]
theorem find_snoc (m : ByteArray) : ∀ (l : List ByteArray) (x : Nd), findF (l ++ [m]) x = (findF l x).bind fun y => if y.kind ≠ 2 then none else fk m y.kids
  | [], x => by
    rw [List.nil_append, find_fk, findF]
    simp only [Option.bind_some]
    split
    · rfl
    · cases fk m x.kids <;> simp [findF]
  | n :: l, x => by
    rw [List.cons_append, find_fk, find_fk]
    split
    · rfl
    · cases fk n x.kids with
      | none => rfl
      | some y => exact find_snoc m l y
theorem chg_name {x : Nd} {m : ByteArray} : ∀ {l : List ByteArray} {n d : Nd}, findF l n = some d → d.kind = 2 → (nameB m = false → chgF (some x) (l ++ [m]) n = .error 4) ∧ (¬ nameB m = false → ∃ r, chgF (some x) (l ++ [m]) n = .ok r)
  | [], n, d, h, hd => by
    rw [findF] at h
    cases h
    rw [List.nil_append, chg_one, if_neg (by simp [hd])]
    simp only [lastG]
    exact ⟨fun e => by rw [if_pos e]; rfl, fun e => by rw [if_neg e]; exact ⟨_, rfl⟩⟩
  | a :: l, n, d, h, hd => by
    rw [find_fk] at h
    by_cases hk : n.kind ≠ 2
    · rw [if_pos hk] at h; cases h
    rw [if_neg hk] at h
    cases hf : fk a n.kids with
    | none => rw [hf] at h; cases h
    | some y =>
      rw [hf] at h
      obtain ⟨h1, h2⟩ := chg_name (x := x) (m := m) (l := l) h hd
      rw [List.cons_append, chg_cons _ a (by simp), if_neg hk, hf]
      dsimp only
      refine ⟨fun e => by rw [h1 e]; rfl, fun e => ?_⟩
      obtain ⟨r, hr⟩ := h2 e
      rw [hr]
      exact ⟨_, rfl⟩
/-- Nodes, each of its name in the one ahead of it. -/
def chainF : List (Nd × ByteArray) → Nd
  | [] => zN
  | [p] => p.1
  | p :: q :: r => p.1.with [(q.2, chainF (q :: r))]
theorem chain_put {z : Nd} {m : ByteArray} : ∀ {L : List (Nd × ByteArray)}, L ≠ [] → (∀ p ∈ L, p.1.kind = 2 ∧ p.1.kids = []) → chgF (some z) (L.tail.map Prod.snd ++ [m]) (chainF L) = if nameB m = false then .error 4 else .ok (chainF (L ++ [(z, m)]))
  | [], h, _ => absurd rfl h
  | [p], _, h => by
    obtain ⟨h1, h2⟩ := h p (List.mem_cons_self ..)
    rw [List.tail_cons, List.map_nil, List.nil_append, chainF, chg_one, if_neg (by simp [h1]), h2]
    simp only [lastG]
    split
    · rfl
    · simp [fk, insk, chainF]; rfl
  | p :: q :: r, _, h => by
    obtain ⟨h1, h2⟩ := h p (List.mem_cons_self ..)
    have ih := chain_put (z := z) (m := m) (L := q :: r) (by simp) (fun p hp => h p (List.mem_cons_of_mem _ hp))
    rw [List.tail_cons] at ih
    show chgF (some z) (q.2 :: (r.map Prod.snd ++ [m])) (p.1.with [(q.2, chainF (q :: r))]) = _
    rw [chg_cons _ _ (by simp), with_kind, if_neg (by simp [h1]), with_kids]
    simp only [fk, if_true, ih]
    split
    · rfl
    · show Except.ok _ = Except.ok _
      simp only [setk, if_true, with_with]
      rfl
/-- A node with its ids on the other side. -/
def mvF (out : Bool) (us gs : List Rg) : Nd → Option Nd
  | .mk k m u g o at_ d ks => match (if out = true then toM us u else fromM us u), (if out = true then toM gs g else fromM gs g) with
    | some u', some g' => some (.mk k m u' g' o at_ d ks)
    | _, _ => none
def bareN : Nd → Nd
  | .mk k m u g _ at_ d _ => .mk k m u g false at_ d []
theorem mv_keep {out : Bool} {us gs : List Rg} {x y : Nd} (h : mvF out us gs x = some y) : y.kind = x.kind ∧ y.kids = x.kids := by
  obtain ⟨k, m, u, g, o, at_, d, ks⟩ := x
  rw [mvF] at h
  split at h
  · cases h; exact ⟨rfl, rfl⟩
  · cases h
theorem bare_kind (x : Nd) : (bareN x).kind = x.kind := by obtain ⟨k, m, u, g, o, at_, d, ks⟩ := x; rfl
theorem bare_kids (x : Nd) : (bareN x).kids = [] := by obtain ⟨k, m, u, g, o, at_, d, ks⟩ := x; rfl
/-- What comes up, with its ids as outside; the first that is wrong. -/
def brF (us gs : List Rg) : List (Nd × ByteArray) → Except Int (List (Nd × ByteArray))
  | [] => .ok []
  | (x, m) :: r => match mvF true us gs x with
    | none => .error 11
    | some y => if nameB m = false then .error 4 else match brF us gs r with
      | .error f => .error f
      | .ok L => .ok ((y, m) :: L)
theorem brF_snoc {us gs : List Rg} {x : Nd} {m : ByteArray} : ∀ A : List (Nd × ByteArray), brF us gs (A ++ [(x, m)]) = (match brF us gs A with | .error f => .error f | .ok L => (match mvF true us gs x with | none => .error 11 | some y => if nameB m = false then .error 4 else .ok (L ++ [(y, m)])))
  | [] => by simp [brF]
  | (a, n) :: r => by
    rw [List.cons_append, brF, brF, brF_snoc r]
    cases mvF true us gs a with
    | none => rfl
    | some y =>
      dsimp only
      split
      · rfl
      · cases brF us gs r with
        | error f => rfl
        | ok L =>
          dsimp only
          cases mvF true us gs x with
          | none => rfl
          | some z =>
            dsimp only
            by_cases h2 : nameB m = false
            · rw [if_pos h2, if_pos h2]
            · rw [if_neg h2, if_neg h2]; rfl
theorem brF_ok {us gs : List Rg} : ∀ {A L : List (Nd × ByteArray)}, brF us gs A = .ok L → L.map Prod.snd = A.map Prod.snd ∧ (∀ p ∈ A, nameB p.2 = true) ∧ ((∀ p ∈ A, p.1.kind = 2 ∧ p.1.kids = []) → ∀ p ∈ L, p.1.kind = 2 ∧ p.1.kids = [])
  | [], L, h => by cases h; exact ⟨rfl, fun p hp => (by cases hp), fun _ p hp => by cases hp⟩
  | (x, m) :: r, L, h => by
    rw [brF] at h
    cases hm : mvF true us gs x with
    | none => rw [hm] at h; cases h
    | some y =>
      rw [hm] at h
      dsimp only at h
      by_cases hn : nameB m = false
      · rw [if_pos hn] at h; cases h
      rw [if_neg hn] at h
      cases hb : brF us gs r with
      | error f => rw [hb] at h; cases h
      | ok K =>
        rw [hb] at h
        cases h
        obtain ⟨h1, h2, h3⟩ := brF_ok hb
        refine ⟨by simp [h1], fun p hp => ?_, fun H p hp => ?_⟩
        · rcases List.mem_cons.1 hp with rfl | hp
          · simpa using hn
          · exact h2 p hp
        · rcases List.mem_cons.1 hp with rfl | hp
          · have e := mv_keep hm
            have e2 := H (x, m) (List.mem_cons_self ..)
            exact ⟨e.1.trans e2.1, e.2.trans e2.2⟩
          · exact h3 (fun p hp => H p (List.mem_cons_of_mem _ hp)) p hp
end Go.Proofs.Ytkkhfnkmfkdhiab

namespace Go.Proofs.Ytkkhfnkmfkdhiab
open Go.RowKit

def Inc (l : List (Nd × Nat)) : Prop := l.Pairwise fun a b => a.2 < b.2
theorem lay_inc (xs : List Nd) : Inc (layP xs) := by
  unfold Inc layP
  rw [List.pairwise_iff_getElem]
  intro i j hi hj hij
  simpa using hij
theorem dirP_sl : ∀ l : List (Nd × Nat), (dirP l).Sublist l
  | [] => List.Sublist.refl _
  | t :: r => by
    rw [dirP]
    split
    · exact List.nil_sublist _
    split
    · exact List.Sublist.cons_cons _ (List.nil_sublist _)
    · exact List.Sublist.cons_cons _ (dirP_sl r)
theorem shP_sl (l : List (Nd × Nat)) : (shP l).Sublist l := by
  cases l with
  | nil => exact List.Sublist.refl _
  | cons t r =>
    rw [shP]
    split
    · exact List.Sublist.cons_cons _ (List.nil_sublist _)
    · exact dirP_sl _
theorem kids_inc {nm : ByteArray} : ∀ {l : List (Nd × Nat)}, Inc l → Inc (kidsP nm l)
  | [], _ => List.Pairwise.nil
  | t :: r, h => by
    have h1 := List.pairwise_cons.1 h
    have ih := kids_inc (nm := nm) h1.2
    show Inc ((t :: r).filterMap _)
    rw [List.filterMap_cons]
    cases kidO nm t.1 with
    | none => exact ih
    | some y =>
      refine List.pairwise_cons.2 ⟨fun q hq => ?_, ih⟩
      obtain ⟨p, hp, e⟩ := List.mem_filterMap.1 hq
      obtain ⟨z, _, rfl⟩ := Option.map_eq_some_iff.1 e
      exact h1.1 p hp
theorem stack_inc (xs : List Nd) : ∀ names : List ByteArray, Inc (stackP xs names) := by
  intro names
  unfold stackP
  generalize hl : shP (layP xs) = l
  have h2 : Inc l := by rw [← hl]; exact (lay_inc xs).sublist (shP_sl _)
  clear hl
  induction names generalizing l with
  | nil => exact h2
  | cons n r ih => rw [List.foldl_cons]; exact ih _ ((kids_inc h2).sublist (shP_sl _))
theorem shP_head {l : List (Nd × Nat)} {q : Nd × Nat} {r : List (Nd × Nat)} (h : shP l = q :: r) : (∃ t, l = q :: t) ∧ (q.1.kind = 2 ∨ q.1.kind = 1 ∧ r = []) := by
  cases l with
  | nil => cases h
  | cons t s =>
    rw [shP] at h
    by_cases h1 : t.1.kind = 1
    · rw [if_pos h1] at h
      cases h
      exact ⟨⟨_, rfl⟩, .inr ⟨h1, rfl⟩⟩
    · rw [if_neg h1, dirP] at h
      by_cases h2 : t.1.kind ≠ 2
      · rw [if_pos h2] at h; cases h
      rw [if_neg h2] at h
      have h3 : t.1.kind = 2 := by simpa using h2
      split at h
      · cases h; exact ⟨⟨_, rfl⟩, .inl h3⟩
      · cases h; exact ⟨⟨_, rfl⟩, .inl h3⟩
theorem kidO_fk (nm : ByteArray) (x : Nd) : kidO nm x = if x.kind ≠ 2 then none else fk nm x.kids := by
  obtain ⟨k, m, u, g, o, at_, d, ks⟩ := x
  show _ = if k ≠ 2 then none else fk nm ks
  unfold kidO
  by_cases hk : k = 2
  · have e0 : kidF nm (.mk k m u g o at_ d ks) = kidI nm ks 0 := if_pos hk
    rw [e0, if_neg (show ¬ k ≠ 2 from fun q => q hk)]
    rcases kid_parts nm ks 0 with ⟨h1, h2⟩ | ⟨j, y, h1, h2, h3, _⟩
    · rw [h1, h2]; rfl
    · rw [h1, h3, if_neg (by omega), Nat.zero_add, Int.toNat_natCast]
      show (ks[j]?).map _ = _
      rw [h2]; rfl
  · have e0 : kidF nm (.mk k m u g o at_ d ks) = -1 := if_neg hk
    rw [e0, if_pos (show k ≠ 2 from hk)]; rfl
/-- One step along names, both of which see something. -/
theorem stack_step {l : List (Nd × Nat)} {nm : ByteArray} {q q' : Nd × Nat} {r r' : List (Nd × Nat)} {l0 : List (Nd × Nat)} (hl0 : shP l0 = l) (hi : Inc l) (hl : l = q :: r) (hl' : shP (kidsP nm l) = q' :: r') :
    q.1.kind = 2 ∧ (q.2 ≠ 0 → q'.2 ≠ 0) ∧ (q.2 = 0 → q'.2 ≠ 0 → fk nm q.1.kids = none) ∧ (q.2 = 0 → q'.2 = 0 → fk nm q.1.kids = some q'.1) := by
  obtain ⟨⟨t, ht⟩, _⟩ := shP_head hl'
  have hk : q.1.kind = 2 := by
    rw [hl] at hl0
    rcases (shP_head hl0).2 with e | ⟨e, rfl⟩
    · exact e
    · rw [hl] at ht
      have e2 : kidO nm q.1 = none := by rw [kidO_fk, if_pos (by rw [e]; decide)]
      have e3 : kidsP nm [q] = [] := by
        show [q].filterMap _ = []
        rw [List.filterMap_cons, e2]; rfl
      rw [e3] at ht
      cases ht
  have hkid : kidO nm q.1 = fk nm q.1.kids := by rw [kidO_fk, if_neg (by simp [hk])]
  rw [hl] at hi
  have h1 := List.pairwise_cons.1 hi
  have hmem : q' ∈ kidsP nm l := by rw [ht]; exact List.mem_cons_self ..
  rw [hl] at ht hmem
  have hrow : kidsP nm (q :: r) = match fk nm q.1.kids with
      | none => kidsP nm r
      | some y => (y, q.2) :: kidsP nm r := by
    show (q :: r).filterMap _ = _
    rw [List.filterMap_cons, hkid]
    cases fk nm q.1.kids <;> rfl
  refine ⟨hk, fun h => ?_, fun h0 h => ?_, fun h0 h => ?_⟩
  · obtain ⟨p, hp, e⟩ := List.mem_filterMap.1 hmem
    obtain ⟨z, _, rfl⟩ := Option.map_eq_some_iff.1 e
    rcases List.mem_cons.1 hp with rfl | hp
    · exact h
    · have := h1.1 p hp
      show p.2 ≠ 0
      omega
  · cases hf : fk nm q.1.kids with
    | none => rfl
    | some y =>
      rw [hf] at hrow
      rw [hrow] at ht
      cases ht
      exact absurd h0 h
  · cases hf : fk nm q.1.kids with
    | none =>
      rw [hf] at hrow
      dsimp only at hrow
      rw [hrow] at hmem
      obtain ⟨p, hp, e⟩ := List.mem_filterMap.1 hmem
      obtain ⟨z, _, rfl⟩ := Option.map_eq_some_iff.1 e
      have := h1.1 p hp
      have h2 : p.2 = 0 := h
      omega
    | some y =>
      rw [hf] at hrow
      rw [hrow] at ht
      cases ht
      rfl
/-- The document's way: name by name. -/
def upN (us gs : List Rg) (xs : List Nd) (names : List ByteArray) (U : Nd) : Nat → Except Int Nd
  | 0 => .ok U
  | k + 1 => match upN us gs xs names U k with
    | .error f => .error f
    | .ok V => match stackP xs (names.take (k + 1)) with
      | [] => .ok V
      | q :: _ => if q.2 = 0 then .ok V else match mvF true us gs (bareN q.1) with
        | none => .error 11
        | some x => chgF (some x) (names.take (k + 1)) V
/-- What is seen at each beginning of names. -/
def Sees (xs : List Nd) (names : List ByteArray) (H : Nat → Nd × Nat) : Prop := ∀ i, i ≤ names.length → ∃ r, stackP xs (names.take i) = H i :: r
theorem stack_sh (xs : List Nd) (names : List ByteArray) : ∃ l0, shP l0 = stackP xs names := by
  rcases List.eq_nil_or_concat names with rfl | ⟨l, b, rfl⟩
  · exact ⟨_, rfl⟩
  · unfold stackP
    rw [List.concat_eq_append, List.foldl_append]
    exact ⟨_, rfl⟩
theorem sees_zero {xs : List Nd} {names : List ByteArray} {H : Nat → Nd × Nat} (h : Sees xs names H) : (H 0).2 = 0 ∧ xs[0]? = some (H 0).1 := by
  obtain ⟨r, hr⟩ := h 0 (Nat.zero_le _)
  have e : shP (layP xs) = H 0 :: r := hr
  obtain ⟨⟨t, ht⟩, _⟩ := shP_head e
  cases xs with
  | nil => cases ht
  | cons x xs =>
    have : layP (x :: xs) = (x, 0) :: xs.zipIdx 1 := rfl
    rw [this] at ht
    have e1 : (x, 0) = H 0 := by injection ht
    rw [← e1]
    exact ⟨rfl, rfl⟩
theorem sees_step {xs : List Nd} {names : List ByteArray} {H : Nat → Nd × Nat} (h : Sees xs names H) {i : Nat} {nm : ByteArray} (hi : names[i]? = some nm) :
    (H i).1.kind = 2 ∧ ((H i).2 ≠ 0 → (H (i + 1)).2 ≠ 0) ∧ ((H i).2 = 0 → (H (i + 1)).2 ≠ 0 → fk nm (H i).1.kids = none) ∧ ((H i).2 = 0 → (H (i + 1)).2 = 0 → fk nm (H i).1.kids = some (H (i + 1)).1) := by
  have hlt := (List.getElem?_eq_some_iff.1 hi).1
  obtain ⟨r, hr⟩ := h i (by omega)
  obtain ⟨r', hr'⟩ := h (i + 1) (by omega)
  rw [stackP_next hi] at hr'
  obtain ⟨l0, hl0⟩ := stack_sh xs (names.take i)
  exact stack_step hl0 (stack_inc _ _) hr hr'
theorem take_next2 {α : Type} {l : List α} {n : Nat} {x : α} (h : l[n]? = some x) : l.take (n + 1) = l.take n ++ [x] := by rw [List.take_add_one, h]; rfl
theorem sees_find {xs : List Nd} {names : List ByteArray} {H : Nat → Nd × Nat} (h : Sees xs names H) : ∀ i, i ≤ names.length → (∀ j, j ≤ i → (H j).2 = 0) → findF (names.take i) (H 0).1 = some (H i).1
  | 0, _, _ => rfl
  | i + 1, hi, hz => by
    have e : names[i]? = some names[i] := List.getElem?_eq_getElem (by omega)
    obtain ⟨h1, _, _, h4⟩ := sees_step h e
    rw [take_next2 e, find_snoc, sees_find h i (by omega) (fun j hj => hz j (by omega))]
    simp only [Option.bind_some]
    rw [if_neg (by simp [h1])]
    exact h4 (hz i (by omega)) (hz (i + 1) (Nat.le_refl _))
theorem upN_low {us gs : List Rg} {xs : List Nd} {names : List ByteArray} {H : Nat → Nd × Nat} {U : Nd} (h : Sees xs names H) : ∀ k, k ≤ names.length → (∀ j, j ≤ k → (H j).2 = 0) → upN us gs xs names U k = .ok U
  | 0, _, _ => rfl
  | k + 1, hk, hz => by
    obtain ⟨r, hr⟩ := h (k + 1) hk
    rw [upN, upN_low h k (by omega) (fun j hj => hz j (by omega)), hr]
    dsimp only
    rw [if_pos (hz (k + 1) (Nat.le_refl _))]
theorem upN_step {us gs : List Rg} {xs : List Nd} {names : List ByteArray} {H : Nat → Nd × Nat} {U : Nd} (h : Sees xs names H) {k : Nat} (hk : k + 1 ≤ names.length) (hz : (H (k + 1)).2 ≠ 0) : upN us gs xs names U (k + 1) = match upN us gs xs names U k with
    | .error f => .error f
    | .ok V => match mvF true us gs (bareN (H (k + 1)).1) with
      | none => .error 11
      | some x => chgF (some x) (names.take (k + 1)) V := by
  obtain ⟨r, hr⟩ := h (k + 1) hk
  rw [upN, hr]
  cases upN us gs xs names U k with
  | error f => rfl
  | ok V => dsimp only; rw [if_neg hz]
/-- The nodes from place k on, each with its name. -/
def brL (H : Nat → Nd × Nat) (names : List ByteArray) (k n : Nat) : List (Nd × ByteArray) := (List.range' (k + 1) n).map fun i => (bareN (H i).1, names.getD (i - 1) ⟨#[]⟩)
theorem brL_next (H : Nat → Nd × Nat) (names : List ByteArray) (k n : Nat) : brL H names k (n + 1) = brL H names k n ++ [(bareN (H (k + n + 1)).1, names.getD (k + n) ⟨#[]⟩)] := by
  unfold brL
  rw [List.range'_concat, List.map_append]
  simp
  rw [show k + 1 + n = k + n + 1 by omega]
theorem up_eq {us gs : List Rg} {xs : List Nd} {names : List ByteArray} {H : Nat → Nd × Nat} (h : Sees xs names H) {k : Nat} (hk : k < names.length) (hz : ∀ j, j ≤ k → (H j).2 = 0) (hn : (H (k + 1)).2 ≠ 0) :
    ∀ n, k + n + 1 ≤ names.length → upN us gs xs names (H 0).1 (k + n + 1) = match brF us gs (brL H names k (n + 1)) with
      | .error f => .error f
      | .ok L => chgF (some (chainF L)) (names.take (k + 1)) (H 0).1 := by
  have hnz : ∀ n, k + n + 1 ≤ names.length → (H (k + n + 1)).2 ≠ 0 := by
    intro n
    induction n with
    | zero => exact fun _ => hn
    | succ n ih =>
      intro hle
      have e : names[k + n + 1]? = some names[k + n + 1] := List.getElem?_eq_getElem (by omega)
      exact (sees_step h e).2.1 (ih (by omega))
  have ek : names[k]? = some names[k] := List.getElem?_eq_getElem hk
  have hfind := sees_find h k (by omega) hz
  have hdir := (sees_step h ek).1
  have hgd : ∀ i (hi : i < names.length), names.getD i ⟨#[]⟩ = names[i] := fun i hi => by simp [hi]
  intro n
  induction n with
  | zero =>
    intro hle
    show upN us gs xs names (H 0).1 (k + 1) = _
    rw [upN_step h hle hn, upN_low h k (by omega) hz, brL_next]
    rw [show brL H names k 0 = [] from rfl]
    rw [brF_snoc]
    simp only [brF, Nat.add_zero, hgd k hk]
    cases mvF true us gs (bareN (H (k + 1)).1) with
    | none => rfl
    | some x =>
      dsimp only
      by_cases hnm : nameB names[k] = false
      · rw [if_pos hnm, take_next2 ek, (chg_name hfind hdir).1 hnm]
      · rw [if_neg hnm]; rfl
  | succ n ih =>
    intro hle
    have ih := ih (by omega)
    have hz2 := hnz (n + 1) hle
    rw [upN_step h hle hz2, show k + (n + 1) = k + n + 1 from rfl, ih, brL_next H names k (n + 1), brF_snoc]
    cases hb : brF us gs (brL H names k (n + 1)) with
    | error f => rfl
    | ok L =>
      dsimp only
      obtain ⟨b1, b2, b3⟩ := brF_ok hb
      have hnm0 : ¬ nameB names[k] = false := by
        have e := b2 (bareN (H (k + 0 + 1)).1, names.getD (k + 0) ⟨#[]⟩) (by
          unfold brL
          exact List.mem_map.2 ⟨k + 1, by simp, by simp⟩)
        have e : nameB (names.getD k ⟨#[]⟩) = true := e
        rw [hgd k hk] at e
        rw [e]; simp
      have hL := b3 (fun p hp => by
        obtain ⟨i, hi, rfl⟩ := List.mem_map.1 hp
        rw [List.mem_range'_1] at hi
        have e : names[i]? = some names[i] := List.getElem?_eq_getElem (by omega)
        exact ⟨(bare_kind _).trans (sees_step h e).1, bare_kids _⟩)
      have hne : L ≠ [] := fun e => by
        rw [e] at b1
        have := congrArg List.length b1
        simp [brL] at this
      obtain ⟨r, hr⟩ := (chg_name (x := chainF L) hfind hdir).2 hnm0
      rw [← take_next2 ek] at hr
      rw [hr]
      dsimp only
      cases mvF true us gs (bareN (H (k + n + 1 + 1)).1) with
      | none => rfl
      | some x =>
        dsimp only
        have htail : names.take (k + (n + 1) + 1) = names.take (k + 1) ++ (L.tail.map Prod.snd ++ [names[k + (n + 1)]]) := by
          rw [List.map_tail, b1]
          have e : (brL H names k (n + 1)).map Prod.snd = (names.drop k).take (n + 1) := by
            unfold brL
            rw [List.map_map]
            refine List.ext_getElem? fun i => ?_
            rw [List.getElem?_map, List.getElem?_take]
            by_cases hi : i < n + 1
            · rw [if_pos hi, List.getElem?_drop, List.getElem?_eq_getElem (l := List.range' (k + 1) (n + 1)) (by simpa using hi)]
              simp only [List.getElem_range', Option.map_some, Function.comp]
              rw [show k + 1 + 1 * i - 1 = k + i by omega, hgd (k + i) (by omega), List.getElem?_eq_getElem (l := names) (by omega)]
            · rw [if_neg hi, List.getElem?_eq_none (by simpa using hi)]; rfl
          rw [e, ← List.drop_one, List.drop_take, List.drop_drop, Nat.add_sub_cancel]
          rw [show names.take (k + (n + 1) + 1) = names.take (k + 1) ++ (names.drop (k + 1)).take (n + 1) by rw [← List.take_add, show k + 1 + (n + 1) = k + (n + 1) + 1 by omega]]
          congr 1
          have e2 : (names.drop (k + 1))[n]? = some names[k + (n + 1)] := by
            rw [List.getElem?_drop, show k + 1 + n = k + (n + 1) by omega]
            exact List.getElem?_eq_getElem (by omega)
          rw [take_next2 e2]
        have htail : names.take (k + n + 1 + 1) = names.take (k + 1) ++ (L.tail.map Prod.snd ++ [names[k + (n + 1)]]) := htail
        rw [htail, put_below (by simp) hr, chain_put hne hL, hgd (k + (n + 1)) (by omega)]
        by_cases h2 : nameB names[k + (n + 1)] = false
        · rw [if_pos h2, if_pos h2]
        · rw [if_neg h2, if_neg h2]
end Go.Proofs.Ytkkhfnkmfkdhiab
