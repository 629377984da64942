/-
  WHAT COMES UP: no program here: what is seen along names; name by name and at once.
  IDS THAT ARE INTS: no program here.
  TREES, the facts of no program: bounds of what a change makes; trees that may be, and that stay so.
  IDS THAT ARE INTS, beginnings of names: no program here.
  FLOORS: the document's spots; what is shown of them: the walk.
  WHAT change DOES, by the closures of Put and Cut: the walks.
  WHAT change DOES, by the closure of Put: the walk.
  TREES, the facts of no program: trees that may be, and that stay so when something is cut.
  WHAT THE DOCUMENT's Put HOLDS WHILE IT LAYS KIDS, one more kid: the facts of no program.
-/
import Derived.Test.YtlbabnffiibnpaaGreatWoX
import Derived.Test.YtlbabnffiibnpaaGreatNcX
import Derived.Test.YtlbabnffiibnpaaGreatWbY
import Derived.Test.YtlbabnffiibnpaaGreatMiX
import Derived.Test.YtlbabnffiibnpaaGreatMeX
import Derived.Test.YtlbabnffiibnpaaGreatWlY
import Derived.Test.YtlbabnffiibnpaaGreatWaY
import Derived.Test.YtlbabnffiibnpaaGreatApX
namespace Go.Proofs.YtlbabnffiibnpaaGreat
open Go.RowKit
def Inc (l : List (Nd × Nat)) : Prop := l.Pairwise fun a b => a.2 < b.2
theorem lay_inc (xs : List Nd) : Inc (layP xs) := by
  unfold Inc layP
  rw [List.pairwise_iff_getElem]
  intro i j hi hj hij
  simpa using hij
theorem dirP_sl : ∀ l : List (Nd × Nat), (dirP l).Sublist l
  | [] => List.Sublist.refl _
  | t :: r => by
    rw [dirP]
    split
    · exact List.nil_sublist _
    split
    · exact List.Sublist.cons_cons _ (List.nil_sublist _)
    · exact List.Sublist.cons_cons _ (dirP_sl r)
theorem shP_sl (l : List (Nd × Nat)) : (shP l).Sublist l := by
  cases l with
  | nil => exact List.Sublist.refl _
  | cons t r =>
    rw [shP]
    split
    · exact List.Sublist.cons_cons _ (List.nil_sublist _)
    · exact dirP_sl _
theorem kids_inc {nm : ByteArray} : ∀ {l : List (Nd × Nat)}, Inc l → Inc (kidsP nm l)
  | [], _ => List.Pairwise.nil
  | t :: r, h => by
    have h1 := List.pairwise_cons.1 h
    have ih := kids_inc (nm := nm) h1.2
    show Inc ((t :: r).filterMap _)
    rw [List.filterMap_cons]
    cases kidO nm t.1 with
    | none => exact ih
    | some y =>
      refine List.pairwise_cons.2 ⟨fun q hq => ?_, ih⟩
      obtain ⟨p, hp, e⟩ := List.mem_filterMap.1 hq
      obtain ⟨z, _, rfl⟩ := Option.map_eq_some_iff.1 e
      exact h1.1 p hp
theorem stack_inc (xs : List Nd) : ∀ names : List ByteArray, Inc (stackP xs names) := by
  intro names
  unfold stackP
  generalize hl : shP (layP xs) = l
  have h2 : Inc l := by rw [← hl]; exact (lay_inc xs).sublist (shP_sl _)
  clear hl
  induction names generalizing l with
  | nil => exact h2
  | cons n r ih => rw [List.foldl_cons]; exact ih _ ((kids_inc h2).sublist (shP_sl _))
theorem shP_head {l : List (Nd × Nat)} {q : Nd × Nat} {r : List (Nd × Nat)} (h : shP l = q :: r) : (∃ t, l = q :: t) ∧ (q.1.kind = 2 ∨ q.1.kind = 1 ∧ r = []) := by
  cases l with
  | nil => cases h
  | cons t s =>
    rw [shP] at h
    by_cases h1 : t.1.kind = 1
    · rw [if_pos h1] at h
      cases h
      exact ⟨⟨_, rfl⟩, .inr ⟨h1, rfl⟩⟩
    · rw [if_neg h1, dirP] at h
      by_cases h2 : t.1.kind ≠ 2
      · rw [if_pos h2] at h; cases h
      rw [if_neg h2] at h
      have h3 : t.1.kind = 2 := by simpa using h2
      split at h
      · cases h; exact ⟨⟨_, rfl⟩, .inl h3⟩
      · cases h; exact ⟨⟨_, rfl⟩, .inl h3⟩
theorem kidO_fk (nm : ByteArray) (x : Nd) : kidO nm x = if x.kind ≠ 2 then none else fk nm x.kids := by
  obtain ⟨k, m, u, g, o, at_, d, ks⟩ := x
  show _ = if k ≠ 2 then none else fk nm ks
  unfold kidO
  by_cases hk : k = 2
  · have e0 : kidF nm (.mk k m u g o at_ d ks) = kidI nm ks 0 := if_pos hk
    rw [e0, if_neg (show ¬ k ≠ 2 from fun q => q hk)]
    rcases kid_parts nm ks 0 with ⟨h1, h2⟩ | ⟨j, y, h1, h2, h3, _⟩
    · rw [h1, h2]; rfl
    · rw [h1, h3, if_neg (by omega), Nat.zero_add, Int.toNat_natCast]
      show (ks[j]?).map _ = _
      rw [h2]; rfl
  · have e0 : kidF nm (.mk k m u g o at_ d ks) = -1 := if_neg hk
    rw [e0, if_pos (show k ≠ 2 from hk)]; rfl
/-- One step along names, both of which see something. -/
theorem stack_step {l : List (Nd × Nat)} {nm : ByteArray} {q q' : Nd × Nat} {r r' : List (Nd × Nat)} {l0 : List (Nd × Nat)} (hl0 : shP l0 = l) (hi : Inc l) (hl : l = q :: r) (hl' : shP (kidsP nm l) = q' :: r') :
    q.1.kind = 2 ∧ (q.2 ≠ 0 → q'.2 ≠ 0) ∧ (q.2 = 0 → q'.2 ≠ 0 → fk nm q.1.kids = none) ∧ (q.2 = 0 → q'.2 = 0 → fk nm q.1.kids = some q'.1) := by
  obtain ⟨⟨t, ht⟩, _⟩ := shP_head hl'
  have hk : q.1.kind = 2 := by
    rw [hl] at hl0
    rcases (shP_head hl0).2 with e | ⟨e, rfl⟩
    · exact e
    · rw [hl] at ht
      have e2 : kidO nm q.1 = none := by rw [kidO_fk, if_pos (by rw [e]; decide)]
      have e3 : kidsP nm [q] = [] := by
        show [q].filterMap _ = []
        rw [List.filterMap_cons, e2]; rfl
      rw [e3] at ht
      cases ht
  have hkid : kidO nm q.1 = fk nm q.1.kids := by rw [kidO_fk, if_neg (by simp [hk])]
  rw [hl] at hi
  have h1 := List.pairwise_cons.1 hi
  have hmem : q' ∈ kidsP nm l := by rw [ht]; exact List.mem_cons_self ..
  rw [hl] at ht hmem
  have hrow : kidsP nm (q :: r) = match fk nm q.1.kids with
      | none => kidsP nm r
      | some y => (y, q.2) :: kidsP nm r := by
    show (q :: r).filterMap _ = _
    rw [List.filterMap_cons, hkid]
    cases fk nm q.1.kids <;> rfl
  refine ⟨hk, fun h => ?_, fun h0 h => ?_, fun h0 h => ?_⟩
  · obtain ⟨p, hp, e⟩ := List.mem_filterMap.1 hmem
    obtain ⟨z, _, rfl⟩ := Option.map_eq_some_iff.1 e
    rcases List.mem_cons.1 hp with rfl | hp
    · exact h
    · have := h1.1 p hp
      show p.2 ≠ 0
      omega
  · cases hf : fk nm q.1.kids with
    | none => rfl
    | some y =>
      rw [hf] at hrow
      rw [hrow] at ht
      cases ht
      exact absurd h0 h
  · cases hf : fk nm q.1.kids with
    | none =>
      rw [hf] at hrow
      dsimp only at hrow
      rw [hrow] at hmem
      obtain ⟨p, hp, e⟩ := List.mem_filterMap.1 hmem
      obtain ⟨z, _, rfl⟩ := Option.map_eq_some_iff.1 e
      have := h1.1 p hp
      have h2 : p.2 = 0 := h
      omega
    | some y =>
      rw [hf] at hrow
      rw [hrow] at ht
      cases ht
      rfl
/-- The document's way: name by name. -/
def upN (us gs : List Rg) (xs : List Nd) (names : List ByteArray) (U : Nd) : Nat → Except Int Nd
  | 0 => .ok U
  | k + 1 => match upN us gs xs names U k with
    | .error f => .error f
    | .ok V => match stackP xs (names.take (k + 1)) with
      | [] => .ok V
      | q :: _ => if q.2 = 0 then .ok V else match mvF true us gs (bareN q.1) with
        | none => .error 11
        | some x => chgF (some x) (names.take (k + 1)) V
/-- What is seen at each beginning of names. -/
def Sees (xs : List Nd) (names : List ByteArray) (H : Nat → Nd × Nat) : Prop := ∀ i, i ≤ names.length → ∃ r, stackP xs (names.take i) = H i :: r
theorem stack_sh (xs : List Nd) (names : List ByteArray) : ∃ l0, shP l0 = stackP xs names := by
  rcases List.eq_nil_or_concat names with rfl | ⟨l, b, rfl⟩
  · exact ⟨_, rfl⟩
  · unfold stackP
    rw [List.concat_eq_append, List.foldl_append]
    exact ⟨_, rfl⟩
theorem sees_zero {xs : List Nd} {names : List ByteArray} {H : Nat → Nd × Nat} (h : Sees xs names H) : (H 0).2 = 0 ∧ xs[0]? = some (H 0).1 := by
  obtain ⟨r, hr⟩ := h 0 (Nat.zero_le _)
  have e : shP (layP xs) = H 0 :: r := hr
  obtain ⟨⟨t, ht⟩, _⟩ := shP_head e
  cases xs with
  | nil => cases ht
  | cons x xs =>
    have : layP (x :: xs) = (x, 0) :: xs.zipIdx 1 := rfl
    rw [this] at ht
    have e1 : (x, 0) = H 0 := by injection ht
    rw [← e1]
    exact ⟨rfl, rfl⟩
theorem sees_step {xs : List Nd} {names : List ByteArray} {H : Nat → Nd × Nat} (h : Sees xs names H) {i : Nat} {nm : ByteArray} (hi : names[i]? = some nm) :
    (H i).1.kind = 2 ∧ ((H i).2 ≠ 0 → (H (i + 1)).2 ≠ 0) ∧ ((H i).2 = 0 → (H (i + 1)).2 ≠ 0 → fk nm (H i).1.kids = none) ∧ ((H i).2 = 0 → (H (i + 1)).2 = 0 → fk nm (H i).1.kids = some (H (i + 1)).1) := by
  have hlt := (List.getElem?_eq_some_iff.1 hi).1
  obtain ⟨r, hr⟩ := h i (by omega)
  obtain ⟨r', hr'⟩ := h (i + 1) (by omega)
  rw [stackP_next hi] at hr'
  obtain ⟨l0, hl0⟩ := stack_sh xs (names.take i)
  exact stack_step hl0 (stack_inc _ _) hr hr'
theorem take_next2 {α : Type} {l : List α} {n : Nat} {x : α} (h : l[n]? = some x) : l.take (n + 1) = l.take n ++ [x] := by rw [List.take_add_one, h]; rfl
theorem sees_find {xs : List Nd} {names : List ByteArray} {H : Nat → Nd × Nat} (h : Sees xs names H) : ∀ i, i ≤ names.length → (∀ j, j ≤ i → (H j).2 = 0) → findF (names.take i) (H 0).1 = some (H i).1
  | 0, _, _ => rfl
  | i + 1, hi, hz => by
    have e : names[i]? = some names[i] := List.getElem?_eq_getElem (by omega)
    obtain ⟨h1, _, _, h4⟩ := sees_step h e
    rw [take_next2 e, find_snoc, sees_find h i (by omega) (fun j hj => hz j (by omega))]
    simp only [Option.bind_some]
    rw [if_neg (by simp [h1])]
    exact h4 (hz i (by omega)) (hz (i + 1) (Nat.le_refl _))
theorem upN_low {us gs : List Rg} {xs : List Nd} {names : List ByteArray} {H : Nat → Nd × Nat} {U : Nd} (h : Sees xs names H) : ∀ k, k ≤ names.length → (∀ j, j ≤ k → (H j).2 = 0) → upN us gs xs names U k = .ok U
  | 0, _, _ => rfl
  | k + 1, hk, hz => by
    obtain ⟨r, hr⟩ := h (k + 1) hk
    rw [upN, upN_low h k (by omega) (fun j hj => hz j (by omega)), hr]
    dsimp only
    rw [if_pos (hz (k + 1) (Nat.le_refl _))]
theorem upN_step {us gs : List Rg} {xs : List Nd} {names : List ByteArray} {H : Nat → Nd × Nat} {U : Nd} (h : Sees xs names H) {k : Nat} (hk : k + 1 ≤ names.length) (hz : (H (k + 1)).2 ≠ 0) : upN us gs xs names U (k + 1) = match upN us gs xs names U k with
    | .error f => .error f
    | .ok V => match mvF true us gs (bareN (H (k + 1)).1) with
      | none => .error 11
      | some x => chgF (some x) (names.take (k + 1)) V := by
  obtain ⟨r, hr⟩ := h (k + 1) hk
  rw [upN, hr]
  cases upN us gs xs names U k with
  | error f => rfl
  | ok V => dsimp only; rw [if_neg hz]
/-- The nodes from place k on, each with its name. -/
def brL (H : Nat → Nd × Nat) (names : List ByteArray) (k n : Nat) : List (Nd × ByteArray) := (List.range' (k + 1) n).map fun i => (bareN (H i).1, names.getD (i - 1) ⟨#[]⟩)
theorem brL_next (H : Nat → Nd × Nat) (names : List ByteArray) (k n : Nat) : brL H names k (n + 1) = brL H names k n ++ [(bareN (H (k + n + 1)).1, names.getD (k + n) ⟨#[]⟩)] := by
  unfold brL
  rw [List.range'_concat, List.map_append]
  simp
  rw [show k + 1 + n = k + n + 1 by omega]
theorem up_eq {us gs : List Rg} {xs : List Nd} {names : List ByteArray} {H : Nat → Nd × Nat} (h : Sees xs names H) {k : Nat} (hk : k < names.length) (hz : ∀ j, j ≤ k → (H j).2 = 0) (hn : (H (k + 1)).2 ≠ 0) :
    ∀ n, k + n + 1 ≤ names.length → upN us gs xs names (H 0).1 (k + n + 1) = match brF us gs (brL H names k (n + 1)) with
      | .error f => .error f
      | .ok L => chgF (some (chainF L)) (names.take (k + 1)) (H 0).1 := by
  have hnz : ∀ n, k + n + 1 ≤ names.length → (H (k + n + 1)).2 ≠ 0 := by
    intro n
    induction n with
    | zero => exact fun _ => hn
    | succ n ih =>
      intro hle
      have e : names[k + n + 1]? = some names[k + n + 1] := List.getElem?_eq_getElem (by omega)
      exact (sees_step h e).2.1 (ih (by omega))
  have ek : names[k]? = some names[k] := List.getElem?_eq_getElem hk
  have hfind := sees_find h k (by omega) hz
  have hdir := (sees_step h ek).1
  have hgd : ∀ i (hi : i < names.length), names.getD i ⟨#[]⟩ = names[i] := fun i hi => by simp [hi]
  intro n
  induction n with
  | zero =>
    intro hle
    show upN us gs xs names (H 0).1 (k + 1) = _
    rw [upN_step h hle hn, upN_low h k (by omega) hz, brL_next]
    rw [show brL H names k 0 = [] from rfl]
    rw [brF_snoc]
    simp only [brF, Nat.add_zero, hgd k hk]
    cases mvF true us gs (bareN (H (k + 1)).1) with
    | none => rfl
    | some x =>
      dsimp only
      by_cases hnm : nameB names[k] = false
      · rw [if_pos hnm, take_next2 ek, (chg_name hfind hdir).1 hnm]
      · rw [if_neg hnm]; rfl
  | succ n ih =>
    intro hle
    have ih := ih (by omega)
    have hz2 := hnz (n + 1) hle
    rw [upN_step h hle hz2, show k + (n + 1) = k + n + 1 from rfl, ih, brL_next H names k (n + 1), brF_snoc]
    cases hb : brF us gs (brL H names k (n + 1)) with
    | error f => rfl
    | ok L =>
      dsimp only
      obtain ⟨b1, b2, b3⟩ := brF_ok hb
      have hnm0 : ¬ nameB names[k] = false := by
        have e := b2 (bareN (H (k + 0 + 1)).1, names.getD (k + 0) ⟨#[]⟩) (by
          unfold brL
          exact List.mem_map.2 ⟨k + 1, by simp, by simp⟩)
        have e : nameB (names.getD k ⟨#[]⟩) = true := e
        rw [hgd k hk] at e
        rw [e]; simp
      have hL := b3 (fun p hp => by
        obtain ⟨i, hi, rfl⟩ := List.mem_map.1 hp
        rw [List.mem_range'_1] at hi
        have e : names[i]? = some names[i] := List.getElem?_eq_getElem (by omega)
        exact ⟨(bare_kind _).trans (sees_step h e).1, bare_kids _⟩)
      have hne : L ≠ [] := fun e => by
        rw [e] at b1
        have := congrArg List.length b1
        simp [brL] at this
      obtain ⟨r, hr⟩ := (chg_name (x := chainF L) hfind hdir).2 hnm0
      rw [← take_next2 ek] at hr
      rw [hr]
      dsimp only
      cases mvF true us gs (bareN (H (k + n + 1 + 1)).1) with
      | none => rfl
      | some x =>
        dsimp only
        have htail : names.take (k + (n + 1) + 1) = names.take (k + 1) ++ (L.tail.map Prod.snd ++ [names[k + (n + 1)]]) := by
          rw [List.map_tail, b1]
          have e : (brL H names k (n + 1)).map Prod.snd = (names.drop k).take (n + 1) := by
            unfold brL
            rw [List.map_map]
            refine List.ext_getElem? fun i => ?_
            rw [List.getElem?_map, List.getElem?_take]
            by_cases hi : i < n + 1
            · rw [if_pos hi, List.getElem?_drop, List.getElem?_eq_getElem (l := List.range' (k + 1) (n + 1)) (by simpa using hi)]
              simp only [List.getElem_range', Option.map_some, Function.comp]
              rw [show k + 1 + 1 * i - 1 = k + i by omega, hgd (k + i) (by omega), List.getElem?_eq_getElem (l := names) (by omega)]
            · rw [if_neg hi, List.getElem?_eq_none (by simpa using hi)]; rfl
          rw [e, ← List.drop_one, List.drop_take, List.drop_drop, Nat.add_sub_cancel]
          rw [show names.take (k + (n + 1) + 1) = names.take (k + 1) ++ (names.drop (k + 1)).take (n + 1) by rw [← List.take_add, show k + 1 + (n + 1) = k + (n + 1) + 1 by omega]]
          congr 1
          have e2 : (names.drop (k + 1))[n]? = some names[k + (n + 1)] := by
            rw [List.getElem?_drop, show k + 1 + n = k + (n + 1) by omega]
            exact List.getElem?_eq_getElem (by omega)
          rw [take_next2 e2]
        have htail : names.take (k + n + 1 + 1) = names.take (k + 1) ++ (L.tail.map Prod.snd ++ [names[k + (n + 1)]]) := htail
        rw [htail, put_below (by simp) hr, chain_put hne hL, hgd (k + (n + 1)) (by omega)]
        by_cases h2 : nameB names[k + (n + 1)] = false
        · rw [if_pos h2, if_pos h2]
        · rw [if_neg h2, if_neg h2]
end Go.Proofs.YtlbabnffiibnpaaGreat
namespace Go.Proofs.YtlbabnffiibnpaaGreat
open Go.RowKit
mutual
/-- All ids in it are ints. -/
def IdN : Nd → Prop
  | .mk _ _ u g _ _ _ ks => I64 u ∧ I64 g ∧ IdL ks
def IdL : List (ByteArray × Nd) → Prop
  | [] => True
  | (_, x) :: l => IdN x ∧ IdL l
end
theorem idL_get : ∀ {ks : List (ByteArray × Nd)} {i : Nat} {n : ByteArray} {x : Nd}, IdL ks → ks[i]? = some (n, x) → IdN x
  | [], _, _, _, _, h => by simp at h
  | (m, y) :: l, 0, n, x, hl, h => by simp at h; rw [IdL] at hl; rw [← h.2]; exact hl.1
  | (m, y) :: l, i + 1, n, x, hl, h => by rw [IdL] at hl; exact idL_get hl.2 (by simpa using h)
theorem id_kids {x : Nd} (h : IdN x) : IdL x.kids := by
  obtain ⟨k, m, u, g, o, at_, d, ks⟩ := x
  rw [IdN] at h
  exact h.2.2
def IdP (l : List (Nd × Nat)) : Prop := ∀ q ∈ l, IdN q.1
theorem IdP.kid {l : List (Nd × Nat)} (h : IdP l) (nm : ByteArray) : IdP (kidsP nm l) := fun q hq => by
  obtain ⟨p, hp, e⟩ := List.mem_filterMap.1 hq
  obtain ⟨y, hy, rfl⟩ := Option.map_eq_some_iff.1 e
  have h1 := h p hp
  unfold kidO at hy
  split at hy
  · cases hy
  · obtain ⟨e2, h3, rfl⟩ := Option.map_eq_some_iff.1 hy
    obtain ⟨n, z⟩ := e2
    exact idL_get (id_kids h1) h3
theorem IdP.sh {l : List (Nd × Nat)} (h : IdP l) : IdP (shP l) := fun q hq => h q (shP_sub l q hq)
theorem stackP_id {xs : List Nd} (h : IdP (layP xs)) : ∀ names : List ByteArray, IdP (stackP xs names) := by
  intro names
  unfold stackP
  generalize hl : shP (layP xs) = l
  have h2 : IdP l := by rw [← hl]; exact h.sh
  clear hl
  induction names generalizing l with
  | nil => exact h2
  | cons n r ih => rw [List.foldl_cons]; exact ih _ (h2.kid n).sh
end Go.Proofs.YtlbabnffiibnpaaGreat
namespace Go.Proofs.YtlbabnffiibnpaaGreat
open Go.RowKit
theorem cntL_set {m : ByteArray} {z y : Nd} : ∀ {ks : Kds}, fk m ks = some y → cntL (setk m z ks) + cnt y = cntL ks + cnt z
  | [], h => by cases h
  | (n, x) :: l, h => by
    rw [fk] at h
    rw [setk]
    by_cases e : n = m
    · rw [if_pos e] at h ⊢; simp only [Option.some.injEq] at h; subst h; rw [cntL, cntL]; omega
    · rw [if_neg e] at h ⊢; have := cntL_set (z := z) h; rw [cntL, cntL]; omega
theorem cntL_ins (m : ByteArray) (z : Nd) : ∀ ks : Kds, cntL (insk m z ks) = cntL ks + cnt z
  | [] => by rw [insk]; simp [cntL]
  | (n, x) :: l => by
    rw [insk]
    split
    · rw [cntL, cntL]; omega
    · have := cntL_ins m z l; rw [cntL, cntL]; omega
theorem cntL_del (m : ByteArray) : ∀ ks : Kds, cntL (delk m ks) ≤ cntL ks
  | [] => by rw [delk]; exact Nat.le_refl _
  | (n, x) :: l => by
    rw [delk]
    split
    · rw [cntL]; omega
    · have := cntL_del m l; rw [cntL, cntL]; omega
theorem cnt_with (x : Nd) (ks : Kds) : cnt (x.with ks) = cntL ks + 1 := by obtain ⟨k, m, u, g, o, at_, d, ks'⟩ := x; rfl
theorem cnt_nd (x : Nd) : cnt x = cntL x.kids + 1 := by obtain ⟨k, m, u, g, o, at_, d, ks'⟩ := x; rfl
def cntO : Option Nd → Nat
  | none => 0
  | some x => cnt x
/-- A change of a list keeps what each kid's node has. -/
theorem chg_ind {c : Option Nd} (P : Nd → Nd → Prop) (hlast : ∀ m n ks, n.kind = 2 → lastG c m n.kids = .ok ks → P n (n.with ks)) (hstep : ∀ m n y z, n.kind = 2 → fk m n.kids = some y → P y z → P n (n.with (setk m z n.kids))) :
    ∀ {l : List ByteArray} {n r : Nd}, chgF c l n = .ok r → P n r
  | [], n, r, h => by rw [chgF] at h; cases h
  | [m], n, r, h => by
    rw [chg_one] at h
    by_cases hk : n.kind ≠ 2
    · rw [if_pos hk] at h; cases h
    rw [if_neg hk] at h
    cases hl : lastG c m n.kids with
    | error f => rw [hl] at h; cases h
    | ok ks =>
      rw [hl] at h
      simp only [Except.map, Except.ok.injEq] at h
      subst h
      exact hlast m n ks (by simpa using hk) hl
  | m :: m' :: l, n, r, h => by
    rw [chg_fk] at h
    by_cases hk : n.kind ≠ 2
    · rw [if_pos hk] at h; cases h
    rw [if_neg hk] at h
    cases hf : fk m n.kids with
    | none => rw [hf] at h; cases h
    | some y =>
      rw [hf] at h
      simp only at h
      cases hc : chgF c (m' :: l) y with
      | error f => rw [hc] at h; cases h
      | ok z =>
        rw [hc] at h
        simp only [Except.map, Except.ok.injEq] at h
        subst h
        exact hstep m n y z (by simpa using hk) hf (chg_ind P hlast hstep hc)
theorem last_parts {c : Option Nd} {m : ByteArray} {ks ks' : Kds} (h : lastG c m ks = .ok ks') : (∃ x, c = some x ∧ nameB m = true ∧ ((fk m ks = none ∧ ks' = insk m x ks) ∨ (fk m ks ≠ none ∧ ks' = setk m x ks))) ∨ (c = none ∧ fk m ks ≠ none ∧ ks' = delk m ks) := by
  cases c with
  | some x =>
    left
    simp only [lastG] at h
    by_cases hn : nameB m = false
    · rw [if_pos hn] at h; cases h
    rw [if_neg hn] at h
    simp only [Except.ok.injEq] at h
    refine ⟨x, rfl, by simpa using hn, ?_⟩
    by_cases hf : fk m ks = none
    · rw [if_pos hf] at h; exact .inl ⟨hf, h.symm⟩
    · rw [if_neg hf] at h; exact .inr ⟨hf, h.symm⟩
  | none =>
    right
    simp only [lastG] at h
    by_cases hn : fk m ks = none
    · rw [if_pos hn] at h; cases h
    rw [if_neg hn] at h
    simp only [Except.ok.injEq] at h
    exact ⟨rfl, hn, h.symm⟩
theorem chg_cnt {c : Option Nd} {l : List ByteArray} {n r : Nd} (h : chgF c l n = .ok r) : cnt r ≤ cnt n + cntO c := by
  refine chg_ind (c := c) (fun n r => cnt r ≤ cnt n + cntO c) ?_ ?_ h
  · intro m n ks _ hl
    rw [cnt_with, cnt_nd n]
    rcases last_parts hl with ⟨x, rfl, _, ⟨_, rfl⟩ | ⟨hf, rfl⟩⟩ | ⟨rfl, _, rfl⟩
    · rw [cntL_ins]; show _ ≤ _ + cnt x; omega
    · obtain ⟨y, hy⟩ := Option.ne_none_iff_exists'.1 hf
      have := cntL_set (z := x) hy
      show _ ≤ _ + cnt x; omega
    · have := cntL_del m n.kids; omega
  · intro m n y z _ hf hz
    have := cntL_set (z := z) hf
    rw [cnt_with, cnt_nd n]; omega
mutual
/-- No list of attributes is too long. -/
def At1 : Nd → Prop
  | .mk _ _ _ _ _ at_ _ ks => at_.length ≤ 1000 ∧ At1L ks
def At1L : Kds → Prop
  | [] => True
  | (_, x) :: l => At1 x ∧ At1L l
end
theorem at1L_fk {m : ByteArray} {y : Nd} : ∀ {ks : Kds}, At1L ks → fk m ks = some y → At1 y
  | [], _, h => by cases h
  | (n, x) :: l, ha, h => by
    rw [At1L] at ha
    rw [fk] at h
    by_cases e : n = m
    · rw [if_pos e] at h; simp only [Option.some.injEq] at h; subst h; exact ha.1
    · rw [if_neg e] at h; exact at1L_fk ha.2 h
theorem at1L_set {m : ByteArray} {z : Nd} (hz : At1 z) : ∀ {ks : Kds}, At1L ks → At1L (setk m z ks)
  | [], _ => by rw [setk, At1L]; trivial
  | (n, x) :: l, ha => by
    rw [At1L] at ha
    rw [setk]
    split
    · rw [At1L]; exact ⟨hz, ha.2⟩
    · rw [At1L]; exact ⟨ha.1, at1L_set hz ha.2⟩
theorem at1L_ins {m : ByteArray} {z : Nd} (hz : At1 z) : ∀ {ks : Kds}, At1L ks → At1L (insk m z ks)
  | [], _ => by rw [insk, At1L, At1L]; exact ⟨hz, trivial⟩
  | (n, x) :: l, ha => by
    rw [insk]
    split
    · rw [At1L]; exact ⟨hz, ha⟩
    · rw [At1L] at ha ⊢; exact ⟨ha.1, at1L_ins hz ha.2⟩
theorem at1L_del {m : ByteArray} : ∀ {ks : Kds}, At1L ks → At1L (delk m ks)
  | [], _ => by rw [delk, At1L]; trivial
  | (n, x) :: l, ha => by
    rw [At1L] at ha
    rw [delk]
    split
    · exact ha.2
    · rw [At1L]; exact ⟨ha.1, at1L_del ha.2⟩
theorem at1_with {x : Nd} {ks : Kds} : At1 (x.with ks) ↔ At1 (x.with []) ∧ At1L ks := by
  obtain ⟨k, m, u, g, o, at_, d, ks'⟩ := x
  show At1 (.mk k m u g o at_ d ks) ↔ At1 (.mk k m u g o at_ d []) ∧ At1L ks
  rw [At1, At1, At1L]
  exact ⟨fun h => ⟨⟨h.1, trivial⟩, h.2⟩, fun h => ⟨h.1.1, h.2⟩⟩
theorem with_self (x : Nd) : x.with x.kids = x := by obtain ⟨k, m, u, g, o, at_, d, ks⟩ := x; rfl
theorem chg_at1 {c : Option Nd} {l : List ByteArray} {n r : Nd} (h : chgF c l n = .ok r) (hc : ∀ x, c = some x → At1 x) : At1 n → At1 r := by
  refine chg_ind (c := c) (fun n r => At1 n → At1 r) ?_ ?_ h
  · intro m n ks _ hl hn
    rw [← with_self n, at1_with] at hn
    rw [at1_with]
    refine ⟨hn.1, ?_⟩
    rcases last_parts hl with ⟨x, rfl, _, ⟨_, rfl⟩ | ⟨_, rfl⟩⟩ | ⟨rfl, _, rfl⟩
    · exact at1L_ins (hc x rfl) hn.2
    · exact at1L_set (hc x rfl) hn.2
    · exact at1L_del hn.2
  · intro m n y z _ hf hz hn
    rw [← with_self n, at1_with] at hn
    rw [at1_with]
    exact ⟨hn.1, at1L_set (hz (at1L_fk hn.2 hf)) hn.2⟩
mutual
theorem lim_at : ∀ (x : Nd), At1 x → cnt x ≤ 1000 → Lim x
  | .mk _ _ _ _ _ at_ d ks, ha, hc => by
    rw [cnt] at hc
    rw [At1] at ha
    rw [Lim]
    have := cntL_len ks
    exact ⟨ha.1, by omega, limL_at ks ha.2 (by omega)⟩
theorem limL_at : ∀ (l : Kds), At1L l → cntL l ≤ 1000 → LimL l
  | [], _, _ => by rw [LimL]; trivial
  | (n, x) :: l, ha, hc => by
    rw [cntL] at hc
    rw [At1L] at ha
    rw [LimL]
    exact ⟨lim_at x ha.1 (by omega), limL_at l ha.2 (by omega)⟩
end
mutual
theorem at_lil : ∀ (x : Nd), Lil x → At1 x
  | .mk _ _ _ _ _ at_ d ks, h => by
    rw [Lil] at h
    rw [At1]
    have h1 := h.1.1
    exact ⟨by omega, atL_lil ks h.2.2⟩
theorem atL_lil : ∀ (l : Kds), LilL l → At1L l
  | [], _ => by rw [At1L]; trivial
  | (n, x) :: l, h => by rw [LilL] at h; rw [At1L]; exact ⟨at_lil x h.2.1, atL_lil l h.2.2⟩
end
end Go.Proofs.YtlbabnffiibnpaaGreat
namespace Go.Proofs.YtlbabnffiibnpaaGreat
open Go.RowKit
theorem idT_of {x : Nd} (h : IdN x) : IdT x := by
  obtain ⟨k, m, u, g, o, at_, d, ks⟩ := x
  rw [IdN] at h
  exact ⟨h.1, h.2.1⟩
theorem idT_bare {x : Nd} (h : IdT x) : IdT (bareN x) := by
  obtain ⟨k, m, u, g, o, at_, d, ks⟩ := x
  exact h
theorem stackP_no {xs : List Nd} {names : List ByteArray} {i : Nat} (_hi : i ≤ names.length) (h : stackP xs (names.take i) = []) : stackP xs names = [] := by
  have e : names = names.take i ++ names.drop i := (List.take_append_drop i names).symm
  unfold stackP at h ⊢
  rw [e, List.foldl_append, h]
  generalize names.drop i = r
  induction r with
  | nil => rfl
  | cons n r ih => rw [List.foldl_cons]; exact ih
theorem sees_of {xs : List Nd} {names : List ByteArray} (h : stackP xs names ≠ []) : ∃ H, Sees xs names H := by
  have key : ∀ i, ∃ q : Nd × Nat, i ≤ names.length → ∃ r, stackP xs (names.take i) = q :: r := fun i => by
    by_cases hi : i ≤ names.length
    · cases hs : stackP xs (names.take i) with
      | nil => exact absurd (stackP_no hi hs) h
      | cons q r => exact ⟨q, fun _ => ⟨r, rfl⟩⟩
    · exact ⟨(zN, 0), fun e => absurd e hi⟩
  exact ⟨fun i => Classical.choose (key i), fun i hi => Classical.choose_spec (key i) hi⟩
theorem Strs.take {c : Mem} {a : Option Addr} {l : List ByteArray} (h : Strs c a l) (n : Nat) : Strs c a (l.take n) := by
  rcases h with e | ⟨b, off, e, h⟩
  · subst e; exact .inl (by simp)
  · refine .inr ⟨b, off, e, fun i s hi => h i s ?_⟩
    rw [List.getElem?_take] at hi
    split at hi
    · exact hi
    · cases hi
theorem cnt_mv {out : Bool} {us gs : List Rg} {x y : Nd} (h : mvF out us gs x = some y) : cnt y = cnt x := by rw [cnt_nd, cnt_nd, (mv_keep h).2]
theorem cnt_bare (x : Nd) : cnt (bareN x) = 1 := by rw [cnt_nd, bare_kids]; rfl
end Go.Proofs.YtlbabnffiibnpaaGreat
namespace Go.Proofs.YtlbabnffiibnpaaGreat
open Go.RowKit
/-- A node with its layer. -/
structure Fl where
  x : Nd
  h : Hd
  ly : Nat
def Fl.pr (f : Fl) : Nd × Nat := (f.x, f.ly)
theorem take_nextM {α : Type} {l : List α} {n : Nat} {x : α} (h : l[n]? = some x) : l = l.take n ++ x :: l.drop (n + 1) := by
  obtain ⟨hlt, e⟩ := List.getElem?_eq_some_iff.1 h
  have e2 := List.drop_eq_getElem_cons hlt
  rw [e] at e2
  rw [← e2, List.take_append_drop]
end Go.Proofs.YtlbabnffiibnpaaGreat
namespace Go.Proofs.YtlbabnffiibnpaaGreat
open Go.RowKit
/-- A node and an error that are answered. -/
def NdE (W W' : World) (S : Nat → Bool) (e : Ending) (R : Except Int Nd) : Prop := (∃ h', e = .returned (.tuple #[ndV (xNd R) h', errV (xErr R)]) ∧ NdV (offS W'.cell? S) (xNd R) h') ∧ Below W.heap.size W W'
theorem zN_in (c : Mem) : NdV c zN zH := ndV_iff.2 ⟨.inl rfl, ⟨Nat.le_refl _, by show (0 : Nat) ≤ _; omega⟩, ⟨Nat.le_refl _, by show (0 : Nat) ≤ _; omega⟩, .inl rfl⟩
theorem kids_le {y : Nd} {n : Nat} (h : cnt y ≤ n) : y.kids.length ≤ n := by
  have h1 := cntL_len y.kids
  have h2 := cnt_kids y
  omega
theorem errV_iface {f : Int} (h : f ≠ 0) : (.iface 44 (.int .i64 f) : Value) = errV f := (errV_of rfl h).symm
end Go.Proofs.YtlbabnffiibnpaaGreat
namespace Go.Proofs.YtlbabnffiibnpaaGreat
open Go.RowKit
set_option maxRecDepth 100000 in
set_option maxHeartbeats 4000000 in
theorem changePut_any {W : World} {S : Nat → Bool} (hS0 : ∀ k, S k = true → k < W.heap.size) {x0 : Nd} {h : Hd} (hN : NdV (offS W.cell? S) x0 h) (a : Option Addr) (cl : Nat) (l : List ByteArray) (hS : Strs W.cell? a l) (hll : l.length ≤ 1000) (hcl : l.length ≤ cl ∧ cl ≤ 9223372036854775807) (hcnt : cnt x0 ≤ 800) (bx : Nat) (xp : Nd) (hxp : Hd) (hX : NBox W bx xp hxp) (hXN : NdV (offS W.cell? S) xp hxp) (hres : ∀ r, chgF (some xp) l x0 = .ok r → Lim r ∧ cnt r ≤ 1000) :
    Calls Tryz.prog 30 #[ndV x0 h, .slice a l.length cl, .func (.func 31) #[] #[.pointer (some ⟨bx, 0, none⟩)]] W fun e W' => NdE W W' S e (chgF (some xp) l x0) := by
  obtain ⟨RR, HRR⟩ : ∃ RR, Hid (chgF (some xp) l x0 = RR) := ⟨_, rfl⟩
  have HRES : Hid (∀ r, RR = .ok r → Lim r ∧ cnt r ≤ 1000) := by rw [← HRR.out]; exact hres
  clear hres
  obtain ⟨k, m, u, g, o, at_, d, ks⟩ := x0
  have B0 := NBw.new W k m u g o at_ d ks h
  have hB0 : Below W.heap.size W (W.alloc (.cells #[.int .i64 k, .int .i64 m, .int .i64 u, .int .i64 g, .bool o, .slice h.aa at_.length h.ca, .string d, .slice h.ak ks.length h.ck] 34)) := (Below.refl _ _).alloc (Nat.le_refl _) _
  have R1 := NBw.zero (W.alloc (.cells #[.int .i64 k, .int .i64 m, .int .i64 u, .int .i64 g, .bool o, .slice h.aa at_.length h.ca, .string d, .slice h.ak ks.length h.ck] 34))
  rw [World.size_alloc] at R1
  have B1 := B0.below ((Below.refl _ _).alloc (Nat.le_refl _) (.cells #[.int .i64 0, .int .i64 0, .int .i64 0, .int .i64 0, .bool false, .slice none 0 0, .string ⟨#[]⟩, .slice none 0 0] 34))
  have hB1 : Below W.heap.size W ((W.alloc (.cells #[.int .i64 k, .int .i64 m, .int .i64 u, .int .i64 g, .bool o, .slice h.aa at_.length h.ca, .string d, .slice h.ak ks.length h.ck] 34)).alloc (.cells #[.int .i64 0, .int .i64 0, .int .i64 0, .int .i64 0, .bool false, .slice none 0 0, .string ⟨#[]⟩, .slice none 0 0] 34)) := hB0.alloc hB0.size _
  show Calls Tryz.prog 30 #[.agg #[.int .i64 k, .int .i64 m, .int .i64 u, .int .i64 g, .bool o, .slice h.aa at_.length h.ca, .string d, .slice h.ak ks.length h.ck], .slice a l.length cl, .func (.func 31) #[] #[.pointer (some ⟨bx, 0, none⟩)]] _ _
  rw [HRR.out]
  by_cases hnil : l = []
  · subst hnil
    have HE : Hid (RR = .error 7) := by show _ = _; rw [← HRR.out, chgF]
    obtain ⟨z8, r0, r1, r2, r3, r4, r5, r6, r7⟩ : (∀ j, ((W.alloc (.cells #[.int .i64 k, .int .i64 m, .int .i64 u, .int .i64 g, .bool o, .slice h.aa at_.length h.ca, .string d, .slice h.ak ks.length h.ck] 34)).alloc (.cells #[.int .i64 0, .int .i64 0, .int .i64 0, .int .i64 0, .bool false, .slice none 0 0, .string ⟨#[]⟩, .slice none 0 0] 34)).frozen? ⟨W.heap.size + 1, j, none⟩ = false) ∧ NBox ((W.alloc (.cells #[.int .i64 k, .int .i64 m, .int .i64 u, .int .i64 g, .bool o, .slice h.aa at_.length h.ca, .string d, .slice h.ak ks.length h.ck] 34)).alloc (.cells #[.int .i64 0, .int .i64 0, .int .i64 0, .int .i64 0, .bool false, .slice none 0 0, .string ⟨#[]⟩, .slice none 0 0] 34)) (W.heap.size + 1) zN zH := ⟨R1.2, R1.1⟩
    clear B0 hB0 B1 R1
    go_enter Tryz.func30, Tryz.ntmps30
    go_wp2
    refine bodyPost_ret (v := .tuple #[ndV zN zH, errV 7]) (by simp [results, Tryz.results30, go_sem, ndV, zN, zH, errV]) rfl ⟨⟨zH, by rw [HE.out]; rfl, by rw [HE.out]; exact zN_in _⟩, ?_⟩
    exact hB1
  obtain ⟨b, off, rfl, hst⟩ : ∃ b off, a = some ⟨b, off, none⟩ ∧ ∀ i s, l[i]? = some s → W.cell? ⟨b, off + i, none⟩ = some (.string s) := by
    rcases hS with e | e
    · exact absurd e hnil
    · exact e
  have HST : Hid (∀ i s, l[i]? = some s → W.cell? ⟨b, off + i, none⟩ = some (.string s)) := hst
  obtain ⟨n, hn⟩ : ∃ n, l.length = n + 1 := ⟨l.length - 1, by have := List.length_pos_iff.2 hnil; omega⟩
  have HN1 : Hid (l.length = n + 1) := hn
  have hn2 : n < l.length := by omega
  have hn3 : n ≤ cl := by omega
  have hn4 : n ≤ 1000 := by omega
  have dw : IntKind.i64.wrap ((l.length : Int) - 1) = (n : Int) := (wrap_small (by omega) (by omega)).trans (by omega)
  have dj : (l.length : Int) - 1 = (n : Int) := by omega
  have dz : ((l.length : Int) == 0) = false := by simp; omega
  have hsp : Spine W ((W.alloc (.cells #[.int .i64 k, .int .i64 m, .int .i64 u, .int .i64 g, .bool o, .slice h.aa at_.length h.ca, .string d, .slice h.ak ks.length h.ck] 34)).alloc (.cells #[.int .i64 0, .int .i64 0, .int .i64 0, .int .i64 0, .bool false, .slice none 0 0, .string ⟨#[]⟩, .slice none 0 0] 34)) S W.heap.size (.mk k m u g o at_ d ks) (some xp) l l W.heap.size 0 (.mk k m u g o at_ d ks) h := Spine.start hB1 rfl R1 B1 hS0 hN
  clear hst hS hnil hn B0 hB0 B1 R1 hB1
  go_enter Tryz.func30, Tryz.ntmps30
  go_wp2
  generalize (W.alloc (.cells #[.int .i64 k, .int .i64 m, .int .i64 u, .int .i64 g, .bool o, .slice h.aa at_.length h.ca, .string d, .slice h.ak ks.length h.ck] 34)).alloc (.cells #[.int .i64 0, .int .i64 0, .int .i64 0, .int .i64 0, .bool false, .slice none 0 0, .string ⟨#[]⟩, .slice none 0 0] 34) = w1 at hsp ⊢
  generalize hsz : W.heap.size = nb at hsp ⊢
  clear dw dj dz
  go_loopw [27, 8] (fun i v wr => ∃ (j ab ap : Nat) (y : Nd) (hy : Hd), j ≤ n ∧ i = .int .i64 j ∧ v = .pointer (some ⟨ab, ap, none⟩) ∧ Spine W wr S nb (.mk k m u g o at_ d ks) (some xp) l (l.drop j) ab ap y hy ∧ cnt y ≤ 800) (fun i _ _ => n - (intOf i).toNat)
  case atStart => exact ⟨0, nb, 0, _, h, Nat.zero_le _, rfl, rfl, hsp, hcnt⟩
  case round =>
    obtain ⟨j, ab, ap, y, hy, hj, rfl, rfl, hsp, hcy⟩ := hrel
    have hkl : y.kids.length ≤ 800 := kids_le hcy
    obtain ⟨L, hL, hKH⟩ := ksV_ksH (show KsV (offS W.cell? S) hy.ak y.kids by
      have ht := hsp.tree
      obtain ⟨k', m', u', g', o', at', d', ks'⟩ := y
      exact (ndV_iff.1 ht).2.2.2)
    have hll2 : y.kids.length = L.length := by rw [← hL, bare_length]
    have hcap : y.kids.length ≤ hy.ck ∧ hy.ck ≤ 9223372036854775807 := by
      have ht := hsp.tree
      obtain ⟨k', m', u', g', o', at', d', ks'⟩ := y
      exact (ndV_iff.1 ht).2.2.1
    have HL : Hid (bare L = y.kids) := hL
    have HLL : Hid (y.kids.length = L.length) := hll2
    have hKw : KsH wr.cell? hy.ak L := (hKH.on (offS_le _ _)).on (mle_below hsp.low)
    have hR := hsp.res
    have R6 := hR.store zN zH
    have b6 : But (nb + 1) wr (stB wr (nb + 1) zN zH) := stB_but
    have hB6 := hsp.low.trans (b6.below (B := W.heap.size) (by omega) hsp.low.size)
    obtain ⟨⟨z0, z1, z2, z3, z4, z5, z6, z7⟩, z8⟩ := id hR
    have hat := hsp.atc
    have hfz := hsp.fz 
    have HSP : Hid (Spine W wr S nb (.mk k m u g o at_ d ks) (some xp) l (l.drop j) ab ap y hy) := hsp
    have HEZ : Hid (∀ f, f ≠ 0 → RR = .error f → NdE W (stB wr (nb + 1) zN zH) S (.returned (.tuple #[ndV zN zH, errV f])) RR) := by
      intro f _ hf
      rw [hf]
      exact ⟨⟨zH, rfl, zN_in _⟩, hB6⟩
    generalize hw6 : stB wr (nb + 1) zN zH = w6 at R6 HEZ
    have HW6 : Hid (stB wr (nb + 1) zN zH = w6) := hw6
    have hwr : Below W.heap.size W wr := hsp.low
    clear hw6 b6 hB6 hR hL hll2 hsp
    by_cases hjn : j < n
    rotate_left
    · -- at the end
      have ej : j = n := by omega
      subst ej
      have hji : decide ((j : Int) < (j : Int)) = false := decide_eq_false (by omega)
      obtain ⟨nm, hnm⟩ : ∃ s, l[j]? = some s := ⟨l[j]'(by omega), List.getElem?_eq_getElem _⟩
      have HDR : Hid (l.drop j = [nm]) := by
        show _ = _
        rw [List.drop_eq_getElem_cons (by omega), List.drop_of_length_le (by have := HN1.out; omega)]
        rw [List.getElem?_eq_getElem (by omega)] at hnm
        simp at hnm; rw [hnm]
      rw [HDR.out] at HSP
      have c0 : wr.cell? ⟨b, off + j, none⟩ = some (.string nm) := (hwr.cell (p := ⟨b, off + j, none⟩) (World.block_lt_of_cell? _ _ (HST.out j nm hnm))).trans (HST.out j nm hnm)
      have HRL : Hid (∃ plug : Nd → Nd, RR = (chgF (some xp) [nm] y).map plug) := by
        obtain ⟨plug, q, _⟩ := HSP.out.wand
        exact ⟨plug, by rw [← HRR.out]; exact q⟩
      clear hnm HDR
      obtain ⟨k', m', u', g', o', at', d', ks'⟩ := y
      obtain ⟨y0, y1, y2, y3, y4, y5, y6, y7⟩ := hat
      have hji2 : (j : Int) < (l.length : Int) := by omega
      by_cases hk2 : k' = 2
      rotate_left
      · have bk : (k' != 2) = true := bne_iff_ne.2 hk2
        have HE : Hid (RR = .error 7) := by
          obtain ⟨plug, q⟩ := HRL.out
          show _ = _
          rw [q, chgF, if_pos (by exact hk2)]; rfl
        clear hk2
        go_wp2
        have hw6 := HW6.out
        simp only [stB, zN, zH] at hw6
        simp only [List.length_nil] at hw6
        rw [hw6]
        obtain ⟨r0, r1, r2, r3, r4, r5, r6, r7⟩ := R6.1
        refine bodyPost_ret (v := .tuple #[ndV zN zH, errV 7]) (by simp [results, Tryz.results30, go_sem, ndV, zN, zH, errV, r0, r1, r2, r3, r4, r5, r6, r7]) rfl (HEZ.out 7 (by decide) HE.out)
      subst hk2
      have bk : ((2 : Int) != 2) = false := rfl
      have hq5 : Below wr.heap.size wr wr.drew := below_drewN (Below.refl _ _) 1
      have hAl := put1_any hy.ak hy.ck bx xp hxp L nm wr.drew (by have := HLL.out; omega) (by have := HLL.out; have := hcap.1; omega) hcap.2 (hKw.on (mle_below hq5)) (hX.below (hwr.trans (hq5.mono hwr.size))) ((hXN.on (offS_le _ _)).ab (hwr.trans (hq5.mono hwr.size)))
      rw [← HLL.out] at hAl
      have HAL2 : Hid (lastF (some xp) nm ks' = match altL (some (xp, hxp)) nm L with | .error f => .error f | .ok M => .ok (bare M)) := by
        have q := alt_last (some (xp, hxp)) nm L
        rw [HL.out] at q
        exact q
      cases hA : altL (some (xp, hxp)) nm L with
      | error f =>
        rw [hA] at HAL2
        have hAl2 : Calls Tryz.prog 31 #[.slice hy.ak ks'.length hy.ck, .string nm, .pointer (some ⟨bx, 0, none⟩)] wr.drew fun e w' => (f ≠ 0 ∧ e = .returned (.tuple #[.slice none 0 0, .iface 44 (.int .i64 f)])) ∧ Below wr.drew.heap.size wr.drew w' := by
          refine hAl.mono ?_
          rintro e w' ⟨q | ⟨M, v, q, _⟩, hb⟩
          · obtain ⟨f', q1, q2, q3⟩ := q
            rw [hA] at q1
            simp only [Except.error.injEq] at q1
            subst q1
            exact ⟨⟨q2, q3⟩, hb⟩
          · rw [hA] at q; cases q
        have HE : Hid (RR = .error f) := by
          obtain ⟨plug, q⟩ := HRL.out
          show _ = _
          rw [q, chgF, if_neg (by show ¬ (2 : Int) ≠ 2; simp)]
          show Except.map plug (Except.map _ (lastF (some xp) nm ks')) = _
          rw [HAL2.out]; rfl
        have T5 : wr.drew.cell? ⟨ab, ap + 7, none⟩ = some (.slice hy.ak ks'.length hy.ck) ∧ wr.drew.cell? ⟨b, off + j, none⟩ = some (.string nm) := ⟨y7, c0⟩
        have HAC : Hid _ := hAl2
        clear hA hAl hAl2 HAL2
        go_wp2
        go_region_held3 (fun w' => w'.cell? ⟨ab, ap + 7, none⟩ = some (.slice hy.ak ks'.length hy.ck) ∧ w'.cell? ⟨b, off + j, none⟩ = some (.string nm)) (first | exact T5 | exact T6) (first | (go_at_call 31; refine Calls.mono HAC.out ?_; rintro e w2 ⟨⟨hf0, rfl⟩, hB4⟩; have T6 : w2.cell? ⟨ab, ap + 7, none⟩ = some (.slice hy.ak ks'.length hy.ck) ∧ w2.cell? ⟨b, off + j, none⟩ = some (.string nm) := ⟨(hB4.cell (p := ⟨ab, ap + 7, none⟩) (World.block_lt_of_cell? _ _ T5.1)).trans T5.1, (hB4.cell (p := ⟨b, off + j, none⟩) (World.block_lt_of_cell? _ _ T5.2)).trans T5.2⟩))
        all_goals
          have b2 : Below wr.heap.size wr w2 := hq5.trans hB4
          have hR2 := HSP.out.res.below b2
          have hwr2 := hwr.trans (b2.mono hwr.size)
          have R7 := hR2.store zN zH
          have b7 : But (nb + 1) w2 (stB w2 (nb + 1) zN zH) := stB_but
          have hB7 := hwr2.trans (b7.below (B := W.heap.size) (by omega) hwr2.size)
          generalize hw7 : stB w2 (nb + 1) zN zH = w7 at R7 hB7
          have HW7 : Hid (stB w2 (nb + 1) zN zH = w7) := hw7
          clear hw7 b7 y0 y1 y2 y3 y4 y5 y6 y7 z0 z1 z2 z3 z4 z5 z6 z7 z8 c0 hB4 T5 T6 hwr hwr2 hq5 b2 R6 HW6 HEZ HAC hfz
          obtain ⟨⟨z0, z1, z2, z3, z4, z5, z6, z7⟩, z8⟩ := id hR2
          go_wp2
          have hw7 := HW7.out
          simp only [stB, zN, zH, List.length_nil] at hw7
          rw [hw7]
          obtain ⟨r0, r1, r2, r3, r4, r5, r6, r7⟩ := R7.1
          refine bodyPost_ret (v := .tuple #[ndV zN zH, .iface 44 (.int .i64 f)]) (by simp [results, Tryz.results30, go_sem, ndV, zN, zH, r0, r1, r2, r3, r4, r5, r6, r7]) rfl ⟨⟨zH, by rw [HE.out, errV_iface hf0]; rfl, by rw [HE.out]; exact zN_in _⟩, hB7⟩
      | ok M =>
        rw [hA] at HAL2
        have hAl2 : Calls Tryz.prog 31 #[.slice hy.ak ks'.length hy.ck, .string nm, .pointer (some ⟨bx, 0, none⟩)] wr.drew fun e w' => (∃ ak ck, e = .returned (.tuple #[.slice ak M.length ck, .nilIface]) ∧ w'.ownsRow wr.heap.size 61 9 (.slice ak M.length ck) M.length (kfl M)) ∧ Below wr.drew.heap.size wr.drew w' := by
          refine hAl.mono ?_
          rintro e w' ⟨⟨f, q, _⟩ | ⟨M', v, q, rfl, q2⟩, hb⟩
          · rw [hA] at q; cases q
          · rw [hA] at q
            simp only [Except.ok.injEq] at q
            subst q
            obtain ⟨ak, ck, hv, _⟩ := owns_cells q2
            subst hv
            exact ⟨⟨ak, ck, rfl, q2⟩, hb⟩
        have HMN : Hid (∀ e ∈ M, NdV (offS W.cell? S) e.2.1 e.2.2) := by
          intro e he
          simp only [altL] at hA
          split at hA
          · cases hA
          · simp only [Except.ok.injEq] at hA
            subst hA
            rcases mem_put he with q | q
            · rw [q]; exact hXN
            · exact hKH.2 e q
        have T5 : wr.drew.cell? ⟨ab, ap + 7, none⟩ = some (.slice hy.ak ks'.length hy.ck) ∧ wr.drew.cell? ⟨b, off + j, none⟩ = some (.string nm) := ⟨y7, c0⟩
        have HAC : Hid _ := hAl2
        clear hA hAl hAl2
        go_wp2
        go_region_held3 (fun w' => w'.cell? ⟨ab, ap + 7, none⟩ = some (.slice hy.ak ks'.length hy.ck) ∧ w'.cell? ⟨b, off + j, none⟩ = some (.string nm)) (first | exact T5 | exact T6) (first | (go_at_call 31; refine Calls.mono HAC.out ?_; rintro e w2 ⟨⟨ak, ck, rfl, hrow⟩, hB4⟩; have T6 : w2.cell? ⟨ab, ap + 7, none⟩ = some (.slice hy.ak ks'.length hy.ck) ∧ w2.cell? ⟨b, off + j, none⟩ = some (.string nm) := ⟨(hB4.cell (p := ⟨ab, ap + 7, none⟩) (World.block_lt_of_cell? _ _ T5.1)).trans T5.1, (hB4.cell (p := ⟨b, off + j, none⟩) (World.block_lt_of_cell? _ _ T5.2)).trans T5.2⟩))
        all_goals
          have b2 : Below wr.heap.size wr w2 := hq5.trans hB4
          obtain ⟨r, hr, q1, q2, q3, q4, q5⟩ := HSP.out.fin b2 (Nat.le_refl _) HMN.out rfl HAL2.out rfl hrow
          have hfz2 : w2.frozen? ⟨ab, ap + 7, none⟩ = false := (b2.frozen (p := ⟨ab, ap + 7, none⟩) HSP.out.atc.lt).trans (hfz _)
          have HE : Hid (RR = .ok r) := by show _ = _; rw [← HRR.out]; exact q1
          obtain ⟨hlr, hcr⟩ := HRES.out r HE.out
          have s7 := T6.1
          clear q1 y0 y1 y2 y3 y4 y5 y6 y7 z0 z1 z2 z3 z4 z5 z6 z7 z8 c0 hB4 T5 T6 hwr hq5 b2 R6 HW6 HEZ HAC hfz hrow
          have ho := own_any (S := upS nb S) (fun k hk => by
            simp [upS] at hk
            rcases hk with hk | hk
            · have := q5.1.lt; omega
            · have := HSP.out.hS k hk; have := q4.size; omega) q3 hlr hcr
          have HO : Hid _ := ho
          clear ho
          generalize hw3 : w2.setCell ⟨ab, ap + 7, none⟩ (.slice ak M.length ck) = w3 at q2 q3 q4 q5 HO
          have HW3 : Hid (w2.setCell ⟨ab, ap + 7, none⟩ (.slice ak M.length ck) = w3) := hw3
          obtain ⟨k2, m2, u2, g2, o2, at2, d2, ks2⟩ := r
          obtain ⟨x0, x1, x2, x3, x4, x5, x6, x7⟩ := id q2
          go_wp2_with fail
          refine Calls.mono HO.out ?_
          rintro e w4 ⟨⟨h', rfl, hN4⟩, b4⟩
          have R4 := q5.below b4
          have hB4 := q4.trans (b4.mono q4.size)
          have R7 := R4.store (.mk k2 m2 u2 g2 o2 at2 d2 ks2) h'
          have b7 : But (nb + 1) w4 (stB w4 (nb + 1) (.mk k2 m2 u2 g2 o2 at2 d2 ks2) h') := stB_but
          have hB7 := hB4.trans (b7.below (B := W.heap.size) (by omega) hB4.size)
          have step : MLe (offS w4.cell? (upS nb S)) (offS (stB w4 (nb + 1) (.mk k2 m2 u2 g2 o2 at2 d2 ks2) h').cell? S) := mle_step fun q hq hs => ⟨(upS_no.1 hs).2, b7.block q hq (upS_no.1 hs).1⟩
          have ev : ndV (.mk k2 m2 u2 g2 o2 at2 d2 ks2) h' = .agg #[.int .i64 k2, .int .i64 m2, .int .i64 u2, .int .i64 g2, .bool o2, .slice h'.aa at2.length h'.ca, .string d2, .slice h'.ak ks2.length h'.ck] := rfl
          rw [ev]
          generalize hw7 : stB w4 (nb + 1) (.mk k2 m2 u2 g2 o2 at2 d2 ks2) h' = w7 at R7 b7 hB7 step
          have HW7 : Hid (stB w4 (nb + 1) (.mk k2 m2 u2 g2 o2 at2 d2 ks2) h' = w7) := hw7
          clear hw7 hw3 x0 x1 x2 x3 x4 x5 x6 x7 HO q2 q3 q4 q5 b4 hfz2 s7 b7
          obtain ⟨⟨z0, z1, z2, z3, z4, z5, z6, z7⟩, z8⟩ := id R4
          go_wp2
          have hw7 := HW7.out
          simp only [stB] at hw7
          rw [hw7]
          obtain ⟨r0, r1, r2, r3, r4, r5, r6, r7⟩ := R7.1
          refine bodyPost_ret (v := .tuple #[ndV (.mk k2 m2 u2 g2 o2 at2 d2 ks2) h', .nilIface]) (by simp [results, Tryz.results30, go_sem, ndV, r0, r1, r2, r3, r4, r5, r6, r7]) rfl ⟨⟨h', by rw [HE.out]; rfl, ?_⟩, hB7⟩
          rw [HE.out]
          exact hN4.on step
    -- one step down
    have hji : (j : Int) < (n : Int) := by omega
    obtain ⟨nm, hnm⟩ : ∃ s, l[j]? = some s := ⟨l[j]'(by omega), List.getElem?_eq_getElem _⟩
    obtain ⟨nm2, hnm2⟩ : ∃ s, l[j + 1]? = some s := ⟨l[j + 1]'(by omega), List.getElem?_eq_getElem _⟩
    have HDR1 : Hid (l.drop (j + 1) = nm2 :: l.drop (j + 2)) := by
      show _ = _
      rw [List.drop_eq_getElem_cons (by omega)]
      rw [List.getElem?_eq_getElem (by omega)] at hnm2
      simp at hnm2; rw [hnm2]
    have HDR : Hid (l.drop j = nm :: nm2 :: l.drop (j + 2)) := by
      show _ = _
      rw [List.drop_eq_getElem_cons (by omega), HDR1.out]
      rw [List.getElem?_eq_getElem (by omega)] at hnm
      simp at hnm; rw [hnm]
    rw [HDR.out] at HSP
    have c0 : wr.cell? ⟨b, off + j, none⟩ = some (.string nm) := (hwr.cell (p := ⟨b, off + j, none⟩) (World.block_lt_of_cell? _ _ (HST.out j nm hnm))).trans (HST.out j nm hnm)
    have HRL : Hid (∃ plug : Nd → Nd, RR = (chgF (some xp) (nm :: nm2 :: l.drop (j + 2)) y).map plug) := by
      obtain ⟨plug, q, _⟩ := HSP.out.wand
      exact ⟨plug, by rw [← HRR.out]; exact q⟩
    clear hnm hnm2 HDR
    have habl : ab < wr.heap.size := HSP.out.atc.lt
    obtain ⟨k', m', u', g', o', at', d', ks'⟩ := y
    obtain ⟨y0, y1, y2, y3, y4, y5, y6, y7⟩ := hat
    by_cases hk2 : k' = 2
    rotate_left
    · have bk : (k' != 2) = true := bne_iff_ne.2 hk2
      have HE : Hid (RR = .error 7) := by
        obtain ⟨plug, q⟩ := HRL.out
        show _ = _
        rw [q, chgF, if_pos (by exact hk2)]; rfl
      clear hk2
      go_wp2
      have hw6 := HW6.out
      simp only [stB, zN, zH] at hw6
      simp only [List.length_nil] at hw6
      rw [hw6]
      obtain ⟨r0, r1, r2, r3, r4, r5, r6, r7⟩ := R6.1
      refine bodyPost_ret (v := .tuple #[ndV zN zH, errV 7]) (by simp [results, Tryz.results30, go_sem, ndV, zN, zH, errV, r0, r1, r2, r3, r4, r5, r6, r7]) rfl (HEZ.out 7 (by decide) HE.out)
    subst hk2
    have bk : ((2 : Int) != 2) = false := rfl
    have hpl : Calls Tryz.prog 32 #[.slice hy.ak ks'.length hy.ck, .string nm] wr fun e w' => e = .returned (.int .i64 (kidI nm ks' 0)) ∧ Below wr.heap.size wr w' := place_any hy.ak hy.ck ks' nm wr (by exact Nat.le_trans hkl (by decide)) (by
      have q := ksH_ksV hKw
      rw [HL.out] at q
      exact q)
    have HPL : Hid _ := hpl
    clear hpl
    rcases kidI_at nm ks' 0 with ⟨hn0, _⟩ | ⟨p, z, hp, hx, _⟩
    · have HKI : Hid (kidI nm ks' 0 = -1) := hn0
      have HE : Hid (RR = .error 5) := by
        obtain ⟨plug, q⟩ := HRL.out
        show _ = _
        rw [q, chgF, if_neg (by show ¬ (2 : Int) ≠ 2; simp), if_pos (by show kidI nm ks' 0 < 0; rw [hn0]; decide)]; rfl
      clear hn0
      go_wp2_with fail
      refine Calls.mono HPL.out ?_
      rintro e w2 ⟨rfl, b2⟩
      rw [HKI.out]
      have hR2 := HSP.out.res.below b2
      have hwr2 := hwr.trans (b2.mono hwr.size)
      have R7 := hR2.store zN zH
      have b7 : But (nb + 1) w2 (stB w2 (nb + 1) zN zH) := stB_but
      have hB7 := hwr2.trans (b7.below (B := W.heap.size) (by omega) hwr2.size)
      generalize hw7 : stB w2 (nb + 1) zN zH = w7 at R7 hB7
      have HW7 : Hid (stB w2 (nb + 1) zN zH = w7) := hw7
      clear hw7 b7 y0 y1 y2 y3 y4 y5 y6 y7 z0 z1 z2 z3 z4 z5 z6 z7 z8 c0 hwr hwr2 b2 R6 HW6 HEZ hfz HPL
      obtain ⟨⟨z0, z1, z2, z3, z4, z5, z6, z7⟩, z8⟩ := id hR2
      go_wp2
      have hw7 := HW7.out
      simp only [stB, zN, zH, List.length_nil] at hw7
      rw [hw7]
      obtain ⟨r0, r1, r2, r3, r4, r5, r6, r7⟩ := R7.1
      refine bodyPost_ret (v := .tuple #[ndV zN zH, .iface 44 (.int .i64 5)]) (by simp [results, Tryz.results30, go_sem, ndV, zN, zH, r0, r1, r2, r3, r4, r5, r6, r7]) rfl ⟨⟨zH, by rw [HE.out]; rfl, by rw [HE.out]; exact zN_in _⟩, hB7⟩
    rw [Nat.zero_add] at hp
    have HKI : Hid (kidI nm ks' 0 = (p : Int)) := hp
    have hplt : p < ks'.length := (List.getElem?_eq_some_iff.1 hx).1
    have hcz : cnt z ≤ 800 := by
      have q1 := cntL_get hx
      rw [cnt] at hcy
      omega
    obtain ⟨⟨n3, z3', hz⟩, hLp⟩ : ∃ e, L[p]? = some e := ⟨L[p]'(by have := HLL.out; simp only [Nd.kids] at this; omega), List.getElem?_eq_getElem _⟩
    have hLp2 : n3 = nm ∧ z3' = z := by
      have q := HL.out
      have q2 : (bare L)[p]? = some (nm, z) := by rw [q]; exact hx
      unfold bare at q2
      rw [List.getElem?_map, hLp] at q2
      simpa using q2
    obtain ⟨rfl, rfl⟩ := hLp2
    have HLP : Hid (L[p]? = some (n3, z3', hz)) := hLp
    have hLL : L.length ≤ 1000 := by rw [← HLL.out]; exact Nat.le_trans hkl (by decide)
    clear hp hx hLp
    have hpi : decide ((p : Int) < 0) = false := decide_eq_false (by omega)
    have hpi2 : (p : Int) < (ks'.length : Int) := by omega
    go_wp2_with fail
    refine Calls.mono HPL.out ?_
    rintro e w2 ⟨rfl, b2⟩
    rw [HKI.out]
    have s7 : w2.cell? ⟨ab, ap + 7, none⟩ = some (.slice hy.ak ks'.length hy.ck) := (b2.cell (p := ⟨ab, ap + 7, none⟩) habl).trans y7
    have hK2 := hKw.on (mle_below b2)
    have hcK := cloneK_any hy.ak hy.ck L w2 hLL hK2
    have hlk : L.length = ks'.length := HLL.out.symm
    rw [hlk] at hcK
    have HCK : Hid _ := hcK
    clear hcK hlk y0 y1 y2 y3 y4 y5 y6 y7 z0 z1 z2 z3 z4 z5 z6 z7 z8 c0 R6 HW6 HEZ HPL hK2
    go_wp2_with fail
    refine Calls.mono HCK.out ?_
    rintro e w3 ⟨⟨v, rfl, hrow⟩, b3⟩
    obtain ⟨a3, c3, hv, _, _, hf3⟩ := owns_cells hrow
    rcases hf3 with ⟨_, q, _⟩ | ⟨g3, rfl, hg3, _, _, _⟩
    · omega
    rw [hv] at hrow ⊢
    clear hv
    have b23 := b2.trans (b3.mono b2.size)
    have s8 : w3.cell? ⟨ab, ap + 7, none⟩ = some (.slice hy.ak ks'.length hy.ck) := (b3.cell (p := ⟨ab, ap + 7, none⟩) (World.block_lt_of_cell? _ _ s7)).trans s7
    have hfz3 : w3.frozen? ⟨ab, ap + 7, none⟩ = false := (b23.frozen (p := ⟨ab, ap + 7, none⟩) habl).trans (hfz _)
    have hsp3 := HSP.out.step b23 b2.size HL.out hKH.2 rfl HKI.out HLP.out hrow
    have s9 : (w3.setCell ⟨ab, ap + 7, none⟩ (.slice (some ⟨g3, 0, none⟩) ks'.length c3)).cell? ⟨ab, ap + 7, none⟩ = some (.slice (some ⟨g3, 0, none⟩) ks'.length c3) := World.cell?_setCell_same _ _ _ s8
    rw [← HDR1.out] at hsp3
    change Spine W (w3.setCell ⟨ab, ap + 7, none⟩ (.slice (some ⟨g3, 0, none⟩) ks'.length c3)) S nb _ _ _ _ _ _ _ _ at hsp3
    generalize hw4 : w3.setCell ⟨ab, ap + 7, none⟩ (.slice (some ⟨g3, 0, none⟩) ks'.length c3) = w4 at hsp3 s9
    clear hrow b2 b3 b23 s7 HCK hfz
    go_wp2
    clear hw4 s8 s9 hfz3
    go_roundw
    case rel => exact ⟨j + 1, g3, p * 9 + 1, z3', hz, by omega, by go_num, by first | rfl | simp, hsp3, hcz⟩
    case measure => simp [intOf]; omega
end Go.Proofs.YtlbabnffiibnpaaGreat
namespace Go.Proofs.YtlbabnffiibnpaaGreat
open Go.RowKit
mutual
/-- A tree that may be, with so many names. -/
def Val (up : Bool) : Nat → Nd → Prop
  | deep, .mk k m u g o at_ d ks => deep ≤ 6 ∧ nfF up (decide (deep = 0)) (.mk k m u g o at_ d ks) = 0 ∧ ValL up (deep + 1) none ks
def ValL (up : Bool) : Nat → Option ByteArray → Kds → Prop
  | _, _, [] => True
  | deep, p, (n, x) :: l => nameB n = true ∧ upB p n = true ∧ Val up deep x ∧ ValL up deep (some n) l
end
mutual
theorem wlk_val (up : Bool) : ∀ (x : Nd) (deep seen : Nat), ((wlkN up x deep seen).1 = 0 ↔ Val up deep x ∧ seen + cnt x ≤ 60) ∧ ((wlkN up x deep seen).1 = 0 → (wlkN up x deep seen).2 = seen + cnt x)
  | .mk k m u g o at_ d ks, deep, seen => by
    rw [wlkN, Val, cnt]
    by_cases h1 : 60 ≤ seen ∨ 6 < deep
    · rw [if_pos h1]
      refine ⟨⟨fun h => by simp at h, fun h => by omega⟩, fun h => by simp at h⟩
    rw [if_neg h1]
    by_cases h2 : nfF up (decide (deep = 0)) (.mk k m u g o at_ d ks) = 0
    · rw [if_neg (by simpa using h2)]
      obtain ⟨e1, e2⟩ := wlkL_val up none ks (deep + 1) (seen + 1)
      refine ⟨⟨fun h => ?_, fun h => ?_⟩, fun h => ?_⟩
      · have := e1.1 h
        refine ⟨⟨by omega, h2, this.1⟩, ?_⟩
        rcases this.2 with q | q
        · subst q; rw [cntL]; omega
        · omega
      · exact e1.2 ⟨h.1.2.2, .inr (by omega)⟩
      · rw [e2 h]; omega
    · rw [if_pos h2]
      refine ⟨⟨fun h => absurd h h2, fun h => absurd h.1.2.1 h2⟩, fun h => absurd h h2⟩
theorem wlkL_val (up : Bool) : ∀ (p : Option ByteArray) (l : Kds) (deep seen : Nat), ((wlkL up p l deep seen).1 = 0 ↔ ValL up deep p l ∧ (l = [] ∨ seen + cntL l ≤ 60)) ∧ ((wlkL up p l deep seen).1 = 0 → (wlkL up p l deep seen).2 = seen + cntL l)
  | p, [], deep, seen => by
    rw [wlkL, ValL, cntL]
    exact ⟨⟨fun _ => ⟨trivial, .inl rfl⟩, fun _ => rfl⟩, fun _ => rfl⟩
  | p, (n, x) :: l, deep, seen => by
    rw [wlkL, ValL, cntL]
    by_cases h1 : nameB n = false
    · rw [if_pos h1]
      exact ⟨⟨fun h => by simp at h, fun h => by rw [h1] at h; simp at h⟩, fun h => by simp at h⟩
    rw [if_neg h1]
    by_cases h2 : upB p n = false
    · rw [if_pos h2]
      exact ⟨⟨fun h => by simp at h, fun h => by rw [h2] at h; simp at h⟩, fun h => by simp at h⟩
    rw [if_neg h2]
    obtain ⟨e1, e2⟩ := wlk_val up x deep seen
    by_cases h3 : (wlkN up x deep seen).1 = 0
    · rw [if_neg (by simpa using h3)]
      have h4 := e1.1 h3
      rw [e2 h3]
      obtain ⟨f1, f2⟩ := wlkL_val up (some n) l deep (seen + cnt x)
      refine ⟨⟨fun h => ?_, fun h => ?_⟩, fun h => ?_⟩
      · obtain ⟨g1, g2⟩ := f1.1 h
        refine ⟨⟨by simpa using h1, by simpa using h2, h4.1, g1⟩, .inr ?_⟩
        rcases g2 with g2 | g2
        · subst g2; rw [cntL]; omega
        · omega
      · refine f1.2 ⟨h.1.2.2.2, ?_⟩
        rcases h.2 with q | q
        · cases q
        · exact .inr (by omega)
      · rw [f2 h]; omega
    · rw [if_pos h3]
      refine ⟨⟨fun h => absurd h h3, fun h => ?_⟩, fun h => absurd h h3⟩
      exfalso
      refine h3 (e1.2 ⟨h.1.2.2.1, ?_⟩)
      rcases h.2 with q | q
      · cases q
      · omega
end
theorem tf_val (up : Bool) (x : Nd) : tfF up x = 0 ↔ x.kind = 2 ∧ Val up 0 x ∧ cnt x ≤ 60 := by
  obtain ⟨k, m, u, g, o, at_, d, ks⟩ := x
  rw [tfF]
  have h := (wlk_val up (.mk k m u g o at_ d ks) 0 0).1
  show _ ↔ k = 2 ∧ _
  by_cases hk : k = 2
  · rw [if_neg (by simpa using hk), h, Nat.zero_add]; exact ⟨fun q => ⟨hk, q⟩, fun q => q.2⟩
  · rw [if_pos hk]; exact ⟨fun q => by simp at q, fun q => absurd q.1 hk⟩
theorem val_kids {up : Bool} {deep : Nat} {x : Nd} (h : Val up deep x) : ValL up (deep + 1) none x.kids := by
  obtain ⟨k, m, u, g, o, at_, d, ks'⟩ := x
  rw [Val] at h
  exact h.2.2
theorem lilL_fk {m : ByteArray} {y : Nd} : ∀ {ks : Kds}, LilL ks → fk m ks = some y → Lil y
  | [], _, h => by cases h
  | (n, x) :: l, ha, h => by
    rw [LilL] at ha
    rw [fk] at h
    by_cases e : n = m
    · rw [if_pos e] at h; simp only [Option.some.injEq] at h; subst h; exact ha.2.1
    · rw [if_neg e] at h; exact lilL_fk ha.2.2 h
theorem lilL_set {m : ByteArray} {z : Nd} (hz : Lil z) : ∀ {ks : Kds}, LilL ks → LilL (setk m z ks)
  | [], _ => by rw [setk, LilL]; trivial
  | (n, x) :: l, ha => by
    rw [LilL] at ha
    rw [setk]
    by_cases e : n = m
    · rw [if_pos e, LilL]; subst e; exact ⟨ha.1, hz, ha.2.2⟩
    · rw [if_neg e, LilL]; exact ⟨ha.1, ha.2.1, lilL_set hz ha.2.2⟩
theorem lil_with {x : Nd} {ks : Kds} : Lil (x.with ks) ↔ Lil (x.with []) ∧ LilL ks := by
  obtain ⟨k, m, u, g, o, at_, d, ks'⟩ := x
  show Lil (.mk k m u g o at_ d ks) ↔ Lil (.mk k m u g o at_ d []) ∧ LilL ks
  rw [Lil, Lil, LilL]
  exact ⟨fun h => ⟨⟨h.1, h.2.1, trivial⟩, h.2.2⟩, fun h => ⟨h.1.1, h.1.2.1, h.2⟩⟩
end Go.Proofs.YtlbabnffiibnpaaGreat
namespace Go.Proofs.YtlbabnffiibnpaaGreat
open Go.RowKit
theorem NBw.low {w w' : World} {b B : Nat} {x : Nd} {h : Hd} (hk : NBw w b x h) (hb : Below B w w') (hB : b < B) : NBw w' b x h := by
  obtain ⟨k, m, u, g, o, at_, d, ks⟩ := x
  obtain ⟨⟨e0, e1, e2, e3, e4, e5, e6, e7⟩, e8⟩ := hk
  have q : ∀ j, w'.cell? ⟨b, j, none⟩ = w.cell? ⟨b, j, none⟩ := fun j => hb.cell (p := ⟨b, j, none⟩) hB
  exact ⟨⟨(q 0).trans e0, (q 1).trans e1, (q 2).trans e2, (q 3).trans e3, (q 4).trans e4, (q 5).trans e5, (q 6).trans e6, (q 7).trans e7⟩, fun j => (hb.frozen (p := ⟨b, j, none⟩) hB).trans (e8 j)⟩
/-- S, and one block more. -/
def orS (S : Nat → Bool) (b : Nat) : Nat → Bool := fun k => k == b || S k
end Go.Proofs.YtlbabnffiibnpaaGreat
