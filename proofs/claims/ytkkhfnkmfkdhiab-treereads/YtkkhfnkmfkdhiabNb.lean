/-
  TREES, the facts of no program: what is wrong with one, what is found, put and cut.
-/
import Derived.Test.YtkkhfnkmfkdhiabNa
namespace Go.Proofs.Ytkkhfnkmfkdhiab
open Go.RowKit

def idB (n : Int) : Bool := decide (0 ≤ n) && decide (n ≤ 65535)
/-- What is wrong with a node by itself, behind its attributes. -/
def nfR (k m u g : Int) (o : Bool) (la ld lk : Nat) (up root : Bool) : Int :=
  if 200 < ld then 1 else if k = 3 ∧ (up = false ∨ 0 < m ∨ 0 < u ∨ 0 < g ∨ 0 < la) then 3 else if (0 < ld ∧ k ≠ 1) ∨ (0 < lk ∧ k ≠ 2) then 3 else if o = true ∧ (k ≠ 2 ∨ root = true ∨ up = false) then 3 else 0
def nfF (up root : Bool) : Nd → Int
  | .mk k m u g o at_ d ks => if k < 1 ∨ 3 < k then 3 else if m < 0 ∨ 4095 < m ∨ idB u = false ∨ idB g = false then 1 else if chkA at_ ≠ 0 then chkA at_ else nfR k m u g o at_.length d.size ks.length up root
theorem nfR_range (k m u g : Int) (o : Bool) (la ld lk : Nat) (up root : Bool) : 0 ≤ nfR k m u g o la ld lk up root ∧ nfR k m u g o la ld lk up root ≤ 4 := by
  unfold nfR
  repeat' split
  all_goals decide
theorem nfF_range (up root : Bool) (x : Nd) : 0 ≤ nfF up root x ∧ nfF up root x ≤ 4 := by
  obtain ⟨k, m, u, g, o, at_, d, ks⟩ := x
  rw [nfF]
  have h1 := chkA_range at_
  have h2 := nfR_range k m u g o at_.length d.size ks.length up root
  repeat' split
  all_goals omega
/-- Is that name above the one ahead? -/
def upB : Option ByteArray → ByteArray → Bool
  | none, _ => true
  | some p, n => ltB p n
mutual
/-- A tree gone over: with so many names, so many nodes ahead: what is wrong, how many nodes then. -/
def wlkN (up : Bool) : Nd → Nat → Nat → Int × Nat
  | .mk k m u g o at_ d ks, deep, seen => if 60 ≤ seen ∨ 6 < deep then (2, seen) else if nfF up (decide (deep = 0)) (.mk k m u g o at_ d ks) ≠ 0 then (nfF up (decide (deep = 0)) (.mk k m u g o at_ d ks), seen + 1) else wlkL up none ks (deep + 1) (seen + 1)
def wlkL (up : Bool) : Option ByteArray → Kds → Nat → Nat → Int × Nat
  | _, [], _, seen => (0, seen)
  | p, (n, x) :: l, deep, seen => if nameB n = false then (4, seen) else if upB p n = false then (3, seen) else if (wlkN up x deep seen).1 ≠ 0 then wlkN up x deep seen else wlkL up (some n) l deep (wlkN up x deep seen).2
end
/-- What is wrong with a tree. -/
def tfF (up : Bool) : Nd → Int
  | .mk k m u g o at_ d ks => if k ≠ 2 then 7 else (wlkN up (.mk k m u g o at_ d ks) 0 0).1
mutual
theorem wlkN_range (up : Bool) : ∀ (x : Nd) (deep seen : Nat), seen ≤ 60 → (0 ≤ (wlkN up x deep seen).1 ∧ (wlkN up x deep seen).1 ≤ 4) ∧ (wlkN up x deep seen).2 ≤ 60
  | .mk k m u g o at_ d ks, deep, seen, hs => by
    rw [wlkN]
    split
    · exact ⟨by simp, by simp; omega⟩
    · rename_i h
      split
      · exact ⟨(nfF_range up (decide (deep = 0)) (.mk k m u g o at_ d ks) : _), by simp; omega⟩
      · exact wlkL_range up none ks (deep + 1) (seen + 1) (by omega)
theorem wlkL_range (up : Bool) : ∀ (p : Option ByteArray) (l : Kds) (deep seen : Nat), seen ≤ 60 → (0 ≤ (wlkL up p l deep seen).1 ∧ (wlkL up p l deep seen).1 ≤ 4) ∧ (wlkL up p l deep seen).2 ≤ 60
  | p, [], deep, seen, hs => by rw [wlkL]; exact ⟨by simp, hs⟩
  | p, (n, x) :: l, deep, seen, hs => by
    rw [wlkL]
    have h1 := wlkN_range up x deep seen hs
    split
    · exact ⟨by simp, hs⟩
    · split
      · exact ⟨by simp, hs⟩
      · split
        · exact h1
        · exact wlkL_range up (some n) l deep _ h1.2
end
theorem tfF_range (up : Bool) (x : Nd) : 0 ≤ tfF up x ∧ tfF up x ≤ 7 := by
  obtain ⟨k, m, u, g, o, at_, d, ks⟩ := x
  rw [tfF]
  split
  · decide
  · have := (wlkN_range up (.mk k m u g o at_ d ks) 0 0 (by omega)).1; omega
/-- A list gone over, from a place on. -/
def ahead (ks : Kds) : Nat → Option ByteArray
  | 0 => none
  | j + 1 => (ks[j]?).map (·.1)
theorem wlkL_drop {up : Bool} {ks : Kds} {j : Nat} {n : ByteArray} {x : Nd} {deep seen : Nat} (h : ks[j]? = some (n, x)) :
    wlkL up (ahead ks j) (ks.drop j) deep seen = if nameB n = false then (4, seen) else if upB (ahead ks j) n = false then (3, seen) else if (wlkN up x deep seen).1 ≠ 0 then wlkN up x deep seen else wlkL up (ahead ks (j + 1)) (ks.drop (j + 1)) deep (wlkN up x deep seen).2 := by
  obtain ⟨hlt, he⟩ := List.getElem?_eq_some_iff.1 h
  have : ahead ks (j + 1) = some n := by simp [ahead, h]
  rw [List.drop_eq_getElem_cons hlt, he, wlkL, this]

/-- Where a kid of a name is, from a place on. -/
def kidI (m : ByteArray) : Kds → Nat → Int
  | [], _ => -1
  | p :: l, i => if p.1 = m then (i : Int) else kidI m l (i + 1)
def kidF (m : ByteArray) : Nd → Int
  | .mk k _ _ _ _ _ _ ks => if k = 2 then kidI m ks 0 else -1
theorem kidI_drop {m n : ByteArray} {ks : Kds} {j : Nat} {x : Nd} (h : ks[j]? = some (n, x)) : kidI m (ks.drop j) j = if n = m then (j : Int) else kidI m (ks.drop (j + 1)) (j + 1) := by
  obtain ⟨hlt, he⟩ := List.getElem?_eq_some_iff.1 h
  rw [List.drop_eq_getElem_cons hlt, he, kidI]
theorem kidI_at (m : ByteArray) : ∀ (ks : Kds) (i : Nat), (kidI m ks i = -1 ∧ ∀ p ∈ ks, p.1 ≠ m) ∨ ∃ j x, kidI m ks i = ((i + j : Nat) : Int) ∧ ks[j]? = some (m, x) ∧ ∀ q, q < j → ∀ p, ks[q]? = some p → p.1 ≠ m
  | [], i => .inl ⟨by rw [kidI], by simp⟩
  | p :: l, i => by
    rw [kidI]
    by_cases h : p.1 = m
    · rw [if_pos h]
      refine .inr ⟨0, p.2, by simp, by simp [← h], fun q hq => by omega⟩
    · rw [if_neg h]
      rcases kidI_at m l (i + 1) with ⟨h1, h2⟩ | ⟨j, x, h1, h2, h3⟩
      · refine .inl ⟨h1, ?_⟩
        intro p' hp'
        rcases List.mem_cons.1 hp' with e | e
        · rw [e]; exact h
        · exact h2 p' e
      · refine .inr ⟨j + 1, x, by rw [h1]; congr 1; omega, by simpa using h2, ?_⟩
        intro q hq p' hp'
        cases q with
        | zero => simp at hp'; rw [← hp']; exact h
        | succ q => exact h3 q (by omega) p' (by simpa using hp')
/-- The first kid whose name is above. -/
def abvN (m : ByteArray) (ks : Kds) : Nat := ks.findIdx (fun p => ltB m p.1)
theorem abvN_le (m : ByteArray) (ks : Kds) : abvN m ks ≤ ks.length := List.findIdx_le_length
/-- One kid put, in the place of i, or ahead of it. -/
def putK (m : ByteArray) (x : Nd) (ks : Kds) : Kds :=
  if kidI m ks 0 < 0 then ks.take (abvN m ks) ++ (m, x) :: ks.drop (abvN m ks) else ks.take (kidI m ks 0).toNat ++ (m, x) :: ks.drop ((kidI m ks 0).toNat + 1)
def cutK (m : ByteArray) (ks : Kds) : Kds := ks.take (kidI m ks 0).toNat ++ ks.drop ((kidI m ks 0).toNat + 1)
/-- What the last name's directory has then. -/
def lastF (c : Option Nd) (m : ByteArray) (ks : Kds) : Except Int Kds := match c with
  | some x => if nameB m = false then .error 4 else .ok (putK m x ks)
  | none => if kidI m ks 0 < 0 then .error 5 else .ok (cutK m ks)
def Nd.with : Nd → Kds → Nd
  | .mk k m u g o at_ d _, ks => .mk k m u g o at_ d ks
def Nd.kind : Nd → Int
  | .mk k _ _ _ _ _ _ _ => k
def Nd.kid (x : Nd) (j : Nat) : Nd := match x.kids[j]? with
  | some p => p.2
  | none => x
/-- A change at the end of names. -/
def chgF (c : Option Nd) : List ByteArray → Nd → Except Int Nd
  | [], _ => .error 7
  | [m], x => if x.kind ≠ 2 then .error 7 else (lastF c m x.kids).map x.with
  | m :: m' :: l, x => if x.kind ≠ 2 then .error 7 else if kidI m x.kids 0 < 0 then .error 5 else
      (chgF c (m' :: l) (x.kid (kidI m x.kids 0).toNat)).map fun z => x.with (x.kids.set (kidI m x.kids 0).toNat (m, z))
/-- A node at the end of names. -/
def findF : List ByteArray → Nd → Option Nd
  | [], x => some x
  | m :: l, x => if x.kind ≠ 2 ∨ kidI m x.kids 0 < 0 then none else findF l (x.kid (kidI m x.kids 0).toNat)
/-- The zero node. -/
def zN : Nd := .mk 0 0 0 0 false [] ⟨#[]⟩ []
/-- Its number, its node. -/
def xErr : Except Int Nd → Int
  | .error f => f
  | .ok _ => 0
def xNd : Except Int Nd → Nd
  | .error _ => zN
  | .ok x => x

/-- Kids with where their lists lie. -/
abbrev Khs := List (ByteArray × Nd × Hd)
def bare (L : Khs) : Kds := L.map fun e => (e.1, e.2.1)
def kfl : Khs → List Value
  | [] => []
  | (n, x, h) :: l => .string n :: (ndL x h ++ kfl l)
theorem ndL_length (x : Nd) (h : Hd) : (ndL x h).length = 8 := by obtain ⟨k, m, u, g, o, at_, d, ks⟩ := x; rfl
theorem kfl_length : ∀ L : Khs, (kfl L).length = L.length * 9
  | [] => rfl
  | (n, x, h) :: l => by simp [kfl, kfl_length l, ndL_length]; omega
theorem kfl_append : ∀ A B : Khs, kfl (A ++ B) = kfl A ++ kfl B
  | [], _ => rfl
  | (n, x, h) :: l, B => by simp [kfl, kfl_append l B]
theorem ndL_one (x : Nd) (h : Hd) : ∀ u ∈ ndL x h, u.oneCell' = true := by
  obtain ⟨k, m, u, g, o, at_, d, ks⟩ := x
  intro v hv
  simp [ndL] at hv
  rcases hv with rfl | rfl | rfl | rfl | rfl | rfl | rfl | rfl <;> rfl
theorem kfl_one : ∀ L : Khs, ∀ u ∈ kfl L, u.oneCell' = true
  | [], u, h => by cases h
  | (n, x, h) :: l, u, hu => by
    simp [kfl] at hu
    rcases hu with rfl | hu | hu
    · rfl
    · exact ndL_one x h u hu
    · exact kfl_one l u hu
theorem kfl_get : ∀ (L : Khs) (i : Nat) (n : ByteArray) (x : Nd) (h : Hd), L[i]? = some (n, x, h) → ∀ q u, (.string n :: ndL x h)[q]? = some u → (kfl L)[i * 9 + q]? = some u
  | [], i, n, x, h, hi => by simp at hi
  | (n', x', h') :: l, 0, n, x, h, hi => by
    simp at hi
    obtain ⟨rfl, rfl, rfl⟩ := hi
    intro q u hq
    have hl : q < 9 := by have := (List.getElem?_eq_some_iff.1 hq).1; simp [ndL_length] at this; omega
    rw [Nat.zero_mul, Nat.zero_add]
    show (Value.string n' :: (ndL x' h' ++ kfl l))[q]? = some u
    cases q with
    | zero => exact hq
    | succ q => simp at hq ⊢; rw [List.getElem?_append_left (by rw [ndL_length]; omega)]; exact hq
  | (n', x', h') :: l, i + 1, n, x, h, hi => by
    intro q u hq
    have := kfl_get l i n x h (by simpa using hi) q u hq
    have e : (i + 1) * 9 + q = (i * 9 + q) + 8 + 1 := by omega
    rw [e]
    show (Value.string n' :: (ndL x' h' ++ kfl l))[i * 9 + q + 8 + 1]? = some u
    simp only [List.getElem?_cons_succ]
    rw [List.getElem?_append_right (by rw [ndL_length]; omega), ndL_length]
    rw [show i * 9 + q + 8 - 8 = i * 9 + q by omega]; exact this
theorem nat_iff {c : Mem} {b p : Nat} {x : Nd} {h : Hd} : NAt c b p x h ↔ ∀ q u, (ndL x h)[q]? = some u → c ⟨b, p + q, none⟩ = some u := by
  obtain ⟨k, m, u, g, o, at_, d, ks⟩ := x
  constructor
  · rintro ⟨h0, h1, h2, h3, h4, h5, h6, h7⟩ q v hq
    match q, hq with
    | 0, hq => simp [ndL] at hq; subst hq; exact h0
    | 1, hq => simp [ndL] at hq; subst hq; exact h1
    | 2, hq => simp [ndL] at hq; subst hq; exact h2
    | 3, hq => simp [ndL] at hq; subst hq; exact h3
    | 4, hq => simp [ndL] at hq; subst hq; exact h4
    | 5, hq => simp [ndL] at hq; subst hq; exact h5
    | 6, hq => simp [ndL] at hq; subst hq; exact h6
    | 7, hq => simp [ndL] at hq; subst hq; exact h7
    | q + 8, hq => simp [ndL] at hq
  · intro hq
    exact ⟨hq 0 _ rfl, hq 1 _ rfl, hq 2 _ rfl, hq 3 _ rfl, hq 4 _ rfl, hq 5 _ rfl, hq 6 _ rfl, hq 7 _ rfl⟩
theorem kdAt_iff {c : Mem} {b p : Nat} {n : ByteArray} {x : Nd} {h : Hd} : KdAt c b p n x h ↔ ∀ q u, (Value.string n :: ndL x h)[q]? = some u → c ⟨b, p + q, none⟩ = some u := by
  unfold KdAt
  rw [nat_iff]
  constructor
  · rintro ⟨h0, h1⟩ q u hq
    cases q with
    | zero => simp at hq; subst hq; exact h0
    | succ q => have := h1 q u (by simpa using hq); rw [Nat.add_assoc, Nat.add_comm 1 q] at this; exact this
  · intro hq
    exact ⟨hq 0 _ rfl, fun q u h => by have := hq (q + 1) u (by simpa using h); rw [Nat.add_assoc, Nat.add_comm 1 q]; exact this⟩
/-- A list of kids in memory, with where their lists lie. -/
def KsH (c : Mem) (a : Option Addr) (L : Khs) : Prop :=
  (L = [] ∨ ∃ b off, a = some ⟨b, off, none⟩ ∧ ∀ j u, (kfl L)[j]? = some u → c ⟨b, off + j, none⟩ = some u) ∧ ∀ e ∈ L, NdV c e.2.1 e.2.2
theorem ksH_ksV {c : Mem} {a : Option Addr} {L : Khs} (h : KsH c a L) : KsV c a (bare L) := by
  obtain ⟨h1, h2⟩ := h
  rcases h1 with rfl | ⟨b, off, ha, hc⟩
  · exact .inl rfl
  · refine .inr ⟨b, off, ha, fun i => ((L[i]?).map (fun e => e.2.2)).getD ⟨none, 0, none, 0⟩, ?_⟩
    intro i n x hi
    obtain ⟨⟨n', x', h'⟩, he, e⟩ : ∃ e, L[i]? = some e ∧ (e.1, e.2.1) = (n, x) := by
      unfold bare at hi; rw [List.getElem?_map] at hi
      cases hL : L[i]? with
      | none => rw [hL] at hi; cases hi
      | some e => rw [hL] at hi; exact ⟨e, rfl, by simpa using hi⟩
    simp at e
    obtain ⟨rfl, rfl⟩ := e
    simp only [he, Option.map_some, Option.getD_some]
    refine ⟨kdAt_iff.2 fun q u hq => ?_, h2 _ (List.mem_of_getElem? he)⟩
    have := hc _ _ (kfl_get L i _ _ _ he q u hq)
    rw [← Nat.add_assoc] at this; exact this
theorem kfl_at : ∀ (L : Khs) (j : Nat) (u : Value), (kfl L)[j]? = some u → ∃ n x h, L[j / 9]? = some (n, x, h) ∧ (Value.string n :: ndL x h)[j % 9]? = some u
  | L, j, u, hj => by
    have hl := (List.getElem?_eq_some_iff.1 hj).1
    rw [kfl_length] at hl
    have hq : j / 9 < L.length := by omega
    refine ⟨L[j / 9].1, L[j / 9].2.1, L[j / 9].2.2, List.getElem?_eq_getElem hq, ?_⟩
    have hlen : (Value.string L[j / 9].1 :: ndL L[j / 9].2.1 L[j / 9].2.2).length = 9 := by simp [ndL_length]
    have hj9 : j % 9 < (Value.string L[j / 9].1 :: ndL L[j / 9].2.1 L[j / 9].2.2).length := by rw [hlen]; omega
    obtain ⟨v, hv⟩ : ∃ v, (Value.string L[j / 9].1 :: ndL L[j / 9].2.1 L[j / 9].2.2)[j % 9]? = some v := ⟨_, List.getElem?_eq_getElem hj9⟩
    have := kfl_get L (j / 9) _ _ _ (List.getElem?_eq_getElem hq) (j % 9) v hv
    rw [show j / 9 * 9 + j % 9 = j by omega, hj] at this
    rw [hv, this]
theorem ksV_ksH {c : Mem} {a : Option Addr} {ks : Kds} (h : KsV c a ks) : ∃ L, bare L = ks ∧ KsH c a L := by
  rcases h with rfl | ⟨b, off, ha, f, hc⟩
  · exact ⟨[], rfl, .inl rfl, fun e he => by cases he⟩
  · have hg : ∀ i e, (ks.mapIdx (fun i p => (p.1, p.2, f i)))[i]? = some e → ks[i]? = some (e.1, e.2.1) ∧ e.2.2 = f i := by
      intro i e he
      rw [List.getElem?_mapIdx] at he
      cases hk : ks[i]? with
      | none => rw [hk] at he; cases he
      | some p => rw [hk] at he; simp at he; subst he; exact ⟨rfl, rfl⟩
    refine ⟨ks.mapIdx (fun i p => (p.1, p.2, f i)), ?_, .inr ⟨b, off, ha, ?_⟩, ?_⟩
    · unfold bare
      apply List.ext_getElem?
      intro i
      rw [List.getElem?_map, List.getElem?_mapIdx]
      cases ks[i]? <;> simp
    · intro j u hj
      obtain ⟨n, x, h, he, hq⟩ := kfl_at _ j u hj
      obtain ⟨hk, ef⟩ := hg _ _ he
      simp only at ef hk
      have := kdAt_iff.1 (hc _ _ _ hk).1 (j % 9) u (by rw [← ef]; exact hq)
      rw [Nat.add_assoc, show j / 9 * 9 + j % 9 = j by omega] at this
      exact this
    · intro e he
      obtain ⟨i, hi⟩ := List.getElem?_of_mem he
      obtain ⟨hk, ef⟩ := hg _ _ hi
      rw [ef]; exact (hc _ _ _ hk).2
theorem bare_append (A B : Khs) : bare (A ++ B) = bare A ++ bare B := by simp [bare]
theorem bare_length (A : Khs) : (bare A).length = A.length := by simp [bare]
theorem bare_take (A : Khs) (n : Nat) : bare (A.take n) = (bare A).take n := by simp [bare, List.map_take]
theorem bare_drop (A : Khs) (n : Nat) : bare (A.drop n) = (bare A).drop n := by simp [bare, List.map_drop]
theorem KsH.on {c c' : Mem} {a : Option Addr} {L : Khs} (h : KsH c a L) (hb : MLe c c') : KsH c' a L := by
  obtain ⟨h1, h2⟩ := h
  refine ⟨?_, fun e he => (h2 e he).on hb⟩
  rcases h1 with e | ⟨b, off, ha, hc⟩
  · exact .inl e
  · exact .inr ⟨b, off, ha, fun j u hj => hb _ _ (hc j u hj)⟩
end Go.Proofs.Ytkkhfnkmfkdhiab
