/-
  IDS THAT ARE INTS, beginnings of names: no program here.
-/
import Derived.Test.YtkkhfnkmfkdhiabUaX
import Derived.Test.YtkkhfnkmfkdhiabUcX
import Derived.Test.YtkkhfnkmfkdhiabNcX
namespace Go.Proofs.Ytkkhfnkmfkdhiab
open Go.RowKit

mutual
/-- All ids in it are ints. -/
def IdN : Nd → Prop
  | .mk _ _ u g _ _ _ ks => I64 u ∧ I64 g ∧ IdL ks
def IdL : List (ByteArray × Nd) → Prop
  | [] => True
  | (_, x) :: l => IdN x ∧ IdL l
end
theorem idL_get : ∀ {ks : List (ByteArray × Nd)} {i : Nat} {n : ByteArray} {x : Nd}, IdL ks → ks[i]? = some (n, x) → IdN x
  | [], _, _, _, _, h => by simp at h
  | (m, y) :: l, 0, n, x, hl, h => by simp at h; rw [IdL] at hl; rw [← h.2]; exact hl.1
  | (m, y) :: l, i + 1, n, x, hl, h => by rw [IdL] at hl; exact idL_get hl.2 (by simpa using h)
theorem id_kids {x : Nd} (h : IdN x) : IdL x.kids := by
  obtain ⟨k, m, u, g, o, at_, d, ks⟩ := x
  rw [IdN] at h
  exact h.2.2
theorem idT_of {x : Nd} (h : IdN x) : IdT x := by
  obtain ⟨k, m, u, g, o, at_, d, ks⟩ := x
  rw [IdN] at h
  exact ⟨h.1, h.2.1⟩
theorem idT_bare {x : Nd} (h : IdT x) : IdT (bareN x) := by
  obtain ⟨k, m, u, g, o, at_, d, ks⟩ := x
  exact h
def IdP (l : List (Nd × Nat)) : Prop := ∀ q ∈ l, IdN q.1
theorem IdP.kid {l : List (Nd × Nat)} (h : IdP l) (nm : ByteArray) : IdP (kidsP nm l) := fun q hq => by
  obtain ⟨p, hp, e⟩ := List.mem_filterMap.1 hq
  obtain ⟨y, hy, rfl⟩ := Option.map_eq_some_iff.1 e
  have h1 := h p hp
  unfold kidO at hy
  split at hy
  · cases hy
  · obtain ⟨e2, h3, rfl⟩ := Option.map_eq_some_iff.1 hy
    obtain ⟨n, z⟩ := e2
    exact idL_get (id_kids h1) h3
theorem IdP.sh {l : List (Nd × Nat)} (h : IdP l) : IdP (shP l) := fun q hq => h q (shP_sub l q hq)
theorem stackP_id {xs : List Nd} (h : IdP (layP xs)) : ∀ names : List ByteArray, IdP (stackP xs names) := by
  intro names
  unfold stackP
  generalize hl : shP (layP xs) = l
  have h2 : IdP l := by rw [← hl]; exact h.sh
  clear hl
  induction names generalizing l with
  | nil => exact h2
  | cons n r ih => rw [List.foldl_cons]; exact ih _ (h2.kid n).sh
theorem stackP_no {xs : List Nd} {names : List ByteArray} {i : Nat} (_hi : i ≤ names.length) (h : stackP xs (names.take i) = []) : stackP xs names = [] := by
  have e : names = names.take i ++ names.drop i := (List.take_append_drop i names).symm
  unfold stackP at h ⊢
  rw [e, List.foldl_append, h]
  generalize names.drop i = r
  induction r with
  | nil => rfl
  | cons n r ih => rw [List.foldl_cons]; exact ih
theorem sees_of {xs : List Nd} {names : List ByteArray} (h : stackP xs names ≠ []) : ∃ H, Sees xs names H := by
  have key : ∀ i, ∃ q : Nd × Nat, i ≤ names.length → ∃ r, stackP xs (names.take i) = q :: r := fun i => by
    by_cases hi : i ≤ names.length
    · cases hs : stackP xs (names.take i) with
      | nil => exact absurd (stackP_no hi hs) h
      | cons q r => exact ⟨q, fun _ => ⟨r, rfl⟩⟩
    · exact ⟨(zN, 0), fun e => absurd e hi⟩
  exact ⟨fun i => Classical.choose (key i), fun i hi => Classical.choose_spec (key i) hi⟩
theorem upN_same {us gs : List Rg} {xs : List Nd} {names : List ByteArray} {H : Nat → Nd × Nat} {U V : Nd} {k : Nat} (h : Sees xs names H) (hk : k + 1 ≤ names.length) (hz : (H (k + 1)).2 = 0) (hu : upN us gs xs names U k = .ok V) : upN us gs xs names U (k + 1) = .ok V := by
  obtain ⟨r, hr⟩ := h (k + 1) hk
  rw [upN, hu, hr]
  dsimp only
  rw [if_pos hz]
theorem upN_err {us gs : List Rg} {xs : List Nd} {names : List ByteArray} {U : Nd} {k : Nat} {f : Int} (hu : upN us gs xs names U k = .error f) : ∀ n, upN us gs xs names U (k + n) = .error f
  | 0 => hu
  | n + 1 => by
    show upN us gs xs names U (k + n + 1) = _
    rw [upN, upN_err hu n]
theorem Strs.take {c : Mem} {a : Option Addr} {l : List ByteArray} (h : Strs c a l) (n : Nat) : Strs c a (l.take n) := by
  rcases h with e | ⟨b, off, e, h⟩
  · subst e; exact .inl (by simp)
  · refine .inr ⟨b, off, e, fun i s hi => h i s ?_⟩
    rw [List.getElem?_take] at hi
    split at hi
    · exact hi
    · cases hi
theorem nd_bare {c : Mem} {x : Nd} {h : Hd} (hN : NdV c x h) : NdV c (bareN x) ⟨h.aa, h.ca, none, 0⟩ := by
  obtain ⟨k, m, u, g, o, at_, d, ks⟩ := x
  obtain ⟨h1, h2, _, _⟩ := ndV_iff.1 hN
  exact ndV_iff.2 ⟨h1, h2, ⟨Nat.le_refl _, by simp⟩, .inl rfl⟩
theorem cnt_mv {out : Bool} {us gs : List Rg} {x y : Nd} (h : mvF out us gs x = some y) : cnt y = cnt x := by rw [cnt_nd, cnt_nd, (mv_keep h).2]
theorem cnt_bare (x : Nd) : cnt (bareN x) = 1 := by rw [cnt_nd, bare_kids]; rfl
end Go.Proofs.Ytkkhfnkmfkdhiab
