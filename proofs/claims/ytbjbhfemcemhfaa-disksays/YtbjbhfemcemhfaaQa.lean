/-
  A POOL: who has how many; a map and two lists that say the same; a world that has moved but at some blocks: the facts of no program.
-/
import Derived.Below
import Derived.Maps.OwnSet
namespace Go.Proofs.Ytbjbhfemcemhfaa
open Go.RowKit Go.Maps

/-- A world that has moved: of what was there just the blocks that are named may have turned. -/
structure Mv (S : Nat → Prop) (w w' : World) : Prop where
  os : w'.os = w.os
  tape : w'.tape = w.tape
  output : w'.output = w.output
  size : w.heap.size ≤ w'.heap.size
  block : ∀ k, k < w.heap.size → ¬ S k → w'.heap[k]? = w.heap[k]?
theorem Mv.refl (S : Nat → Prop) (w : World) : Mv S w w := ⟨rfl, rfl, rfl, Nat.le_refl _, fun _ _ _ => rfl⟩
theorem Mv.trans {S : Nat → Prop} {a b c : World} (h : Mv S a b) (k : Mv S b c) : Mv S a c :=
  ⟨k.os.trans h.os, k.tape.trans h.tape, k.output.trans h.output, Nat.le_trans h.size k.size, fun i hi hs => (k.block i (Nat.lt_of_lt_of_le hi h.size) hs).trans (h.block i hi hs)⟩
theorem Mv.of {S : Nat → Prop} {w w' : World} (h : Below w.heap.size w w') : Mv S w w' := ⟨h.os, h.tape, h.output, h.size, fun k hk _ => h.block k hk⟩
theorem Mv.drew {S : Nat → Prop} {w w' : World} (h : Mv S w w') : Mv S w w'.drew := ⟨h.os, h.tape, h.output, h.size, h.block⟩
theorem Mv.alloc {S : Nat → Prop} {w w' : World} (h : Mv S w w') (o : Obj) : Mv S w (w'.alloc o) := h.trans (Mv.of ((Below.refl _ _).alloc (Nat.le_refl _) o))
theorem Mv.setCell {S : Nat → Prop} {w w' : World} (h : Mv S w w') {p : Addr} (hp : S p.block) (u : Value) : Mv S w (w'.setCell p u) :=
  h.trans ⟨rfl, rfl, rfl, by simp [World.setCell], fun k _ hs => Below.heap_setCell _ _ _ _ (fun e => hs (e ▸ hp))⟩
theorem Mv.grown {S : Nat → Prop} {a w w' : World} {row : Option Nat} (h : Mv S a w) (hg : w.grownBy w' row) (hr : ∀ k, row = some k → S k) : Mv S a w' :=
  h.trans ⟨hg.os, hg.tape, hg.output, hg.size, fun k hk hs => hg.block k hk (fun e => hs (hr k e.symm))⟩
theorem Mv.below {S : Nat → Prop} {w w' : World} (h : Mv S w w') {B : Nat} (hB : B ≤ w.heap.size) (hS : ∀ k, S k → B ≤ k) : Below B w w' :=
  ⟨h.os, h.tape, h.output, h.size, fun k hk => h.block k (Nat.lt_of_lt_of_le hk hB) (fun hs => by have := hS k hs; omega)⟩
theorem Mv.mono {S T : Nat → Prop} {w w' : World} (h : Mv S w w') (hs : ∀ k, S k → T k) : Mv T w w' := ⟨h.os, h.tape, h.output, h.size, fun k hk ht => h.block k hk (fun e => ht (hs k e))⟩
theorem Mv.cell {S : Nat → Prop} {w w' : World} (h : Mv S w w') {p : Addr} (hp : p.block < w.heap.size) (hs : ¬ S p.block) : w'.cell? p = w.cell? p := World.cell?_of_block (w := w) (h.block _ hp hs)
theorem Mv.frozen {S : Nat → Prop} {w w' : World} (h : Mv S w w') {p : Addr} (hp : p.block < w.heap.size) (hs : ¬ S p.block) : w'.frozen? p = w.frozen? p := World.frozen?_of_block (w := w) (h.block _ hp hs)

abbrev Ppl := List (Int × Int)
def fnd : Ppl → Int → Option Int
  | [], _ => none
  | p :: l, w => if p.1 = w then some p.2 else fnd l w
theorem fnd_none : ∀ {L : Ppl} {w : Int}, (∀ (j : Nat) p, L[j]? = some p → p.1 ≠ w) → fnd L w = none
  | [], _, _ => rfl
  | p :: l, w, h => by
    rw [fnd, if_neg (h 0 p rfl)]
    exact fnd_none fun j q hq => h (j + 1) q (by simpa using hq)
theorem fnd_hit : ∀ {L : Ppl} {i : Nat} {w n : Int}, L[i]? = some (w, n) → (∀ (j : Nat) p, j < i → L[j]? = some p → p.1 ≠ w) → fnd L w = some n
  | [], i, w, n, h, _ => by simp at h
  | p :: l, 0, w, n, h, _ => by
    simp at h
    subst h
    rw [fnd, if_pos rfl]
  | p :: l, i + 1, w, n, h, k => by
    rw [fnd, if_neg (k 0 p (by omega) rfl)]
    exact fnd_hit (i := i) (by simpa using h) fun j q hj hq => k (j + 1) q (by omega) (by simpa using hq)
theorem fnd_app : ∀ {L : Ppl} {w n : Int} (v : Int), fnd L w = none → fnd (L ++ [(w, n)]) v = if w = v then some n else fnd L v
  | [], w, n, v, _ => by simp [fnd]
  | p :: l, w, n, v, h => by
    rw [fnd] at h
    split at h
    · cases h
    rename_i hp
    rw [List.cons_append, fnd, fnd, fnd_app v h]
    by_cases e : p.1 = v
    · rw [if_pos e, if_pos e, if_neg (fun q => hp (e.trans q.symm))]
    · rw [if_neg e, if_neg e]
def Dst : Ppl → Prop
  | [] => True
  | p :: l => fnd l p.1 = none ∧ Dst l
theorem dst_app : ∀ {L : Ppl} {w n : Int}, Dst L → fnd L w = none → Dst (L ++ [(w, n)])
  | [], w, n, _, _ => ⟨rfl, trivial⟩
  | p :: l, w, n, hd, h => by
    rw [fnd] at h
    split at h
    · cases h
    rename_i hp
    refine ⟨?_, dst_app hd.2 h⟩
    show fnd (l ++ [(w, n)]) p.1 = none
    rw [fnd_app _ h, if_neg (fun e => hp e.symm)]
    exact hd.1
theorem fnd_in : ∀ {L : Ppl} {i : Nat} {w n : Int}, L[i]? = some (w, n) → fnd L w ≠ none
  | [], i, w, n, h => by simp at h
  | p :: l, 0, w, n, h => by simp at h; subst h; rw [fnd, if_pos rfl]; simp
  | p :: l, i + 1, w, n, h => by
    rw [fnd]
    split
    · simp
    · exact fnd_in (i := i) (by simpa using h)
def cutI (L : Ppl) (i : Nat) : Ppl := L.take i ++ L.drop (i + 1)
theorem fnd_cut : ∀ {L : Ppl} {i : Nat} {w n : Int} (v : Int), Dst L → L[i]? = some (w, n) → fnd (cutI L i) v = if w = v then none else fnd L v
  | [], i, w, n, v, _, h => by simp at h
  | p :: l, 0, w, n, v, hd, h => by
    simp at h
    subst h
    show fnd l v = _
    rw [fnd]
    by_cases e : w = v
    · rw [if_pos e]; subst e; exact hd.1
    · rw [if_neg e, if_neg e]
  | p :: l, i + 1, w, n, v, hd, h => by
    have h' : l[i]? = some (w, n) := by simpa using h
    show fnd (p :: cutI l i) v = _
    rw [fnd, fnd, fnd_cut v hd.2 h']
    by_cases e : p.1 = v
    · rw [if_pos e, if_pos e, if_neg]
      intro q
      refine fnd_in h' ?_
      rw [q, ← e]; exact hd.1
    · rw [if_neg e, if_neg e]
theorem dst_cut : ∀ {L : Ppl} {i : Nat} {w n : Int}, Dst L → L[i]? = some (w, n) → Dst (cutI L i)
  | [], i, w, n, _, h => by simp at h
  | p :: l, 0, w, n, hd, h => hd.2
  | p :: l, i + 1, w, n, hd, h => by
    have h' : l[i]? = some (w, n) := by simpa using h
    refine ⟨?_, dst_cut hd.2 h'⟩
    show fnd (cutI l i) p.1 = none
    rw [fnd_cut _ hd.2 h', hd.1]
    split <;> rfl
def sm : Ppl → Int
  | [] => 0
  | p :: l => p.2 + sm l
theorem sm_app : ∀ (L K : Ppl), sm (L ++ K) = sm L + sm K
  | [], K => by simp [sm]
  | p :: l, K => by simp [sm, sm_app l K]; omega
theorem sm_cut : ∀ {L : Ppl} {i : Nat} {w n : Int}, L[i]? = some (w, n) → sm (cutI L i) = sm L - n
  | [], i, w, n, h => by simp at h
  | p :: l, 0, w, n, h => by
    simp at h
    subst h
    show sm l = _
    rw [sm]; simp; omega
  | p :: l, i + 1, w, n, h => by
    have h' : l[i]? = some (w, n) := by simpa using h
    show sm (p :: cutI l i) = _
    rw [sm, sm, sm_cut h']; omega
def Pos (L : Ppl) : Prop := ∀ p ∈ L, 0 ≤ p.2
theorem pos_cut {L : Ppl} {i : Nat} (h : Pos L) : Pos (cutI L i) := fun p hp => by
  rcases List.mem_append.1 hp with e | e
  · exact h p (List.mem_of_mem_take e)
  · exact h p (List.mem_of_mem_drop e)
theorem pos_app {L : Ppl} {w n : Int} (h : Pos L) (hn : 0 ≤ n) : Pos (L ++ [(w, n)]) := fun p hp => by
  rcases List.mem_append.1 hp with e | e
  · exact h p e
  · simp at e; subst e; exact hn
theorem sm_pos : ∀ {L : Ppl}, Pos L → 0 ≤ sm L
  | [], _ => by simp [sm]
  | p :: l, h => by
    have h1 := h p (List.mem_cons_self ..)
    have h2 := sm_pos (L := l) fun q hq => h q (List.mem_cons_of_mem _ hq)
    rw [sm]; omega
theorem sm_take {L : Ppl} {i : Nat} (h : Pos L) : 0 ≤ sm (L.take i) ∧ sm (L.take i) ≤ sm L := by
  have e := sm_app (L.take i) (L.drop i)
  rw [List.take_append_drop] at e
  have h1 := sm_pos (L := L.take i) fun q hq => h q (List.mem_of_mem_take hq)
  have h2 := sm_pos (L := L.drop i) fun q hq => h q (List.mem_of_mem_drop hq)
  omega
theorem sm_take_succ {L : Ppl} {i : Nat} {p : Int × Int} (h : L[i]? = some p) : sm (L.take (i + 1)) = sm (L.take i) + p.2 := by
  rw [List.take_add_one, h, sm_app]; simp [sm]
theorem cutI_len {L : Ppl} {i : Nat} (h : i < L.length) : (cutI L i).length = L.length - 1 := by
  unfold cutI; simp; omega
theorem fnd_mem : ∀ {L : Ppl} {w n : Int}, fnd L w = some n → (w, n) ∈ L
  | [], _, _, h => by cases h
  | p :: l, w, n, h => by
    rw [fnd] at h
    split at h
    · rename_i e
      cases h
      subst e
      exact List.mem_cons_self ..
    · exact List.mem_cons_of_mem _ (fnd_mem h)
theorem fnd_get {L : Ppl} {w n : Int} (h : fnd L w = some n) : ∃ i : Nat, L[i]? = some (w, n) := by
  obtain ⟨i, hi, e⟩ := List.getElem_of_mem (fnd_mem h)
  exact ⟨i, by rw [List.getElem?_eq_getElem hi, e]⟩
/-- Where somebody is. -/
def ix : Ppl → Int → Nat
  | [], _ => 0
  | p :: l, w => if p.1 = w then 0 else ix l w + 1
theorem ix_get : ∀ {L : Ppl} {w n : Int}, fnd L w = some n → L[ix L w]? = some (w, n)
  | [], _, _, h => by cases h
  | p :: l, w, n, h => by
    rw [fnd] at h
    rw [ix]
    split at h
    · rename_i e
      rw [if_pos e]
      cases h
      subst e
      rfl
    · rename_i e
      rw [if_neg e]
      simpa using ix_get h
theorem ix_hit : ∀ {L : Ppl} {i : Nat} {w n : Int}, L[i]? = some (w, n) → (∀ (j : Nat) p, j < i → L[j]? = some p → p.1 ≠ w) → ix L w = i
  | [], i, w, n, h, _ => by simp at h
  | p :: l, 0, w, n, h, _ => by
    simp at h
    subst h
    rw [ix, if_pos rfl]
  | p :: l, i + 1, w, n, h, k => by
    rw [ix, if_neg (k 0 p (by omega) rfl)]
    rw [ix_hit (i := i) (by simpa using h) fun j q hj hq => k (j + 1) q (by omega) (by simpa using hq)]
/-- What Take answers, and leaves. -/
def tkF (left : Int) (L : Ppl) (who n : Int) : Int := if n < 0 then 1 else if (fnd L who).isSome = true then 6 else if left < n then 13 else 0
def tkL (left : Int) (L : Ppl) (who n : Int) : Ppl := if tkF left L who n = 0 then L ++ [(who, n)] else L
def tkE (left : Int) (L : Ppl) (who n : Int) : Int := if tkF left L who n = 0 then left - n else left
/-- What Give answers, and leaves. -/
def gvF (L : Ppl) (who : Int) : Int := if (fnd L who).isSome = true then 0 else 5
def gvL (L : Ppl) (who : Int) : Ppl := if (fnd L who).isSome = true then cutI L (ix L who) else L
def gvE (left : Int) (L : Ppl) (who : Int) : Int := left + (fnd L who).getD 0
/-- A map and a list that say the same. -/
def Tie (D : DataW Unit) (L : Ppl) : Prop := IsMap D ∧ ∀ v : Int, Maps.has D (.int .i64 v) = (fnd L v).isSome ∧ D.atKey (.int .i64 v) (.lit (.int .i64 0)) = .lit (.int .i64 ((fnd L v).getD 0))
theorem tie_nil : Tie (.map []) [] := ⟨isMap_empty, fun _ => ⟨rfl, rfl⟩⟩
theorem key_lit (v : Int) : WideAt.IsKeyLit (.int .i64 v) := by simp [WideAt.IsKeyLit]
theorem tie_put {D : DataW Unit} {L : Ppl} {w n : Int} (h : Tie D L) (hf : fnd L w = none) : Tie (D.put (.int .i64 w) (.lit (.int .i64 n))) (L ++ [(w, n)]) := by
  refine ⟨h.1.put _ _, fun v => ?_⟩
  rw [fnd_app v hf]
  by_cases e : w = v
  · subst e
    rw [if_pos rfl, has_put_same h.1 (key_lit _), atKey_put_same h.1 (key_lit _)]
    exact ⟨rfl, rfl⟩
  · have hne : (Lit.int .i64 v) ≠ .int .i64 w := by simpa using fun q => e q.symm
    rw [if_neg e, has_put_other hne, atKey_put_other hne]
    exact h.2 v
theorem tie_del {D : DataW Unit} {L : Ppl} {i : Nat} {w n : Int} (h : Tie D L) (hd : Dst L) (hi : L[i]? = some (w, n)) : Tie (D.del (.int .i64 w)) (cutI L i) := by
  refine ⟨h.1.del _, fun v => ?_⟩
  rw [fnd_cut v hd hi]
  by_cases e : w = v
  · subst e
    rw [if_pos rfl, has_del_same, atKey_del_same]
    exact ⟨rfl, rfl⟩
  · have hne : (Lit.int .i64 v) ≠ .int .i64 w := by simpa using fun q => e q.symm
    rw [if_neg e, has_del_other hne, atKey_del_other hne]
    exact h.2 v
theorem tie_at {D : DataW Unit} {L : Ppl} (h : Tie D L) {v c : Int} (hc : D.atKey (.int .i64 v) (.lit (.int .i64 0)) = .lit (.int .i64 c)) : c = (fnd L v).getD 0 := by
  have := (h.2 v).2
  rw [hc] at this
  simpa using this
end Go.Proofs.Ytbjbhfemcemhfaa
