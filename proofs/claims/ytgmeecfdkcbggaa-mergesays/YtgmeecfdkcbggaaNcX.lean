/-
  TREES, the facts of no program: what a change leaves, what is found then, what may be.
  MAPS OF IDS: what is wrong with one; the walks of bounded, meet.
  WHAT COMES UP: no program here: what is seen along names; name by name and at once.
  IDS THAT ARE INTS, beginnings of names: no program here.
  ALONG: what stands between its rounds; no walk.
  A REGION THAT DRAWS ITS ORDER, BY WHAT IS KEPT; what is kept while Along lays what it saw into its rows.
  THE DOCUMENT's List: what it makes of names: the facts of no program.
-/
import Derived.Test.YtgmeecfdkcbggaaApX
import Derived.Test.YtgmeecfdkcbggaaNpX
import Derived.Deep.RegionHeld3
import Derived.Test.YtgmeecfdkcbggaaMhX
import Derived.Deep.QuietTactic
import Derived.BigQuiet
import Derived.Test.YtgmeecfdkcbggaaWlY
import Derived.Test.YtgmeecfdkcbggaaFoX
import Derived.Test.YtgmeecfdkcbggaaWbY
import Derived.Test.YtgmeecfdkcbggaaMiX
import Derived.Test.YtgmeecfdkcbggaaFfX
import Derived.OrdersIn
import Derived.Test.YtgmeecfdkcbggaaFdX
import Derived.Test.YtgmeecfdkcbggaaMmY
import Derived.Deep.AppendSrc
namespace Go.Proofs.Ytgmeecfdkcbggaa
open Go.RowKit
/-- The first kid of a name. -/
def fk (m : ByteArray) : Kds → Option Nd
  | [] => none
  | (n, x) :: l => if n = m then some x else fk m l
end Go.Proofs.Ytgmeecfdkcbggaa
namespace Go.Proofs.Ytgmeecfdkcbggaa
open Go.RowKit
/-- An int. -/
def I64 (x : Int) : Prop := -9223372036854775808 ≤ x ∧ x ≤ 9223372036854775807
end Go.Proofs.Ytgmeecfdkcbggaa
namespace Go.Proofs.Ytgmeecfdkcbggaa
open Go.RowKit
theorem take_next2 {α : Type} {l : List α} {n : Nat} {x : α} (h : l[n]? = some x) : l.take (n + 1) = l.take n ++ [x] := by rw [List.take_add_one, h]; rfl
end Go.Proofs.Ytgmeecfdkcbggaa
namespace Go.Proofs.Ytgmeecfdkcbggaa
open Go.RowKit
mutual
/-- All ids in it are ints. -/
def IdN : Nd → Prop
  | .mk _ _ u g _ _ _ ks => I64 u ∧ I64 g ∧ IdL ks
def IdL : List (ByteArray × Nd) → Prop
  | [] => True
  | (_, x) :: l => IdN x ∧ IdL l
end
theorem Strs.take {c : Mem} {a : Option Addr} {l : List ByteArray} (h : Strs c a l) (n : Nat) : Strs c a (l.take n) := by
  rcases h with e | ⟨b, off, e, h⟩
  · subst e; exact .inl (by simp)
  · refine .inr ⟨b, off, e, fun i s hi => h i s ?_⟩
    rw [List.getElem?_take] at hi
    split at hi
    · exact hi
    · cases hi
end Go.Proofs.Ytgmeecfdkcbggaa
namespace Go.Proofs.Ytgmeecfdkcbggaa
open Go.RowKit Go.Shelf
def flN : List Fl → List Value
  | [] => []
  | f :: r => ndL f.x f.h ++ flN r
theorem flN_app : ∀ A B : List Fl, flN (A ++ B) = flN A ++ flN B
  | [], _ => rfl
  | f :: r, B => by simp [flN, flN_app r B]
theorem flN_get : ∀ (F : List Fl) (i : Nat) (f : Fl), F[i]? = some f → ∀ q u, (ndL f.x f.h)[q]? = some u → (flN F)[i * 8 + q]? = some u
  | [], i, f, hi => by simp at hi
  | g :: r, 0, f, hi => by
    simp at hi
    subst hi
    intro q u hq
    have hl := (List.getElem?_eq_some_iff.1 hq).1
    rw [Nat.zero_mul, Nat.zero_add, flN, List.getElem?_append_left hl]
    exact hq
  | g :: r, i + 1, f, hi => by
    intro q u hq
    have := flN_get r i f (by simpa using hi) q u hq
    rw [flN, List.getElem?_append_right (by simp [ndL_length]; omega), ndL_length, show (i + 1) * 8 + q - 8 = i * 8 + q by omega]
    exact this
end Go.Proofs.Ytgmeecfdkcbggaa
namespace Go.Proofs.Ytgmeecfdkcbggaa
open Go.RowKit Go.Shelf
/-- How many are still to come. -/
def left (l : Array Bool) : Nat := l.toList.count false
theorem left_set {l : Array Bool} {i : Nat} (h : l.getD i true = false) : left (l.setIfInBounds i true) + 1 = left l := by
  unfold left
  have hi : i < l.size := by
    rcases Nat.lt_or_ge i l.size with h' | h'
    · exact h'
    · simp [Array.getD, Nat.not_lt.2 h'] at h
  have he : l[i] = false := by simpa [Array.getD, hi] using h
  rw [Array.toList_setIfInBounds]
  have e : l.toList[i]? = some false := by simp [hi, he]
  generalize l.toList = t at e
  clear h he hi
  induction t generalizing i with
  | nil => simp at e
  | cons x t ih =>
    cases i with
    | zero => simp at e; subst e; simp
    | succ i =>
      have := ih (i := i) (by simpa using e)
      rw [List.set_cons_succ, List.count_cons, List.count_cons]
      omega
/-- What each operation keeps, whichever may come up, holds at the end. -/
theorem anyIn_kept {F : Fence} {n : Nat} {P : Program} {md : Region.Mode} {ops : Array Oper} {Q : Exit → Act → World → Prop} (I : Array Bool → Act → World → Prop)
    (hstep : ∀ listed a w i, I listed a w → i ∈ Region.ready md ops listed → wpOpIn F n P ops Q i (I (listed.setIfInBounds i true)) a w)
    (hfin : ∀ listed a w, I listed a w → Region.ready md ops listed = [] → Q .normal a w) :
    ∀ (fuel : Nat) (listed : Array Bool) (a : Act) (w : World), left listed ≤ fuel → I listed a w → wpAnyIn F n P md ops Q fuel listed a w
  | 0, listed, a, w, hl, h => by
    have e : Region.ready md ops listed = [] := by
      cases hr : Region.ready md ops listed with
      | nil => rfl
      | cons i r =>
        have hi : i ∈ Region.ready md ops listed := by rw [hr]; exact List.mem_cons_self ..
        have := left_set (mem_ready.1 hi).1
        omega
    exact ⟨e, hfin _ _ _ h e⟩
  | fuel + 1, listed, a, w, hl, h => by
    refine ⟨hfin _ _ _ h, fun i hi => ?_⟩
    refine wpOpIn_mono (fun a' w' h' => anyIn_kept I hstep hfin fuel _ a' w' ?_ h') (hstep _ _ _ _ h hi)
    have := left_set (mem_ready.1 hi).1
    omega
end Go.Proofs.Ytgmeecfdkcbggaa
namespace Go.Proofs.Ytgmeecfdkcbggaa
open Go.RowKit Go.Shelf
/-- How many names are ahead of one. -/
def ahd (nm : ByteArray) (O : List ByteArray) : Nat := (O.takeWhile fun x => ltB x nm).length
theorem ahd_le (nm : ByteArray) : ∀ O : List ByteArray, ahd nm O ≤ O.length
  | [] => Nat.le_refl _
  | x :: r => by
    have ih := ahd_le nm r
    unfold ahd at ih ⊢
    rw [List.takeWhile_cons]
    split <;> simp <;> omega
theorem ahd_lt (nm : ByteArray) : ∀ {O : List ByteArray} {j : Nat} {x : ByteArray}, O[j]? = some x → j < ahd nm O → ltB x nm = true
  | [], j, x, h, _ => by simp at h
  | y :: r, j, x, h, hj => by
    unfold ahd at hj
    rw [List.takeWhile_cons] at hj
    split at hj
    · rename_i hy
      cases j with
      | zero => simp at h; rw [← h]; exact hy
      | succ j => exact ahd_lt nm (O := r) (j := j) (by simpa using h) (by unfold ahd; simp at hj; omega)
    · simp at hj
theorem ahd_at (nm : ByteArray) : ∀ {O : List ByteArray} {x : ByteArray}, O[ahd nm O]? = some x → ltB x nm = false
  | [], x, h => by simp at h
  | y :: r, x, h => by
    unfold ahd at h
    rw [List.takeWhile_cons] at h
    split at h
    · rename_i hy
      exact ahd_at nm (O := r) (by unfold ahd; simpa using h)
    · rename_i hy
      simp at h
      rw [← h]
      simpa using hy
theorem insU_ahd (nm : ByteArray) : ∀ O : List ByteArray, insU nm O = if O[ahd nm O]? = some nm then O else O.take (ahd nm O) ++ nm :: O.drop (ahd nm O)
  | [] => by simp [insU]
  | y :: r => by
    have ih := insU_ahd nm r
    rw [insU]
    unfold ahd at ih ⊢
    rw [List.takeWhile_cons]
    by_cases hy : ltB y nm = true
    · rw [if_pos hy, hy]
      simp only [if_true, List.length_cons, List.getElem?_cons_succ, List.take_succ_cons, List.drop_succ_cons, List.cons_append]
      rw [ih]
      split <;> rfl
    · rw [if_neg hy]
      have hy2 : ltB y nm = false := by simpa using hy
      rw [hy2]
      by_cases e : y = nm
      · subst e; simp
      · simp [e]
theorem lstF_snoc (l : Fls) (out r : List ByteArray) (nm : ByteArray) : lstF l out (r ++ [nm]) = if (nxt l nm).isEmpty = true then lstF l out r else insU nm (lstF l out r) := by
  unfold lstF
  rw [List.foldl_append]
  rfl
theorem lstF_app (l : Fls) (out r s : List ByteArray) : lstF l out (r ++ s) = lstF l (lstF l out r) s := by
  unfold lstF
  rw [List.foldl_append]
theorem insU_len (nm : ByteArray) : ∀ O : List ByteArray, (insU nm O).length ≤ O.length + 1
  | [] => Nat.le_refl _
  | y :: r => by
    have ih := insU_len nm r
    rw [insU]
    split
    · simp; omega
    · split <;> simp
theorem lstF_len (l : Fls) : ∀ (r out : List ByteArray), (lstF l out r).length ≤ out.length + r.length
  | [], out => by simp [lstF]
  | nm :: r, out => by
    have h1 : lstF l out (nm :: r) = lstF l (if (nxt l nm).isEmpty = true then out else insU nm out) r := rfl
    rw [h1]
    have ih := lstF_len l r (if (nxt l nm).isEmpty = true then out else insU nm out)
    have h2 := insU_len nm out
    rw [List.length_cons]
    by_cases hc : (nxt l nm).isEmpty = true
    · rw [if_pos hc] at ih ⊢; omega
    · rw [if_neg hc] at ih ⊢; omega
theorem kNms_tot : ∀ l : Fls, (kNms l).length ≤ tot l
  | [] => Nat.le_refl _
  | q :: r => by
    have ih := kNms_tot r
    unfold kNms at ih ⊢
    rw [List.flatMap_cons, List.length_append, List.length_map, tot]
    have h1 : q.1.kids.length + 1 ≤ cnt q.1 := by
      obtain ⟨x, ly⟩ := q
      obtain ⟨k, m, u, g, o, at_, d, ks⟩ := x
      have := cntL_len ks
      show ks.length + 1 ≤ cnt _
      rw [cnt]
      omega
    omega
theorem owns_base {w : World} {b b' : Nat} {e : TypeId} {z : Nat} {v : Value} {n : Nat} {l : List Value} (h : w.ownsRow b e z v n l) (hb : b' ≤ b) : w.ownsRow b' e z v n l := by
  obtain ⟨h1, h2⟩ := h
  refine ⟨h1, ?_⟩
  rcases h2 with h2 | ⟨g, cap, cur, e1, e2, r⟩
  · exact .inl h2
  · exact .inr ⟨g, cap, cur, e1, Nat.le_trans hb e2, r⟩
theorem ins_own {w : World} {b b' r : Nat} {v : Value} {P : List ByteArray} {nm : ByteArray} (h : w.ownsRow b 9 1 v (0 + r + 1 + (P.length - r)) ([] ++ strL (P.take r) ++ strL [nm] ++ strL (P.drop r))) (hr : r ≤ P.length) (hb : b' ≤ b) : w.ownsRow b' 9 1 v (P.take r ++ nm :: P.drop r).length (strL (P.take r ++ nm :: P.drop r)) := by
  have e1 : (P.take r ++ nm :: P.drop r).length = 0 + r + 1 + (P.length - r) := by simp; omega
  have e2 : strL (P.take r ++ nm :: P.drop r) = [] ++ strL (P.take r) ++ strL [nm] ++ strL (P.drop r) := by simp [strL]
  rw [e1, e2]
  exact owns_base h hb
theorem str_one {w : World} {b : Nat} {nm : ByteArray} (h : w.cell? ⟨b, 0, none⟩ = some (.string nm)) : ∀ j u, (strL [nm])[j]? = some u → w.cell? ((⟨b, 0, none⟩ : Addr).add j) = some u := fun j u hj => by
  cases j with
  | zero => simp [strL] at hj; rw [addr_add, ← hj]; exact h
  | succ j => simp [strL] at hj
theorem str_take {w : World} {g : Nat} {P : List ByteArray} (hc : ∀ (k : Nat) x, P[k]? = some x → w.cell? ⟨g, k, none⟩ = some (.string x)) (r : Nat) : ∀ k u, (strL (P.take r))[k]? = some u → w.cell? ((⟨g, 0, none⟩ : Addr).add k) = some u := fun k u hk => by
  unfold strL at hk
  rw [List.getElem?_map] at hk
  obtain ⟨x, hx, rfl⟩ := Option.map_eq_some_iff.1 hk
  rw [List.getElem?_take] at hx
  split at hx
  · rw [addr_add, Nat.zero_add]; exact hc k x hx
  · cases hx
theorem str_drop {w : World} {g gc r : Nat} {P : List ByteArray} (hc : ∀ (k : Nat) x, P[k]? = some x → w.cell? ⟨g, k, none⟩ = some (.string x)) (hle : P.length ≤ gc) {AD : Option Addr} (hAD : (if gc = r then some (⟨g, 0, none⟩ : Addr) else some ⟨g, r, none⟩) = AD) :
    (AD = none ∧ P.length - r = 0) ∨ ∃ ad, AD = some ad ∧ ∀ k u, (strL (P.drop r))[k]? = some u → w.cell? (ad.add k) = some u := by
  right
  split at hAD
  · rename_i e
    refine ⟨_, hAD.symm, fun k u hk => ?_⟩
    rw [List.getElem?_eq_none (by rw [strL_len, List.length_drop]; omega)] at hk; cases hk
  · refine ⟨_, hAD.symm, fun k u hk => ?_⟩
    unfold strL at hk
    rw [List.getElem?_map, List.getElem?_drop] at hk
    obtain ⟨x, hx, rfl⟩ := Option.map_eq_some_iff.1 hk
    rw [addr_add]
    exact hc (r + k) x hx
theorem grown_noneG {w w' : World} (h : w.grownBy w' none) : Below w.heap.size w w' := (Below.refl _ w).grown h (Nat.le_refl _) (fun k e => by cases e)
end Go.Proofs.Ytgmeecfdkcbggaa
