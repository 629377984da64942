/-
  LAWS for slices of ranges: copy with elements of several cells, within one row too; what an owned row of ranges holds.
-/
import Derived.Test.YtoadlnojcbkdgaaIc
import Derived.Laws.CopyOwn
import Derived.Deep.DeepCutAuto
namespace Go.Proofs.Ytoadlnojcbkdgaa
open Go.RowKit

section
variable {P : Program}
theorem run_copy_rowN (w : World) (dT sT ty elem : TypeId) (size : Nat) (g o dLen dCap : Nat) (a : Addr) (sLen sCap : Nat) (cur : Array Value) (t : TypeId) (cs : List Value)
    (hu : P.underlying dT = some (.slice elem)) (hs : (P.info? elem).map (·.size) = some size)
    (hg : w.heap[g]? = some (.cells cur t (0, 0))) (m : Nat) (hm : Nat.min sLen dLen = m) (hn : cs.length = m * size)
    (hsrc : ∀ j v, cs[j]? = some v → w.cell? (a.add j) = some v) (hfit : o + cs.length ≤ cur.size) (h1 : ∀ v ∈ cs, v.oneCell' = true) :
    (Builtin.copy_ #[dT, sT] ty #[.slice (some ⟨g, o, none⟩) dLen dCap, .slice (some a) sLen sCap]).run P w =
      .ok (goInt m) (w.setRow g (cur.toList.take o ++ cs ++ cur.toList.drop (o + cs.length)).toArray) := by
  have hl := run_loadCells_list (P := P) w a cs hsrc
  have hst := run_storeCells_at P g o t cs 0 cur w hg (by simpa using hfit) h1
  cases hq : P.info? elem with
  | none => simp [hq] at hs
  | some i =>
    have hi : i.size = size := by simpa [hq] using hs
    simp [Builtin.copy_, run_underlying hu, Builtin.lenOf, Builtin.firstCells, sizeOf, typeInfo, hq, hi, hm, ← hn, hl, hst]
theorem run_copy_noneN (w : World) (dT sT ty elem : TypeId) (size : Nat) (d a : Option Addr) (dLen dCap sLen sCap : Nat) (hu : P.underlying dT = some (.slice elem)) (hs : (P.info? elem).map (·.size) = some size) (hm : Nat.min sLen dLen = 0) :
    (Builtin.copy_ #[dT, sT] ty #[.slice d dLen dCap, .slice a sLen sCap]).run P w = .ok (goInt 0) w := by
  cases hq : P.info? elem with
  | none => simp [hq] at hs
  | some i =>
    have hl : ∀ (x : Addr), (loadCells x 0).run P w = .ok #[] w := fun x => by simpa using run_loadCells_list (P := P) w x [] (by simp)
    cases d <;> cases a <;> simp [Builtin.copy_, run_underlying hu, Builtin.lenOf, Builtin.firstCells, sizeOf, typeInfo, hq, hm, storeCells, hl]

theorem setRow_grown (w : World) (g : Nat) (cs : Array Value) : w.grownBy (w.setRow g cs) (some g) :=
  ⟨rfl, rfl, rfl, by simp [World.setRow], fun k _ hne => setRow_other w g k cs (fun e => hne (by rw [e]))⟩

theorem step_copy_rowN {w : World} {ops : Array Oper} {o : Oper} {a : Act} {K : Act → World → Prop} {Q : Exit → Act → World → Prop} {E : Prop} (hgd : o.guard = none) (d s : Operand) (dT sT : TypeId)
    (ho : o.op = .call { callee := .builtin .copy, args := #[d, s], argTypes := #[dT, sT] }) (elem : TypeId) (size : Nat) (hu : P.underlying dT = some (.slice elem)) (hsz : (P.info? elem).map (·.size) = some size)
    (g od dLen dCap : Nat) (ad : Addr) (sLen sCap : Nat) (hd : a.eval d = .slice (some ⟨g, od, none⟩) dLen dCap) (hs : a.eval s = .slice (some ad) sLen sCap)
    (cur : Array Value) (t : TypeId) (hg : w.heap[g]? = some (.cells cur t (0, 0))) (m : Nat) (hm : Nat.min sLen dLen = m) (cs : List Value) (hn : cs.length = m * size)
    (hsrc : ∀ j v, cs[j]? = some v → w.cell? (ad.add j) = some v) (hfit : od + cs.length ≤ cur.size) (h1 : ∀ v ∈ cs, v.oneCell' = true)
    (h : ∀ w', Hid (w'.heap[g]? = some (.cells (splice cur.toList od cs).toArray t (0, 0))) → w.grownBy w' (some g) → K (a.put o.dst (goInt m)) w') :
    if Region.wanted o (yielded ops a.tmps) = true then Oper.wp P o a w K Q else E := by
  have hw : Region.wanted o (yielded ops a.tmps) = true := by simp [Region.wanted, hgd]
  rw [if_pos hw]
  have hrun := run_copy_rowN (P := P) w dT sT o.type elem size g od dLen dCap ad sLen sCap cur t cs hu hsz hg m hm hn hsrc hfit h1
  unfold Oper.wp
  simp [execOp, ho, resolve, invoke, builtin, hd, hs, hrun, Result.andThen]
  exact h _ (show _ = _ by simpa [splice] using setRow_heap w g _ _ t _ hg) (setRow_grown w g _)

theorem step_copy_noneN {w : World} {ops : Array Oper} {o : Oper} {a : Act} {K : Act → World → Prop} {Q : Exit → Act → World → Prop} {E : Prop} (hgd : o.guard = none) (d s : Operand) (dT sT : TypeId)
    (ho : o.op = .call { callee := .builtin .copy, args := #[d, s], argTypes := #[dT, sT] }) (elem : TypeId) (size : Nat) (hu : P.underlying dT = some (.slice elem)) (hsz : (P.info? elem).map (·.size) = some size)
    (dp sp : Option Addr) (dLen dCap sLen sCap : Nat) (hd : a.eval d = .slice dp dLen dCap) (hs : a.eval s = .slice sp sLen sCap) (hm : Nat.min sLen dLen = 0)
    (h : K (a.put o.dst (goInt 0)) w) :
    if Region.wanted o (yielded ops a.tmps) = true then Oper.wp P o a w K Q else E := by
  have hw : Region.wanted o (yielded ops a.tmps) = true := by simp [Region.wanted, hgd]
  rw [if_pos hw]
  have hrun := run_copy_noneN (P := P) w dT sT o.type elem size dp sp dLen dCap sLen sCap hu hsz hm
  unfold Oper.wp
  simp [execOp, ho, resolve, invoke, builtin, hd, hs, hrun, Result.andThen]
  exact h
end

/-! ### Rows of ranges -/
def flat : List Rg → List Value
  | [] => []
  | r :: l => .int .i64 r.i :: .int .i64 r.o :: .int .i64 r.n :: flat l
theorem flat_length : ∀ L : List Rg, (flat L).length = L.length * 3
  | [] => rfl
  | r :: l => by simp [flat, flat_length l]; omega
theorem flat_append : ∀ A B : List Rg, flat (A ++ B) = flat A ++ flat B
  | [], _ => rfl
  | r :: l, B => by simp [flat, flat_append l B]
theorem flat_one : ∀ L : List Rg, ∀ u ∈ flat L, u.oneCell' = true
  | [], u, h => by cases h
  | r :: l, u, h => by
    simp [flat] at h
    rcases h with rfl | rfl | rfl | h
    · rfl
    · rfl
    · rfl
    · exact flat_one l u h
theorem flat_get : ∀ (L : List Rg) (k : Nat) (r : Rg), L[k]? = some r → (flat L)[k * 3]? = some (.int .i64 r.i) ∧ (flat L)[k * 3 + 1]? = some (.int .i64 r.o) ∧ (flat L)[k * 3 + 2]? = some (.int .i64 r.n)
  | [], k, r, h => by simp at h
  | x :: l, 0, r, h => by simp at h; subst h; simp [flat]
  | x :: l, k + 1, r, h => by
    have := flat_get l k r (by simpa using h)
    have e : (k + 1) * 3 = k * 3 + 3 := by omega
    rw [e]
    simpa [flat] using this
theorem flat_take (L : List Rg) (k : Nat) : (flat L).take (k * 3) = flat (L.take k) := by
  by_cases hk : k ≤ L.length
  · have := flat_append (L.take k) (L.drop k)
    rw [List.take_append_drop] at this
    rw [this, List.take_append_of_le_length (by rw [flat_length]; simp; omega), List.take_of_length_le (by rw [flat_length]; simp; omega)]
  · rw [List.take_of_length_le (by rw [flat_length]; omega), List.take_of_length_le (by omega)]
theorem flat_drop (L : List Rg) (k : Nat) : (flat L).drop (k * 3) = flat (L.drop k) := by
  by_cases hk : k ≤ L.length
  · have := flat_append (L.take k) (L.drop k)
    rw [List.take_append_drop] at this
    rw [this, List.drop_append_of_le_length (by rw [flat_length]; simp; omega), List.drop_of_length_le (by rw [flat_length]; simp; omega)]; simp
  · rw [List.drop_of_length_le (by rw [flat_length]; omega), List.drop_of_length_le (by omega)]; rfl

/-- An owned row of ranges, read. -/
theorem rgs_of_owns {w : World} {base : Nat} {v : Value} {n : Nat} {L : List Rg} {rest : List Value} (h : w.ownsRow base 53 3 v n (flat L ++ rest)) : ∃ a cap, v = .slice a n cap ∧ n ≤ cap ∧ cap ≤ maxLen ∧ Rgs w a L := by
  obtain ⟨a, cap, hv, h1, h2, hf⟩ := ownsRow_form h
  refine ⟨a, cap, hv, h1, h2, ?_⟩
  rcases hf with ⟨_, _, hx, _⟩ | ⟨g, cur, ha, _, hg, _, hx⟩
  · left
    cases L with
    | nil => rfl
    | cons r l => simp [flat] at hx
  · refine .inr ⟨g, 0, ha, fun k r hk => ?_⟩
    have hl := (List.getElem?_eq_some_iff.1 hk).1
    obtain ⟨h1, h2, h3⟩ := flat_get L k r hk
    rw [Nat.zero_add]
    refine ⟨ownsRow_cell hg hx ?_, ownsRow_cell hg hx ?_, ownsRow_cell hg hx ?_⟩
    · rw [List.getElem?_append_left (by rw [flat_length]; omega)]; exact h1
    · rw [List.getElem?_append_left (by rw [flat_length]; omega)]; exact h2
    · rw [List.getElem?_append_left (by rw [flat_length]; omega)]; exact h3
theorem rgs_of_owns0 {w : World} {base : Nat} {v : Value} {n : Nat} {L : List Rg} (h : w.ownsRow base 53 3 v n (flat L)) : ∃ a cap, v = .slice a n cap ∧ n ≤ cap ∧ cap ≤ maxLen ∧ Rgs w a L :=
  rgs_of_owns (rest := []) (by simpa using h)
theorem src_of_rgs {w : World} {a : Option Addr} {rs : List Rg} (h : Rgs w a rs) : (a = none ∧ rs.length = 0) ∨ ∃ ad, a = some ad ∧ ∀ j u, (flat rs)[j]? = some u → w.cell? (ad.add j) = some u := by
  rcases h with rfl | ⟨b, off, rfl, hc⟩
  · cases a with
    | none => exact .inl ⟨rfl, rfl⟩
    | some ad => exact .inr ⟨ad, rfl, fun j u hu => by simp [flat] at hu⟩
  · refine .inr ⟨_, rfl, fun j u hj => ?_⟩
    have hjl : j < rs.length * 3 := by have := (List.getElem?_eq_some_iff.1 hj).1; rwa [flat_length] at this
    obtain ⟨r, hr⟩ : ∃ r, rs[j / 3]? = some r := ⟨rs[j / 3]'(by omega), List.getElem?_eq_getElem _⟩
    obtain ⟨h1, h2, h3⟩ := hc _ r hr
    obtain ⟨f1, f2, f3⟩ := flat_get rs _ r hr
    have e : (⟨b, off, none⟩ : Addr).add j = ⟨b, off + j, none⟩ := by by_cases hj0 : j = 0 <;> simp [Addr.add, hj0]
    rw [e]
    have hm : j = j / 3 * 3 ∨ j = j / 3 * 3 + 1 ∨ j = j / 3 * 3 + 2 := by omega
    rcases hm with hm | hm | hm
    · rw [hm] at hj ⊢; rw [f1] at hj; cases hj; exact h1
    · rw [hm] at hj ⊢; rw [f2] at hj; cases hj; rw [← Nat.add_assoc]; exact h2
    · rw [hm] at hj ⊢; rw [f3] at hj; cases hj; rw [← Nat.add_assoc]; exact h3
theorem Try.info53 : (Try.prog.info? 53).map (fun i => (i.zero, i.size, i.bytes)) = some (some (.agg #[.int .i64 0, .int .i64 0, .int .i64 0]), 3, 24) := by kernel_rfl
theorem Try.size53 : (Try.prog.info? 53).map (·.size) = some 3 := by kernel_rfl
end Go.Proofs.Ytoadlnojcbkdgaa
