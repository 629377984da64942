/-
  LAID FLAT IT SHOWS THE SAME: the facts of no program.
-/
import Derived.Test.YtgmeecfdkcbggaaMiX
namespace Go.Proofs.Ytgmeecfdkcbggaa
open Go.RowKit
def idF : Nd → Nat → Nd := fun x _ => x
abbrev flat0 (l : Fls) : Nd := flatD idF l
theorem with_kidsF (x : Nd) (ks : Kds) : (x.with ks).kids = ks := by obtain ⟨k, m, u, g, o, at_, d, ks⟩ := x; rfl
theorem with_kindF (x : Nd) (ks : Kds) : (x.with ks).kind = x.kind := by obtain ⟨k, m, u, g, o, at_, d, ks⟩ := x; rfl
theorem with_opq (x : Nd) (ks : Kds) : (x.with ks).opq = x.opq := by obtain ⟨k, m, u, g, o, at_, d, ks⟩ := x; rfl
theorem bareN_kids (x : Nd) : (nakN x).kids = [] := by obtain ⟨k, m, u, g, o, at_, d, ks⟩ := x; rfl
theorem bareN_kind (x : Nd) : (nakN x).kind = x.kind := by obtain ⟨k, m, u, g, o, at_, d, ks⟩ := x; rfl
theorem bareN_opq (x : Nd) : (nakN x).opq = false := by obtain ⟨k, m, u, g, o, at_, d, ks⟩ := x; rfl
theorem bareN_with (x : Nd) (ks : Kds) : nakN (x.with ks) = nakN x := by obtain ⟨k, m, u, g, o, at_, d, ks⟩ := x; rfl
theorem bareN_bareN (x : Nd) : nakN (nakN x) = nakN x := by obtain ⟨k, m, u, g, o, at_, d, ks⟩ := x; rfl
theorem flat0_cons (q : Nd × Nat) (r : Fls) : flat0 (q :: r) = (nakN q.1).with ((listP (q :: r)).map fun nm => (nm, flat0 (nxt (q :: r) nm))) := by
  have h := flatD_cons idF q r
  unfold idF at h
  rw [bareN_kids, List.nil_append] at h
  exact h
theorem flat0_kind (q : Nd × Nat) (r : Fls) : (flat0 (q :: r)).kind = q.1.kind := by rw [flat0_cons, with_kindF, bareN_kind]
theorem flat0_opq (q : Nd × Nat) (r : Fls) : (flat0 (q :: r)).opq = false := by rw [flat0_cons, with_opq, bareN_opq]
/-- What is shown begins with a File or a Dir. -/
theorem dirP_head {l : Fls} {q : Nd × Nat} {r : Fls} (h : dirP l = q :: r) : q.1.kind = 2 := by
  cases l with
  | nil => cases h
  | cons t l =>
    rw [dirP] at h
    split at h
    · cases h
    · rename_i hk
      have hk2 : t.1.kind = 2 := by simpa using hk
      split at h
      · cases h; exact hk2
      · cases h; exact hk2
theorem shP_headF {l : Fls} {q : Nd × Nat} {r : Fls} (h : shP l = q :: r) : (q.1.kind = 1 ∧ r = []) ∨ q.1.kind = 2 := by
  cases l with
  | nil => cases h
  | cons t l =>
    rw [shP] at h
    split at h
    · rename_i hk; cases h; exact .inl ⟨hk, rfl⟩
    · exact .inr (dirP_head h)
theorem kidsP_app (nm : ByteArray) (a b : Fls) : kidsP nm (a ++ b) = kidsP nm a ++ kidsP nm b := by unfold kidsP; rw [List.filterMap_append]
theorem kidO_file {x : Nd} (h : x.kind ≠ 2) (nm : ByteArray) : kidO nm x = none := by
  rw [kidO_eq]
  unfold Nd.dirKs
  rw [if_neg h]; rfl
theorem kidsP_one (nm : ByteArray) (q : Nd × Nat) : kidsP nm [q] = ((kidO nm q.1).map fun y => (y, q.2)).toList := by
  unfold kidsP
  rw [List.filterMap_cons]
  cases h : kidO nm q.1 <;> simp
theorem fstK_in {nm : ByteArray} (g : ByteArray → Nd) : ∀ {N : List ByteArray}, nm ∈ N → fstK nm (N.map fun n => (n, g n)) = some (g nm)
  | [], h => by cases h
  | n :: N, h => by
    rw [List.map_cons, fstK]
    by_cases e : n = nm
    · rw [if_pos e, ← e]
    · rw [if_neg e]
      exact fstK_in g ((List.mem_cons.1 h).resolve_left fun e2 => e e2.symm)
theorem fstK_out {nm : ByteArray} (g : ByteArray → Nd) {N : List ByteArray} (h : nm ∉ N) : fstK nm (N.map fun n => (n, g n)) = none := fstK_no fun p hp e => by
  obtain ⟨n, hn, rfl⟩ := List.mem_map.1 hp
  exact h (by rw [← show n = nm from e]; exact hn)
/-- All that is seen as one layer, if something is. -/
def flt (l : Fls) : Fls := if l.isEmpty = true then [] else [(flat0 l, 0)]
theorem flt_nil : flt [] = [] := rfl
theorem flt_cons (q : Nd × Nat) (r : Fls) : flt (q :: r) = [(flat0 (q :: r), 0)] := rfl
theorem flt_ne {l : Fls} : flt l = [] ↔ l = [] := by
  cases l with
  | nil => simp [flt_nil]
  | cons q r => simp [flt_cons]
/-- The kids of a name of what was laid flat: what is seen there, laid flat. -/
theorem kidsP_flt {l0 l : Fls} (h : shP l0 = l) (nm : ByteArray) : kidsP nm (flt l) = flt (nxt l nm) := by
  cases l with
  | nil => rfl
  | cons q r =>
    rw [flt_cons, kidsP_one, kidO_eq]
    unfold Nd.dirKs
    rw [flat0_kind]
    rcases shP_headF h with ⟨h1, h2⟩ | h1
    · have e : nxt (q :: r) nm = [] := by
        unfold nxt
        subst h2
        rw [kidsP_one, kidO_file (by rw [h1]; decide)]; rfl
      rw [if_neg (by rw [h1]; decide), e]
      rfl
    · rw [if_pos h1, flat0_cons, with_kidsF]
      rcases Classical.em (nm ∈ listP (q :: r)) with hm | hm
      · rw [fstK_in _ hm]
        have hne := mem_listP.1 hm
        cases hx : nxt (q :: r) nm with
        | nil => exact absurd hx hne
        | cons a b => rfl
      · rw [fstK_out _ hm]
        have hne : nxt (q :: r) nm = [] := Classical.byContradiction fun e => hm (mem_listP.2 e)
        rw [hne]; rfl
theorem shP_flt {l0 l : Fls} (h : shP l0 = l) : shP (flt l) = flt l := by
  cases l with
  | nil => rfl
  | cons q r =>
    rw [flt_cons, shP]
    split
    · rfl
    · rename_i hk
      rw [dirP]
      have hk2 : (flat0 (q :: r)).kind = 2 := by
        rw [flat0_kind] at hk ⊢
        rcases shP_headF h with ⟨h1, _⟩ | h1
        · exact absurd h1 hk
        · exact h1
      rw [if_neg (by rw [hk2]; simp), if_neg (by rw [flat0_opq]; simp)]
      rfl
theorem nxt_flt {l0 l : Fls} (h : shP l0 = l) (nm : ByteArray) : nxt (flt l) nm = flt (nxt l nm) := by
  show shP (kidsP nm (flt l)) = _
  rw [kidsP_flt h nm]
  exact shP_flt (l0 := kidsP nm l) rfl
theorem listP_flt {l0 l : Fls} (h : shP l0 = l) : listP (flt l) = listP l := rise_one (listP_rise _) (listP_rise _) fun nm => by
  rw [mem_listP, mem_listP, nxt_flt h, ne_eq, flt_ne]
/-- What is seen along names in what was laid flat. -/
theorem seen_flt (names : List ByteArray) : ∀ {l0 l : Fls}, shP l0 = l → names.foldl (fun l nm => shP (kidsP nm l)) (flt l) = flt (names.foldl (fun l nm => shP (kidsP nm l)) l) := by
  induction names with
  | nil => intro l0 l _; rfl
  | cons nm r ih =>
    intro l0 l h
    rw [List.foldl_cons, List.foldl_cons]
    have e : shP (kidsP nm (flt l)) = flt (shP (kidsP nm l)) := nxt_flt h nm
    rw [e]
    exact ih (l0 := kidsP nm l) rfl
theorem stackP_flt {xs : List Nd} {q : Nd × Nat} {r : Fls} (h : shP (layP xs) = q :: r) (names : List ByteArray) : stackP [flat0 (q :: r)] names = flt (stackP xs names) := by
  unfold stackP
  have e : shP (layP [flat0 (q :: r)]) = flt (q :: r) := by
    exact shP_flt h
  rw [e, h]
  exact seen_flt names h
theorem stackP_shown (xs : List Nd) (names : List ByteArray) : ∃ l0, shP l0 = stackP xs names := by
  unfold stackP
  generalize hl : shP (layP xs) = l
  have h : ∃ l0, shP l0 = l := ⟨_, hl⟩
  clear hl
  induction names generalizing l with
  | nil => exact h
  | cons nm r ih => exact ih _ ⟨_, rfl⟩
theorem seen_nil (names : List ByteArray) : names.foldl (fun l nm => shP (kidsP nm l)) ([] : Fls) = [] := by
  induction names with
  | nil => rfl
  | cons nm r ih => exact ih
theorem stackP_none {xs : List Nd} (h : shP (layP xs) = []) (names : List ByteArray) : stackP xs names = [] := by unfold stackP; rw [h]; exact seen_nil names
/-- Layers that are laid flat ahead of what is above them. -/
theorem dirP_plain {a : Fls} (ha : ∀ q ∈ a, q.1.kind = 2 ∧ q.1.opq = false) (b : Fls) : dirP (a ++ b) = a ++ dirP b := by
  induction a with
  | nil => rfl
  | cons q a ih =>
    have h := ha q (List.mem_cons_self ..)
    rw [List.cons_append, dirP, if_neg (by rw [h.1]; simp), if_neg (by rw [h.2]; simp), ih fun t ht => ha t (List.mem_cons_of_mem _ ht)]
    rfl
theorem dirP_cut : ∀ {a : Fls}, ¬ (∀ q ∈ a, q.1.kind = 2 ∧ q.1.opq = false) → ∀ b, dirP (a ++ b) = dirP a
  | [], h, b => absurd (fun q hq => (by cases hq)) h
  | q :: a, h, b => by
    rw [List.cons_append, dirP, dirP]
    by_cases h1 : q.1.kind ≠ 2
    · rw [if_pos h1, if_pos h1]
    · rw [if_neg h1, if_neg h1]
      by_cases h2 : q.1.opq = true
      · rw [if_pos h2, if_pos h2]
      · rw [if_neg h2, if_neg h2, dirP_cut (fun ha => h fun t ht => by
          rcases List.mem_cons.1 ht with e | e
          · rw [e]; exact ⟨by simpa using h1, by simpa using h2⟩
          · exact ha t e) b]
theorem flat0_same {a b : Fls} {q : Nd × Nat} {r r' : Fls} (ea : a = q :: r) (eb : b = q :: r') (h : ∀ nm, flat0 (nxt a nm) = flat0 (nxt b nm) ∧ (nxt a nm = [] ↔ nxt b nm = [])) : flat0 a = flat0 b := by
  have hl : listP a = listP b := rise_one (listP_rise _) (listP_rise _) fun nm => by rw [mem_listP, mem_listP, ne_eq, ne_eq, (h nm).2]
  rw [ea, eb, flat0_cons, flat0_cons, ← ea, ← eb, hl]
  congr 1
  exact List.map_congr_left fun nm _ => by rw [(h nm).1]
theorem tot_flat (l : Fls) : ∀ N, tot l ≤ N → ∀ nm, tot (kidsP nm l) + l.length ≤ N := fun N h nm => by
  have := tot_kids l [nm] (by simp)
  simp at this
  omega
theorem assoc : ∀ (N : Nat) (a b : Fls), tot a + tot b ≤ N → flat0 (shP (a ++ b)) = flat0 (shP (a ++ flt (shP b))) ∧ (shP (a ++ b) = [] ↔ shP (a ++ flt (shP b)) = [])
  | N, [], b, hN => by
    rw [List.nil_append, List.nil_append, shP_flt (l0 := b) rfl]
    refine ⟨?_, flt_ne.symm⟩
    cases hb : shP b with
    | nil => rfl
    | cons q r =>
      cases N with
      | zero =>
        have h1 := tot_shP b
        rw [hb] at h1
        have := cnt_posF q.1
        simp [tot] at h1 hN
        omega
      | succ N =>
        have hk := flt_cons q r
        have hbb : nakN (flat0 (q :: r)) = nakN q.1 := by rw [flat0_cons, bareN_with, bareN_bareN]
        have hfl : flat0 (flt (q :: r)) = (nakN (flat0 (q :: r))).with ((listP (flt (q :: r))).map fun nm => (nm, flat0 (nxt (flt (q :: r)) nm))) := flat0_cons _ _
        rw [hfl, hbb, listP_flt hb, flat0_cons]
        congr 1
        refine List.map_congr_left fun nm _ => ?_
        rw [nxt_flt hb]
        have h1 := tot_shP b
        rw [hb] at h1
        have h2 := tot_flat (q :: r) (N + 1) (by simp [tot] at hN h1 ⊢; omega) nm
        have ih := (assoc N [] (kidsP nm (q :: r)) (by simp [tot] at h2 ⊢; omega)).1
        rw [List.nil_append, List.nil_append, shP_flt (l0 := kidsP nm (q :: r)) rfl] at ih
        show (nm, flat0 (nxt (q :: r) nm)) = _
        rw [show nxt (q :: r) nm = shP (kidsP nm (q :: r)) from rfl, ← ih]
  | N, t :: a, b, hN => by
    rw [List.cons_append, List.cons_append, shP, shP]
    by_cases h1 : t.1.kind = 1
    · rw [if_pos h1, if_pos h1]; exact ⟨rfl, Iff.rfl⟩
    rw [if_neg h1, if_neg h1, ← List.cons_append, ← List.cons_append]
    by_cases hp : ∀ q ∈ t :: a, q.1.kind = 2 ∧ q.1.opq = false
    rotate_left
    · rw [dirP_cut hp, dirP_cut hp]; exact ⟨rfl, Iff.rfl⟩
    rw [dirP_plain hp, dirP_plain hp]
    refine ⟨?_, by simp⟩
    cases b with
    | nil => rfl
    | cons s b =>
      by_cases hs1 : s.1.kind = 1
      · have e1 : shP (s :: b) = [s] := by rw [shP, if_pos hs1]
        have e2 : dirP (s :: b) = [] := by rw [dirP, if_pos (by rw [hs1]; decide)]
        rw [e1, e2, flt_cons, dirP, if_pos (by rw [flat0_kind, hs1]; decide)]
      have e1 : shP (s :: b) = dirP (s :: b) := by rw [shP, if_neg hs1]
      rw [e1]
      cases hd : dirP (s :: b) with
      | nil => rfl
      | cons q r =>
        have hq := dirP_head hd
        have e2 : dirP (flt (q :: r)) = flt (q :: r) := by
          rw [flt_cons, dirP, if_neg (by rw [flat0_kind, hq]; simp), if_neg (by rw [flat0_opq]; simp)]; rfl
        rw [e2]
        cases N with
        | zero => have := cnt_posF t.1; simp [tot] at hN; omega
        | succ N =>
          refine flat0_same (q := t) (r := a ++ (q :: r)) (r' := a ++ flt (q :: r)) (by simp) (by simp) fun nm => ?_
          have ht := tot_dirP (s :: b)
          rw [hd] at ht
          have k1 := tot_flat (t :: a) (tot (t :: a)) (Nat.le_refl _) nm
          have k2 := tot_flat (q :: r) (tot (q :: r)) (Nat.le_refl _) nm
          rw [List.length_cons] at k1 k2
          have ih := assoc N (kidsP nm (t :: a)) (kidsP nm (q :: r)) (by omega)
          have x1 : nxt (t :: a ++ q :: r) nm = shP (kidsP nm (t :: a) ++ kidsP nm (q :: r)) := by unfold nxt; rw [kidsP_app]
          have x2 : nxt (t :: a ++ flt (q :: r)) nm = shP (kidsP nm (t :: a) ++ flt (shP (kidsP nm (q :: r)))) := by
            unfold nxt
            rw [kidsP_app, kidsP_flt (l0 := s :: b) (by rw [e1, hd]) nm]
            rfl
          rw [x1, x2]
          exact ih
/-- Layers' numbers do not matter. -/
def er (l : Fls) : Fls := l.map fun q => (q.1, 0)
theorem dirP_er : ∀ l : Fls, dirP (er l) = er (dirP l)
  | [] => rfl
  | q :: r => by
    show dirP ((q.1, 0) :: er r) = er (dirP (q :: r))
    rw [dirP, dirP]
    split
    · rfl
    split
    · rfl
    · rw [dirP_er r]; rfl
theorem shP_er (l : Fls) : shP (er l) = er (shP l) := by
  cases l with
  | nil => rfl
  | cons q r =>
    show shP ((q.1, 0) :: er r) = er (shP (q :: r))
    rw [shP, shP]
    split
    · rfl
    · exact dirP_er (q :: r)
theorem kidsP_er (nm : ByteArray) : ∀ l : Fls, kidsP nm (er l) = er (kidsP nm l)
  | [] => rfl
  | q :: r => by
    have ih := kidsP_er nm r
    show kidsP nm ((q.1, 0) :: er r) = er (kidsP nm (q :: r))
    unfold kidsP at ih ⊢
    rw [List.filterMap_cons, List.filterMap_cons, ih]
    cases kidO nm q.1 <;> rfl
theorem nxt_er (l : Fls) (nm : ByteArray) : nxt (er l) nm = er (nxt l nm) := by unfold nxt; rw [kidsP_er, shP_er]
theorem er_nil {l : Fls} : er l = [] ↔ l = [] := List.map_eq_nil_iff
theorem flat0_er : ∀ (N : Nat) (l : Fls), tot l ≤ N → flat0 (er l) = flat0 l
  | _, [], _ => rfl
  | 0, q :: r, h => by have := cnt_posF q.1; simp [tot] at h; omega
  | N + 1, q :: r, h => by
    have hl : listP (er (q :: r)) = listP (q :: r) := rise_one (listP_rise _) (listP_rise _) fun nm => by rw [mem_listP, mem_listP, nxt_er, ne_eq, er_nil]
    have e : er (q :: r) = (q.1, 0) :: er r := rfl
    rw [flat0_cons q r, e, flat0_cons, ← e, hl]
    congr 1
    refine List.map_congr_left fun nm _ => ?_
    have h1 := tot_nxt1 (q :: r) nm
    rw [List.length_cons] at h1
    rw [nxt_er, flat0_er N _ (by omega)]
theorem er_lay (xs : List Nd) (n : Nat) : er (xs.zipIdx n) = xs.map fun x => (x, 0) := by
  unfold er
  induction xs generalizing n with
  | nil => rfl
  | cons x r ih => rw [List.zipIdx_cons, List.map_cons, List.map_cons, ih]
theorem flat0_lay {a b : Fls} (h : er a = er b) : flat0 (shP a) = flat0 (shP b) := by
  rw [← flat0_er _ (shP a) (Nat.le_refl _), ← flat0_er _ (shP b) (Nat.le_refl _), ← shP_er, ← shP_er, h]
/-- All layers, and the top one over the others, laid flat ahead. -/
theorem both_flat (x : Nd) (xs : List Nd) (q : Nd × Nat) (r : Fls) (h : shP (layP xs) = q :: r) : flat0 (shP (layP [x, flat0 (q :: r)])) = flat0 (shP (layP (x :: xs))) := by
  have e1 : er (layP (x :: xs)) = er ([(x, 0)] ++ layP xs) := by
    unfold layP
    rw [List.zipIdx_cons]
    show (x, 0) :: er (xs.zipIdx (0 + 1)) = (x, 0) :: er (xs.zipIdx 0)
    rw [er_lay, er_lay]
  have e2 : er (layP [x, flat0 (q :: r)]) = er ([(x, 0)] ++ flt (q :: r)) := rfl
  rw [flat0_lay e1, flat0_lay e2, (assoc _ [(x, 0)] (layP xs) (Nat.le_refl _)).1, h]
theorem both_none (x : Nd) (xs : List Nd) (h : shP (layP xs) = []) : flat0 (shP (layP [x])) = flat0 (shP (layP (x :: xs))) := by
  have e1 : er (layP (x :: xs)) = er ([(x, 0)] ++ layP xs) := by
    unfold layP
    rw [List.zipIdx_cons]
    show (x, 0) :: er (xs.zipIdx (0 + 1)) = (x, 0) :: er (xs.zipIdx 0)
    rw [er_lay, er_lay]
  have e2 : er (layP [x]) = er ([(x, 0)] ++ flt []) := rfl
  rw [flat0_lay e1, flat0_lay e2, (assoc _ [(x, 0)] (layP xs) (Nat.le_refl _)).1, h]
end Go.Proofs.Ytgmeecfdkcbggaa
