/-
  ATTRIBUTES, the facts of no program: where a name belongs, what is got, set and dropped; what the document's own loop makes.
-/
import Derived.Test.YtpjhckjmahagnaaAa
namespace Go.Proofs.Ytpjhckjmahagnaa
open Go.RowKit

abbrev Srt (l : List Kv) : Prop := l.Pairwise (fun p x => ltB p.n x.n = true)
/-- Where a name belongs. -/
def plc (l : List Kv) (m : ByteArray) : Nat := l.countP (fun x => ltB x.n m)
/-- What has that name. -/
def fnd (l : List Kv) (m : ByteArray) : Option Kv := l.find? (fun x => decide (x.n = m))
def lows (l : List Kv) (m : ByteArray) : List Kv := l.filter (fun x => ltB x.n m)
def highs (l : List Kv) (m : ByteArray) : List Kv := l.filter (fun x => ltB m x.n)
/-- With a value set; without it. -/
def setL (l : List Kv) (m v : ByteArray) : List Kv := lows l m ++ ⟨m, v⟩ :: highs l m
def drpL (l : List Kv) (m : ByteArray) : List Kv := lows l m ++ highs l m

theorem take_count {q : Kv → Bool} : ∀ {l : List Kv}, l.Pairwise (fun p x => q x = true → q p = true) → l.take (l.countP q) = l.filter q ∧ l.drop (l.countP q) = l.filter (fun x => !q x)
  | [], _ => by simp
  | a :: l, h => by
    obtain ⟨h1, h2⟩ := List.pairwise_cons.1 h
    obtain ⟨i1, i2⟩ := take_count h2
    cases ha : q a with
    | true =>
      rw [List.countP_cons_of_pos ha]
      simp [ha, i1, i2]
    | false =>
      have hn : ∀ x ∈ l, q x = false := fun x hx => by
        cases hq : q x with
        | false => rfl
        | true => have := h1 x hx hq; rw [ha] at this; cases this
      have hc : l.countP q = 0 := List.countP_eq_zero.2 fun x hx => by rw [hn x hx]; decide
      rw [List.countP_cons_of_neg (by rw [ha]; decide), hc]
      have hf : l.filter q = [] := List.filter_eq_nil_iff.2 fun x hx => by rw [hn x hx]; decide
      have hg : l.filter (fun x => !q x) = l := List.filter_eq_self.2 fun x hx => by rw [hn x hx]; rfl
      simp [ha, hf, hg]
theorem srt_down {l : List Kv} (m : ByteArray) (h : Srt l) : l.Pairwise (fun p x => ltB x.n m = true → ltB p.n m = true) :=
  h.imp fun h1 h2 => ltB_trans h1 h2
theorem take_plc {l : List Kv} (m : ByteArray) (h : Srt l) : l.take (plc l m) = lows l m := (take_count (srt_down m h)).1
theorem drop_plc' {l : List Kv} (m : ByteArray) (h : Srt l) : l.drop (plc l m) = l.filter (fun x => !ltB x.n m) := (take_count (srt_down m h)).2

theorem fnd_cons_eq {a : Kv} {l : List Kv} {m : ByteArray} (h : a.n = m) : fnd (a :: l) m = some a := by simp [fnd, h]
theorem fnd_cons_ne {a : Kv} {l : List Kv} {m : ByteArray} (h : a.n ≠ m) : fnd (a :: l) m = fnd l m := by simp [fnd, h]
theorem fnd_none {l : List Kv} {m : ByteArray} (h : ∀ x ∈ l, x.n ≠ m) : fnd l m = none := by
  unfold fnd; rw [List.find?_eq_none]; intro x hx; simpa using h x hx
theorem fnd_some {l : List Kv} {m : ByteArray} {x : Kv} (h : fnd l m = some x) : x ∈ l ∧ x.n = m := by
  unfold fnd at h
  exact ⟨List.mem_of_find?_eq_some h, by have := List.find?_some h; simpa using this⟩
theorem fnd_mem {l : List Kv} {x : Kv} : Srt l → x ∈ l → fnd l x.n = some x := by
  induction l with
  | nil => intro _ h; cases h
  | cons a l ih =>
    intro hs hx
    obtain ⟨h1, h2⟩ := List.pairwise_cons.1 hs
    rcases List.mem_cons.1 hx with rfl | hx
    · exact fnd_cons_eq rfl
    · rw [fnd_cons_ne (ltB_ne (h1 x hx))]; exact ih h2 hx
theorem highs_all {l : List Kv} {m : ByteArray} (h : ∀ x ∈ l, ltB m x.n = true) : highs l m = l := List.filter_eq_self.2 h
theorem notlow_all {l : List Kv} {m : ByteArray} (h : ∀ x ∈ l, ltB m x.n = true) : l.filter (fun x => !ltB x.n m) = l :=
  List.filter_eq_self.2 fun x hx => by rw [ltB_asymm (h x hx)]; rfl
theorem drop_plc {l : List Kv} (m : ByteArray) (h : Srt l) : l.drop (plc l m) = (fnd l m).toList ++ highs l m := by
  rw [drop_plc' m h]
  induction l with
  | nil => rfl
  | cons a l ih =>
    obtain ⟨h1, h2⟩ := List.pairwise_cons.1 h
    rcases ltB_total a.n m with ha | ha | ha
    · rw [fnd_cons_ne (ltB_ne ha)]
      have e1 : highs (a :: l) m = highs l m := by simp [highs, ltB_asymm ha]
      rw [e1, ← ih h2]
      simp [ha]
    · subst ha
      rw [fnd_cons_eq rfl]
      have e1 : highs (a :: l) a.n = l := by unfold highs; rw [List.filter_cons_of_neg (by rw [ltB_irrefl]; decide)]; exact highs_all h1
      rw [e1, List.filter_cons_of_pos (by rw [ltB_irrefl]; rfl), notlow_all h1]
      rfl
    · have hall : ∀ x ∈ a :: l, ltB m x.n = true := fun x hx => by
        rcases List.mem_cons.1 hx with rfl | hx
        · exact ha
        · exact ltB_trans ha (h1 x hx)
      rw [notlow_all hall, highs_all hall, fnd_none (fun x hx e => ltB_ne (hall x hx) e.symm)]
      rfl
/-- The place is there just if the name is. -/
theorem at_plc {l : List Kv} (m : ByteArray) (h : Srt l) {x : Kv} (hf : fnd l m = some x) : l[plc l m]? = some x ∧ l.drop (plc l m + 1) = highs l m := by
  have hd := drop_plc m h
  rw [hf] at hd
  constructor
  · have : (l.drop (plc l m))[0]? = some x := by rw [hd]; rfl
    simpa using this
  · have : (l.drop (plc l m)).drop 1 = highs l m := by rw [hd]; rfl
    rwa [List.drop_drop] at this
theorem at_plc_none {l : List Kv} (m : ByteArray) (h : Srt l) (hf : fnd l m = none) : l.drop (plc l m) = highs l m ∧ ∀ x, l[plc l m]? = some x → x.n ≠ m := by
  have hd := drop_plc m h
  rw [hf] at hd
  refine ⟨hd, fun x hx e => ?_⟩
  have hm : x ∈ l := List.mem_of_getElem? hx
  have := fnd_mem h hm
  rw [e, hf] at this
  cases this
theorem plc_le (l : List Kv) (m : ByteArray) : plc l m ≤ l.length := List.countP_le_length

/-- What is wrong with a list and a name. -/
def fndF (l : List Kv) (m : ByteArray) : Int := if chkA l ≠ 0 then chkA l else if classB m = 0 then 4 else 0
def getF (l : List Kv) (m : ByteArray) : Int := if fndF l m ≠ 0 then fndF l m else if fnd l m = none then 5 else 0
def getV (l : List Kv) (m : ByteArray) : ByteArray := if getF l m ≠ 0 then ByteArray.empty else match fnd l m with
  | some x => x.v
  | none => ByteArray.empty
def setF (l : List Kv) (m v : ByteArray) : Int := if fndF l m ≠ 0 then fndF l m else if 20 < v.size then 1 else if fnd l m = none ∧ l.length = 4 then 2 else 0
def setV (l : List Kv) (m v : ByteArray) : List Kv := if setF l m v ≠ 0 then [] else setL l m v
def drpF (l : List Kv) (m : ByteArray) : Int := if fndF l m ≠ 0 then fndF l m else if fnd l m = none then 5 else 0
def drpV (l : List Kv) (m : ByteArray) : List Kv := if drpF l m ≠ 0 then [] else drpL l m
theorem fndF_zero {l : List Kv} {m : ByteArray} : fndF l m = 0 ↔ Good l ∧ classB m ≠ 0 := by
  unfold fndF
  by_cases h : chkA l = 0
  · rw [if_neg (by simpa using h)]
    by_cases hc : classB m = 0
    · rw [if_pos hc]; simp [hc]
    · rw [if_neg hc]; simp [hc, (good_iff l).1 h]
  · rw [if_pos h]
    constructor
    · intro e; exact absurd e h
    · intro e; exact (good_iff l).2 e.1
theorem fndF_range (l : List Kv) (m : ByteArray) : 0 ≤ fndF l m ∧ fndF l m ≤ 4 := by
  unfold fndF
  split
  · exact chkA_range l
  · split <;> decide
theorem getF_range (l : List Kv) (m : ByteArray) : 0 ≤ getF l m ∧ getF l m ≤ 5 := by
  have := fndF_range l m
  unfold getF
  split
  · omega
  · split <;> decide
theorem setF_range (l : List Kv) (m v : ByteArray) : 0 ≤ setF l m v ∧ setF l m v ≤ 5 := by
  have := fndF_range l m
  unfold setF
  split
  · omega
  · split
    · decide
    · split <;> decide
theorem drpF_range (l : List Kv) (m : ByteArray) : 0 ≤ drpF l m ∧ drpF l m ≤ 5 := getF_range l m

theorem mem_lows {l : List Kv} {m : ByteArray} {x : Kv} : x ∈ lows l m ↔ x ∈ l ∧ ltB x.n m = true := List.mem_filter
theorem mem_highs {l : List Kv} {m : ByteArray} {x : Kv} : x ∈ highs l m ↔ x ∈ l ∧ ltB m x.n = true := List.mem_filter
theorem setL_srt {l : List Kv} (m v : ByteArray) (h : Srt l) : Srt (setL l m v) := by
  unfold setL
  refine List.pairwise_append.2 ⟨h.filter _, List.pairwise_cons.2 ⟨fun x hx => (mem_highs.1 hx).2, h.filter _⟩, ?_⟩
  intro a ha b hb
  rcases List.mem_cons.1 hb with rfl | hb
  · exact (mem_lows.1 ha).2
  · exact ltB_trans (mem_lows.1 ha).2 (mem_highs.1 hb).2
theorem drpL_srt {l : List Kv} (m : ByteArray) (h : Srt l) : Srt (drpL l m) := by
  unfold drpL
  refine List.pairwise_append.2 ⟨h.filter _, h.filter _, ?_⟩
  intro a ha b hb
  exact ltB_trans (mem_lows.1 ha).2 (mem_highs.1 hb).2
theorem len_parts {l : List Kv} (m : ByteArray) (h : Srt l) : l.length = (lows l m).length + ((fnd l m).toList.length + (highs l m).length) := by
  have e : l = l.take (plc l m) ++ l.drop (plc l m) := (List.take_append_drop _ _).symm
  conv => lhs; rw [e]
  rw [take_plc m h, drop_plc m h, List.length_append, List.length_append]
theorem mem_drp {l : List Kv} {m : ByteArray} {x : Kv} : x ∈ drpL l m ↔ x ∈ l ∧ x.n ≠ m := by
  unfold drpL
  rw [List.mem_append, mem_lows, mem_highs]
  constructor
  · rintro (⟨h, h2⟩ | ⟨h, h2⟩)
    · exact ⟨h, ltB_ne h2⟩
    · exact ⟨h, fun e => ltB_ne h2 e.symm⟩
  · rintro ⟨h, h2⟩
    rcases ltB_total x.n m with e | e | e
    · exact .inl ⟨h, e⟩
    · exact absurd e h2
    · exact .inr ⟨h, e⟩
theorem mem_set {l : List Kv} {m v : ByteArray} {x : Kv} : x ∈ setL l m v ↔ x = ⟨m, v⟩ ∨ (x ∈ l ∧ x.n ≠ m) := by
  rw [← mem_drp]
  unfold setL drpL
  rw [List.mem_append, List.mem_append, List.mem_cons]
  constructor
  · rintro (h | h | h)
    · exact .inr (.inl h)
    · exact .inl h
    · exact .inr (.inr h)
  · rintro (h | h | h)
    · exact .inr (.inl h)
    · exact .inl h
    · exact .inr (.inr h)
theorem set_good {l : List Kv} {m v : ByteArray} (h : setF l m v = 0) : Good l ∧ classB m ≠ 0 ∧ Good (setL l m v) := by
  unfold setF at h
  split at h
  · rename_i hf; exact absurd h hf
  · rename_i hf
    obtain ⟨hg, hc⟩ := fndF_zero.1 (Classical.not_not.1 hf)
    split at h
    · cases h
    · rename_i hv
      split at h
      · cases h
      · rename_i hn
        refine ⟨hg, hc, ?_, ?_, setL_srt m v hg.2.2⟩
        · have hp := len_parts m hg.2.2
          have h4 := hg.1
          unfold setL
          rw [List.length_append, List.length_cons]
          cases hfd : fnd l m with
          | none =>
            have : l.length ≠ 4 := fun e => hn ⟨hfd, e⟩
            rw [hfd] at hp; simp at hp; omega
          | some x => rw [hfd] at hp; simp at hp; omega
        · intro x hx
          rcases mem_set.1 hx with rfl | ⟨hx, _⟩
          · exact ⟨hc, by show v.size ≤ 20; omega⟩
          · exact hg.2.1 x hx
theorem drp_good {l : List Kv} {m : ByteArray} (h : drpF l m = 0) : Good l ∧ classB m ≠ 0 ∧ Good (drpL l m) := by
  unfold drpF at h
  split at h
  · rename_i hf; exact absurd h hf
  · rename_i hf
    obtain ⟨hg, hc⟩ := fndF_zero.1 (Classical.not_not.1 hf)
    refine ⟨hg, hc, ?_, fun x hx => hg.2.1 x (mem_drp.1 hx).1, drpL_srt m hg.2.2⟩
    have hp := len_parts m hg.2.2
    have h4 := hg.1
    unfold drpL
    rw [List.length_append]
    omega
theorem get_mem {l : List Kv} {x : Kv} (h : Good l) (hx : x ∈ l) : getF l x.n = 0 ∧ getV l x.n = x.v := by
  have h0 : fndF l x.n = 0 := fndF_zero.2 ⟨h, (h.2.1 x hx).1⟩
  have h1 := fnd_mem h.2.2 hx
  have h2 : getF l x.n = 0 := by unfold getF; rw [if_neg (by simpa using h0), h1, if_neg (by simp)]
  refine ⟨h2, ?_⟩
  unfold getV; rw [if_neg (by simpa using h2), h1]
theorem get_not {l : List Kv} {m : ByteArray} (h : Good l) (hc : classB m ≠ 0) (hx : ∀ x ∈ l, x.n ≠ m) : getF l m = 5 := by
  have h0 : fndF l m = 0 := fndF_zero.2 ⟨h, hc⟩
  unfold getF; rw [if_neg (by simpa using h0), fnd_none hx, if_pos rfl]
/-- What was set is what one gets, and nothing else is moved. -/
theorem set_facts {l : List Kv} {m v : ByteArray} (h : setF l m v = 0) : chkA (setV l m v) = 0 ∧ getF (setV l m v) m = 0 ∧ getV (setV l m v) m = v ∧ ∀ x ∈ l, x.n ≠ m → getF (setV l m v) x.n = 0 ∧ getV (setV l m v) x.n = x.v := by
  have e : setV l m v = setL l m v := by unfold setV; rw [if_neg (by simpa using h)]
  rw [e]
  obtain ⟨_, _, hg⟩ := set_good h
  have hm : (⟨m, v⟩ : Kv) ∈ setL l m v := mem_set.2 (.inl rfl)
  refine ⟨(good_iff _).2 hg, (get_mem hg hm).1, (get_mem hg hm).2, fun x hx hn => get_mem hg (mem_set.2 (.inr ⟨hx, hn⟩))⟩
theorem drp_facts {l : List Kv} {m : ByteArray} (h : drpF l m = 0) : chkA (drpV l m) = 0 ∧ getF (drpV l m) m = 5 ∧ ∀ x ∈ l, x.n ≠ m → getF (drpV l m) x.n = 0 ∧ getV (drpV l m) x.n = x.v := by
  have e : drpV l m = drpL l m := by unfold drpV; rw [if_neg (by simpa using h)]
  rw [e]
  obtain ⟨_, hc, hg⟩ := drp_good h
  refine ⟨(good_iff _).2 hg, get_not hg hc (fun x hx => (mem_drp.1 hx).2), fun x hx hn => get_mem hg (mem_drp.2 ⟨hx, hn⟩)⟩

/-- What the document's own loop keeps: what is laid, the old value, whether it was there, whether it is laid. -/
structure Rs where
  out : List Kv
  old : ByteArray
  there : Bool
  laid : Bool
def stepR (m v : ByteArray) (s : Rs) (x : Kv) : Rs :=
  if x.n = m then ⟨s.out, x.v, true, s.laid⟩ else if s.laid = false ∧ ltB m x.n = true then ⟨(s.out ++ [⟨m, v⟩]) ++ [x], s.old, s.there, true⟩ else ⟨s.out ++ [x], s.old, s.there, s.laid⟩
def oldOf (d : ByteArray) : Option Kv → ByteArray
  | some x => x.v
  | none => d
theorem fold_laid (m v : ByteArray) : ∀ {l : List Kv} (s : Rs), Srt l → s.laid = true → l.foldl (stepR m v) s = ⟨s.out ++ drpL l m, oldOf s.old (fnd l m), s.there || (fnd l m).isSome, true⟩
  | [], s, _, hl => by
    obtain ⟨o, d, t, b⟩ := s
    dsimp only at hl
    subst hl
    simp [drpL, lows, highs, fnd, oldOf]
  | a :: l, s, h, hl => by
    obtain ⟨h1, h2⟩ := List.pairwise_cons.1 h
    obtain ⟨o, d, t, b⟩ := s
    dsimp only at hl
    subst hl
    rw [List.foldl_cons]
    by_cases he : a.n = m
    · have e1 : stepR m v ⟨o, d, t, true⟩ a = ⟨o, a.v, true, true⟩ := by simp [stepR, he]
      rw [e1, fold_laid m v _ h2 rfl, fnd_cons_eq he]
      have hn : ∀ x ∈ l, x.n ≠ m := fun x hx e => ltB_ne (h1 x hx) (he.trans e.symm)
      rw [fnd_none hn]
      have e2 : drpL (a :: l) m = drpL l m := by subst he; simp [drpL, lows, highs, ltB_irrefl]
      rw [e2]
      simp [oldOf]
    · have e1 : stepR m v ⟨o, d, t, true⟩ a = ⟨o ++ [a], d, t, true⟩ := by simp [stepR, he]
      rw [e1, fold_laid m v _ h2 rfl, fnd_cons_ne he]
      have e2 : drpL (a :: l) m = a :: drpL l m := by
        rcases ltB_total a.n m with ha | ha | ha
        · simp [drpL, lows, highs, ha, ltB_asymm ha]
        · exact absurd ha he
        · have hh : ∀ x ∈ l, ltB m x.n = true := fun x hx => ltB_trans ha (h1 x hx)
          have hlo : lows l m = [] := List.filter_eq_nil_iff.2 fun x hx => by rw [ltB_asymm (hh x hx)]; decide
          have hlo2 : lows (a :: l) m = [] := by unfold lows; rw [List.filter_cons_of_neg (by rw [ltB_asymm ha]; decide)]; exact hlo
          unfold drpL
          rw [hlo, hlo2]
          simp [highs, ha]
      rw [e2]
      simp
/-- What is laid at the end. -/
def fin (m v : ByteArray) (s : Rs) : List Kv := if s.laid = true then s.out else s.out ++ [⟨m, v⟩]
theorem fold_set (m v : ByteArray) : ∀ {l : List Kv} (s : Rs), Srt l → s.laid = false → fin m v (l.foldl (stepR m v) s) = s.out ++ setL l m v ∧ (l.foldl (stepR m v) s).there = (s.there || (fnd l m).isSome)
  | [], s, _, hl => by
    obtain ⟨o, d, t, b⟩ := s
    dsimp only at hl
    subst hl
    simp [setL, lows, highs, fnd, fin]
  | a :: l, s, h, hl => by
    obtain ⟨h1, h2⟩ := List.pairwise_cons.1 h
    obtain ⟨o, d, t, b⟩ := s
    dsimp only at hl
    subst hl
    rw [List.foldl_cons]
    by_cases he : a.n = m
    · have e1 : stepR m v ⟨o, d, t, false⟩ a = ⟨o, a.v, true, false⟩ := by simp [stepR, he]
      obtain ⟨i1, i2⟩ := fold_set m v ⟨o, a.v, true, false⟩ h2 rfl
      rw [e1, i1, i2, fnd_cons_eq he]
      have e2 : setL (a :: l) m v = setL l m v := by subst he; simp [setL, lows, highs, ltB_irrefl]
      rw [e2]
      simp
    · by_cases hg : ltB m a.n = true
      · have e1 : stepR m v ⟨o, d, t, false⟩ a = ⟨(o ++ [⟨m, v⟩]) ++ [a], d, t, true⟩ := by simp [stepR, he, hg]
        rw [e1, fold_laid m v _ h2 rfl, fnd_cons_ne he]
        have hh : ∀ x ∈ l, ltB m x.n = true := fun x hx => ltB_trans hg (h1 x hx)
        have hlo : lows l m = [] := List.filter_eq_nil_iff.2 fun x hx => by rw [ltB_asymm (hh x hx)]; decide
        have hlo2 : lows (a :: l) m = [] := by unfold lows; rw [List.filter_cons_of_neg (by rw [ltB_asymm hg]; decide)]; exact hlo
        refine ⟨?_, rfl⟩
        unfold setL drpL
        rw [hlo, hlo2]
        simp [fin, highs, hg]
      · have e1 : stepR m v ⟨o, d, t, false⟩ a = ⟨o ++ [a], d, t, false⟩ := by simp [stepR, he, hg]
        obtain ⟨i1, i2⟩ := fold_set m v ⟨o ++ [a], d, t, false⟩ h2 rfl
        rw [e1, i1, i2, fnd_cons_ne he]
        have hlt : ltB a.n m = true := by
          rcases ltB_total a.n m with ha | ha | ha
          · exact ha
          · exact absurd ha he
          · exact absurd ha hg
        have e2 : setL (a :: l) m v = a :: setL l m v := by simp [setL, lows, highs, hlt, ltB_asymm hlt]
        rw [e2]
        simp
end Go.Proofs.Ytpjhckjmahagnaa
