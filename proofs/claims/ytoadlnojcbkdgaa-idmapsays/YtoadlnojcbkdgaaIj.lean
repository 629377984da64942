/-
  MAPS AS RELATIONS: no Go here: what a map in few ranges, turned round, and behind another one, leads to.
-/
import Derived.Test.YtoadlnojcbkdgaaIi
namespace Go.Proofs.Ytoadlnojcbkdgaa

/-- Two ranges have no id in common, within and outside. -/
def Dj (q r : Rg) : Prop := (q.i + q.n ≤ r.i ∨ r.i + r.n ≤ q.i) ∧ (q.o + q.n ≤ r.o ∨ r.o + r.n ≤ q.o)
theorem Dj.symm {q r : Rg} (h : Dj q r) : Dj r q := by unfold Dj at *; omega
/-- Ranges of ids, no two of which meet. -/
def Good (L : List Rg) : Prop := (∀ r ∈ L, r.bd) ∧ L.Pairwise Dj
/-- x leads to y. -/
def Rel (L : List Rg) (x y : Int) : Prop := ∃ r ∈ L, r.i ≤ x ∧ x - r.i < r.n ∧ y = r.o + x - r.i

theorem meetR_dj (p r : Rg) : meetR p r = false ↔ Dj p r := by
  unfold meetR meetB Dj
  rw [Bool.or_eq_false_iff, decide_eq_false_iff_not, decide_eq_false_iff_not]
  omega
theorem good_of_mapF {L : List Rg} (h : mapF L = 0) : Good L := by
  refine ⟨mapF_bd h, ?_⟩
  rw [List.pairwise_iff_getElem]
  intro i j hi hj hij
  have hs := (mapF_zero h).2 j hj
  have hr : L[j]? = some L[j] := List.getElem?_eq_getElem hj
  have hb := bnd_of_step hr hs
  have hm : (L.take j).any (fun p => meetR p L[j]) = false := by
    by_cases e : (L.take j).any (fun p => meetR p L[j]) = true
    · rw [stepM_meet hr hb e] at hs; omega
    · simpa using e
  rw [List.any_eq_false] at hm
  have := hm L[i] (by rw [List.mem_take_iff_getElem]; exact ⟨i, by omega, rfl⟩)
  exact (meetR_dj _ _).1 (by simpa using this)
theorem mapF_of_good {L : List Rg} (h : Good L) (hl : L.length ≤ 4) : mapF L = 0 := by
  have hs : ∀ j, j < L.length → stepM L j = 0 := by
    intro j hj
    have hr : L[j]? = some L[j] := List.getElem?_eq_getElem hj
    refine stepM_ok hr ((bd_iff _).2 (h.1 _ (List.getElem_mem hj))) ?_
    rw [List.any_eq_false]
    intro p hp
    obtain ⟨i, hi, rfl⟩ := List.mem_take_iff_getElem.1 hp
    have := (List.pairwise_iff_getElem.1 h.2) i j (by omega) hj (by omega)
    rw [(meetR_dj _ _).2 this]; decide
  have key : ∀ n k, k + n ≤ L.length → mF L k n = 0 := by
    intro n
    induction n with
    | zero => intro k _; rfl
    | succ n ih => intro k hk; rw [mF_ok (hs k (by omega))]; exact ih (k + 1) (by omega)
  unfold mapF
  rw [if_neg (by omega)]
  exact key _ _ (by omega)
theorem pair_mem {α : Type} {R : α → α → Prop} (hs : ∀ a b, R a b → R b a) {l : List α} (h : l.Pairwise R) : ∀ a ∈ l, ∀ b ∈ l, a = b ∨ R a b := by
  induction h with
  | nil => intro a ha; cases ha
  | cons hx _ ih =>
    intro a ha b hb
    rcases List.mem_cons.1 ha with ea | ha2
    · rcases List.mem_cons.1 hb with eb | hb2
      · exact .inl (ea.trans eb.symm)
      · rw [ea]; exact .inr (hx b hb2)
    · rcases List.mem_cons.1 hb with eb | hb2
      · rw [eb]; exact .inr (hs _ _ (hx a ha2))
      · exact ih a ha2 b hb2
theorem good_pair {L : List Rg} (h : Good L) : ∀ a ∈ L, ∀ b ∈ L, a = b ∨ Dj a b := pair_mem (fun _ _ => Dj.symm) h.2

theorem walk_mem {fr tg : Rg → Int} {x y : Int} : ∀ {L : List Rg}, walkM fr tg L x = some y → ∃ r ∈ L, fr r ≤ x ∧ x - fr r < r.n ∧ y = tg r + x - fr r
  | [], h => by cases h
  | r :: l, h => by
    by_cases e : fr r ≤ x ∧ x - fr r < r.n
    · rw [walkM_hit e.1 e.2] at h; cases h; exact ⟨r, by simp, e.1, e.2, rfl⟩
    · rw [walkM_miss e] at h
      obtain ⟨q, hq, hh⟩ := walk_mem h
      exact ⟨q, by simp [hq], hh⟩
theorem walk_of {fr tg : Rg → Int} {x : Int} : ∀ {L : List Rg}, (∀ r ∈ L, ∀ q ∈ L, (fr r ≤ x ∧ x - fr r < r.n) → (fr q ≤ x ∧ x - fr q < q.n) → r = q) → ∀ r ∈ L, fr r ≤ x → x - fr r < r.n → walkM fr tg L x = some (tg r + x - fr r)
  | [], _, r, hr, _, _ => by cases hr
  | p :: l, hd, r, hr, h1, h2 => by
    by_cases e : fr p ≤ x ∧ x - fr p < p.n
    · have := hd p (by simp) r hr e ⟨h1, h2⟩
      subst this
      exact walkM_hit h1 h2
    · rw [walkM_miss e]
      rcases List.mem_cons.1 hr with rfl | hr
      · exact absurd ⟨h1, h2⟩ e
      · exact walk_of (fun a ha b hb => hd a (by simp [ha]) b (by simp [hb])) r hr h1 h2
theorem to_iff {L : List Rg} (h : Good L) (x y : Int) : walkM (·.i) (·.o) L x = some y ↔ Rel L x y := by
  constructor
  · intro e; exact walk_mem e
  · rintro ⟨r, hr, h1, h2, rfl⟩
    refine walk_of (fr := (·.i)) (tg := (·.o)) ?_ r hr h1 h2
    intro a ha b hb ea eb
    rcases good_pair h a ha b hb with e | e
    · exact e
    · unfold Dj at e; omega
theorem from_iff {L : List Rg} (h : Good L) (x y : Int) : walkM (·.o) (·.i) L y = some x ↔ Rel L x y := by
  constructor
  · intro e
    obtain ⟨r, hr, h1, h2, rfl⟩ := walk_mem e
    exact ⟨r, hr, by omega, by omega, by omega⟩
  · rintro ⟨r, hr, h1, h2, rfl⟩
    have := walk_of (fr := (·.o)) (tg := (·.i)) (x := r.o + x - r.i) (L := L) (by
      intro a ha b hb ea eb
      rcases good_pair h a ha b hb with e | e
      · exact e
      · unfold Dj at e; omega) r hr (by omega) (by omega)
    rw [this]; congr 1; omega
theorem toM_iff {L : List Rg} (h : mapF L = 0) (x y : Int) : toM L x = some y ↔ Rel L x y := by
  unfold toM; rw [if_pos h]; exact to_iff (good_of_mapF h) x y
theorem fromM_iff {L : List Rg} (h : mapF L = 0) (x y : Int) : fromM L y = some x ↔ Rel L x y := by
  unfold fromM; rw [if_pos h]; exact from_iff (good_of_mapF h) x y

/-! ### Sorting -/
def Srt (L : List Rg) : Prop := L.Pairwise (fun p q => p.i < q.i)
theorem insR_pair {R : Rg → Rg → Prop} {L : List Rg} {r : Rg} (h : L.Pairwise R) (h1 : ∀ p ∈ L, R p r) (h2 : ∀ p ∈ L, R r p) : (insR L r).Pairwise R := by
  induction L with
  | nil => simp [insR]
  | cons p l ih =>
    have hp := List.pairwise_cons.1 h
    unfold insR
    split
    · refine List.pairwise_cons.2 ⟨?_, ih hp.2 (fun q hq => h1 q (by simp [hq])) (fun q hq => h2 q (by simp [hq]))⟩
      intro q hq
      rcases insR_mem.1 hq with rfl | hq
      · exact h1 p (by simp)
      · exact hp.1 q hq
    · exact List.pairwise_cons.2 ⟨h2, h⟩
theorem insR_srt {L : List Rg} {r : Rg} (h : Srt L) (hne : ∀ p ∈ L, p.i ≠ r.i) : Srt (insR L r) := by
  unfold Srt at *
  induction L with
  | nil => simp [insR]
  | cons p l ih =>
    have hp := List.pairwise_cons.1 h
    unfold insR
    split
    · rename_i hlt
      refine List.pairwise_cons.2 ⟨?_, ih hp.2 (fun q hq => hne q (by simp [hq]))⟩
      intro q hq
      rcases insR_mem.1 hq with rfl | hq
      · exact hlt
      · exact hp.1 q hq
    · rename_i hlt
      have h0 := hne p (by simp)
      refine List.pairwise_cons.2 ⟨?_, h⟩
      intro q hq
      rcases List.mem_cons.1 hq with rfl | hq
      · omega
      · have := hp.1 q hq; omega
theorem dj_ne {p r : Rg} (hp : p.bd) (hr : r.bd) (h : Dj p r) : p.i ≠ r.i := by unfold Dj Rg.bd at *; omega
theorem insR_good {L : List Rg} {r : Rg} (h : Good L) (hr : r.bd) (hd : ∀ p ∈ L, Dj p r) : Good (insR L r) :=
  ⟨fun p hp => (insR_mem.1 hp).elim (fun e => e ▸ hr) (h.1 p), insR_pair h.2 hd (fun p hp => (hd p hp).symm)⟩
theorem good_snoc {L : List Rg} {r : Rg} (h : Good (L ++ [r])) : Good L ∧ r.bd ∧ ∀ p ∈ L, Dj p r := by
  obtain ⟨h1, h2⟩ := h
  rw [List.pairwise_append] at h2
  exact ⟨⟨fun p hp => h1 p (by simp [hp]), h2.1⟩, h1 r (by simp), fun p hp => h2.2.2 p hp r (by simp)⟩
theorem snoc_ind {P : List Rg → Prop} (h0 : P []) (h1 : ∀ L r, P L → P (L ++ [r])) : ∀ L, P L := by
  intro L
  have key : ∀ n (L : List Rg), L.length = n → P L := by
    intro n
    induction n with
    | zero => intro L hL; rw [List.eq_nil_of_length_eq_zero hL]; exact h0
    | succ n ih =>
      intro L hL
      rcases List.eq_nil_or_concat L with rfl | ⟨M, r, rfl⟩
      · simp at hL
      · rw [List.concat_eq_append] at *
        exact h1 M r (ih M (by simpa using hL))
  exact key _ L rfl
theorem sortL_good {L : List Rg} : Good L → Good (sortL L) ∧ Srt (sortL L) := by
  refine snoc_ind (P := fun L => Good L → Good (sortL L) ∧ Srt (sortL L)) ?_ ?_ L
  · intro _; exact ⟨⟨by simp [sortL], by simp [sortL]⟩, by simp [sortL, Srt]⟩
  · intro M r ih h
    obtain ⟨hM, hr, hd⟩ := good_snoc h
    obtain ⟨g1, g2⟩ := ih hM
    rw [sortL_snoc]
    have hd' : ∀ p ∈ sortL M, Dj p r := fun p hp => hd p (sortL_mem.1 hp)
    exact ⟨insR_good g1 hr hd', insR_srt g2 (fun p hp => dj_ne (g1.1 p hp) hr (hd' p hp))⟩
theorem insR_end {L : List Rg} {r : Rg} (h : ∀ p ∈ L, p.i < r.i) : insR L r = L ++ [r] := by
  induction L with
  | nil => rfl
  | cons p l ih => unfold insR; rw [if_pos (h p (by simp)), ih (fun q hq => h q (by simp [hq]))]; rfl
theorem sortL_id {L : List Rg} : Srt L → sortL L = L := by
  refine snoc_ind (P := fun L => Srt L → sortL L = L) ?_ ?_ L
  · intro _; rfl
  · intro M r ih h
    unfold Srt at h
    rw [List.pairwise_append] at h
    rw [sortL_snoc, ih h.1, insR_end (fun p hp => h.2.2 p hp r (by simp))]
theorem sortL_rel {L : List Rg} (x y : Int) : Rel (sortL L) x y ↔ Rel L x y := by
  unfold Rel; constructor
  · rintro ⟨r, hr, h⟩; exact ⟨r, sortL_mem.1 hr, h⟩
  · rintro ⟨r, hr, h⟩; exact ⟨r, sortL_mem.2 hr, h⟩

/-! ### Joining -/
/-- No two neighbours go on from one another. -/
def Nrm (L : List Rg) : Prop := ∀ P p r Q, L = P ++ p :: r :: Q → onB p r = false
theorem dj_merge {p r q : Rg} (hr : r.bd) (hq : q.bd) (hon : onB p r = true) (h1 : Dj p q) (h2 : Dj r q) : Dj ⟨p.i, p.o, p.n + r.n⟩ q := by
  simp [onB] at hon
  unfold Dj Rg.bd at *
  dsimp only
  omega
theorem joinL_inv {L : List Rg} : Good L → Good (joinL L) ∧ (∀ q : Rg, q.bd → (∀ p ∈ L, Dj p q) → ∀ p ∈ joinL L, Dj p q) ∧ (∀ x y, Rel (joinL L) x y ↔ Rel L x y) ∧ (∀ p ∈ joinL L, ∃ q ∈ L, q.i = p.i) ∧ Nrm (joinL L) := by
  refine snoc_ind (P := fun L => Good L → Good (joinL L) ∧ (∀ q : Rg, q.bd → (∀ p ∈ L, Dj p q) → ∀ p ∈ joinL L, Dj p q) ∧ (∀ x y, Rel (joinL L) x y ↔ Rel L x y) ∧ (∀ p ∈ joinL L, ∃ q ∈ L, q.i = p.i) ∧ Nrm (joinL L)) ?_ ?_ L
  · intro _
    refine ⟨⟨by simp [joinL], by simp [joinL]⟩, by simp [joinL], by simp [joinL], by simp [joinL], ?_⟩
    intro P p r Q h; simp [joinL] at h
  · intro M r ih h
    obtain ⟨hM, hr, hd⟩ := good_snoc h
    obtain ⟨g1, g2, g3, g4, g5⟩ := ih hM
    have hd' := g2 r hr hd
    rw [joinL_snoc]
    have relM : ∀ x y, Rel (M ++ [r]) x y ↔ Rel (joinL M) x y ∨ (r.i ≤ x ∧ x - r.i < r.n ∧ y = r.o + x - r.i) := by
      intro x y
      rw [g3]
      unfold Rel
      constructor
      · rintro ⟨q, hq, hh⟩
        rcases List.mem_append.1 hq with hq | hq
        · exact .inl ⟨q, hq, hh⟩
        · have : q = r := by simpa using hq
          subst this; exact .inr hh
      · rintro (⟨q, hq, hh⟩ | hh)
        · exact ⟨q, by simp [hq], hh⟩
        · exact ⟨r, by simp, hh⟩
    generalize joinL M = J at g1 g2 g3 g4 g5 hd' relM
    rcases List.eq_nil_or_concat J with rfl | ⟨P, p, rfl⟩
    · rw [stepJ_nil]
      refine ⟨⟨by simpa using hr, by simp⟩, fun q hq hh p hp => ?_, fun x y => ?_, fun p hp => ?_, ?_⟩
      · have : p = r := by simpa using hp
        subst this; exact hh p (by simp)
      · rw [relM]; unfold Rel; simp
      · have : p = r := by simpa using hp
        subst this; exact ⟨p, by simp, rfl⟩
      · intro P p q Q h
        have := congrArg List.length h
        simp at this
        omega
    · rw [List.concat_eq_append] at *
      have hp : p.bd := g1.1 p (by simp)
      have hpr : Dj p r := hd' p (by simp)
      have hpw := List.pairwise_append.1 g1.2
      by_cases hon : onB p r = true
      · rw [stepJ_on hon]
        have hon2 := hon
        simp [onB] at hon2
        have hm : (⟨p.i, p.o, p.n + r.n⟩ : Rg).bd := by unfold Rg.bd at *; dsimp only; omega
        refine ⟨⟨?_, ?_⟩, ?_, ?_, ?_, ?_⟩
        · intro q hq
          rcases List.mem_append.1 hq with hq | hq
          · exact g1.1 q (by simp [hq])
          · have e : q = ⟨p.i, p.o, p.n + r.n⟩ := by simpa using hq
            rw [e]; exact hm
        · refine List.pairwise_append.2 ⟨hpw.1, by simp, ?_⟩
          intro q hq m hmm
          have e : m = ⟨p.i, p.o, p.n + r.n⟩ := by simpa using hmm
          rw [e]
          exact (dj_merge hr (g1.1 q (by simp [hq])) hon (hpw.2.2 q hq p (by simp)).symm (hd' q (by simp [hq])).symm).symm
        · intro q hq hh m hmm
          have hJ := g2 q hq (fun s hs => hh s (by simp [hs]))
          rcases List.mem_append.1 hmm with hmm | hmm
          · exact hJ m (by simp [hmm])
          · have e : m = ⟨p.i, p.o, p.n + r.n⟩ := by simpa using hmm
            rw [e]
            exact dj_merge hr hq hon (hJ p (by simp)) (hh r (by simp))
        · intro x y
          rw [relM]
          unfold Rel
          constructor
          · rintro ⟨q, hq, h1, h2, h3⟩
            rcases List.mem_append.1 hq with hq | hq
            · exact .inl ⟨q, by simp [hq], h1, h2, h3⟩
            · have e : q = ⟨p.i, p.o, p.n + r.n⟩ := by simpa using hq
              subst e
              dsimp only at h1 h2 h3
              by_cases hx : x - p.i < p.n
              · exact .inl ⟨p, by simp, h1, hx, h3⟩
              · exact .inr ⟨by omega, by omega, by omega⟩
          · rintro (⟨q, hq, h1, h2, h3⟩ | ⟨h1, h2, h3⟩)
            · rcases List.mem_append.1 hq with hq | hq
              · exact ⟨q, by simp [hq], h1, h2, h3⟩
              · have e : q = p := by simpa using hq
                subst e
                refine ⟨⟨q.i, q.o, q.n + r.n⟩, by simp, h1, ?_, h3⟩
                unfold Rg.bd at hr
                dsimp only; omega
            · refine ⟨⟨p.i, p.o, p.n + r.n⟩, by simp, ?_, ?_, ?_⟩ <;> dsimp only <;> unfold Rg.bd at hp <;> omega
        · intro m hmm
          rcases List.mem_append.1 hmm with hmm | hmm
          · obtain ⟨q, hq, e⟩ := g4 m (by simp [hmm])
            exact ⟨q, by simp [hq], e⟩
          · have e : m = ⟨p.i, p.o, p.n + r.n⟩ := by simpa using hmm
            subst e
            obtain ⟨q, hq, e⟩ := g4 p (by simp)
            exact ⟨q, by simp [hq], e⟩
        · intro A a b B h
          rcases List.eq_nil_or_concat B with rfl | ⟨B', z, rfl⟩
          · have h2 : P ++ [(⟨p.i, p.o, p.n + r.n⟩ : Rg)] = (A ++ [a]) ++ [b] := by rw [h]; simp
            obtain ⟨e1, e2⟩ := List.append_inj' h2 rfl
            have e3 : b = ⟨p.i, p.o, p.n + r.n⟩ := by simpa using e2.symm
            have := g5 A a p [] (by rw [e1]; simp)
            rw [e3]; simpa [onB] using this
          · rw [List.concat_eq_append] at h
            have h2 : P ++ [(⟨p.i, p.o, p.n + r.n⟩ : Rg)] = (A ++ a :: b :: B') ++ [z] := by rw [h]; simp
            obtain ⟨e1, _⟩ := List.append_inj' h2 rfl
            exact g5 A a b (B' ++ [p]) (by rw [e1]; simp)
      · have hoff : onB p r = false := by simpa using hon
        rw [stepJ_off hoff]
        refine ⟨⟨?_, ?_⟩, ?_, ?_, ?_, ?_⟩
        · intro q hq
          rcases List.mem_append.1 hq with hq | hq
          · exact g1.1 q hq
          · have e : q = r := by simpa using hq
            rw [e]; exact hr
        · refine List.pairwise_append.2 ⟨g1.2, by simp, ?_⟩
          intro q hq m hmm
          have e : m = r := by simpa using hmm
          rw [e]; exact hd' q hq
        · intro q hq hh m hmm
          rcases List.mem_append.1 hmm with hmm | hmm
          · exact g2 q hq (fun s hs => hh s (by simp [hs])) m hmm
          · have e : m = r := by simpa using hmm
            rw [e]; exact hh r (by simp)
        · intro x y
          rw [relM]
          unfold Rel
          constructor
          · rintro ⟨q, hq, hh⟩
            rcases List.mem_append.1 hq with hq | hq
            · exact .inl ⟨q, hq, hh⟩
            · have e : q = r := by simpa using hq
              subst e; exact .inr hh
          · rintro (⟨q, hq, hh⟩ | hh)
            · exact ⟨q, List.mem_append.2 (.inl hq), hh⟩
            · exact ⟨r, by simp, hh⟩
        · intro m hmm
          rcases List.mem_append.1 hmm with hmm | hmm
          · obtain ⟨q, hq, e⟩ := g4 m hmm
            exact ⟨q, by simp [hq], e⟩
          · have e : m = r := by simpa using hmm
            subst e; exact ⟨m, by simp, rfl⟩
        · intro A a b B h
          rcases List.eq_nil_or_concat B with rfl | ⟨B', z, rfl⟩
          · have h2 : (P ++ [p]) ++ [r] = (A ++ [a]) ++ [b] := by rw [h]; simp
            obtain ⟨e1, e2⟩ := List.append_inj' h2 rfl
            obtain ⟨_, e3⟩ := List.append_inj' e1 rfl
            have e4 : b = r := by simpa using e2.symm
            have e5 : a = p := by simpa using e3.symm
            rw [e4, e5]; exact hoff
          · rw [List.concat_eq_append] at h
            have h2 : (P ++ [p]) ++ [r] = (A ++ a :: b :: B') ++ [z] := by rw [h]; simp
            obtain ⟨e1, _⟩ := List.append_inj' h2 rfl
            exact g5 A a b B' e1
theorem joinL_srt {L : List Rg} : Good L → Srt L → Srt (joinL L) := by
  refine snoc_ind (P := fun L => Good L → Srt L → Srt (joinL L)) ?_ ?_ L
  · intro _ _; simp [joinL, Srt]
  · intro M r ih h hs
    obtain ⟨hM, hr, hd⟩ := good_snoc h
    have hs' := List.pairwise_append.1 hs
    have h1 := ih hM hs'.1
    obtain ⟨_, _, _, g4, _⟩ := joinL_inv hM
    have hlt : ∀ p ∈ joinL M, p.i < r.i := fun p hp => by
      obtain ⟨q, hq, e⟩ := g4 p hp
      have := hs'.2.2 q hq r (by simp)
      omega
    rw [joinL_snoc]
    generalize joinL M = J at h1 hlt
    rcases List.eq_nil_or_concat J with rfl | ⟨P, p, rfl⟩
    · simp [stepJ_nil, Srt]
    · rw [List.concat_eq_append] at *
      by_cases hon : onB p r = true
      · rw [stepJ_on hon]
        have hp := List.pairwise_append.1 h1
        refine List.pairwise_append.2 ⟨hp.1, by simp, ?_⟩
        intro q hq m hm
        have e : m = ⟨p.i, p.o, p.n + r.n⟩ := by simpa using hm
        rw [e]; exact hp.2.2 q hq p (by simp)
      · rw [stepJ_off (by simpa using hon)]
        refine List.pairwise_append.2 ⟨h1, by simp, ?_⟩
        intro q hq m hm
        have e : m = r := by simpa using hm
        rw [e]; exact hlt q hq
theorem joinL_id {L : List Rg} : Nrm L → joinL L = L := by
  refine snoc_ind (P := fun L => Nrm L → joinL L = L) ?_ ?_ L
  · intro _; rfl
  · intro M r ih h
    have hM : Nrm M := fun P p q Q e => h P p q (Q ++ [r]) (by rw [e]; simp)
    rw [joinL_snoc, ih hM]
    rcases List.eq_nil_or_concat M with rfl | ⟨P, p, rfl⟩
    · rfl
    · rw [List.concat_eq_append] at *
      exact stepJ_off (h P p r [] (by simp))

/-- A map in few ranges. -/
theorem canon_facts {L : List Rg} (h : mapF L = 0) : mapF (canonL L) = 0 ∧ (∀ x y, Rel (canonL L) x y ↔ Rel L x y) ∧ canonL (canonL L) = canonL L ∧ Good (canonL L) ∧ Srt (canonL L) ∧ Nrm (canonL L) := by
  obtain ⟨s1, s2⟩ := sortL_good (good_of_mapF h)
  obtain ⟨g1, _, g3, _, g5⟩ := joinL_inv s1
  have hs := joinL_srt s1 s2
  have hl : (canonL L).length ≤ 4 := Nat.le_trans (joinL_length _) (by rw [sortL_length]; exact (mapF_zero h).1)
  refine ⟨mapF_of_good g1 hl, fun x y => (g3 x y).trans (sortL_rel x y), ?_, g1, hs, g5⟩
  show joinL (sortL (canonL L)) = canonL L
  rw [show sortL (canonL L) = canonL L from sortL_id hs]
  exact joinL_id g5
theorem opt_eq {a b : Option Int} (h : ∀ y, a = some y ↔ b = some y) : a = b := by
  cases a with
  | none => cases b with
    | none => rfl
    | some y => exact absurd ((h y).2 rfl) (by simp)
  | some x => exact ((h x).1 rfl).symm
theorem canon_to {L : List Rg} (h : mapF L = 0) (x : Int) : toM (canonL L) x = toM L x := by
  obtain ⟨h1, h2, _⟩ := canon_facts h
  exact opt_eq (fun y => by rw [toM_iff h1, toM_iff h, h2])
theorem there_back {L : List Rg} {x y : Int} (h : mapF L = 0) (e : toM L x = some y) : fromM L y = some x ∧ 0 ≤ y ∧ y ≤ 65535 := by
  have hR := (toM_iff h x y).1 e
  refine ⟨(fromM_iff h x y).2 hR, ?_⟩
  obtain ⟨r, hr, h1, h2, rfl⟩ := hR
  have := (good_of_mapF h).1 r hr
  unfold Rg.bd at this
  omega

/-! ### Turning -/
theorem turn_bnd (r : Rg) : bndR (turnR r) = bndR r := by simp [bndR, turnR, Bool.and_comm]
theorem turn_meet (p r : Rg) : meetR (turnR p) (turnR r) = meetR p r := by simp [meetR, turnR, Bool.or_comm]
theorem turn_step (L : List Rg) (k : Nat) : stepM (L.map turnR) k = stepM L k := by
  unfold stepM
  rw [List.getElem?_map]
  cases L[k]? with
  | none => rfl
  | some r =>
    dsimp only [Option.map]
    rw [turn_bnd]
    have : ((L.map turnR).take k).any (fun p => meetR p (turnR r)) = (L.take k).any (fun p => meetR p r) := by
      rw [← List.map_take, List.any_map]
      congr 1
      funext p
      exact turn_meet p r
    rw [this]
theorem turn_mF (L : List Rg) : ∀ n k, mF (L.map turnR) k n = mF L k n
  | 0, _ => rfl
  | n + 1, k => by unfold mF; rw [turn_step, turn_mF L n (k + 1)]
theorem turn_mapF (L : List Rg) : mapF (L.map turnR) = mapF L := by unfold mapF; rw [List.length_map, turn_mF]
theorem turn_rel (L : List Rg) (x y : Int) : Rel (L.map turnR) x y ↔ Rel L y x := by
  unfold Rel
  constructor
  · rintro ⟨r, hr, h1, h2, h3⟩
    obtain ⟨p, hp, rfl⟩ := List.mem_map.1 hr
    unfold turnR at h1 h2 h3
    dsimp only at h1 h2 h3
    exact ⟨p, hp, by omega, by omega, by omega⟩
  · rintro ⟨p, hp, h1, h2, h3⟩
    refine ⟨turnR p, List.mem_map.2 ⟨p, hp, rfl⟩, ?_, ?_, ?_⟩ <;> unfold turnR <;> dsimp only <;> omega
theorem turn_to {L : List Rg} (h : mapF L = 0) (x : Int) : toM (canonL (L.map turnR)) x = fromM L x := by
  have h' : mapF (L.map turnR) = 0 := by rw [turn_mapF]; exact h
  rw [canon_to h']
  exact opt_eq (fun y => by rw [toM_iff h', fromM_iff h, turn_rel])

/-! ### One behind the other -/
theorem putC_mem {r s q : Rg} {l : List Rg} : q ∈ putC r l s ↔ (q = chainR r s ∧ 0 < q.n) ∨ q ∈ l := by
  unfold putC
  split
  · rename_i h
    rw [insR_mem]
    constructor
    · rintro (rfl | h2)
      · exact .inl ⟨rfl, h⟩
      · exact .inr h2
    · rintro (⟨rfl, _⟩ | h2)
      · exact .inl rfl
      · exact .inr h2
  · rename_i h
    constructor
    · exact .inr
    · rintro (⟨rfl, h2⟩ | h2)
      · exact absurd h2 h
      · exact h2
theorem rowT_mem {r q : Rg} {bs : List Rg} : ∀ {out : List Rg}, q ∈ rowT r bs out ↔ (∃ s ∈ bs, q = chainR r s ∧ 0 < q.n) ∨ q ∈ out := by
  induction bs with
  | nil => intro out; simp [rowT]
  | cons s l ih =>
    intro out
    show q ∈ rowT r l (putC r out s) ↔ _
    rw [ih, putC_mem]
    constructor
    · rintro (⟨t, ht, h⟩ | h | h)
      · exact .inl ⟨t, by simp [ht], h⟩
      · exact .inl ⟨s, by simp, h⟩
      · exact .inr h
    · rintro (⟨t, ht, h⟩ | h)
      · rcases List.mem_cons.1 ht with rfl | ht
        · exact .inr (.inl h)
        · exact .inl ⟨t, ht, h⟩
      · exact .inr (.inr h)
theorem pairsL_mem {q : Rg} {bs : List Rg} : ∀ {xs : List Rg}, q ∈ pairsL xs bs ↔ ∃ r ∈ xs, ∃ s ∈ bs, q = chainR r s ∧ 0 < q.n := by
  intro xs
  refine snoc_ind (P := fun xs => q ∈ pairsL xs bs ↔ ∃ r ∈ xs, ∃ s ∈ bs, q = chainR r s ∧ 0 < q.n) ?_ ?_ xs
  · simp [pairsL]
  · intro M r ih
    rw [pairsL_snoc, rowT_mem, ih]
    constructor
    · rintro (⟨s, hs, h⟩ | ⟨p, hp, h⟩)
      · exact ⟨r, by simp, s, hs, h⟩
      · exact ⟨p, by simp [hp], h⟩
    · rintro ⟨p, hp, s, hs, h⟩
      rcases List.mem_append.1 hp with hp | hp
      · exact .inr ⟨p, hp, s, hs, h⟩
      · have e : p = r := by simpa using hp
        subst e; exact .inl ⟨s, hs, h⟩
theorem chain_dj {r s r' s' : Rg} (h1 : r.bd) (h2 : s.bd) (h3 : r'.bd) (h4 : s'.bd) (hp : 0 < (chainR r s).n) (hp' : 0 < (chainR r' s').n) (hd : (Dj r r' ∧ (s = s' ∨ Dj s s')) ∨ (r = r' ∧ Dj s s')) : Dj (chainR r s) (chainR r' s') := by
  rcases hd with ⟨h5, rfl | h6⟩ | ⟨rfl, h6⟩
  · unfold Dj Rg.bd chainR at *
    dsimp only at *
    omega
  · unfold Dj Rg.bd chainR at *
    dsimp only at *
    omega
  · unfold Dj Rg.bd chainR at *
    dsimp only at *
    omega
theorem rowT_good {r : Rg} {bs : List Rg} (hr : r.bd) : ∀ {out : List Rg}, Good bs → Good out → Srt out → (∀ q ∈ out, ∀ s ∈ bs, 0 < (chainR r s).n → Dj q (chainR r s)) → Good (rowT r bs out) ∧ Srt (rowT r bs out) := by
  induction bs with
  | nil => intro out _ h1 h2 _; exact ⟨h1, h2⟩
  | cons s l ih =>
    intro out hb h1 h2 h3
    have hs : s.bd := hb.1 s (by simp)
    have hl : Good l := ⟨fun q hq => hb.1 q (by simp [hq]), (List.pairwise_cons.1 hb.2).2⟩
    have hsl := (List.pairwise_cons.1 hb.2).1
    show Good (rowT r l (putC r out s)) ∧ Srt (rowT r l (putC r out s))
    by_cases hp : 0 < (chainR r s).n
    · have hc := chain_bd hr hs hp
      have hd : ∀ q ∈ out, Dj q (chainR r s) := fun q hq => h3 q hq s (by simp) hp
      have e : putC r out s = insR out (chainR r s) := by unfold putC; rw [if_pos hp]
      rw [e]
      refine ih hl (insR_good h1 hc hd) (insR_srt h2 (fun p hp2 => dj_ne (h1.1 p hp2) hc (hd p hp2))) ?_
      intro q hq t ht hpt
      rcases insR_mem.1 hq with rfl | hq
      · exact chain_dj hr hs hr (hl.1 t ht) hp hpt (.inr ⟨rfl, hsl t ht⟩)
      · exact h3 q hq t (by simp [ht]) hpt
    · have e : putC r out s = out := by unfold putC; rw [if_neg hp]
      rw [e]
      exact ih hl h1 h2 (fun q hq t ht hpt => h3 q hq t (by simp [ht]) hpt)
theorem pairsL_good {bs : List Rg} (hb : Good bs) {xs : List Rg} : Good xs → Good (pairsL xs bs) ∧ Srt (pairsL xs bs) := by
  refine snoc_ind (P := fun xs => Good xs → Good (pairsL xs bs) ∧ Srt (pairsL xs bs)) ?_ ?_ xs
  · intro _; exact ⟨⟨by simp [pairsL], by simp [pairsL]⟩, by simp [pairsL, Srt]⟩
  · intro M r ih h
    obtain ⟨hM, hr, hd⟩ := good_snoc h
    obtain ⟨g1, g2⟩ := ih hM
    rw [pairsL_snoc]
    refine rowT_good hr hb g1 g2 ?_
    intro q hq s hs hp
    obtain ⟨r', hr', s', hs', rfl, hp'⟩ := pairsL_mem.1 hq
    exact chain_dj (hM.1 r' hr') (hb.1 s' hs') hr (hb.1 s hs) hp' hp (.inl ⟨hd r' hr', good_pair hb s' hs' s hs⟩)
theorem pairs_rel {xs bs : List Rg} (_hx : Good xs) (_hb : Good bs) (x y : Int) : Rel (pairsL xs bs) x y ↔ ∃ m, Rel xs x m ∧ Rel bs m y := by
  unfold Rel
  constructor
  · rintro ⟨q, hq, h1, h2, h3⟩
    obtain ⟨r, hr, s, hs, rfl, hp⟩ := pairsL_mem.1 hq
    unfold chainR at h1 h2 h3
    dsimp only at h1 h2 h3
    exact ⟨r.o + x - r.i, ⟨r, hr, by omega, by omega, rfl⟩, s, hs, by omega, by omega, by omega⟩
  · rintro ⟨m, ⟨r, hr, h1, h2, rfl⟩, s, hs, h4, h5, rfl⟩
    refine ⟨chainR r s, pairsL_mem.2 ⟨r, hr, s, hs, rfl, ?_⟩, ?_, ?_, ?_⟩ <;> unfold chainR <;> dsimp only <;> omega
theorem then_facts {rs ss : List Rg} (h : mapF rs = 0) (h' : mapF ss = 0) : Good (thenL rs ss) ∧ Srt (thenL rs ss) ∧ Nrm (thenL rs ss) ∧ ∀ x y, Rel (thenL rs ss) x y ↔ ∃ m, Rel rs x m ∧ Rel ss m y := by
  obtain ⟨s1, s2⟩ := pairsL_good (good_of_mapF h') (good_of_mapF h)
  obtain ⟨g1, _, g3, _, g5⟩ := joinL_inv s1
  exact ⟨g1, joinL_srt s1 s2, g5, fun x y => (g3 x y).trans (pairs_rel (good_of_mapF h) (good_of_mapF h') x y)⟩
theorem then_to {rs ss : List Rg} (h : mapF rs = 0) (h' : mapF ss = 0) (hl : (thenL rs ss).length ≤ 4) (x : Int) : mapF (thenL rs ss) = 0 ∧ toM (thenL rs ss) x = (toM rs x).bind (toM ss) := by
  obtain ⟨g1, _, _, g4⟩ := then_facts h h'
  have h0 := mapF_of_good g1 hl
  refine ⟨h0, opt_eq (fun y => ?_)⟩
  rw [toM_iff h0, g4, Option.bind_eq_some_iff]
  constructor
  · rintro ⟨m, h1, h2⟩; exact ⟨m, (toM_iff h x m).2 h1, (toM_iff h' m y).2 h2⟩
  · rintro ⟨m, h1, h2⟩; exact ⟨m, (toM_iff h x m).1 h1, (toM_iff h' m y).1 h2⟩
theorem good_ok {L : List Rg} (h : Good L) : ∀ r ∈ L, r.ok := by
  intro r hr
  have := h.1 r hr
  unfold Rg.bd at this
  unfold Rg.ok I64
  omega
end Go.Proofs.Ytoadlnojcbkdgaa
