/-
  A MAP IN FEW RANGES IS ONE ALONE: id by id, and range by range.
-/
import Derived.Test.YtoadlnojcbkdgaaIj
namespace Go.Proofs.Ytoadlnojcbkdgaa
open Go.RowKit

/-- Where the ids below k lead, one by one. -/
def ptsL (f : Int → Option Int) : Nat → List Rg
  | 0 => []
  | k + 1 => match f k with
    | none => ptsL f k
    | some y => ptsL f k ++ [⟨k, y, 1⟩]
def canonR (f : Int → Option Int) (k : Nat) : List Rg := joinL (ptsL f k)
theorem ptsL_none {f : Int → Option Int} {k : Nat} (h : f k = none) : ptsL f (k + 1) = ptsL f k := by simp [ptsL, h]
theorem ptsL_some {f : Int → Option Int} {k : Nat} {y : Int} (h : f k = some y) : ptsL f (k + 1) = ptsL f k ++ [⟨k, y, 1⟩] := by simp [ptsL, h]
theorem canonR_none {f : Int → Option Int} {k : Nat} (h : f k = none) : canonR f (k + 1) = canonR f k := by unfold canonR; rw [ptsL_none h]
theorem canonR_some {f : Int → Option Int} {k : Nat} {y : Int} (h : f k = some y) : canonR f (k + 1) = stepJ (canonR f k) ⟨k, y, 1⟩ := by unfold canonR; rw [ptsL_some h, joinL_snoc]
theorem ptsL_mem {f : Int → Option Int} {r : Rg} : ∀ {n : Nat}, r ∈ ptsL f n ↔ ∃ k : Nat, k < n ∧ ∃ y, f k = some y ∧ r = ⟨k, y, 1⟩
  | 0 => by simp [ptsL]
  | n + 1 => by
    cases hf : f n with
    | none =>
      rw [ptsL_none hf, ptsL_mem]
      constructor
      · rintro ⟨k, hk, h⟩; exact ⟨k, by omega, h⟩
      · rintro ⟨k, hk, y, h, e⟩
        by_cases hkn : k = n
        · subst hkn; rw [hf] at h; cases h
        · exact ⟨k, by omega, y, h, e⟩
    | some z =>
      rw [ptsL_some hf, List.mem_append, ptsL_mem, List.mem_singleton]
      constructor
      · rintro (⟨k, hk, h⟩ | h)
        · exact ⟨k, by omega, h⟩
        · exact ⟨n, by omega, z, hf, h⟩
      · rintro ⟨k, hk, y, h, e⟩
        by_cases hkn : k = n
        · subst hkn; rw [hf] at h; cases h; exact .inr e
        · exact .inl ⟨k, by omega, y, h, e⟩
theorem ptsL_bd {f : Int → Option Int} (hb : ∀ x y, f x = some y → 0 ≤ y ∧ y ≤ 65535) {n : Nat} (hn : n ≤ 65536) : ∀ r ∈ ptsL f n, r.bd := by
  intro r hr
  obtain ⟨k, hk, y, h, rfl⟩ := ptsL_mem.1 hr
  have := hb _ _ h
  unfold Rg.bd; dsimp only; omega
theorem ptsL_length (f : Int → Option Int) : ∀ n, (ptsL f n).length ≤ n
  | 0 => by simp [ptsL]
  | n + 1 => by
    have := ptsL_length f n
    cases hf : f n with
    | none => rw [ptsL_none hf]; omega
    | some z => rw [ptsL_some hf]; simp; omega
theorem canonR_bd {f : Int → Option Int} (hb : ∀ x y, f x = some y → 0 ≤ y ∧ y ≤ 65535) {n : Nat} (hn : n ≤ 65536) : ∀ r ∈ canonR f n, r.bd := joinL_bd (ptsL_bd hb hn)
theorem canonR_length (f : Int → Option Int) (n : Nat) : (canonR f n).length ≤ n := Nat.le_trans (joinL_length _) (ptsL_length f n)
theorem ptsL_good {f : Int → Option Int} (hb : ∀ x y, f x = some y → 0 ≤ y ∧ y ≤ 65535) (hi : ∀ x x' y, f x = some y → f x' = some y → x = x') : ∀ {n : Nat}, n ≤ 65536 → Good (ptsL f n) ∧ Srt (ptsL f n) := by
  intro n hn
  refine ⟨⟨ptsL_bd hb hn, ?_⟩, ?_⟩
  · clear hn
    induction n with
    | zero => simp [ptsL]
    | succ n ih =>
      cases hf : f n with
      | none => rw [ptsL_none hf]; exact ih
      | some z =>
        rw [ptsL_some hf, List.pairwise_append]
        refine ⟨ih, by simp, ?_⟩
        intro a ha b hb'
        rw [List.mem_singleton] at hb'; subst hb'
        obtain ⟨k, hk, y, h, rfl⟩ := ptsL_mem.1 ha
        have hne : y ≠ z := by rintro rfl; have := hi _ _ _ h hf; omega
        unfold Dj; dsimp only; omega
  · clear hn
    unfold Srt
    induction n with
    | zero => simp [ptsL]
    | succ n ih =>
      cases hf : f n with
      | none => rw [ptsL_none hf]; exact ih
      | some z =>
        rw [ptsL_some hf, List.pairwise_append]
        refine ⟨ih, by simp, ?_⟩
        intro a ha b hb'
        rw [List.mem_singleton] at hb'; subst hb'
        obtain ⟨k, hk, y, h, rfl⟩ := ptsL_mem.1 ha
        dsimp only; omega
theorem ptsL_rel {f : Int → Option Int} {n : Nat} {x y : Int} : Rel (ptsL f n) x y ↔ 0 ≤ x ∧ x < n ∧ f x = some y := by
  unfold Rel
  constructor
  · rintro ⟨r, hr, h1, h2, h3⟩
    obtain ⟨k, hk, z, h, rfl⟩ := ptsL_mem.1 hr
    dsimp only at h1 h2 h3
    have e : x = k := by omega
    subst e
    have e2 : y = z := by omega
    subst e2
    exact ⟨by omega, by omega, h⟩
  · rintro ⟨h1, h2, h3⟩
    have e : x = (x.toNat : Int) := by omega
    exact ⟨⟨x, y, 1⟩, ptsL_mem.2 ⟨x.toNat, by omega, y, by rw [← e]; exact h3, by rw [← e]⟩, by dsimp only; omega, by dsimp only; omega, by dsimp only; omega⟩

theorem uniq_len {p q : Rg} {L M : List Rg} (hg : Good (p :: L)) (hs : Srt (p :: L)) (hn : Nrm (p :: L)) (hi : p.i = q.i) (ho : p.o = q.o) (hr : ∀ x y, Rel (q :: M) x y → Rel (p :: L) x y) : q.n ≤ p.n := by
  by_cases hc : q.n ≤ p.n
  · exact hc
  exfalso
  have hp := hg.1 p (by simp)
  have hp' := hp
  unfold Rg.bd at hp'
  obtain ⟨r, hm, h1, h2, h3⟩ := hr (p.i + p.n) (p.o + p.n) ⟨q, by simp, by omega, by omega, by omega⟩
  rcases List.mem_cons.1 hm with rfl | hm
  · omega
  · cases L with
    | nil => cases hm
    | cons t T =>
      have ht := hg.1 t (by simp)
      have hd : Dj p t := (List.pairwise_cons.1 hg.2).1 t (by simp)
      have hpt : p.i < t.i := (List.pairwise_cons.1 hs).1 t (by simp)
      unfold Rg.bd at ht
      unfold Dj at hd
      have hrt : r = t := by
        rcases List.mem_cons.1 hm with e | hm
        · exact e
        · have : t.i < r.i := (List.pairwise_cons.1 (List.pairwise_cons.1 hs).2).1 r hm
          omega
      subst hrt
      have := hn [] p r T rfl
      simp [onB] at this
      omega
theorem uniq_tail {p : Rg} {L M : List Rg} (hg : Good (p :: L)) (hr : ∀ x y, Rel (p :: L) x y → Rel (p :: M) x y) : ∀ x y, Rel L x y → Rel M x y := by
  rintro x y ⟨s, hs, h1, h2, h3⟩
  obtain ⟨r, hm, k1, k2, k3⟩ := hr x y ⟨s, by simp [hs], h1, h2, h3⟩
  rcases List.mem_cons.1 hm with rfl | hm
  · have hd : Dj r s := (List.pairwise_cons.1 hg.2).1 s hs
    unfold Dj at hd
    omega
  · exact ⟨r, hm, k1, k2, k3⟩
theorem rel_head {p : Rg} {L : List Rg} (hp : p.bd) : Rel (p :: L) p.i p.o := by
  unfold Rg.bd at hp
  exact ⟨p, by simp, by omega, by omega, by omega⟩
theorem head_least {p : Rg} {L : List Rg} (hs : Srt (p :: L)) {x y : Int} (h : Rel (p :: L) x y) : p.i ≤ x := by
  obtain ⟨r, hm, h1, _⟩ := h
  rcases List.mem_cons.1 hm with rfl | hm
  · exact h1
  · have : p.i < r.i := (List.pairwise_cons.1 hs).1 r hm
    omega
theorem good_cons {p : Rg} {L : List Rg} (h : Good (p :: L)) : Good L := ⟨fun r hr => h.1 r (by simp [hr]), (List.pairwise_cons.1 h.2).2⟩
theorem srt_cons {p : Rg} {L : List Rg} (h : Srt (p :: L)) : Srt L := (List.pairwise_cons.1 h).2
theorem nrm_cons {p : Rg} {L : List Rg} (h : Nrm (p :: L)) : Nrm L := fun P q r Q e => h (p :: P) q r Q (by rw [e]; rfl)
theorem uniq : ∀ {L M : List Rg}, Good L → Srt L → Nrm L → Good M → Srt M → Nrm M → (∀ x y, Rel L x y ↔ Rel M x y) → L = M
  | [], [], _, _, _, _, _, _, _ => rfl
  | [], q :: M, _, _, _, g, _, _, h => by
    obtain ⟨r, hr, _⟩ := (h _ _).2 (rel_head (g.1 q (by simp)))
    cases hr
  | p :: L, [], g, _, _, _, _, _, h => by
    obtain ⟨r, hr, _⟩ := (h _ _).1 (rel_head (g.1 p (by simp)))
    cases hr
  | p :: L, q :: M, g1, s1, n1, g2, s2, n2, h => by
    have a1 := head_least s2 ((h _ _).1 (rel_head (g1.1 p (by simp))))
    have a2 := head_least s1 ((h _ _).2 (rel_head (g2.1 q (by simp))))
    have ei : p.i = q.i := by omega
    have eo : p.o = q.o := by
      obtain ⟨r, hm, h1, h2, h3⟩ := (h _ _).1 (rel_head (g1.1 p (by simp)))
      rcases List.mem_cons.1 hm with rfl | hm
      · omega
      · have : q.i < r.i := (List.pairwise_cons.1 s2).1 r hm
        omega
    have b1 := uniq_len g1 s1 n1 ei eo (fun x y => (h x y).2)
    have b2 := uniq_len g2 s2 n2 ei.symm eo.symm (fun x y => (h x y).1)
    have en : p.n = q.n := by omega
    have e : p = q := by cases p; cases q; simp at ei eo en ⊢; exact ⟨ei, eo, en⟩
    subst e
    have t := uniq (good_cons g1) (srt_cons s1) (nrm_cons n1) (good_cons g2) (srt_cons s2) (nrm_cons n2) (fun x y => ⟨uniq_tail g1 (fun x y => (h x y).1) x y, uniq_tail g2 (fun x y => (h x y).2) x y⟩)
    rw [t]

theorem rel_bd {L : List Rg} (h : Good L) {x y : Int} (hr : Rel L x y) : 0 ≤ x ∧ x ≤ 65535 ∧ 0 ≤ y ∧ y ≤ 65535 := by
  obtain ⟨r, hm, h1, h2, h3⟩ := hr
  have := h.1 r hm
  unfold Rg.bd at this
  omega
theorem canonR_eq {f : Int → Option Int} {L : List Rg} (hg : Good L) (hs : Srt L) (hn : Nrm L) (h : ∀ x y, Rel L x y ↔ f x = some y) : canonR f 65536 = L := by
  have hb : ∀ x y, f x = some y → 0 ≤ y ∧ y ≤ 65535 := fun x y e => by have := rel_bd hg ((h x y).2 e); omega
  have hi : ∀ x x' y, f x = some y → f x' = some y → x = x' := by
    intro x x' y e e'
    have k1 := (from_iff hg x y).2 ((h x y).2 e)
    have k2 := (from_iff hg x' y).2 ((h x' y).2 e')
    rw [k1] at k2
    exact Option.some.inj k2
  obtain ⟨g, s⟩ := ptsL_good hb hi (Nat.le_refl 65536)
  obtain ⟨g1, _, g3, _, g5⟩ := joinL_inv g
  refine uniq g1 (joinL_srt g s) g5 hg hs hn (fun x y => ?_)
  show Rel (joinL (ptsL f 65536)) x y ↔ _
  rw [g3, ptsL_rel, h]
  constructor
  · exact fun e => e.2.2
  · intro e
    have := rel_bd hg ((h x y).2 e)
    exact ⟨by omega, by omega, e⟩
/-- The map itself; turned round; and another behind it. -/
theorem canonR_one {rs : List Rg} (h : mapF rs = 0) : canonR (walkM (·.i) (·.o) rs) 65536 = canonL rs := by
  obtain ⟨_, c2, _, c4, c5, c6⟩ := canon_facts h
  exact canonR_eq c4 c5 c6 (fun x y => by rw [c2, to_iff (good_of_mapF h)])
theorem canonR_turn {rs : List Rg} (h : mapF rs = 0) : canonR (walkM (·.o) (·.i) rs) 65536 = canonL (rs.map turnR) := by
  obtain ⟨_, c2, _, c4, c5, c6⟩ := canon_facts (L := rs.map turnR) (by rw [turn_mapF]; exact h)
  exact canonR_eq c4 c5 c6 (fun x y => by rw [c2, turn_rel, from_iff (good_of_mapF h)])
theorem canonR_then {rs ss : List Rg} (h : mapF rs = 0) (h' : mapF ss = 0) : canonR (fun x => (walkM (·.i) (·.o) rs x).bind (walkM (·.i) (·.o) ss)) 65536 = thenL rs ss := by
  obtain ⟨c1, c2, c3, c4⟩ := then_facts h h'
  refine canonR_eq c1 c2 c3 (fun x y => ?_)
  rw [c4, Option.bind_eq_some_iff]
  constructor
  · rintro ⟨m, h1, h2⟩; exact ⟨m, (to_iff (good_of_mapF h) x m).2 h1, (to_iff (good_of_mapF h') m y).2 h2⟩
  · rintro ⟨m, h1, h2⟩; exact ⟨m, (to_iff (good_of_mapF h) x m).1 h1, (to_iff (good_of_mapF h') m y).1 h2⟩
theorem walk_ids {rs : List Rg} (h : mapF rs = 0) {x y : Int} : (walkM (·.i) (·.o) rs x = some y → 0 ≤ y ∧ y ≤ 65535) ∧ (walkM (·.o) (·.i) rs x = some y → 0 ≤ y ∧ y ≤ 65535) :=
  ⟨fun e => by have := rel_bd (good_of_mapF h) ((to_iff (good_of_mapF h) x y).1 e); omega, fun e => by have := rel_bd (good_of_mapF h) ((from_iff (good_of_mapF h) y x).1 e); omega⟩
end Go.Proofs.Ytoadlnojcbkdgaa
