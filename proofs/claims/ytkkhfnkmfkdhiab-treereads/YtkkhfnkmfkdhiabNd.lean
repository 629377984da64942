/-
  TREES, the facts of no program: bounds of what a change makes; trees that may be, and that stay so.
-/
import Derived.Test.YtkkhfnkmfkdhiabNc
import Derived.Test.YtkkhfnkmfkdhiabWb
namespace Go.Proofs.Ytkkhfnkmfkdhiab
open Go.RowKit

theorem cntL_set {m : ByteArray} {z y : Nd} : ∀ {ks : Kds}, fk m ks = some y → cntL (setk m z ks) + cnt y = cntL ks + cnt z
  | [], h => by cases h
  | (n, x) :: l, h => by
    rw [fk] at h
    rw [setk]
    by_cases e : n = m
    · rw [if_pos e] at h ⊢; simp only [Option.some.injEq] at h; subst h; rw [cntL, cntL]; omega
    · rw [if_neg e] at h ⊢; have := cntL_set (z := z) h; rw [cntL, cntL]; omega
theorem cntL_ins (m : ByteArray) (z : Nd) : ∀ ks : Kds, cntL (insk m z ks) = cntL ks + cnt z
  | [] => by rw [insk]; simp [cntL]
  | (n, x) :: l => by
    rw [insk]
    split
    · rw [cntL, cntL]; omega
    · have := cntL_ins m z l; rw [cntL, cntL]; omega
theorem cntL_del (m : ByteArray) : ∀ ks : Kds, cntL (delk m ks) ≤ cntL ks
  | [] => by rw [delk]; exact Nat.le_refl _
  | (n, x) :: l => by
    rw [delk]
    split
    · rw [cntL]; omega
    · have := cntL_del m l; rw [cntL, cntL]; omega
theorem cnt_with (x : Nd) (ks : Kds) : cnt (x.with ks) = cntL ks + 1 := by obtain ⟨k, m, u, g, o, at_, d, ks'⟩ := x; rfl
theorem cnt_nd (x : Nd) : cnt x = cntL x.kids + 1 := by obtain ⟨k, m, u, g, o, at_, d, ks'⟩ := x; rfl
def cntO : Option Nd → Nat
  | none => 0
  | some x => cnt x
/-- A change of a list keeps what each kid's node has. -/
theorem chg_ind {c : Option Nd} (P : Nd → Nd → Prop) (hlast : ∀ m n ks, n.kind = 2 → lastG c m n.kids = .ok ks → P n (n.with ks)) (hstep : ∀ m n y z, n.kind = 2 → fk m n.kids = some y → P y z → P n (n.with (setk m z n.kids))) :
    ∀ {l : List ByteArray} {n r : Nd}, chgF c l n = .ok r → P n r
  | [], n, r, h => by rw [chgF] at h; cases h
  | [m], n, r, h => by
    rw [chg_one] at h
    by_cases hk : n.kind ≠ 2
    · rw [if_pos hk] at h; cases h
    rw [if_neg hk] at h
    cases hl : lastG c m n.kids with
    | error f => rw [hl] at h; cases h
    | ok ks =>
      rw [hl] at h
      simp only [Except.map, Except.ok.injEq] at h
      subst h
      exact hlast m n ks (by simpa using hk) hl
  | m :: m' :: l, n, r, h => by
    rw [chg_fk] at h
    by_cases hk : n.kind ≠ 2
    · rw [if_pos hk] at h; cases h
    rw [if_neg hk] at h
    cases hf : fk m n.kids with
    | none => rw [hf] at h; cases h
    | some y =>
      rw [hf] at h
      simp only at h
      cases hc : chgF c (m' :: l) y with
      | error f => rw [hc] at h; cases h
      | ok z =>
        rw [hc] at h
        simp only [Except.map, Except.ok.injEq] at h
        subst h
        exact hstep m n y z (by simpa using hk) hf (chg_ind P hlast hstep hc)
theorem last_parts {c : Option Nd} {m : ByteArray} {ks ks' : Kds} (h : lastG c m ks = .ok ks') : (∃ x, c = some x ∧ nameB m = true ∧ ((fk m ks = none ∧ ks' = insk m x ks) ∨ (fk m ks ≠ none ∧ ks' = setk m x ks))) ∨ (c = none ∧ fk m ks ≠ none ∧ ks' = delk m ks) := by
  cases c with
  | some x =>
    left
    simp only [lastG] at h
    by_cases hn : nameB m = false
    · rw [if_pos hn] at h; cases h
    rw [if_neg hn] at h
    simp only [Except.ok.injEq] at h
    refine ⟨x, rfl, by simpa using hn, ?_⟩
    by_cases hf : fk m ks = none
    · rw [if_pos hf] at h; exact .inl ⟨hf, h.symm⟩
    · rw [if_neg hf] at h; exact .inr ⟨hf, h.symm⟩
  | none =>
    right
    simp only [lastG] at h
    by_cases hn : fk m ks = none
    · rw [if_pos hn] at h; cases h
    rw [if_neg hn] at h
    simp only [Except.ok.injEq] at h
    exact ⟨rfl, hn, h.symm⟩
theorem chg_cnt {c : Option Nd} {l : List ByteArray} {n r : Nd} (h : chgF c l n = .ok r) : cnt r ≤ cnt n + cntO c := by
  refine chg_ind (c := c) (fun n r => cnt r ≤ cnt n + cntO c) ?_ ?_ h
  · intro m n ks _ hl
    rw [cnt_with, cnt_nd n]
    rcases last_parts hl with ⟨x, rfl, _, ⟨_, rfl⟩ | ⟨hf, rfl⟩⟩ | ⟨rfl, _, rfl⟩
    · rw [cntL_ins]; show _ ≤ _ + cnt x; omega
    · obtain ⟨y, hy⟩ := Option.ne_none_iff_exists'.1 hf
      have := cntL_set (z := x) hy
      show _ ≤ _ + cnt x; omega
    · have := cntL_del m n.kids; omega
  · intro m n y z _ hf hz
    have := cntL_set (z := z) hf
    rw [cnt_with, cnt_nd n]; omega
mutual
/-- No list of attributes is too long. -/
def At1 : Nd → Prop
  | .mk _ _ _ _ _ at_ _ ks => at_.length ≤ 1000 ∧ At1L ks
def At1L : Kds → Prop
  | [] => True
  | (_, x) :: l => At1 x ∧ At1L l
end
theorem at1L_fk {m : ByteArray} {y : Nd} : ∀ {ks : Kds}, At1L ks → fk m ks = some y → At1 y
  | [], _, h => by cases h
  | (n, x) :: l, ha, h => by
    rw [At1L] at ha
    rw [fk] at h
    by_cases e : n = m
    · rw [if_pos e] at h; simp only [Option.some.injEq] at h; subst h; exact ha.1
    · rw [if_neg e] at h; exact at1L_fk ha.2 h
theorem at1L_set {m : ByteArray} {z : Nd} (hz : At1 z) : ∀ {ks : Kds}, At1L ks → At1L (setk m z ks)
  | [], _ => by rw [setk, At1L]; trivial
  | (n, x) :: l, ha => by
    rw [At1L] at ha
    rw [setk]
    split
    · rw [At1L]; exact ⟨hz, ha.2⟩
    · rw [At1L]; exact ⟨ha.1, at1L_set hz ha.2⟩
theorem at1L_ins {m : ByteArray} {z : Nd} (hz : At1 z) : ∀ {ks : Kds}, At1L ks → At1L (insk m z ks)
  | [], _ => by rw [insk, At1L, At1L]; exact ⟨hz, trivial⟩
  | (n, x) :: l, ha => by
    rw [insk]
    split
    · rw [At1L]; exact ⟨hz, ha⟩
    · rw [At1L] at ha ⊢; exact ⟨ha.1, at1L_ins hz ha.2⟩
theorem at1L_del {m : ByteArray} : ∀ {ks : Kds}, At1L ks → At1L (delk m ks)
  | [], _ => by rw [delk, At1L]; trivial
  | (n, x) :: l, ha => by
    rw [At1L] at ha
    rw [delk]
    split
    · exact ha.2
    · rw [At1L]; exact ⟨ha.1, at1L_del ha.2⟩
theorem at1_with {x : Nd} {ks : Kds} : At1 (x.with ks) ↔ At1 (x.with []) ∧ At1L ks := by
  obtain ⟨k, m, u, g, o, at_, d, ks'⟩ := x
  show At1 (.mk k m u g o at_ d ks) ↔ At1 (.mk k m u g o at_ d []) ∧ At1L ks
  rw [At1, At1, At1L]
  exact ⟨fun h => ⟨⟨h.1, trivial⟩, h.2⟩, fun h => ⟨h.1.1, h.2⟩⟩
theorem with_self (x : Nd) : x.with x.kids = x := by obtain ⟨k, m, u, g, o, at_, d, ks⟩ := x; rfl
theorem chg_at1 {c : Option Nd} {l : List ByteArray} {n r : Nd} (h : chgF c l n = .ok r) (hc : ∀ x, c = some x → At1 x) : At1 n → At1 r := by
  refine chg_ind (c := c) (fun n r => At1 n → At1 r) ?_ ?_ h
  · intro m n ks _ hl hn
    rw [← with_self n, at1_with] at hn
    rw [at1_with]
    refine ⟨hn.1, ?_⟩
    rcases last_parts hl with ⟨x, rfl, _, ⟨_, rfl⟩ | ⟨_, rfl⟩⟩ | ⟨rfl, _, rfl⟩
    · exact at1L_ins (hc x rfl) hn.2
    · exact at1L_set (hc x rfl) hn.2
    · exact at1L_del hn.2
  · intro m n y z _ hf hz hn
    rw [← with_self n, at1_with] at hn
    rw [at1_with]
    exact ⟨hn.1, at1L_set (hz (at1L_fk hn.2 hf)) hn.2⟩
mutual
theorem lim_at : ∀ (x : Nd), At1 x → cnt x ≤ 1000 → Lim x
  | .mk _ _ _ _ _ at_ d ks, ha, hc => by
    rw [cnt] at hc
    rw [At1] at ha
    rw [Lim]
    have := cntL_len ks
    exact ⟨ha.1, by omega, limL_at ks ha.2 (by omega)⟩
theorem limL_at : ∀ (l : Kds), At1L l → cntL l ≤ 1000 → LimL l
  | [], _, _ => by rw [LimL]; trivial
  | (n, x) :: l, ha, hc => by
    rw [cntL] at hc
    rw [At1L] at ha
    rw [LimL]
    exact ⟨lim_at x ha.1 (by omega), limL_at l ha.2 (by omega)⟩
end
mutual
theorem at_lil : ∀ (x : Nd), Lil x → At1 x
  | .mk _ _ _ _ _ at_ d ks, h => by
    rw [Lil] at h
    rw [At1]
    have h1 := h.1.1
    exact ⟨by omega, atL_lil ks h.2.2⟩
theorem atL_lil : ∀ (l : Kds), LilL l → At1L l
  | [], _ => by rw [At1L]; trivial
  | (n, x) :: l, h => by rw [LilL] at h; rw [At1L]; exact ⟨at_lil x h.2.1, atL_lil l h.2.2⟩
end
end Go.Proofs.Ytkkhfnkmfkdhiab
