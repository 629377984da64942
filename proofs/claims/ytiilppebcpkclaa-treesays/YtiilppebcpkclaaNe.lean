/-
  TREES, the facts of no program: trees that may be, and that stay so when something is cut.
-/
import Derived.Test.YtiilppebcpkclaaNd
namespace Go.Proofs.Ytiilppebcpkclaa
open Go.RowKit

mutual
/-- A tree that may be, with so many names. -/
def Val (up : Bool) : Nat → Nd → Prop
  | deep, .mk k m u g o at_ d ks => deep ≤ 6 ∧ nfF up (decide (deep = 0)) (.mk k m u g o at_ d ks) = 0 ∧ ValL up (deep + 1) none ks
def ValL (up : Bool) : Nat → Option ByteArray → Kds → Prop
  | _, _, [] => True
  | deep, p, (n, x) :: l => nameB n = true ∧ upB p n = true ∧ Val up deep x ∧ ValL up deep (some n) l
end
theorem cnt_pos (x : Nd) : 0 < cnt x := by rw [cnt_nd]; omega
mutual
theorem wlk_val (up : Bool) : ∀ (x : Nd) (deep seen : Nat), ((wlkN up x deep seen).1 = 0 ↔ Val up deep x ∧ seen + cnt x ≤ 60) ∧ ((wlkN up x deep seen).1 = 0 → (wlkN up x deep seen).2 = seen + cnt x)
  | .mk k m u g o at_ d ks, deep, seen => by
    rw [wlkN, Val, cnt]
    by_cases h1 : 60 ≤ seen ∨ 6 < deep
    · rw [if_pos h1]
      refine ⟨⟨fun h => by simp at h, fun h => by omega⟩, fun h => by simp at h⟩
    rw [if_neg h1]
    by_cases h2 : nfF up (decide (deep = 0)) (.mk k m u g o at_ d ks) = 0
    · rw [if_neg (by simpa using h2)]
      obtain ⟨e1, e2⟩ := wlkL_val up none ks (deep + 1) (seen + 1)
      refine ⟨⟨fun h => ?_, fun h => ?_⟩, fun h => ?_⟩
      · have := e1.1 h
        refine ⟨⟨by omega, h2, this.1⟩, ?_⟩
        rcases this.2 with q | q
        · subst q; rw [cntL]; omega
        · omega
      · exact e1.2 ⟨h.1.2.2, .inr (by omega)⟩
      · rw [e2 h]; omega
    · rw [if_pos h2]
      refine ⟨⟨fun h => absurd h h2, fun h => absurd h.1.2.1 h2⟩, fun h => absurd h h2⟩
theorem wlkL_val (up : Bool) : ∀ (p : Option ByteArray) (l : Kds) (deep seen : Nat), ((wlkL up p l deep seen).1 = 0 ↔ ValL up deep p l ∧ (l = [] ∨ seen + cntL l ≤ 60)) ∧ ((wlkL up p l deep seen).1 = 0 → (wlkL up p l deep seen).2 = seen + cntL l)
  | p, [], deep, seen => by
    rw [wlkL, ValL, cntL]
    exact ⟨⟨fun _ => ⟨trivial, .inl rfl⟩, fun _ => rfl⟩, fun _ => rfl⟩
  | p, (n, x) :: l, deep, seen => by
    rw [wlkL, ValL, cntL]
    by_cases h1 : nameB n = false
    · rw [if_pos h1]
      exact ⟨⟨fun h => by simp at h, fun h => by rw [h1] at h; simp at h⟩, fun h => by simp at h⟩
    rw [if_neg h1]
    by_cases h2 : upB p n = false
    · rw [if_pos h2]
      exact ⟨⟨fun h => by simp at h, fun h => by rw [h2] at h; simp at h⟩, fun h => by simp at h⟩
    rw [if_neg h2]
    obtain ⟨e1, e2⟩ := wlk_val up x deep seen
    by_cases h3 : (wlkN up x deep seen).1 = 0
    · rw [if_neg (by simpa using h3)]
      have h4 := e1.1 h3
      rw [e2 h3]
      obtain ⟨f1, f2⟩ := wlkL_val up (some n) l deep (seen + cnt x)
      refine ⟨⟨fun h => ?_, fun h => ?_⟩, fun h => ?_⟩
      · obtain ⟨g1, g2⟩ := f1.1 h
        refine ⟨⟨by simpa using h1, by simpa using h2, h4.1, g1⟩, .inr ?_⟩
        rcases g2 with g2 | g2
        · subst g2; rw [cntL]; omega
        · omega
      · refine f1.2 ⟨h.1.2.2.2, ?_⟩
        rcases h.2 with q | q
        · cases q
        · exact .inr (by omega)
      · rw [f2 h]; omega
    · rw [if_pos h3]
      refine ⟨⟨fun h => absurd h h3, fun h => ?_⟩, fun h => absurd h h3⟩
      exfalso
      refine h3 (e1.2 ⟨h.1.2.2.1, ?_⟩)
      rcases h.2 with q | q
      · cases q
      · omega
end
theorem tf_val (up : Bool) (x : Nd) : tfF up x = 0 ↔ x.kind = 2 ∧ Val up 0 x ∧ cnt x ≤ 60 := by
  obtain ⟨k, m, u, g, o, at_, d, ks⟩ := x
  rw [tfF]
  have h := (wlk_val up (.mk k m u g o at_ d ks) 0 0).1
  show _ ↔ k = 2 ∧ _
  by_cases hk : k = 2
  · rw [if_neg (by simpa using hk), h, Nat.zero_add]; exact ⟨fun q => ⟨hk, q⟩, fun q => q.2⟩
  · rw [if_pos hk]; exact ⟨fun q => by simp at q, fun q => absurd q.1 hk⟩
theorem nf_with {up root : Bool} {x : Nd} (hk : x.kind = 2) (ks : Kds) : nfF up root (x.with ks) = nfF up root x := by
  obtain ⟨k, m, u, g, o, at_, d, ks'⟩ := x
  have hk' : k = 2 := hk
  subst hk'
  show nfF up root (.mk 2 m u g o at_ d ks) = nfF up root (.mk 2 m u g o at_ d ks')
  rw [nfF, nfF]
  have e : nfR 2 m u g o at_.length d.size ks.length up root = nfR 2 m u g o at_.length d.size ks'.length up root := by
    unfold nfR
    simp
  rw [e]
theorem val_with {up : Bool} {deep : Nat} {x : Nd} (hk : x.kind = 2) {ks : Kds} (h : Val up deep x) (hl : ValL up (deep + 1) none ks) : Val up deep (x.with ks) := by
  have e := nf_with (up := up) (root := decide (deep = 0)) hk ks
  obtain ⟨k, m, u, g, o, at_, d, ks'⟩ := x
  rw [Val] at h
  show Val up deep (.mk k m u g o at_ d ks)
  rw [Val]
  exact ⟨h.1, e.trans h.2.1, hl⟩
theorem val_kids {up : Bool} {deep : Nat} {x : Nd} (h : Val up deep x) : ValL up (deep + 1) none x.kids := by
  obtain ⟨k, m, u, g, o, at_, d, ks'⟩ := x
  rw [Val] at h
  exact h.2.2
theorem up_trans {p : Option ByteArray} {n n' : ByteArray} (h1 : upB p n = true) (h2 : ltB n n' = true) : upB p n' = true := by
  cases p with
  | none => rfl
  | some p => exact ltB_trans h1 h2
theorem valL_tail {up : Bool} {deep : Nat} {p : Option ByteArray} {n : ByteArray} {l : Kds} (hp : upB p n = true) (h : ValL up deep (some n) l) : ValL up deep p l := by
  cases l with
  | nil => rw [ValL]; trivial
  | cons q l =>
    obtain ⟨n', x⟩ := q
    rw [ValL] at h ⊢
    exact ⟨h.1, up_trans hp h.2.1, h.2.2⟩
theorem valL_del {up : Bool} {deep : Nat} (m : ByteArray) : ∀ {ks : Kds} {p : Option ByteArray}, ValL up deep p ks → ValL up deep p (delk m ks)
  | [], p, h => by rw [delk]; exact h
  | (n, x) :: l, p, h => by
    rw [ValL] at h
    rw [delk]
    split
    · exact valL_tail h.2.1 h.2.2.2
    · rw [ValL]; exact ⟨h.1, h.2.1, h.2.2.1, valL_del m h.2.2.2⟩
theorem valL_set {up : Bool} {deep : Nat} {m : ByteArray} {z : Nd} (hz : Val up deep z) : ∀ {ks : Kds} {p : Option ByteArray}, ValL up deep p ks → ValL up deep p (setk m z ks)
  | [], p, h => by rw [setk]; exact h
  | (n, x) :: l, p, h => by
    rw [ValL] at h
    rw [setk]
    by_cases e : n = m
    · rw [if_pos e, ValL]; subst e; exact ⟨h.1, h.2.1, hz, h.2.2.2⟩
    · rw [if_neg e, ValL]; exact ⟨h.1, h.2.1, h.2.2.1, valL_set hz h.2.2.2⟩
theorem valL_fk {up : Bool} {deep : Nat} {m : ByteArray} {y : Nd} : ∀ {ks : Kds} {p : Option ByteArray}, ValL up deep p ks → fk m ks = some y → Val up deep y
  | [], p, _, h => by cases h
  | (n, x) :: l, p, hv, h => by
    rw [ValL] at hv
    rw [fk] at h
    by_cases e : n = m
    · rw [if_pos e] at h; simp only [Option.some.injEq] at h; subst h; exact hv.2.2.1
    · rw [if_neg e] at h; exact valL_fk hv.2.2.2 h
theorem cut_val {up : Bool} {l : List ByteArray} {n r : Nd} (h : chgF none l n = .ok r) : ∀ deep, Val up deep n → Val up deep r := by
  refine chg_ind (c := none) (fun n r => ∀ deep, Val up deep n → Val up deep r) ?_ ?_ h
  · intro m n ks hk hl deep hv
    rcases last_parts hl with ⟨x, q, _⟩ | ⟨_, _, rfl⟩
    · cases q
    · exact val_with hk hv (valL_del m (val_kids hv))
  · intro m n y z hk hf hz deep hv
    exact val_with hk hv (valL_set (hz _ (valL_fk (val_kids hv) hf)) (val_kids hv))
theorem chg_kind {c : Option Nd} {l : List ByteArray} {n r : Nd} (h : chgF c l n = .ok r) : r.kind = n.kind :=
  chg_ind (c := c) (fun n r => r.kind = n.kind) (fun _ n ks _ _ => with_kind n ks) (fun _ n _ _ _ _ _ => with_kind n _) h
/-- A tree that may be stays one. -/
theorem cut_check {up : Bool} {l : List ByteArray} {n r : Nd} (hn : tfF up n = 0) (h : chgF none l n = .ok r) : tfF up r = 0 := by
  obtain ⟨h1, h2, h3⟩ := (tf_val up n).1 hn
  refine (tf_val up r).2 ⟨(chg_kind h).trans h1, cut_val h 0 h2, ?_⟩
  have := chg_cnt h
  show cnt r ≤ 60
  simp only [cntO] at this; omega
theorem fk_above {up : Bool} {deep : Nat} {q : ByteArray} : ∀ {l : Kds} {p : ByteArray}, ValL up deep (some p) l → (q = p ∨ ltB q p = true) → fk q l = none
  | [], p, _, _ => rfl
  | (n, x) :: l, p, h, hq => by
    rw [ValL] at h
    have hlt : ltB q n = true := by
      rcases hq with rfl | hq
      · exact h.2.1
      · exact ltB_trans hq h.2.1
    rw [fk, if_neg (fun e => ltB_ne hlt e.symm)]
    exact fk_above h.2.2.2 (.inr hlt)
theorem fk_del {up : Bool} {deep : Nat} {m : ByteArray} : ∀ {ks : Kds} {p : Option ByteArray}, ValL up deep p ks → fk m (delk m ks) = none
  | [], p, _ => rfl
  | (n, x) :: l, p, h => by
    rw [ValL] at h
    rw [delk]
    by_cases e : n = m
    · rw [if_pos e]; subst e; exact fk_above h.2.2.2 (.inl rfl)
    · rw [if_neg e, fk, if_neg e]; exact fk_del h.2.2.2
/-- What is cut away is not there. -/
theorem find_cut {up : Bool} : ∀ {l : List ByteArray} {n r : Nd} {deep : Nat}, chgF none l n = .ok r → Val up deep n → findF l r = none
  | [], n, r, _, h, _ => by rw [chgF] at h; cases h
  | [m], n, r, deep, h, hv => by
    rw [chg_one] at h
    by_cases hk : n.kind ≠ 2
    · rw [if_pos hk] at h; cases h
    rw [if_neg hk] at h
    cases hl : lastG none m n.kids with
    | error f => rw [hl] at h; cases h
    | ok ks =>
      rw [hl] at h
      simp only [Except.map, Except.ok.injEq] at h
      subst h
      rcases last_parts hl with ⟨x, q, _⟩ | ⟨_, _, rfl⟩
      · cases q
      · rw [find_fk, with_kind, if_neg hk, with_kids, fk_del (val_kids hv)]
  | m :: m' :: l, n, r, deep, h, hv => by
    rw [chg_fk] at h
    by_cases hk : n.kind ≠ 2
    · rw [if_pos hk] at h; cases h
    rw [if_neg hk] at h
    cases hf : fk m n.kids with
    | none => rw [hf] at h; cases h
    | some y =>
      rw [hf] at h
      simp only at h
      cases hc : chgF none (m' :: l) y with
      | error f => rw [hc] at h; cases h
      | ok z =>
        rw [hc] at h
        simp only [Except.map, Except.ok.injEq] at h
        subst h
        rw [find_fk, with_kind, if_neg hk, with_kids, fk_set (by rw [hf]; simp)]
        exact find_cut hc (valL_fk (val_kids hv) hf)
theorem lilL_fk {m : ByteArray} {y : Nd} : ∀ {ks : Kds}, LilL ks → fk m ks = some y → Lil y
  | [], _, h => by cases h
  | (n, x) :: l, ha, h => by
    rw [LilL] at ha
    rw [fk] at h
    by_cases e : n = m
    · rw [if_pos e] at h; simp only [Option.some.injEq] at h; subst h; exact ha.2.1
    · rw [if_neg e] at h; exact lilL_fk ha.2.2 h
theorem lilL_set {m : ByteArray} {z : Nd} (hz : Lil z) : ∀ {ks : Kds}, LilL ks → LilL (setk m z ks)
  | [], _ => by rw [setk, LilL]; trivial
  | (n, x) :: l, ha => by
    rw [LilL] at ha
    rw [setk]
    by_cases e : n = m
    · rw [if_pos e, LilL]; subst e; exact ⟨ha.1, hz, ha.2.2⟩
    · rw [if_neg e, LilL]; exact ⟨ha.1, ha.2.1, lilL_set hz ha.2.2⟩
theorem lilL_del {m : ByteArray} : ∀ {ks : Kds}, LilL ks → LilL (delk m ks)
  | [], _ => by rw [delk, LilL]; trivial
  | (n, x) :: l, ha => by
    rw [LilL] at ha
    rw [delk]
    split
    · exact ha.2.2
    · rw [LilL]; exact ⟨ha.1, ha.2.1, lilL_del ha.2.2⟩
theorem lil_with {x : Nd} {ks : Kds} : Lil (x.with ks) ↔ Lil (x.with []) ∧ LilL ks := by
  obtain ⟨k, m, u, g, o, at_, d, ks'⟩ := x
  show Lil (.mk k m u g o at_ d ks) ↔ Lil (.mk k m u g o at_ d []) ∧ LilL ks
  rw [Lil, Lil, LilL]
  exact ⟨fun h => ⟨⟨h.1, h.2.1, trivial⟩, h.2.2⟩, fun h => ⟨h.1.1, h.1.2.1, h.2⟩⟩
theorem cut_lil {l : List ByteArray} {n r : Nd} (h : chgF none l n = .ok r) : Lil n → Lil r := by
  refine chg_ind (c := none) (fun n r => Lil n → Lil r) ?_ ?_ h
  · intro m n ks _ hl hn
    rw [← with_self n, lil_with] at hn
    rw [lil_with]
    refine ⟨hn.1, ?_⟩
    rcases last_parts hl with ⟨x, q, _⟩ | ⟨_, _, rfl⟩
    · cases q
    · exact lilL_del hn.2
  · intro m n y z _ hf hz hn
    rw [← with_self n, lil_with] at hn
    rw [lil_with]
    exact ⟨hn.1, lilL_set (hz (lilL_fk hn.2 hf)) hn.2⟩
theorem find_at1 : ∀ {l : List ByteArray} {n y : Nd}, findF l n = some y → (At1 n → At1 y) ∧ cnt y ≤ cnt n
  | [], n, y, h => by rw [findF] at h; simp only [Option.some.injEq] at h; subst h; exact ⟨id, Nat.le_refl _⟩
  | m :: l, n, y, h => by
    rw [find_fk] at h
    by_cases hk : n.kind ≠ 2
    · rw [if_pos hk] at h; cases h
    rw [if_neg hk] at h
    cases hf : fk m n.kids with
    | none => rw [hf] at h; cases h
    | some z =>
      rw [hf] at h
      simp only at h
      obtain ⟨h1, h2⟩ := find_at1 h
      have hc : cnt z ≤ cntL n.kids := by
        rcases kid_parts m n.kids 0 with ⟨_, q⟩ | ⟨j, y', _, q2, q3, _⟩
        · rw [hf] at q; cases q
        · rw [hf] at q3; simp only [Option.some.injEq] at q3; subst q3; exact cntL_get q2
      refine ⟨fun ha => h1 ?_, by rw [cnt_nd n]; omega⟩
      rw [← with_self n, at1_with] at ha
      exact at1L_fk ha.2 hf
end Go.Proofs.Ytiilppebcpkclaa
