/-
  WHAT IS READ, AS IT WAS AND AS IT MAY BE: no walk.
-/
import Derived.Test.YtkkhfnkmfkdhiabRc
namespace Go.Proofs.Ytkkhfnkmfkdhiab
open Go.RowKit

def atR : Nat → List UInt8 → Bool → List Kv × List UInt8 × Bool
  | 0, l, f => ([], l, f)
  | c + 1, l, f => (⟨ofB (txR l f).1, ofB (txR (txR l f).2.1 (txR l f).2.2).1⟩ :: (atR c (txR (txR l f).2.1 (txR l f).2.2).2.1 (txR (txR l f).2.1 (txR l f).2.2).2.2).1, (atR c (txR (txR l f).2.1 (txR l f).2.2).2.1 (txR (txR l f).2.1 (txR l f).2.2).2.2).2)
theorem txR_len (l : List UInt8) (f : Bool) : (txR l f).2.1.length ≤ l.length := Nat.le_trans (tkR_len _ _ _).2 (tkR_len 1 l f).2
theorem tkR_true (n : Nat) (l : List UInt8) : (tkR n l true).2.2 = true := by unfold tkR; split <;> rfl
theorem txR_true (l : List UInt8) : (txR l true).2.2 = true := by unfold txR; rw [tkR_true]; exact tkR_true _ _
theorem atR_true : ∀ (c : Nat) (l : List UInt8), (atR c l true).2.2 = true
  | 0, _ => rfl
  | c + 1, l => by rw [atR]; simp only [txR_true]; exact atR_true c _
theorem at_opt : ∀ (c : Nat) (l : List UInt8) (f : Bool), (∃ a q, rAt c l = some (a, q) ∧ atR c l f = (a, q, f)) ∨ (rAt c l = none ∧ (atR c l f).2.2 = true)
  | 0, l, f => .inl ⟨[], l, rfl, rfl⟩
  | c + 1, l, f => by
    rw [rAt, atR]
    rcases tx_opt l f with ⟨s, q, h1, h2, h3⟩ | ⟨h1, h3⟩
    · rw [h1, h2, h3]
      simp only [Option.bind_some]
      rcases tx_opt q f with ⟨s2, q2, k1, k2, k3⟩ | ⟨k1, k3⟩
      · rw [k1, k2, k3]
        simp only [Option.bind_some]
        rcases at_opt c q2 f with ⟨a, q3, j1, j2⟩ | ⟨j1, j2⟩
        · rw [j1, j2]; exact .inl ⟨_, _, rfl, rfl⟩
        · rw [j1]; exact .inr ⟨rfl, j2⟩
      · rw [k1, k3]; exact .inr ⟨rfl, atR_true _ _⟩
    · rw [h1, h3]
      refine .inr ⟨rfl, ?_⟩
      simp only [txR_true]
      exact atR_true _ _
theorem tk_pos {n : Nat} {l : List UInt8} {f : Bool} (h : (tkR n l f).2.2 = false) : n ≤ l.length ∧ f = false ∧ (tkR n l f).2.1.length + n = l.length := by
  unfold tkR at h ⊢
  split at h
  · rename_i hn
    rw [if_pos hn]
    exact ⟨hn, h, by simp; omega⟩
  · cases h
theorem tx_pos {l : List UInt8} {f : Bool} (h : (txR l f).2.2 = false) : f = false ∧ (txR l f).2.1.length < l.length := by
  unfold txR at h ⊢
  have h1 := tk_pos h
  have h2 := tk_pos h1.2.1
  exact ⟨h2.2.1, by omega⟩
theorem tkR_nil {n : Nat} {l : List UInt8} {f : Bool} (hf : f = true → l = []) (h : (tkR n l f).2.2 = true) : (tkR n l f).2.1 = [] := by
  unfold tkR at h ⊢
  split
  · rename_i hn
    rw [if_pos hn] at h
    have := hf h
    subst this
    simp
  · rfl
theorem txR_nil {l : List UInt8} {f : Bool} (hf : f = true → l = []) (h : (txR l f).2.2 = true) : (txR l f).2.1 = [] := tkR_nil (fun e => tkR_nil hf e) h
theorem atR_nil : ∀ {c : Nat} {l : List UInt8} {f : Bool}, (f = true → l = []) → (atR c l f).2.2 = true → (atR c l f).2.1 = []
  | 0, _, _, hf, h => hf h
  | c + 1, l, f, hf, h => by rw [atR] at h ⊢; exact atR_nil (fun e => txR_nil (fun e => txR_nil hf e) e) h
theorem atR_len : ∀ (c : Nat) (l : List UInt8) (f : Bool), (atR c l f).2.1.length ≤ l.length
  | 0, _, _ => Nat.le_refl _
  | c + 1, l, f => by
    rw [atR]
    exact Nat.le_trans (atR_len c _ _) (Nat.le_trans (txR_len _ _) (txR_len _ _))
/-- All that node reads ahead of its kids. -/
structure Hdr (la : List UInt8) (fa : Bool) (kb zm zu zg ca : Nat) (A : List Kv) (sd : ByteArray) (ck : Nat) (lq : List UInt8) (fq : Bool) : Prop where
  out : ∃ lb fb lm fm lu fu lg fg lc fc lt ft ld fd, (nuV (tkR 1 la fa).1 = kb ∧ (tkR 1 la fa).2 = (lb, fb)) ∧ (nuV (tkR 2 lb fb).1 = zm ∧ (tkR 2 lb fb).2 = (lm, fm)) ∧ (nuV (tkR 2 lm fm).1 = zu ∧ (tkR 2 lm fm).2 = (lu, fu)) ∧ (nuV (tkR 2 lu fu).1 = zg ∧ (tkR 2 lu fu).2 = (lg, fg)) ∧ (nuV (tkR 1 lg fg).1 = ca ∧ (tkR 1 lg fg).2 = (lc, fc)) ∧ atR ca lc fc = (A, lt, ft) ∧ (ofB (txR lt ft).1 = sd ∧ (txR lt ft).2 = (ld, fd)) ∧ (nuV (tkR 1 ld fd).1 = ck ∧ (tkR 1 ld fd).2 = (lq, fq))
theorem Hdr.says {la : List UInt8} {fa : Bool} {kb zm zu zg ca : Nat} {A : List Kv} {sd : ByteArray} {ck : Nat} {lq : List UInt8} {fq : Bool} (h : Hdr la fa kb zm zu zg ca A sd ck lq fq) (fu : Nat) :
    (fq = false → fa = false ∧ rNd dT (fu + 1) la = (rKs (rNd dT fu) ck lq).bind fun r => some (.mk (dT kb).1 zm zu zg (dT kb).2 A sd r.1, r.2)) ∧ (fq = true → fa = false → rNd dT (fu + 1) la = none) := by
  obtain ⟨lb, fb, lm, fm, lu, fu_, lg, fg, lc, fc, lt, ft, ld, fd, ⟨a1, a2⟩, ⟨b1, b2⟩, ⟨c1, c2⟩, ⟨d1, d2⟩, ⟨e1, e2⟩, f1, ⟨g1, g2⟩, ⟨h1, h2⟩⟩ := h.out
  have t1 : ∀ {l : List UInt8} {f : Bool} {k : Nat} {l' : List UInt8} {f' : Bool}, (tkR k l f).2 = (l', f') → f = true → f' = true := fun {l f k l' f'} e hf => by
    subst hf
    have := tkR_true k l
    rw [e] at this
    exact this
  have t2 : ∀ {l : List UInt8} {f : Bool} {l' : List UInt8} {f' : Bool}, (txR l f).2 = (l', f') → f = true → f' = true := fun {l f l' f'} e hf => by
    subst hf
    have := txR_true l
    rw [e] at this
    exact this
  have t3 : fc = true → ft = true := fun hf => by
    subst hf
    have := atR_true ca lc
    rw [f1] at this
    exact this
  have m8 : fd = true → fq = true := t1 h2
  have m7 : ft = true → fq = true := fun e => m8 (t2 g2 e)
  have m6 : fc = true → fq = true := fun e => m7 (t3 e)
  have m5 : fg = true → fq = true := fun e => m6 (t1 e2 e)
  have m4 : fu_ = true → fq = true := fun e => m5 (t1 d2 e)
  have m3 : fm = true → fq = true := fun e => m4 (t1 c2 e)
  have m2 : fb = true → fq = true := fun e => m3 (t1 b2 e)
  have m1 : fa = true → fq = true := fun e => m2 (t1 a2 e)
  have hfa : fq = false → fa = false := fun e => by
    cases hh : fa with
    | false => rfl
    | true => rw [m1 hh] at e; cases e
  have key : (∃ g, fq = fa ∧ g = rNd dT (fu + 1) la ∧ g = (rKs (rNd dT fu) ck lq).bind fun r => some (.mk (dT kb).1 zm zu zg (dT kb).2 A sd r.1, r.2)) ∨ (fq = true ∧ rNd dT (fu + 1) la = none) := by
    rw [rNd]
    rcases n1_opt la fa with ⟨n, q, x1, x2, x3, _⟩ | ⟨x1, _, x3⟩
    · rw [a1] at x2; rw [a2] at x3; cases x3; subst x2
      rw [x1]
      simp only [Option.bind_some]
      rcases n2_opt lb fa with ⟨n, q, x1, x2, x3⟩ | ⟨x1, _, x3⟩
      · rw [b1] at x2; rw [b2] at x3; cases x3; subst x2
        rw [x1]
        simp only [Option.bind_some]
        rcases n2_opt lm fa with ⟨n, q, x1, x2, x3⟩ | ⟨x1, _, x3⟩
        · rw [c1] at x2; rw [c2] at x3; cases x3; subst x2
          rw [x1]
          simp only [Option.bind_some]
          rcases n2_opt lu fa with ⟨n, q, x1, x2, x3⟩ | ⟨x1, _, x3⟩
          · rw [d1] at x2; rw [d2] at x3; cases x3; subst x2
            rw [x1]
            simp only [Option.bind_some]
            rcases n1_opt lg fa with ⟨n, q, x1, x2, x3, _⟩ | ⟨x1, _, x3⟩
            · rw [e1] at x2; rw [e2] at x3; cases x3; subst x2
              rw [x1]
              simp only [Option.bind_some]
              rcases at_opt ca lc fa with ⟨a, q, x1, x2⟩ | ⟨x1, x2⟩
              · rw [f1] at x2; cases x2
                rw [x1]
                simp only [Option.bind_some]
                rcases tx_opt lt fa with ⟨s, q, x1, x2, x3⟩ | ⟨x1, x3⟩
                · rw [g1] at x2; rw [g2] at x3; cases x3; subst x2
                  rw [x1]
                  simp only [Option.bind_some]
                  rcases n1_opt ld fa with ⟨n, q, x1, x2, x3, _⟩ | ⟨x1, _, x3⟩
                  · rw [h1] at x2; rw [h2] at x3; cases x3; subst x2
                    rw [x1]
                    exact .inl ⟨_, rfl, rfl, rfl⟩
                  · rw [h2] at x3; cases x3; rw [x1]; exact .inr ⟨rfl, rfl⟩
                · rw [g2] at x3; cases x3; rw [x1]; exact .inr ⟨m8 rfl, rfl⟩
              · rw [f1] at x2; rw [x1]; exact .inr ⟨m7 x2, rfl⟩
            · rw [e2] at x3; cases x3; rw [x1]; exact .inr ⟨m6 rfl, rfl⟩
          · rw [d2] at x3; cases x3; rw [x1]; exact .inr ⟨m5 rfl, rfl⟩
        · rw [c2] at x3; cases x3; rw [x1]; exact .inr ⟨m4 rfl, rfl⟩
      · rw [b2] at x3; cases x3; rw [x1]; exact .inr ⟨m3 rfl, rfl⟩
    · rw [a2] at x3; cases x3; rw [x1]; exact .inr ⟨m2 rfl, rfl⟩
  rcases key with ⟨g, e0, e1, e2⟩ | ⟨e0, e1⟩
  · exact ⟨fun e => ⟨hfa e, by rw [← e1]; exact e2⟩, fun e e' => by rw [e0, e'] at e; cases e⟩
  · exact ⟨fun e => (by rw [e0] at e; cases e), fun _ _ => e1⟩
theorem rKs_zero (g : List UInt8 → Option (Nd × List UInt8)) (l : List UInt8) : rKs g 0 l = some ([], l) := rfl
/-- What stands while the kids are read. -/
structure KR (g : List UInt8 → Option (Nd × List UInt8)) (c0 : Nat) (l0 : List UInt8) (n0 : Nat) (f0 : Bool) (j : Nat) (K : Kds) (l : List UInt8) (n : Nat) (f : Bool) : Prop where
  ok : f = false → f0 = false ∧ n = n0 + cntL K ∧ n ≤ 60 ∧ rKs g c0 l0 = (rKs g j l).bind fun r => some (K ++ r.1, r.2)
  bad : f = true → f0 = false → ∀ ks q, rKs g c0 l0 = some (ks, q) → 60 < n0 + cntL ks
theorem KR.start {g : List UInt8 → Option (Nd × List UInt8)} {c0 : Nat} {l0 : List UInt8} {n0 : Nat} {f0 : Bool} (h : f0 = false → n0 ≤ 60) : KR g c0 l0 n0 f0 c0 [] l0 n0 f0 := by
  refine ⟨fun e => ⟨e, by simp [cntL], h e, ?_⟩, fun e e' => by rw [e] at e'; cases e'⟩
  cases rKs g c0 l0 <;> rfl
theorem KR.next {g : List UInt8 → Option (Nd × List UInt8)} {c0 : Nat} {l0 : List UInt8} {n0 : Nat} {f0 : Bool} {j : Nat} {K : Kds} {l : List UInt8} {n : Nat} (h : KR g c0 l0 n0 f0 (j + 1) K l n false) {nm : ByteArray} {l3 : List UInt8} {f3 : Bool} (ht1 : ofB (txR l false).1 = nm) (ht2 : (txR l false).2 = (l3, f3)) {x : Nd} {l4 : List UInt8} {n4 : Nat} {f4 : Bool}
    (hok : f4 = false → f3 = false ∧ n4 ≤ 60 ∧ g l3 = some (x, l4) ∧ n4 = n + cnt x) (hbad : f4 = true → f3 = false → ∀ y q, g l3 = some (y, q) → 60 < n + cnt y) : KR g c0 l0 n0 f0 j (K ++ [(nm, x)]) l4 n4 f4 := by
  obtain ⟨e0, e1, e2, e3⟩ := h.ok rfl
  rw [rKs] at e3
  rcases tx_opt l false with ⟨s, q, x1, x2, x3⟩ | ⟨x1, x3⟩
  · rw [ht1] at x2; rw [ht2] at x3; cases x3; subst x2
    rw [x1] at e3
    simp only [Option.bind_some] at e3
    refine ⟨fun e => ?_, fun e _ ks q hk => ?_⟩
    · obtain ⟨_, k2, k3, k4⟩ := hok e
      rw [k3] at e3
      simp only [Option.bind_some] at e3
      refine ⟨e0, ?_, k2, ?_⟩
      · rw [cntL_append, k4, e1]; simp [cntL]; omega
      · rw [e3]
        cases rKs g j l4 with
        | none => rfl
        | some r => simp
    · rw [hk] at e3
      cases hg : g l3 with
      | none => rw [hg] at e3; cases e3
      | some y =>
        have hb := hbad e rfl y.1 y.2 hg
        rw [hg] at e3
        simp only [Option.bind_some] at e3
        cases hr : rKs g j y.2 with
        | none => rw [hr] at e3; cases e3
        | some r =>
          rw [hr] at e3
          simp only [Option.bind_some, Option.some.injEq, Prod.mk.injEq] at e3
          rw [e3.1, cntL_append]
          simp only [cntL]
          omega
  · rw [x1] at e3
    rw [ht2] at x3
    cases x3
    refine ⟨fun e => ?_, fun e _ ks q hk => ?_⟩
    · have := (hok e).1; cases this
    · rw [hk] at e3; cases e3
end Go.Proofs.Ytkkhfnkmfkdhiab
