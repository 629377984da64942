/-
  THE DOCUMENT's READER: text, number: the walks.
-/
import Derived.Test.YtkkhfnkmfkdhiabRd
import Derived.BigQuiet
namespace Go.Proofs.Ytkkhfnkmfkdhiab
open Go.RowKit

/-- The document's reader in memory. -/
def SBL (w : World) (sb : Nat) (S : List UInt8) (l : List UInt8) (f : Bool) : Prop := ∃ q : Nat, BX w sb [.string (ofB S), .int .i64 q, .bool f] ∧ q ≤ S.length ∧ (f = false → l = S.drop q) ∧ (f = true → l = [])
theorem SBL.below {w w' : World} {sb : Nat} {S l : List UInt8} {f : Bool} (h : SBL w sb S l f) (hb : Below w.heap.size w w') : SBL w' sb S l f := by
  obtain ⟨q, h1, h2⟩ := h
  exact ⟨q, h1.below hb, h2⟩
theorem SBL.lt {w : World} {sb : Nat} {S l : List UInt8} {f : Bool} (h : SBL w sb S l f) : sb < w.heap.size := by
  obtain ⟨q, h1, h2⟩ := h
  exact h1.lt
theorem SBL.grown {w w' : World} {sb : Nat} {S l : List UInt8} {f : Bool} {row : Option Nat} (h : SBL w sb S l f) (hb : w.grownBy w' row) (hne : some sb ≠ row) : SBL w' sb S l f := by
  obtain ⟨q, h1, h2⟩ := h
  exact ⟨q, h1.grown hb hne, h2⟩
theorem SBL.other {w : World} {sb c i : Nat} {S l : List UInt8} {f : Bool} (h : SBL w sb S l f) (hne : sb ≠ c) (u : Value) : SBL (w.setCell ⟨c, i, none⟩ u) sb S l f := by
  obtain ⟨q, h1, h2⟩ := h
  exact ⟨q, h1.other hne u, h2⟩
theorem SBL.but {w w' : World} {sb c : Nat} {S l : List UInt8} {f : Bool} (h : SBL w sb S l f) (hb : But c w w') (hne : sb ≠ c) : SBL w' sb S l f := by
  obtain ⟨q, h1, h2⟩ := h
  exact ⟨q, h1.but hb hne, h2⟩
theorem SBL.nil {w : World} {sb : Nat} {S l : List UInt8} {f : Bool} (h : SBL w sb S l f) : f = true → l = [] := by
  obtain ⟨q, h1, h2, h3, h4⟩ := h
  exact h4
theorem SBL.len {w : World} {sb : Nat} {S l : List UInt8} {f : Bool} (h : SBL w sb S l f) : l.length ≤ S.length := by
  obtain ⟨q, h1, h2, h3, h4⟩ := h
  cases f with
  | true => rw [h4 rfl]; simp
  | false => rw [h3 rfl]; simp
theorem ofB_mid (l : List UInt8) (a b : Nat) : (ofB l).extract a b = ofB ((l.drop a).take (b - a)) := by
  apply ByteArray.ext
  simp [ofB, ByteArray.extract, ByteArray.copySlice]

set_option maxRecDepth 100000 in
set_option maxHeartbeats 1000000 in
theorem stext_any {W : World} {sb : Nat} {S l : List UInt8} {f : Bool} (h : SBL W sb S l f) (k : Nat) (hk : k ≤ 1000) (hS : S.length ≤ 100000) :
    Calls Try.prog 102 #[.pointer (some ⟨sb, 0, none⟩), .int .i64 k] W fun e w' => e = .returned (.string (ofB (tkR k l f).1)) ∧ But sb W w' ∧ SBL w' sb S (tkR k l f).2.1 (tkR k l f).2.2 := by
  obtain ⟨q, hX, hq, hl, hn⟩ := h
  have HX : Hid (BX W sb [.string (ofB S), .int .i64 q, .bool f]) := hX
  have c0 := hX.1 0 _ rfl
  have c1 := hX.1 1 _ rfl
  have c2 := hX.1 2 _ rfl
  have d1 := hX.2 1
  have d2 := hX.2 2
  have hsz := ofB_size S
  clear hX
  cases f with
  | true =>
    have el := hn rfl
    subst el
    have e : tkR k [] true = ([], [], true) := by unfold tkR; split <;> simp
    rw [e]
    generalize hs : ofB S = s at *
    go_enter Try.func102, Try.ntmps102
    go_wp2
    go_quiet (fail)
    have HX1 : Hid (BX (W.drewN nq) sb [.string s, .int .i64 q, .bool true]) := HX.out
    have HB1 : Hid (But sb W (W.drewN nq)) := (But.refl _ _).drewN nq
    clear c0 c1 c2 d1 d2 HX
    generalize W.drewN nq = w1 at HX1 HB1 ⊢
    have d2 := HX1.out.2 2
    have c2 := HX1.out.1 2 _ rfl
    go_wp2
    go_ret
    refine ⟨rfl, HB1.out.setCell _ _ _, q, ?_, hq, fun e => (by cases e), fun _ => rfl⟩
    rw [hs]
    exact HX1.out.set 2 (by simp) (.bool true)
  | false =>
    have el := hl rfl
    subst el
    have hdl : (S.drop q).length = S.length - q := by simp
    by_cases hkl : k ≤ (S.drop q).length
    · have e : tkR k (S.drop q) false = ((S.drop q).take k, (S.drop q).drop k, false) := if_pos hkl
      rw [e]
      have b1 : decide (((S.length : Int) - (q : Int)) < (k : Int)) = false := decide_eq_false (by omega)
      have ew : IntKind.i64.wrap ((S.length : Int) - (q : Int)) = (S.length : Int) - (q : Int) := wrap_small (by omega) (by omega)
      generalize hs : ofB S = s at *
      go_enter Try.func102, Try.ntmps102
      go_wp2
      go_quiet (fail)
      have HX1 : Hid (BX (W.drewN nq) sb [.string s, .int .i64 q, .bool false]) := HX.out
      have HB1 : Hid (But sb W (W.drewN nq)) := (But.refl _ _).drewN nq
      clear c0 c1 c2 d1 d2 HX
      generalize W.drewN nq = w1 at HX1 HB1 ⊢
      have d1 := HX1.out.2 1
      have c1 := HX1.out.1 1 _ rfl
      go_wp2
      have eq1 : (q : Int) + (k : Int) = ((q + k : Nat) : Int) := by omega
      rw [eq1]
      obtain ⟨m, hm⟩ : ∃ m, q + k = m := ⟨_, rfl⟩
      rw [hm]
      have ew2 : IntKind.i64.wrap ((m : Int) - (k : Int)) = (q : Int) := (wrap_small (by omega) (by omega)).trans (by omega)
      have ew3 : (m : Int) - (k : Int) = (q : Int) := by omega
      have hqk : m ≤ S.length := by omega
      have hqm : q ≤ m := by omega
      have HM : Hid (q + k = m) := hm
      have HX2 : Hid (BX (w1.setCell ⟨sb, 1, none⟩ (.int .i64 (m : Int))) sb [.string s, .int .i64 (m : Int), .bool false]) := HX1.out.set 1 (by simp) _
      have HB2 : Hid (But sb W (w1.setCell ⟨sb, 1, none⟩ (.int .i64 (m : Int)))) := HB1.out.setCell _ _ _
      clear c1 d1 HX1 HB1 eq1 hm hl hn b1 ew e hkl hdl
      generalize w1.setCell ⟨sb, 1, none⟩ (.int .i64 (m : Int)) = w2 at HX2 HB2 ⊢
      have c0 := HX2.out.1 0 _ rfl
      have c1 := HX2.out.1 1 _ rfl
      clear nq
      go_quiet (fail)
      have HX3 : Hid (BX (w2.drewN nq) sb [.string s, .int .i64 (m : Int), .bool false]) := HX2.out
      have HB3 : Hid (But sb W (w2.drewN nq)) := HB2.out.drewN nq
      clear c0 c1 HX2 HB2
      generalize w2.drewN nq = w3 at HX3 HB3 ⊢
      go_wp2
      go_ret
      have e1 : s.extract q m = ofB ((S.drop q).take k) := by
        rw [← hs, ofB_mid, show m - q = k by have := HM.out; omega]
      rw [e1]
      refine ⟨rfl, HB3.out, m, ?_, hqk, fun _ => ?_, fun e => (by cases e)⟩
      · rw [hs]; exact HX3.out
      · rw [List.drop_drop, HM.out]
    · have e : tkR k (S.drop q) false = ([], [], true) := if_neg hkl
      rw [e]
      have b1 : decide (((S.length : Int) - (q : Int)) < (k : Int)) = true := decide_eq_true (by omega)
      have ew : IntKind.i64.wrap ((S.length : Int) - (q : Int)) = (S.length : Int) - (q : Int) := wrap_small (by omega) (by omega)
      generalize hs : ofB S = s at *
      go_enter Try.func102, Try.ntmps102
      go_wp2
      go_quiet (fail)
      have HX1 : Hid (BX (W.drewN nq) sb [.string s, .int .i64 q, .bool false]) := HX.out
      have HB1 : Hid (But sb W (W.drewN nq)) := (But.refl _ _).drewN nq
      clear c0 c1 c2 d1 d2 HX
      generalize W.drewN nq = w1 at HX1 HB1 ⊢
      have d2 := HX1.out.2 2
      have c2 := HX1.out.1 2 _ rfl
      go_wp2
      go_ret
      refine ⟨rfl, HB1.out.setCell _ _ _, q, ?_, hq, fun e => (by cases e), fun _ => rfl⟩
      rw [hs]
      exact HX1.out.set 2 (by simp) (.bool true)
theorem add_byte (x : Nat) (b : UInt8) (hx : x < 256) : wrap64 (wrap64 ((x : Int) * 256) + (b.toNat : Int)) = ((x * 256 + b.toNat : Nat) : Int) := by
  have hb := b.toNat_lt
  have e1 : wrap64 ((x : Int) * 256) = ((x * 256 : Nat) : Int) := by rw [wrap64]; omega
  rw [e1]
  rw [wrap64]
  omega

set_option maxRecDepth 100000 in
set_option maxHeartbeats 1000000 in
theorem snumber_any {W : World} {sb : Nat} {S l : List UInt8} {f : Bool} (h : SBL W sb S l f) (k : Nat) (hk : k ≤ 2) (hS : S.length ≤ 100000) :
    Calls Try.prog 101 #[.pointer (some ⟨sb, 0, none⟩), .int .i64 k] W fun e w' => e = .returned (.int .i64 (nuV (tkR k l f).1)) ∧ But sb W w' ∧ SBL w' sb S (tkR k l f).2.1 (tkR k l f).2.2 := by
  have HC : Hid (Calls Try.prog 102 #[.pointer (some ⟨sb, 0, none⟩), .int .i64 k] W fun e w' => e = .returned (.string (ofB (tkR k l f).1)) ∧ But sb W w' ∧ SBL w' sb S (tkR k l f).2.1 (tkR k l f).2.2) := stext_any h k (by omega) hS
  have hlen : (tkR k l f).1.length ≤ 2 := Nat.le_trans (tkR_len k l f).1 hk
  clear h
  generalize tkR k l f = T at *
  obtain ⟨s, l', f'⟩ := T
  dsimp only at *
  have hsz := ofB_size s
  go_enter Try.func101, Try.ntmps101
  go_wp2_with fail
  refine Calls.mono HC.out ?_
  rintro e w1 ⟨rfl, hb, hr⟩
  have HFin : Hid (But sb W w1 ∧ SBL w1 sb S l' f') := ⟨hb, hr⟩
  have HBS : Hid (∀ (j : Nat) (b : UInt8) (h : j < (ofB s).size), s[j]? = some b → (ofB s)[j] = b) := fun j b h hj => by
    have : s[j]? = some ((ofB s)[j]) := by
      have hj2 : j < s.length := by rwa [ofB_size] at h
      rw [List.getElem?_eq_getElem hj2]
      simp [ofB]
      rfl
    rw [hj] at this
    simpa using this.symm
  clear HC hb hr
  generalize hs : ofB s = t at *
  go_wp2
  go_loopw [7, 6] (fun i x wr => ∃ j : Nat, j ≤ s.length ∧ i = .int .i64 j ∧ x = .int .i64 (nuV (s.take j)) ∧ wr = w1) (fun i _ _ => s.length - (intOf i).toNat)
  case atStart => exact ⟨0, Nat.zero_le _, rfl, by simp [nuV], rfl⟩
  case round =>
    obtain ⟨j, hj, rfl, rfl, rfl⟩ := hrel
    by_cases hjl : j < s.length
    · have hji : (j : Int) < (s.length : Int) := by omega
      obtain ⟨b, hbj⟩ : ∃ b, s[j]? = some b := ⟨s[j], by simp [hjl]⟩
      have hb2 := b.toNat_lt
      have HX : Hid (nuV (s.take (j + 1)) = nuV (s.take j) * 256 + b.toNat ∧ nuV (s.take j) < 256) := nuV_step hbj hlen
      have hjt : j < t.size := by omega
      have htb : (t[j]'hjt).toNat = b.toNat := by rw [HBS.out j b hjt hbj]
      generalize nuV (s.take j) = x at HX ⊢
      go_wp2
      go_roundw
      case rel => exact ⟨j + 1, by omega, by go_num, by rw [HX.out.1, add_byte x b HX.out.2], trivial⟩
      case measure => simp [intOf]; omega
    · have hji : decide ((j : Int) < (s.length : Int)) = false := decide_eq_false (by omega)
      have e : s.take j = s := List.take_of_length_le (by omega)
      rw [e]
      clear e
      go_wp2
      go_ret
      exact ⟨rfl, HFin.out⟩
def dR (n : Nat) : Int × Bool := if 8 ≤ n then ((n : Int) - 8, true) else ((n : Int), false)
theorem dR_sum (n : Nat) (_h : n ≤ 255) : (if (dR n).2 = true then (dR n).1 + 8 else (dR n).1) = n := by
  unfold dR
  split <;> simp
theorem dR_k (k : Int) (o : Bool) (h0 : 0 ≤ k) (h1 : k ≤ 7) : dR (if o = true then k + 8 else k).toNat = (k, o) := by
  obtain ⟨q, rfl⟩ := Int.eq_ofNat_of_zero_le h0
  unfold dR
  cases o with
  | false => simp; omega
  | true =>
    have e : (((q : Int) + 8)).toNat = q + 8 := by omega
    simp [e]
theorem txR_eq {l : List UInt8} {f : Bool} {kq : Nat} {lq : List UInt8} {fq : Bool} (h1 : nuV (tkR 1 l f).1 = kq) (h2 : (tkR 1 l f).2 = (lq, fq)) : txR l f = tkR kq lq fq := by unfold txR; rw [h1, h2]
/-- What stands while the attributes are read. -/
structure AR (c0 : Nat) (l0 : List UInt8) (f0 : Bool) (j : Nat) (A : List Kv) (l : List UInt8) (f : Bool) : Prop where
  ok : f = false → f0 = false ∧ rAt c0 l0 = (rAt j l).bind fun r => some (A ++ r.1, r.2)
  bad : f = true → f0 = false → rAt c0 l0 = none
theorem AR.start {c0 : Nat} {l0 : List UInt8} {f0 : Bool} : AR c0 l0 f0 c0 [] l0 f0 := by
  refine ⟨fun e => ⟨e, ?_⟩, fun e e' => by rw [e] at e'; cases e'⟩
  cases rAt c0 l0 <;> rfl
theorem AR.next {c0 : Nat} {l0 : List UInt8} {f0 : Bool} {j : Nat} {A : List Kv} {l : List UInt8} (h : AR c0 l0 f0 (j + 1) A l false) {s1 s2 : ByteArray} {l3 l4 : List UInt8} {f3 f4 : Bool} (h1 : ofB (txR l false).1 = s1) (h2 : (txR l false).2 = (l3, f3)) (h3 : ofB (txR l3 f3).1 = s2) (h4 : (txR l3 f3).2 = (l4, f4)) : AR c0 l0 f0 j (A ++ [⟨s1, s2⟩]) l4 f4 := by
  obtain ⟨e0, e1⟩ := h.ok rfl
  rw [rAt] at e1
  rcases tx_opt l false with ⟨s, q, x1, x2, x3⟩ | ⟨x1, x3⟩
  · rw [h1] at x2; rw [h2] at x3; cases x3; subst x2
    rw [x1] at e1
    simp only [Option.bind_some] at e1
    rcases tx_opt l3 false with ⟨s, q, x1, x2, x3⟩ | ⟨x1, x3⟩
    · rw [h3] at x2; rw [h4] at x3; cases x3; subst x2
      rw [x1] at e1
      simp only [Option.bind_some] at e1
      refine ⟨fun _ => ⟨e0, ?_⟩, fun e => by cases e⟩
      rw [e1]
      cases rAt j l4 with
      | none => rfl
      | some r => simp
    · rw [h4] at x3; cases x3
      rw [x1] at e1
      exact ⟨fun e => (by cases e), fun _ _ => e1⟩
  · rw [h2] at x3; cases x3
    rw [x1] at e1
    have : f4 = true := by
      have := txR_true ([] : List UInt8)
      rw [h4] at this
      exact this
    subst this
    exact ⟨fun e => (by cases e), fun _ _ => e1⟩
/-- All that node reads ahead of its kids. -/
structure HdS (la : List UInt8) (fa : Bool) (kb zm zu zg : Nat) (A : List Kv) (sd : ByteArray) (ck : Nat) (lq : List UInt8) (fq : Bool) : Prop where
  out : ∃ lb fb lm fm lu fu lg fg ca lc fc lt ft ld fd j, (nuV (tkR 1 la fa).1 = kb ∧ (tkR 1 la fa).2 = (lb, fb)) ∧ (nuV (tkR 2 lb fb).1 = zm ∧ (tkR 2 lb fb).2 = (lm, fm)) ∧ (nuV (tkR 2 lm fm).1 = zu ∧ (tkR 2 lm fm).2 = (lu, fu)) ∧ (nuV (tkR 2 lu fu).1 = zg ∧ (tkR 2 lu fu).2 = (lg, fg)) ∧ (nuV (tkR 1 lg fg).1 = ca ∧ (tkR 1 lg fg).2 = (lc, fc)) ∧ (AR ca lc fc j A lt ft ∧ (j = 0 ∨ ft = true)) ∧ (ofB (txR lt ft).1 = sd ∧ (txR lt ft).2 = (ld, fd)) ∧ (nuV (tkR 1 ld fd).1 = ck ∧ (tkR 1 ld fd).2 = (lq, fq))
theorem HdS.says {la : List UInt8} {fa : Bool} {kb zm zu zg : Nat} {A : List Kv} {sd : ByteArray} {ck : Nat} {lq : List UInt8} {fq : Bool} (h : HdS la fa kb zm zu zg A sd ck lq fq) (fu : Nat) :
    (fq = false → fa = false ∧ rNd dR (fu + 1) la = (rKs (rNd dR fu) ck lq).bind fun r => some (.mk (dR kb).1 zm zu zg (dR kb).2 A sd r.1, r.2)) ∧ (fq = true → fa = false → rNd dR (fu + 1) la = none) ∧ ck ≤ 255 := by
  obtain ⟨lb, fb, lm, fm, lu, fu_, lg, fg, ca, lc, fc, lt, ft, ld, fd, j, ⟨a1, a2⟩, ⟨b1, b2⟩, ⟨c1, c2⟩, ⟨d1, d2⟩, ⟨e1, e2⟩, ⟨f1, f2⟩, ⟨g1, g2⟩, ⟨h1, h2⟩⟩ := h.out
  have t1 : ∀ {l : List UInt8} {f : Bool} {k : Nat} {l' : List UInt8} {f' : Bool}, (tkR k l f).2 = (l', f') → f = true → f' = true := fun {l f k l' f'} e hf => by
    subst hf
    have := tkR_true k l
    rw [e] at this
    exact this
  have t2 : ∀ {l : List UInt8} {f : Bool} {l' : List UInt8} {f' : Bool}, (txR l f).2 = (l', f') → f = true → f' = true := fun {l f l' f'} e hf => by
    subst hf
    have := txR_true l
    rw [e] at this
    exact this
  have t3 : fc = true → ft = true := fun hf => by
    cases hh : ft with
    | true => rfl
    | false => have := (f1.ok hh).1; rw [hf] at this; cases this
  have m8 : fd = true → fq = true := t1 h2
  have m7 : ft = true → fq = true := fun e => m8 (t2 g2 e)
  have m6 : fc = true → fq = true := fun e => m7 (t3 e)
  have m5 : fg = true → fq = true := fun e => m6 (t1 e2 e)
  have m4 : fu_ = true → fq = true := fun e => m5 (t1 d2 e)
  have m3 : fm = true → fq = true := fun e => m4 (t1 c2 e)
  have m2 : fb = true → fq = true := fun e => m3 (t1 b2 e)
  have m1 : fa = true → fq = true := fun e => m2 (t1 a2 e)
  have hck : ck ≤ 255 := by rw [← h1]; exact nuV_one (tkR_len 1 ld fd).1
  cases hfa : fa with
  | true => exact ⟨fun e => (by rw [m1 hfa] at e; cases e), fun _ e => (by cases e), hck⟩
  | false =>
  subst hfa
  have key : (fq = false ∧ rNd dR (fu + 1) la = (rKs (rNd dR fu) ck lq).bind fun r => some (.mk (dR kb).1 zm zu zg (dR kb).2 A sd r.1, r.2)) ∨ (fq = true ∧ rNd dR (fu + 1) la = none) := by
    rw [rNd]
    rcases n1_opt la false with ⟨n, q, x1, x2, x3, _⟩ | ⟨x1, _, x3⟩
    · rw [a1] at x2; rw [a2] at x3; cases x3; subst x2
      rw [x1]
      simp only [Option.bind_some]
      rcases n2_opt lb false with ⟨n, q, x1, x2, x3⟩ | ⟨x1, _, x3⟩
      · rw [b1] at x2; rw [b2] at x3; cases x3; subst x2
        rw [x1]
        simp only [Option.bind_some]
        rcases n2_opt lm false with ⟨n, q, x1, x2, x3⟩ | ⟨x1, _, x3⟩
        · rw [c1] at x2; rw [c2] at x3; cases x3; subst x2
          rw [x1]
          simp only [Option.bind_some]
          rcases n2_opt lu false with ⟨n, q, x1, x2, x3⟩ | ⟨x1, _, x3⟩
          · rw [d1] at x2; rw [d2] at x3; cases x3; subst x2
            rw [x1]
            simp only [Option.bind_some]
            rcases n1_opt lg false with ⟨n, q, x1, x2, x3, _⟩ | ⟨x1, _, x3⟩
            · rw [e1] at x2; rw [e2] at x3; cases x3; subst x2
              rw [x1]
              simp only [Option.bind_some]
              cases hft : ft with
              | false =>
                subst hft
                have j0 : j = 0 := by
                  rcases f2 with e | e
                  · exact e
                  · cases e
                subst j0
                have x1 := (f1.ok rfl).2
                simp only [rAt, Option.bind_some, List.append_nil] at x1
                rw [x1]
                simp only [Option.bind_some]
                rcases tx_opt lt false with ⟨s, q, x1, x2, x3⟩ | ⟨x1, x3⟩
                · rw [g1] at x2; rw [g2] at x3; cases x3; subst x2
                  rw [x1]
                  simp only [Option.bind_some]
                  rcases n1_opt ld false with ⟨n, q, x1, x2, x3, _⟩ | ⟨x1, _, x3⟩
                  · rw [h1] at x2; rw [h2] at x3; cases x3; subst x2
                    rw [x1]
                    exact .inl ⟨rfl, rfl⟩
                  · rw [h2] at x3; cases x3; rw [x1]; exact .inr ⟨rfl, rfl⟩
                · rw [g2] at x3; cases x3; rw [x1]; exact .inr ⟨m8 rfl, rfl⟩
              | true => rw [f1.bad hft rfl]; exact .inr ⟨m7 hft, rfl⟩
            · rw [e2] at x3; cases x3; rw [x1]; exact .inr ⟨m6 rfl, rfl⟩
          · rw [d2] at x3; cases x3; rw [x1]; exact .inr ⟨m5 rfl, rfl⟩
        · rw [c2] at x3; cases x3; rw [x1]; exact .inr ⟨m4 rfl, rfl⟩
      · rw [b2] at x3; cases x3; rw [x1]; exact .inr ⟨m3 rfl, rfl⟩
    · rw [a2] at x3; cases x3; rw [x1]; exact .inr ⟨m2 rfl, rfl⟩
  rcases key with ⟨e0, e1⟩ | ⟨e0, e1⟩
  · exact ⟨fun _ => ⟨rfl, e1⟩, fun e => (by rw [e0] at e; cases e), hck⟩
  · exact ⟨fun e => (by rw [e0] at e; cases e), fun _ _ => e1, hck⟩
theorem depL_append : ∀ a b : Kds, dep.depL (a ++ b) = max (dep.depL a) (dep.depL b)
  | [], b => by simp [dep.depL]
  | (n, x) :: a, b => by simp only [List.cons_append, dep.depL, depL_append a b]; omega
/-- What stands while the kids are read. -/
structure KQ (g : List UInt8 → Option (Nd × List UInt8)) (c0 : Nat) (l0 : List UInt8) (f0 : Bool) (dp : Nat) (j : Nat) (K : Kds) (l : List UInt8) (f : Bool) : Prop where
  ok : f = false → f0 = false ∧ dp + dep.depL K ≤ 7 ∧ rKs g c0 l0 = (rKs g j l).bind fun r => some (K ++ r.1, r.2)
  bad : f = true → f0 = false → ∀ ks q, rKs g c0 l0 = some (ks, q) → 7 < dp + dep.depL ks
theorem KQ.start {g : List UInt8 → Option (Nd × List UInt8)} {c0 : Nat} {l0 : List UInt8} {f0 : Bool} {dp : Nat} (h : dp ≤ 7) : KQ g c0 l0 f0 dp c0 [] l0 f0 := by
  refine ⟨fun e => ⟨e, by simp [dep.depL]; omega, ?_⟩, fun e e' => by rw [e] at e'; cases e'⟩
  cases rKs g c0 l0 <;> rfl
theorem KQ.next {g : List UInt8 → Option (Nd × List UInt8)} {c0 : Nat} {l0 : List UInt8} {f0 : Bool} {dp j : Nat} {K : Kds} {l : List UInt8} (h : KQ g c0 l0 f0 dp (j + 1) K l false) {nm : ByteArray} {l3 : List UInt8} {f3 : Bool} (ht1 : ofB (txR l false).1 = nm) (ht2 : (txR l false).2 = (l3, f3)) {x : Nd} {l4 : List UInt8} {f4 : Bool}
    (hok : f4 = false → f3 = false ∧ g l3 = some (x, l4) ∧ dp + dep x ≤ 7) (hbad : f4 = true → f3 = false → ∀ y q, g l3 = some (y, q) → 7 < dp + dep y) : KQ g c0 l0 f0 dp j (K ++ [(nm, x)]) l4 f4 := by
  obtain ⟨e0, e2, e3⟩ := h.ok rfl
  rw [rKs] at e3
  rcases tx_opt l false with ⟨s, q, x1, x2, x3⟩ | ⟨x1, x3⟩
  · rw [ht1] at x2; rw [ht2] at x3; cases x3; subst x2
    rw [x1] at e3
    simp only [Option.bind_some] at e3
    refine ⟨fun e => ?_, fun e _ ks q hk => ?_⟩
    · obtain ⟨_, k3, k4⟩ := hok e
      rw [k3] at e3
      simp only [Option.bind_some] at e3
      refine ⟨e0, ?_, ?_⟩
      · rw [depL_append]; simp only [dep.depL]; omega
      · rw [e3]
        cases rKs g j l4 with
        | none => rfl
        | some r => simp
    · rw [hk] at e3
      cases hg : g l3 with
      | none => rw [hg] at e3; cases e3
      | some y =>
        have hb := hbad e rfl y.1 y.2 hg
        rw [hg] at e3
        simp only [Option.bind_some] at e3
        cases hr : rKs g j y.2 with
        | none => rw [hr] at e3; cases e3
        | some r =>
          rw [hr] at e3
          simp only [Option.bind_some, Option.some.injEq, Prod.mk.injEq] at e3
          rw [e3.1, depL_append]
          simp only [dep.depL]
          omega
  · rw [x1] at e3
    rw [ht2] at x3
    cases x3
    refine ⟨fun e => ?_, fun e _ ks q hk => ?_⟩
    · have := (hok e).1; cases this
    · rw [hk] at e3; cases e3
/-- What a call of node tells. -/
structure NQ (fu : Nat) (l : List UInt8) (f : Bool) (deep : Nat) (x : Nd) (l' : List UInt8) (f' : Bool) : Prop where
  len : l'.length ≤ l.length
  ok : f' = false → f = false ∧ rNd dR fu l = some (x, l') ∧ deep + dep x ≤ 7
  bad : f' = true → f = false → ∀ y q, rNd dR fu l = some (y, q) → 7 < deep + dep y
theorem dep_pos (x : Nd) : 1 ≤ dep x := by
  obtain ⟨k, m, u, g, o, at_, d, ks⟩ := x
  rw [dep]; omega
theorem NQ.of {l : List UInt8} {f : Bool} {deep : Nat} {kb zm zu zg : Nat} {A : List Kv} {sd : ByteArray} {ck : Nat} {lq : List UInt8} {fq : Bool} (hh : HdS l f kb zm zu zg A sd ck lq fq) {fu : Nat} {j : Nat} {K : Kds} {lk : List UInt8} {fk : Bool} (hk : KQ (rNd dR fu) ck lq fq (deep + 1) j K lk fk) (hj : j = 0 ∨ fk = true) (hlen : lk.length ≤ l.length) {kk : Int} {oo : Bool} (hd : (dR kb).1 = kk ∧ (dR kb).2 = oo) : NQ (fu + 1) l f deep (.mk kk zm zu zg oo A sd K) lk fk := by
  obtain ⟨s1, s2, _⟩ := hh.says fu
  rw [hd.1, hd.2] at s1
  refine ⟨hlen, fun e => ?_, fun e ef y q hy => ?_⟩
  · obtain ⟨k1, k3, k4⟩ := hk.ok e
    have j0 : j = 0 := by
      rcases hj with h | h
      · exact h
      · rw [e] at h; cases h
    subst j0
    obtain ⟨a1, a2⟩ := s1 k1
    rw [k4, rKs_zero] at a2
    simp only [Option.bind_some, List.append_nil] at a2
    exact ⟨a1, a2, by rw [dep]; omega⟩
  · cases hfq : fq with
    | true => rw [s2 hfq ef] at hy; cases hy
    | false =>
      rw [(s1 hfq).2] at hy
      cases hr : rKs (rNd dR fu) ck lq with
      | none => rw [hr] at hy; cases hy
      | some r =>
        have hb := hk.bad e hfq r.1 r.2 hr
        rw [hr] at hy
        simp only [Option.bind_some, Option.some.injEq, Prod.mk.injEq] at hy
        rw [← hy.1, dep]
        omega
end Go.Proofs.Ytkkhfnkmfkdhiab
