/-
  THE READER: text: the walk; what is read, as it was and as it may be.
-/
import Derived.Test.YtkkhfnkmfkdhiabRb
namespace Go.Proofs.Ytkkhfnkmfkdhiab
open Go.RowKit

/-- What text makes of what is left. -/
def txR (l : List UInt8) (f : Bool) : List UInt8 × List UInt8 × Bool := tkR (nuV (tkR 1 l f).1) (tkR 1 l f).2.1 (tkR 1 l f).2.2
theorem tkR_len (n : Nat) (l : List UInt8) (f : Bool) : (tkR n l f).1.length ≤ n ∧ (tkR n l f).2.1.length ≤ l.length := by
  unfold tkR
  split
  · simp; omega
  · simp
theorem nuV_one {l : List UInt8} (h : l.length ≤ 1) : nuV l ≤ 255 := by
  match l, h with
  | [], _ => simp [nuV]
  | [b], _ => have := b.toNat_lt; simp [nuV]; omega
theorem nuV_two {l : List UInt8} (h : l.length ≤ 2) : nuV l ≤ 65535 := by
  match l, h with
  | [], _ => simp [nuV]
  | [b], _ => have := b.toNat_lt; simp [nuV]; omega
  | [a, b], _ => have := b.toNat_lt; have := a.toNat_lt; simp [nuV]; omega

set_option maxRecDepth 100000 in
set_option maxHeartbeats 1000000 in
theorem dtext_any {W : World} {rb : Nat} {l : List UInt8} {n : Int} {f : Bool} (h : RB W rb l n f) (hl : l.length ≤ 1000000) :
    Calls Try.prog 98 #[.pointer (some ⟨rb, 0, none⟩)] W fun e w' => e = .returned (.string (ofB (txR l f).1)) ∧ But rb W w' ∧ RB w' rb (txR l f).2.1 n (txR l f).2.2 := by
  have HC : Hid (Calls Try.prog 97 #[.pointer (some ⟨rb, 0, none⟩), .int .i64 (1 : Nat)] W fun e w' => e = .returned (.int .i64 (nuV (tkR 1 l f).1)) ∧ But rb W w' ∧ RB w' rb (tkR 1 l f).2.1 n (tkR 1 l f).2.2) := dnumber_any h 1 (by omega) hl
  have h1 := tkR_len 1 l f
  have h2 := nuV_one h1.1
  unfold txR
  clear h
  generalize tkR 1 l f = T at *
  obtain ⟨s, l', f'⟩ := T
  dsimp only at *
  generalize nuV s = k at *
  go_enter Try.func98, Try.ntmps98
  go_wp2_with fail
  refine Calls.mono HC.out ?_
  rintro e w1 ⟨rfl, hb, hr⟩
  have HC2 : Hid (Calls Try.prog 132 #[.pointer (some ⟨rb, 0, none⟩), .int .i64 k] w1 fun e w' => e = .returned (.string (ofB (tkR k l' f').1)) ∧ But rb w1 w' ∧ RB w' rb (tkR k l' f').2.1 n (tkR k l' f').2.2) := dtake_any hr k (by omega) (by omega)
  clear HC
  go_wp2_with fail
  refine Calls.mono HC2.out ?_
  rintro e w2 ⟨rfl, hb2, hr2⟩
  go_wp2
  go_ret
  exact ⟨rfl, hb.trans hb2, hr2⟩

/-- The bit that tells of what is opaque. -/
def dT (n : Nat) : Int × Bool := (bits .andNot .i64 n 8, bits .and .i64 n 8 != 0)
theorem dT_all : ∀ n : Fin 256, (if (dT n.val).2 = true then (dT n.val).1 + 8 else (dT n.val).1) = (n.val : Int) ∧ 0 ≤ (dT n.val).1 ∧ (dT n.val).1 ≤ 255 := by decide +kernel
theorem dT_back : ∀ (k : Fin 8) (o : Bool), dT (if o = true then (k.val : Int) + 8 else (k.val : Int)).toNat = ((k.val : Int), o) := by decide +kernel
theorem tk_opt (n : Nat) (l : List UInt8) (f : Bool) : (∃ s q, rTk n l = some (s, q) ∧ tkR n l f = (s.data.toList, q, f)) ∨ (rTk n l = none ∧ tkR n l f = ([], [], true)) := by
  unfold rTk tkR
  by_cases h : n ≤ l.length
  · rw [if_pos h, if_pos h]; exact .inl ⟨_, _, rfl, rfl⟩
  · rw [if_neg h, if_neg h]; exact .inr ⟨rfl, rfl⟩
theorem n1_opt (l : List UInt8) (f : Bool) : (∃ n q, rN1 l = some (n, q) ∧ nuV (tkR 1 l f).1 = n ∧ (tkR 1 l f).2 = (q, f) ∧ n ≤ 255) ∨ (rN1 l = none ∧ nuV (tkR 1 l f).1 = 0 ∧ (tkR 1 l f).2 = ([], true)) := by
  cases l with
  | nil => exact .inr ⟨rfl, rfl, rfl⟩
  | cons b l => have := b.toNat_lt; exact .inl ⟨b.toNat, l, rfl, by simp [tkR, nuV], by simp [tkR], by omega⟩
theorem n2_opt (l : List UInt8) (f : Bool) : (∃ n q, rN2 l = some (n, q) ∧ nuV (tkR 2 l f).1 = n ∧ (tkR 2 l f).2 = (q, f)) ∨ (rN2 l = none ∧ nuV (tkR 2 l f).1 = 0 ∧ (tkR 2 l f).2 = ([], true)) := by
  match l with
  | [] => exact .inr ⟨rfl, rfl, rfl⟩
  | [b] => exact .inr ⟨rfl, by simp [tkR, nuV], by simp [tkR]⟩
  | a :: b :: l => exact .inl ⟨_, l, rfl, by simp [tkR, nuV], by simp [tkR]⟩
theorem tx_opt (l : List UInt8) (f : Bool) : (∃ s q, rTx l = some (s, q) ∧ ofB (txR l f).1 = s ∧ (txR l f).2 = (q, f)) ∨ (rTx l = none ∧ (txR l f).2 = ([], true)) := by
  unfold rTx txR
  rcases n1_opt l f with ⟨n, q, h1, h2, h3, h4⟩ | ⟨h1, h2, h3⟩
  · rw [h1, h2, h3]
    rcases tk_opt n q f with ⟨s, q2, k1, k2⟩ | ⟨k1, k2⟩
    · exact .inl ⟨s, q2, k1, by rw [k2]; rfl, by rw [k2]⟩
    · exact .inr ⟨k1, by rw [k2]⟩
  · rw [h1, h2, h3]
    exact .inr ⟨rfl, by simp [tkR]⟩
theorem tx_opt_nil (f : Bool) : (txR [] f).2 = ([], true) := by simp [txR, tkR, nuV]
end Go.Proofs.Ytkkhfnkmfkdhiab
