/-
  WHAT HOLDS OF RIGHTS: two things just if each; capabilities; more of them.
-/
import Derived.Test.YtoojeehgkejeeaaPc
namespace Go.Proofs.Ytoojeehgkejeeaa
open Go.RowKit

theorem nat_of {n : Int} {k : Nat} (h0 : 0 ≤ n) (h1 : n < k) : ∃ m : Fin k, n = ((m : Nat) : Int) := by
  obtain ⟨j, rfl⟩ := Int.eq_ofNat_of_zero_le h0
  exact ⟨⟨j, by omega⟩, rfl⟩
theorem nat_of_two {n : Int} (h0 : 0 ≤ n) (h1 : n ≤ 4095) : ∃ a b : Fin 64, n = ((64 * (a : Nat) + (b : Nat) : Nat) : Int) := by
  obtain ⟨j, rfl⟩ := Int.eq_ofNat_of_zero_le h0
  exact ⟨⟨j / 64, by omega⟩, ⟨j % 64, by omega⟩, by simp only [Nat.div_add_mod]⟩

theorem and_mod {n w : Int} (h0 : 0 ≤ n) (h1 : n ≤ 4095) (w0 : 0 ≤ w) (w1 : w ≤ 7) : bits .and .i64 n w = bits .and .i64 (n % 8) w := by
  obtain ⟨a, b, rfl⟩ := nat_of_two h0 h1
  obtain ⟨v, rfl⟩ := nat_of (k := 8) w0 (by omega)
  have key : ∀ v : Fin 8, ∀ a b : Fin 64, bits .and .i64 ((64 * (a : Nat) + (b : Nat) : Nat) : Int) ((v : Nat) : Int) = bits .and .i64 (((64 * (a : Nat) + (b : Nat) : Nat) : Int) % 8) ((v : Nat) : Int) := by decide +kernel
  exact key v a b
theorem go_any {m : Int} (h0 : 0 ≤ m) (h1 : m ≤ 4095) (h : m % 2 = 1 ∨ m / 8 % 2 = 1 ∨ m / 64 % 2 = 1) : (bits .and .i64 m 73 != 0) = true := by
  obtain ⟨a, b, rfl⟩ := nat_of_two h0 h1
  have key : ∀ a b : Fin 64, (((64 * (a : Nat) + (b : Nat) : Nat) : Int) % 2 = 1 ∨ ((64 * (a : Nat) + (b : Nat) : Nat) : Int) / 8 % 2 = 1 ∨ ((64 * (a : Nat) + (b : Nat) : Nat) : Int) / 64 % 2 = 1) → (bits .and .i64 ((64 * (a : Nat) + (b : Nat) : Nat) : Int) 73 != 0) = true := by decide +kernel
  exact key a b h
theorem or_bd {a b : Int} (a0 : 0 ≤ a) (a1 : a ≤ 7) (b0 : 0 ≤ b) (b1 : b ≤ 7) : 0 ≤ bits .or .i64 a b ∧ bits .or .i64 a b ≤ 7 := by
  obtain ⟨x, rfl⟩ := nat_of (k := 8) a0 (by omega)
  obtain ⟨y, rfl⟩ := nat_of (k := 8) b0 (by omega)
  have key : ∀ x y : Fin 8, 0 ≤ bits .or .i64 ((x : Nat) : Int) ((y : Nat) : Int) ∧ bits .or .i64 ((x : Nat) : Int) ((y : Nat) : Int) ≤ 7 := by decide +kernel
  exact key x y
theorem pair_key : ∀ r x y : Fin 8, ∀ M X : Bool, (((r : Nat) : Int) % 2 = 1 → X = true) →
    ((bits .and .i64 ((r : Nat) : Int) (bits .or .i64 ((x : Nat) : Int) ((y : Nat) : Int)) == bits .or .i64 ((x : Nat) : Int) ((y : Nat) : Int)) || (M && (X || bits .and .i64 (bits .or .i64 ((x : Nat) : Int) ((y : Nat) : Int)) 1 == 0))) =
    (((bits .and .i64 ((r : Nat) : Int) ((x : Nat) : Int) == ((x : Nat) : Int)) || (M && (X || bits .and .i64 ((x : Nat) : Int) 1 == 0))) && ((bits .and .i64 ((r : Nat) : Int) ((y : Nat) : Int) == ((y : Nat) : Int)) || (M && (X || bits .and .i64 ((y : Nat) : Int) 1 == 0)))) := by decide +kernel
theorem cap_key : ∀ c m : Fin 16, ((bits .and .i64 ((c : Nat) : Int) 2 == 2) = true → (bits .and .i64 (bits .or .i64 ((c : Nat) : Int) ((m : Nat) : Int)) 2 == 2) = true) ∧ ((bits .and .i64 ((c : Nat) : Int) 4 == 4) = true → (bits .and .i64 (bits .or .i64 ((c : Nat) : Int) ((m : Nat) : Int)) 4 == 4) = true) := by decide +kernel
theorem cap_more {c m : Int} (c0 : 0 ≤ c) (c1 : c ≤ 15) (m0 : 0 ≤ m) (m1 : m ≤ 15) : ((bits .and .i64 c 2 == 2) = true → (bits .and .i64 (bits .or .i64 c m) 2 == 2) = true) ∧ ((bits .and .i64 c 4 == 4) = true → (bits .and .i64 (bits .or .i64 c m) 4 == 4) = true) := by
  obtain ⟨x, rfl⟩ := nat_of (k := 16) c0 (by omega)
  obtain ⟨y, rfl⟩ := nat_of (k := 16) m0 (by omega)
  exact cap_key x y

theorem cntF_bd {u g : Int} {zs : List Int} {m tu tg : Int} {mp : Bool} (h0 : 0 ≤ m) (h1 : m ≤ 4095) : 0 ≤ cntF u g zs m tu tg mp ∧ cntF u g zs m tu tg mp ≤ 4095 ∧ (cntF u g zs m tu tg mp % 8 % 2 = 1 → (bits .and .i64 m 73 != 0) = true) := by
  unfold cntF
  split
  · exact ⟨by omega, by omega, fun h => go_any h0 h1 (by omega)⟩
  · split
    · exact ⟨by omega, by omega, fun h => go_any h0 h1 (by omega)⟩
    · exact ⟨by omega, by omega, fun h => go_any h0 h1 (by omega)⟩

theorem may_in {u g : Int} {zs : List Int} {c : Int} {d : Bool} {m tu tg : Int} {mp : Bool} {w : Int} (w0 : 0 ≤ w) (w1 : w ≤ 7) (h0 : 0 ≤ m) (h1 : m ≤ 4095) :
    mayB u g zs c d m tu tg mp w = ((bits .and .i64 (cntF u g zs m tu tg mp % 8) w == w) || ((mp && bits .and .i64 c 2 == 2) && ((d || bits .and .i64 m 73 != 0) || bits .and .i64 w 1 == 0))) := by
  obtain ⟨n0, n1, _⟩ := cntF_bd (u := u) (g := g) (zs := zs) (tu := tu) (tg := tg) (mp := mp) h0 h1
  unfold mayB passB
  rw [if_neg (by omega), and_mod n0 n1 w0 w1]
  congr 2
  cases d <;> simp [Bool.or_comm]

/-- One may do two things just if one may do each. -/
theorem may_both {u g : Int} {zs : List Int} {c : Int} {d : Bool} {m tu tg : Int} {mp : Bool} {a b : Int} (a0 : 0 ≤ a) (a1 : a ≤ 7) (b0 : 0 ≤ b) (b1 : b ≤ 7) (h0 : 0 ≤ m) (h1 : m ≤ 4095) :
    mayB u g zs c d m tu tg mp (bits .or .i64 a b) = (mayB u g zs c d m tu tg mp a && mayB u g zs c d m tu tg mp b) := by
  obtain ⟨o0, o1⟩ := or_bd a0 a1 b0 b1
  rw [may_in o0 o1 h0 h1, may_in a0 a1 h0 h1, may_in b0 b1 h0 h1]
  obtain ⟨n0, n1, n2⟩ := cntF_bd (u := u) (g := g) (zs := zs) (tu := tu) (tg := tg) (mp := mp) h0 h1
  generalize cntF u g zs m tu tg mp = n at n0 n1 n2
  obtain ⟨r, hr⟩ := nat_of (n := n % 8) (k := 8) (by omega) (by omega)
  rw [hr] at n2 ⊢
  obtain ⟨x, rfl⟩ := nat_of (k := 8) a0 (by omega)
  obtain ⟨y, rfl⟩ := nat_of (k := 8) b0 (by omega)
  exact pair_key r x y _ _ (fun h => by rw [n2 h]; simp)
theorem may_bare {u g : Int} {zs : List Int} {c c' : Int} {d : Bool} {m tu tg w : Int} : mayB u g zs c d m tu tg false w = mayB u g zs c' d m tu tg false w := by
  simp [mayB, passB]
theorem may_rich {u g : Int} {zs : List Int} {c more : Int} {d : Bool} {m tu tg : Int} {mp : Bool} {w : Int} (c0 : 0 ≤ c) (c1 : c ≤ 15) (m0 : 0 ≤ more) (m1 : more ≤ 15) (h : mayB u g zs c d m tu tg mp w = true) : mayB u g zs (bits .or .i64 c more) d m tu tg mp w = true := by
  unfold mayB at *
  split at h
  · cases h
  · rename_i hw
    rw [if_neg hw]
    rcases Bool.or_eq_true_iff.1 h with h | h
    · rw [h]; rfl
    · unfold passB at *
      rw [Bool.and_eq_true_iff, Bool.and_eq_true_iff] at h
      rw [h.1.1, h.2, (cap_more c0 c1 m0 m1).1 h.1.2]; simp
theorem own_rich {u c more tu : Int} {mp : Bool} (c0 : 0 ≤ c) (c1 : c ≤ 15) (m0 : 0 ≤ more) (m1 : more ≤ 15) (h : ownB u c tu mp = true) : ownB u (bits .or .i64 c more) tu mp = true := by
  unfold ownB at *
  rcases Bool.or_eq_true_iff.1 h with h | h
  · rw [h]; rfl
  · rw [Bool.and_eq_true_iff] at h
    rw [h.1, (cap_more c0 c1 m0 m1).2 h.2]; simp
theorem take_rich {u c more dm du tu : Int} {dmp mp : Bool} (c0 : 0 ≤ c) (c1 : c ≤ 15) (m0 : 0 ≤ more) (m1 : more ≤ 15) (h : takeB u c dm du dmp tu mp = true) : takeB u (bits .or .i64 c more) dm du dmp tu mp = true := by
  unfold takeB at *
  rw [Bool.or_eq_true_iff, Bool.or_eq_true_iff] at *
  rcases h with (h | h) | h
  · exact .inl (.inl h)
  · exact .inl (.inr (own_rich c0 c1 m0 m1 h))
  · exact .inr h
end Go.Proofs.Ytoojeehgkejeeaa
