/-
  ROWS OF ATTRIBUTES; WHAT slices.Grow AND slices.Concat DO: the walks.
-/
import Derived.Test.YtpjhckjmahagnaaAh
import Derived.Test.YtpjhckjmahagnaaAp
import Derived.Lib.AppendZeros
namespace Go.Proofs.Ytpjhckjmahagnaa
open Go.RowKit

def flat : List Kv → List Value
  | [] => []
  | r :: l => .string r.n :: .string r.v :: flat l
theorem flat_length : ∀ L : List Kv, (flat L).length = L.length * 2
  | [] => rfl
  | r :: l => by simp [flat, flat_length l]; omega
theorem flat_append : ∀ A B : List Kv, flat (A ++ B) = flat A ++ flat B
  | [], _ => rfl
  | r :: l, B => by simp [flat, flat_append l B]
theorem flat_one : ∀ L : List Kv, ∀ u ∈ flat L, u.oneCell' = true
  | [], u, h => by cases h
  | r :: l, u, h => by
    simp [flat] at h
    rcases h with rfl | rfl | h
    · rfl
    · rfl
    · exact flat_one l u h
theorem flat_get : ∀ (L : List Kv) (k : Nat) (r : Kv), L[k]? = some r → (flat L)[k * 2]? = some (.string r.n) ∧ (flat L)[k * 2 + 1]? = some (.string r.v)
  | [], k, r, h => by simp at h
  | x :: l, 0, r, h => by simp at h; subst h; simp [flat]
  | x :: l, k + 1, r, h => by
    have := flat_get l k r (by simpa using h)
    have e : (k + 1) * 2 = k * 2 + 2 := by omega
    rw [e]
    simpa [flat] using this
/-- An owned row of attributes, read. -/
theorem kvm_of_owns {w : World} {base : Nat} {v : Value} {n : Nat} {L : List Kv} (h : w.ownsRow base 65 2 v n (flat L)) : ∃ a cap, v = .slice a n cap ∧ n ≤ cap ∧ cap ≤ maxLen ∧ Kvm w a L := by
  obtain ⟨a, cap, hv, h1, h2, hf⟩ := ownsRow_form h
  refine ⟨a, cap, hv, h1, h2, ?_⟩
  rcases hf with ⟨_, _, hx, _⟩ | ⟨g, cur, ha, _, hg, _, hx⟩
  · left
    cases L with
    | nil => rfl
    | cons r l => simp [flat] at hx
  · refine .inr ⟨g, 0, ha, fun k r hk => ?_⟩
    obtain ⟨h1, h2⟩ := flat_get L k r hk
    rw [Nat.zero_add]
    exact ⟨ownsRow_cell hg hx h1, ownsRow_cell hg hx h2⟩
theorem src_of_kvm {w : World} {a : Option Addr} {l : List Kv} (h : Kvm w a l) : (a = none ∧ l.length = 0) ∨ ∃ ad, a = some ad ∧ ∀ j u, (flat l)[j]? = some u → w.cell? (ad.add j) = some u := by
  rcases h with rfl | ⟨b, off, rfl, hc⟩
  · cases a with
    | none => exact .inl ⟨rfl, rfl⟩
    | some ad => exact .inr ⟨ad, rfl, fun j u hu => by simp [flat] at hu⟩
  · refine .inr ⟨_, rfl, fun j u hj => ?_⟩
    have hjl : j < l.length * 2 := by have := (List.getElem?_eq_some_iff.1 hj).1; rwa [flat_length] at this
    obtain ⟨r, hr⟩ : ∃ r, l[j / 2]? = some r := ⟨l[j / 2]'(by omega), List.getElem?_eq_getElem _⟩
    obtain ⟨h1, h2⟩ := hc _ r hr
    obtain ⟨f1, f2⟩ := flat_get l _ r hr
    have e : (⟨b, off, none⟩ : Addr).add j = ⟨b, off + j, none⟩ := by by_cases hj0 : j = 0 <;> simp [Addr.add, hj0]
    rw [e]
    have hm : j = j / 2 * 2 ∨ j = j / 2 * 2 + 1 := by omega
    rcases hm with hm | hm
    · rw [hm] at hj ⊢; rw [f1] at hj; cases hj; exact h1
    · rw [hm] at hj ⊢; rw [f2] at hj; cases hj; rw [← Nat.add_assoc]; exact h2
theorem Try.info65 : (Try.prog.info? 65).map (fun i => (i.zero, i.size, i.bytes)) = some (some (.agg #[.string ⟨#[]⟩, .string ⟨#[]⟩]), 2, 32) := by kernel_rfl

theorem zero_size (n : Nat) : (Builtin.zeroCells (Value.agg #[.string ⟨#[]⟩, .string ⟨#[]⟩]).cells n).size = n * 2 := by rw [size_zeroCells]; rfl

set_option maxRecDepth 100000 in
set_option maxHeartbeats 1000000 in
theorem grow_any (n : Nat) (w : World) (hn : n ≤ 1000) : Calls Try.prog 85 #[.slice none 0 0, .int .i64 n] w fun e w' => (∃ v, e = .returned v ∧ w'.ownsRow w.heap.size 65 2 v 0 (flat [])) ∧ Below w.heap.size w w' := by
  by_cases h0 : n = 0
  · subst h0
    go_enter Try.func85, Try.ntmps85
    go_wp2
    go_ret
    exact ⟨⟨_, rfl, World.ownsRow_nil _ _ _ _⟩, Below.refl _ _⟩
  obtain ⟨i0, hi0, hz0, hz1, hz2⟩ := info_parts Try.info65
  have hr : ∀ ty, (Builtin.append_ #[62, 3] ty #[.slice none 0 0, .int .i64 n]).run Try.prog w = .ok (.slice (some ⟨w.heap.size, 0, none⟩) n (grownCap w n 0 65)) (w.drew.alloc (.cells (Builtin.zeroCells (Value.agg #[.string ⟨#[]⟩, .string ⟨#[]⟩]).cells n ++ Builtin.zeroCells (Value.agg #[.string ⟨#[]⟩, .string ⟨#[]⟩]).cells (grownCap w n 0 65 - n)) 65)) := fun ty => Lib.run_append_nil_zeros w 62 3 ty 65 i0 _ .i64 .i64 Try.underlying62 Try.underlying3 hi0 hz0 n (by omega) (by rw [hz1]; decide) (by omega) (by rw [hz2]; omega)
  have hge : n ≤ grownCap w n 0 65 := grownCap_ge w n 0 65
  have hle : grownCap w n 0 65 ≤ maxLen := grownCap_le_maxLen w n 0 65 (by unfold maxLen; omega)
  have hrow : (w.drew.alloc (.cells (Builtin.zeroCells (Value.agg #[.string ⟨#[]⟩, .string ⟨#[]⟩]).cells n ++ Builtin.zeroCells (Value.agg #[.string ⟨#[]⟩, .string ⟨#[]⟩]).cells (grownCap w n 0 65 - n)) 65)).ownsRow w.heap.size 65 2 (.slice (some ⟨w.heap.size, 0, none⟩) 0 (grownCap w n 0 65)) 0 [] :=
    World.ownsRow_made w.drew _ _ (Nat.le_refl _) hle (by rw [Array.size_append, zero_size, zero_size]; omega)
  have hB : Below w.heap.size w (w.drew.alloc (.cells (Builtin.zeroCells (Value.agg #[.string ⟨#[]⟩, .string ⟨#[]⟩]).cells n ++ Builtin.zeroCells (Value.agg #[.string ⟨#[]⟩, .string ⟨#[]⟩]).cells (grownCap w n 0 65 - n)) 65)) := (below_drewN (Below.refl _ w) 1).alloc (Nat.le_refl _) _
  generalize w.drew.alloc (.cells (Builtin.zeroCells (Value.agg #[.string ⟨#[]⟩, .string ⟨#[]⟩]).cells n ++ Builtin.zeroCells (Value.agg #[.string ⟨#[]⟩, .string ⟨#[]⟩]).cells (grownCap w n 0 65 - n)) 65) = w1 at hr hrow hB
  generalize grownCap w n 0 65 = c at hr hge hle hrow
  have hn0 : decide (0 < n) = true := decide_eq_true (by omega)
  have hn1 : decide (0 < (n : Int)) = true := decide_eq_true (by omega)
  unfold maxLen at hle
  clear hi0 hz0 hz1 hz2
  go_enter Try.func85, Try.ntmps85
  go_wp2_with (at_builtin; refine Lib.wpList_append_run _ rfl _ _ _ _ rfl _ _ rfl rfl _ _ (hr _) ?_)
  go_wp2
  go_ret
  exact ⟨⟨_, rfl, hrow⟩, hB⟩
end Go.Proofs.Ytpjhckjmahagnaa
