/-
  A TREE THAT MAY BE HAS SMALL NUMBERS; HOW MANY BYTES IT HAS: the facts of no program.
-/
import Derived.Test.YtkkhfnkmfkdhiabVc
namespace Go.Proofs.Ytkkhfnkmfkdhiab
open Go.RowKit

theorem idB_two {n : Int} (h : idB n ≠ false) : 0 ≤ n ∧ n ≤ 65535 := by
  unfold idB at h
  have h1 : (decide (0 ≤ n) && decide (n ≤ 65535)) = true := by simpa using h
  rw [Bool.and_eq_true] at h1
  exact ⟨of_decide_eq_true h1.1, of_decide_eq_true h1.2⟩
theorem nfF_num {up root : Bool} {k m u g : Int} {o : Bool} {at_ : List Kv} {d : ByteArray} {ks : Kds} (h : nfF up root (.mk k m u g o at_ d ks) = 0) : (1 ≤ k ∧ k ≤ 3) ∧ (0 ≤ m ∧ m ≤ 4095) ∧ (0 ≤ u ∧ u ≤ 65535) ∧ (0 ≤ g ∧ g ≤ 65535) := by
  rw [nfF] at h
  split at h
  · omega
  rename_i h1
  split at h
  · omega
  rename_i h2
  have hu : idB u ≠ false := fun e => h2 (.inr (.inr (.inl e)))
  have hg : idB g ≠ false := fun e => h2 (.inr (.inr (.inr e)))
  have hm : ¬ (m < 0 ∨ 4095 < m) := fun e => h2 (e.elim .inl (fun e => .inr (.inl e)))
  exact ⟨by omega, by omega, idB_two hu, idB_two hg⟩
mutual
theorem sml_wlk (up : Bool) : ∀ (x : Nd) (deep seen : Nat), (wlkN up x deep seen).1 = 0 → Lil x → cnt x ≤ 1000 → Sml x
  | .mk k m u g o at_ d ks, deep, seen, h, hl, hc => by
    rw [wlkN] at h
    split at h
    · simp at h
    split at h
    · rename_i h2; exact absurd h h2
    rename_i h1 h2
    obtain ⟨a, b, c, e⟩ := nfF_num (Decidable.not_not.1 h2)
    rw [Lil] at hl
    rw [cnt] at hc
    have hlen := cntL_len ks
    obtain ⟨l1, l2⟩ := hl.1
    rw [Sml]
    exact ⟨by omega, by omega, c, e, ⟨by omega, fun r hr => by have := l2 r hr; omega⟩, by omega, by omega, smlL_wlk up none ks (deep + 1) (seen + 1) h hl.2.2 (by omega)⟩
theorem smlL_wlk (up : Bool) : ∀ (p : Option ByteArray) (l : Kds) (deep seen : Nat), (wlkL up p l deep seen).1 = 0 → LilL l → cntL l ≤ 1000 → SmlL l
  | p, [], deep, seen, h, hl, hc => by rw [SmlL]; trivial
  | p, (n, x) :: l, deep, seen, h, hl, hc => by
    rw [wlkL] at h
    split at h
    · simp at h
    split at h
    · simp at h
    split at h
    · rename_i h2; exact absurd h h2
    rename_i h1 h2 h3
    rw [LilL] at hl
    rw [cntL] at hc
    rw [SmlL]
    exact ⟨by show n.size ≤ 1000; omega, sml_wlk up x deep seen (Decidable.not_not.1 h3) hl.2.1 (by omega), smlL_wlk up (some n) l deep _ h hl.2.2 (by omega)⟩
end
theorem sml_of {up : Bool} {x : Nd} (h : tfF up x = 0) (hl : Lil x) (hc : cnt x ≤ 1000) : Sml x := by
  obtain ⟨k, m, u, g, o, at_, d, ks⟩ := x
  rw [tfF] at h
  split at h
  · omega
  · exact sml_wlk up _ 0 0 h hl hc
theorem cnt_pos (x : Nd) : 1 ≤ cnt x := by
  obtain ⟨k, m, u, g, o, at_, d, ks⟩ := x
  rw [cnt]; omega
end Go.Proofs.Ytkkhfnkmfkdhiab
