/-
  A TREE THAT MAY BE IS READ AS IT: the facts of no program.
-/
import Derived.Test.YtkkhfnkmfkdhiabRa
namespace Go.Proofs.Ytkkhfnkmfkdhiab
open Go.RowKit

mutual
theorem wlkN_cnt (up : Bool) : ∀ (x : Nd) (deep seen : Nat), (wlkN up x deep seen).1 = 0 → (wlkN up x deep seen).2 = seen + cnt x
  | .mk k m u g o at_ d ks, deep, seen, h => by
    rw [wlkN] at h ⊢
    split at h
    · simp at h
    rename_i h1
    rw [if_neg h1]
    split at h
    · rename_i h2; exact absurd h h2
    rename_i h2
    rw [if_neg h2, wlkL_cnt up none ks (deep + 1) (seen + 1) h, cnt]
    omega
theorem wlkL_cnt (up : Bool) : ∀ (p : Option ByteArray) (l : Kds) (deep seen : Nat), (wlkL up p l deep seen).1 = 0 → (wlkL up p l deep seen).2 = seen + cntL l
  | p, [], deep, seen, h => by rw [wlkL, cntL]; rfl
  | p, (n, x) :: l, deep, seen, h => by
    rw [wlkL] at h ⊢
    split at h
    · simp at h
    rename_i h1
    rw [if_neg h1]
    split at h
    · simp at h
    rename_i h2
    rw [if_neg h2]
    split at h
    · rename_i h3; exact absurd h h3
    rename_i h3
    have e := wlkN_cnt up x deep seen (Decidable.not_not.1 h3)
    rw [if_neg h3, wlkL_cnt up (some n) l deep _ h, e, cntL]
    omega
end
theorem nfF_data {up root : Bool} {k m u g : Int} {o : Bool} {at_ : List Kv} {d : ByteArray} {ks : Kds} (h : nfF up root (.mk k m u g o at_ d ks) = 0) : d.size ≤ 200 := by
  rw [nfF] at h
  split at h
  · omega
  split at h
  · omega
  split at h
  · rename_i h3; exact absurd h h3
  unfold nfR at h
  split at h
  · omega
  · omega
mutual
theorem fits_wlk (up : Bool) : ∀ (x : Nd) (deep seen : Nat), (wlkN up x deep seen).1 = 0 → Lil x → cnt x ≤ 60 → Fits x
  | .mk k m u g o at_ d ks, deep, seen, h, hl, hc => by
    rw [wlkN] at h
    split at h
    · simp at h
    split at h
    · rename_i h2; exact absurd h h2
    rename_i h1 h2
    obtain ⟨a, b, c, e⟩ := nfF_num (Decidable.not_not.1 h2)
    have hd := nfF_data (Decidable.not_not.1 h2)
    rw [Lil] at hl
    rw [cnt] at hc
    have hlen := cntL_len ks
    obtain ⟨l1, l2⟩ := lowB_two hl.1
    rw [Fits]
    exact ⟨by omega, by omega, c, e, ⟨by omega, fun r hr => by have := l2 r hr; omega⟩, by omega, by omega, fitsL_wlk up none ks (deep + 1) (seen + 1) h hl.2.2 (by omega)⟩
theorem fitsL_wlk (up : Bool) : ∀ (p : Option ByteArray) (l : Kds) (deep seen : Nat), (wlkL up p l deep seen).1 = 0 → LilL l → cntL l ≤ 60 → FitsL l
  | p, [], deep, seen, h, hl, hc => by rw [FitsL]; trivial
  | p, (n, x) :: l, deep, seen, h, hl, hc => by
    rw [wlkL] at h
    split at h
    · simp at h
    split at h
    · simp at h
    split at h
    · rename_i h2; exact absurd h h2
    rename_i h1 h2 h3
    rw [LilL] at hl
    rw [cntL] at hc
    rw [FitsL]
    exact ⟨by show n.size ≤ 255; omega, fits_wlk up x deep seen (Decidable.not_not.1 h3) hl.2.1 (by omega), fitsL_wlk up (some n) l deep _ h hl.2.2 (by omega)⟩
end
theorem fits_of {up : Bool} {x : Nd} (h : tfF up x = 0) (hl : Lil x) : Fits x ∧ cnt x ≤ 60 := by
  obtain ⟨k, m, u, g, o, at_, d, ks⟩ := x
  rw [tfF] at h
  split at h
  · omega
  · have h1 := wlkN_cnt up _ 0 0 h
    have h2 := (wlkN_range up (.mk k m u g o at_ d ks) 0 0 (by omega)).2
    have h3 : cnt (.mk k m u g o at_ d ks) ≤ 60 := by omega
    exact ⟨fits_wlk up _ 0 0 h hl h3, h3⟩
mutual
theorem dep_cnt : ∀ x : Nd, dep x ≤ cnt x
  | .mk k m u g o at_ d ks => by rw [dep, cnt]; have := depL_cnt ks; omega
theorem depL_cnt : ∀ l : Kds, dep.depL l ≤ cntL l
  | [] => Nat.le_refl _
  | (n, x) :: l => by
    rw [dep.depL, cntL]
    have h1 := dep_cnt x
    have h2 := depL_cnt l
    omega
end
mutual
theorem cnt_bytes : ∀ x : Nd, cnt x ≤ (byN x).length
  | .mk k m u g o at_ d ks => by
    rw [cnt, byN]
    have := cntL_bytes ks
    simp only [List.length_append, List.length_cons, num2_length, txt_length]
    omega
theorem cntL_bytes : ∀ l : Kds, cntL l ≤ (byL l).length
  | [] => Nat.le_refl _
  | (n, x) :: l => by
    rw [cntL, byL]
    have h1 := cnt_bytes x
    have h2 := cntL_bytes l
    simp only [List.length_append]
    omega
end
end Go.Proofs.Ytkkhfnkmfkdhiab
