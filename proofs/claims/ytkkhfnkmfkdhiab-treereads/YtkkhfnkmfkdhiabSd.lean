/-
  BYTES THAT ARE A TREE's: both ways of reading tell the same: no walk.
-/
import Derived.Test.YtkkhfnkmfkdhiabRa
import Derived.Test.YtkkhfnkmfkdhiabSa
namespace Go.Proofs.Ytkkhfnkmfkdhiab
open Go.RowKit

theorem dT_sum (n : Nat) (h : n ≤ 255) : (if (dT n).2 = true then (dT n).1 + 8 else (dT n).1) = n := (dT_all ⟨n, by omega⟩).1
theorem dT_k (k : Int) (o : Bool) (h0 : 0 ≤ k) (h1 : k ≤ 7) : dT (if o = true then k + 8 else k).toNat = (k, o) := by
  obtain ⟨q, rfl⟩ := Int.eq_ofNat_of_zero_le h0
  exact dT_back ⟨q, by omega⟩ o
theorem rKs_lil {g : List UInt8 → Option (Nd × List UInt8)} (hg : ∀ l x q, g l = some (x, q) → Lil x) : ∀ {c : Nat} {l q : List UInt8} {a : Kds}, rKs g c l = some (a, q) → LilL a
  | 0, l, q, a, h => by
    simp only [rKs, Option.some.injEq, Prod.mk.injEq] at h
    obtain ⟨rfl, rfl⟩ := h
    rw [LilL]; trivial
  | c + 1, l, q, a, h => by
    rw [rKs] at h
    obtain ⟨n, h1, h⟩ := Option.bind_eq_some_iff.1 h
    obtain ⟨v, h2, h⟩ := Option.bind_eq_some_iff.1 h
    obtain ⟨r, h3, h⟩ := Option.bind_eq_some_iff.1 h
    simp only [Option.some.injEq, Prod.mk.injEq] at h
    obtain ⟨rfl, rfl⟩ := h
    rw [LilL]
    exact ⟨(rTx_some h1).2, hg _ _ _ h2, rKs_lil hg h3⟩
theorem rNd_lil {dec : Nat → Int × Bool} : ∀ {f : Nat} {l q : List UInt8} {x : Nd}, rNd dec f l = some (x, q) → Lil x
  | 0, l, q, x, h => by cases h
  | f + 1, l, q, x, h => by
    rw [rNd] at h
    obtain ⟨k, h1, h⟩ := Option.bind_eq_some_iff.1 h
    obtain ⟨m, h2, h⟩ := Option.bind_eq_some_iff.1 h
    obtain ⟨u, h3, h⟩ := Option.bind_eq_some_iff.1 h
    obtain ⟨g, h4, h⟩ := Option.bind_eq_some_iff.1 h
    obtain ⟨c, h5, h⟩ := Option.bind_eq_some_iff.1 h
    obtain ⟨a, h6, h⟩ := Option.bind_eq_some_iff.1 h
    obtain ⟨d, h7, h⟩ := Option.bind_eq_some_iff.1 h
    obtain ⟨e, h8, h⟩ := Option.bind_eq_some_iff.1 h
    obtain ⟨r, h9, h⟩ := Option.bind_eq_some_iff.1 h
    simp only [Option.some.injEq, Prod.mk.injEq] at h
    obtain ⟨rfl, rfl⟩ := h
    have s5 := (rN1_some h5).2
    obtain ⟨_, s6, s7⟩ := rAt_some h6
    have s8 := (rTx_some h7).2
    rw [Lil]
    exact ⟨⟨by omega, s7⟩, by omega, rKs_lil (fun l x q hx => rNd_lil hx) h9⟩
mutual
theorem cnt_ten : ∀ x : Nd, 10 * cnt x ≤ (byN x).length
  | .mk k m u g o at_ d ks => by
    rw [cnt, byN]
    have := cntL_ten ks
    simp only [List.length_append, List.length_cons, num2_length, txt_length]
    omega
theorem cntL_ten : ∀ l : Kds, 10 * cntL l ≤ (byL l).length
  | [] => Nat.le_refl _
  | (n, x) :: l => by
    rw [cntL, byL]
    have h1 := cnt_ten x
    have h2 := cntL_ten l
    simp only [List.length_append]
    omega
end
mutual
theorem dep_wlk (up : Bool) : ∀ (x : Nd) (deep seen : Nat), (wlkN up x deep seen).1 = 0 → deep + dep x ≤ 7
  | .mk k m u g o at_ d ks, deep, seen, h => by
    rw [wlkN] at h
    split at h
    · simp at h
    rename_i h1
    split at h
    · rename_i h2; exact absurd h h2
    rw [dep]
    rcases depL_wlk up none ks (deep + 1) (seen + 1) h with e | e
    · omega
    · omega
theorem depL_wlk (up : Bool) : ∀ (p : Option ByteArray) (l : Kds) (deep seen : Nat), (wlkL up p l deep seen).1 = 0 → dep.depL l = 0 ∨ deep + dep.depL l ≤ 7
  | p, [], deep, seen, h => by rw [dep.depL]; exact .inl rfl
  | p, (n, x) :: l, deep, seen, h => by
    rw [wlkL] at h
    split at h
    · simp at h
    split at h
    · simp at h
    split at h
    · rename_i h3; exact absurd h h3
    rename_i h3
    have e := dep_wlk up x deep seen (Decidable.not_not.1 h3)
    rw [dep.depL]
    rcases depL_wlk up (some n) l deep _ h with e2 | e2
    · right; omega
    · right; omega
end
theorem nfR_up {k m u g : Int} {o : Bool} {la ld lk : Nat} {root : Bool} {up : Bool} (h : nfR k m u g o la ld lk up root = 0) : nfR k m u g o la ld lk true root = 0 := by
  cases up with
  | true => exact h
  | false =>
    unfold nfR at h ⊢
    split at h
    · omega
    rename_i h1
    rw [if_neg h1]
    split at h
    · omega
    rename_i h2
    have k3 : k ≠ 3 := fun e => h2 ⟨e, .inl rfl⟩
    rw [if_neg (fun e => k3 e.1)]
    split at h
    · omega
    rename_i h3
    rw [if_neg h3]
    split at h
    · omega
    rename_i h4
    have o0 : o ≠ true := fun e => h4 ⟨e, .inr (.inr rfl)⟩
    rw [if_neg (fun e => o0 e.1)]
theorem nfF_up {up root : Bool} {x : Nd} (h : nfF up root x = 0) : nfF true root x = 0 := by
  obtain ⟨k, m, u, g, o, at_, d, ks⟩ := x
  rw [nfF] at h ⊢
  split at h
  · omega
  rename_i h1
  rw [if_neg h1]
  split at h
  · omega
  rename_i h2
  rw [if_neg h2]
  split at h
  · rename_i h3; exact absurd h h3
  rename_i h3
  rw [if_neg h3]
  exact nfR_up h
mutual
theorem wlkN_up (up : Bool) : ∀ (x : Nd) (deep seen : Nat), (wlkN up x deep seen).1 = 0 → wlkN true x deep seen = wlkN up x deep seen
  | .mk k m u g o at_ d ks, deep, seen, h => by
    rw [wlkN] at h ⊢
    rw [wlkN]
    split at h
    · simp at h
    rename_i h1
    rw [if_neg h1, if_neg h1]
    split at h
    · rename_i h2; exact absurd h h2
    rename_i h2
    rw [if_neg h2, if_neg (by rw [nfF_up (Decidable.not_not.1 h2)]; simp)]
    exact wlkL_up up none ks (deep + 1) (seen + 1) h
theorem wlkL_up (up : Bool) : ∀ (p : Option ByteArray) (l : Kds) (deep seen : Nat), (wlkL up p l deep seen).1 = 0 → wlkL true p l deep seen = wlkL up p l deep seen
  | p, [], deep, seen, h => by rw [wlkL, wlkL]
  | p, (n, x) :: l, deep, seen, h => by
    rw [wlkL] at h ⊢
    rw [wlkL]
    split at h
    · simp at h
    rename_i h1
    rw [if_neg h1, if_neg h1]
    split at h
    · simp at h
    rename_i h2
    rw [if_neg h2, if_neg h2]
    split at h
    · rename_i h3; exact absurd h h3
    rename_i h3
    rw [wlkN_up up x deep seen (Decidable.not_not.1 h3), if_neg h3, if_neg h3]
    exact wlkL_up up (some n) l deep _ h
end
theorem tfF_up {up : Bool} {x : Nd} (h : tfF up x = 0) : tfF true x = 0 := by
  obtain ⟨k, m, u, g, o, at_, d, ks⟩ := x
  rw [tfF] at h ⊢
  split at h
  · omega
  rename_i h1
  rw [if_neg h1, wlkN_up up _ 0 0 h]
  exact h
theorem tfF_dep {up : Bool} {x : Nd} (h : tfF up x = 0) : dep x ≤ 7 := by
  obtain ⟨k, m, u, g, o, at_, d, ks⟩ := x
  rw [tfF] at h
  split at h
  · omega
  · have := dep_wlk up _ 0 0 h; omega
/-- These bytes are those of that tree, and it may be. -/
structure Gd (up : Bool) (l : List UInt8) (x : Nd) : Prop where
  by_ : l = byN x
  lil : Lil x
  ok : tfF up x = 0
theorem Gd.ofT {up : Bool} {l : List UInt8} {x : Nd} {f : Nat} (h : rNd dT f l = some (x, [])) (ht : tfF up x = 0) : Gd up l x := ⟨by rw [rNd_some dT_sum h, List.append_nil], rNd_lil h, ht⟩
theorem Gd.ofR {up : Bool} {l : List UInt8} {x : Nd} {f : Nat} (h : rNd dR f l = some (x, [])) (ht : tfF up x = 0) : Gd up l x := ⟨by rw [rNd_some dR_sum h, List.append_nil], rNd_lil h, ht⟩
theorem Gd.long {up : Bool} {l : List UInt8} {x : Nd} (h : Gd up l x) : dep x ≤ l.length + 1 := by
  have h1 := dep_cnt x
  have h2 := cnt_bytes x
  rw [h.by_]
  omega
theorem Gd.toT {up : Bool} {l : List UInt8} {x : Nd} (h : Gd up l x) : rNd dT (l.length + 1) l = some (x, []) ∧ cnt x ≤ 60 := by
  obtain ⟨f1, f2⟩ := fits_of h.ok h.lil
  have hd := h.long
  have hr := rNd_mk (dec := dT) dT_k (l.length + 1) x [] f1 hd
  rw [List.append_nil, ← h.by_] at hr
  exact ⟨hr, f2⟩
theorem Gd.toR {up : Bool} {l : List UInt8} {x : Nd} (h : Gd up l x) : rNd dR (l.length + 1) l = some (x, []) ∧ dep x ≤ 7 := by
  obtain ⟨f1, f2⟩ := fits_of h.ok h.lil
  have hd := h.long
  have hr := rNd_mk (dec := dR) dR_k (l.length + 1) x [] f1 hd
  rw [List.append_nil, ← h.by_] at hr
  exact ⟨hr, tfF_dep h.ok⟩
theorem Gd.one {up : Bool} {l : List UInt8} {x y : Nd} (h : Gd up l x) (h2 : Gd up l y) : x = y := by
  have e1 := h.toT.1
  have e2 := h2.toT.1
  rw [e1] at e2
  simp only [Option.some.injEq, Prod.mk.injEq] at e2
  exact e2.1
theorem newM_mono {B B' : Nat} {w : World} (h : B' ≤ B) : MLe (newM B w) (newM B' w) := mle_step fun k _ hs => ⟨decide_eq_false (by have := of_decide_eq_false hs; omega), rfl⟩
theorem newM_step {B : Nat} {w w' : World} (h : ∀ k, B ≤ k → k < w.heap.size → w'.heap[k]? = w.heap[k]?) : MLe (newM B w) w'.cell? := by
  intro q v hq
  have hs := offS_off hq
  have hq2 : w.cell? q = some v := by rw [← hq]; exact (offS_ne hs).symm
  have hs2 : B ≤ q.block := by have := of_decide_eq_false hs; omega
  rw [World.cell?_of_block (w := w) (h q.block hs2 (World.block_lt_of_cell? _ _ hq2))]
  exact hq2
end Go.Proofs.Ytkkhfnkmfkdhiab
