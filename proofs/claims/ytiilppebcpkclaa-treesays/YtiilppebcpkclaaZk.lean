/-
  A KID's NODE STORED INTO A ROW OF KIDS: the facts of no program.
-/
import Derived.Test.YtiilppebcpkclaaZh
namespace Go.Proofs.Ytiilppebcpkclaa
open Go.RowKit

theorem kfl_set {c c' : Mem} {g p : Nat} {L : Khs} {nm : ByteArray} {z y : Nd} {hz hy : Hd} (h0 : L[p]? = some (nm, z, hz)) (hc : ∀ j u, (kfl L)[j]? = some u → c ⟨g, j, none⟩ = some u) (hf : ∀ j, (∀ i, i < 8 → j ≠ p * 9 + 1 + i) → c' ⟨g, j, none⟩ = c ⟨g, j, none⟩) (hn : NAt c' g (p * 9 + 1) y hy) :
    ∀ j u, (kfl (L.set p (nm, y, hy)))[j]? = some u → c' ⟨g, j, none⟩ = some u := by
  intro j u hj
  obtain ⟨n', x', h', hx, hq⟩ := kfl_at _ _ _ hj
  have hd : j / 9 * 9 + j % 9 = j := by omega
  by_cases hp : j / 9 = p
  · have hlt : p < L.length := (List.getElem?_eq_some_iff.1 h0).1
    rw [hp, List.getElem?_set_self hlt] at hx
    obtain ⟨rfl, rfl, rfl⟩ : nm = n' ∧ y = x' ∧ hy = h' := by simpa using hx
    have hr : j % 9 < 9 := Nat.mod_lt _ (by decide)
    cases hm : j % 9 with
    | zero =>
      rw [hm] at hq
      have e : j = p * 9 := by omega
      rw [hf j (fun i hi => by omega)]
      have := kfl_get L p nm z hz h0 0 (.string nm) rfl
      rw [e]
      have h2 := hc _ _ this
      rw [Nat.add_zero] at h2
      rw [h2]; simpa using hq
    | succ q =>
      rw [hm] at hq
      have e : j = p * 9 + 1 + q := by omega
      rw [e]
      exact nat_iff.1 hn q u (by simpa using hq)
  · rw [List.getElem?_set_ne (Ne.symm hp)] at hx
    rw [hf j (fun i hi e => hp (by omega))]
    have := kfl_get L (j / 9) n' x' h' hx (j % 9) u hq
    rw [hd] at this
    exact hc _ _ this
theorem bare_set (L : Khs) (p : Nat) (e : ByteArray × Nd × Hd) : bare (L.set p e) = (bare L).set p (e.1, e.2.1) := by
  unfold bare
  rw [List.map_set]
theorem mem_set_or {α : Type} {L : List α} {p : Nat} {a e : α} (h : e ∈ L.set p a) : e = a ∨ e ∈ L := by
  rcases List.mem_or_eq_of_mem_set h with h | h
  · exact .inr h
  · exact .inl h
/-- What is answered, where one kid's node is another one. -/
theorem down_fin {W w6 w9 : World} {S S3 : Nat → Bool} {g p ca : Nat} {x0 : Nd} {h : Hd} {L : Khs} {nm : ByteArray} {y : Nd} {hy : Hd} (hN : NdV (offS W.cell? S) x0 h) (hL : ∀ e ∈ L, NdV (offS W.cell? S) e.2.1 e.2.2) (hS0 : ∀ k, S k = true → k < W.heap.size)
    (hb9 : Below W.heap.size W w9) (hy0 : NdV (offS w6.cell? S3) y hy) (hS3 : ∀ k, k < w6.heap.size → S3 k = false → S k = false ∧ w9.heap[k]? = w6.heap[k]?) (hg : w6.heap.size ≤ g) (hWg : W.heap.size ≤ w6.heap.size)
    (hlen : L.length ≤ ca ∧ ca ≤ 9223372036854775807) (hbl : bare L = x0.kids) (hrow : ∀ j u, (kfl (L.set p (nm, y, hy)))[j]? = some u → w9.cell? ⟨g, j, none⟩ = some u) :
    NdV (offS w9.cell? S) (x0.with (x0.kids.set p (nm, y))) ⟨h.aa, h.ca, some ⟨g, 0, none⟩, ca⟩ := by
  have m1 : MLe (offS W.cell? S) (offS w9.cell? S) := mle_S hb9
  have m2 : MLe (offS w6.cell? S3) (offS w9.cell? S) := mle_step hS3
  have hSg : S g = false := by
    cases hs : S g with
    | false => rfl
    | true => have := hS0 g hs; omega
  have hK : KsH (offS w9.cell? S) (some ⟨g, 0, none⟩) (L.set p (nm, y, hy)) := by
    refine ⟨.inr ⟨g, 0, rfl, fun j u hj => ?_⟩, fun e he => ?_⟩
    · rw [Nat.zero_add, offS_ne hSg]; exact hrow j u hj
    · rcases mem_set_or he with e1 | e1
      · rw [e1]; exact hy0.on m2
      · exact (hL e e1).on m1
  obtain ⟨k, m, u, gg, o, at_, d, ks⟩ := x0
  obtain ⟨q1, q2, q3, q4⟩ := ndV_iff.1 hN
  have e : bare (L.set p (nm, y, hy)) = ks.set p (nm, y) := by rw [bare_set, hbl]; rfl
  have hl : (ks.set p (nm, y)).length = L.length := by rw [← e, bare_length, List.length_set]
  refine ndV_iff.2 ⟨q1.on m1, q2, ⟨by show (ks.set p (nm, y)).length ≤ ca; rw [hl]; exact hlen.1, hlen.2⟩, ?_⟩
  have := ksH_ksV hK
  rw [e] at this
  exact this
end Go.Proofs.Ytiilppebcpkclaa
