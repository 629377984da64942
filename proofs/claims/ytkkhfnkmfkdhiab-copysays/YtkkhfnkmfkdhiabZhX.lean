/-
  WHAT THE DOCUMENT's Put HOLDS WHILE IT LAYS KIDS, one more kid: the facts of no program.
  A KID's NODE STORED INTO A ROW OF KIDS: the facts of no program.
-/
import Derived.Test.YtkkhfnkmfkdhiabZbaX
namespace Go.Proofs.Ytkkhfnkmfkdhiab
open Go.RowKit

theorem NBw.low {w w' : World} {b B : Nat} {x : Nd} {h : Hd} (hk : NBw w b x h) (hb : Below B w w') (hB : b < B) : NBw w' b x h := by
  obtain ⟨k, m, u, g, o, at_, d, ks⟩ := x
  obtain ⟨⟨e0, e1, e2, e3, e4, e5, e6, e7⟩, e8⟩ := hk
  have q : ∀ j, w'.cell? ⟨b, j, none⟩ = w.cell? ⟨b, j, none⟩ := fun j => hb.cell (p := ⟨b, j, none⟩) hB
  exact ⟨⟨(q 0).trans e0, (q 1).trans e1, (q 2).trans e2, (q 3).trans e3, (q 4).trans e4, (q 5).trans e5, (q 6).trans e6, (q 7).trans e7⟩, fun j => (hb.frozen (p := ⟨b, j, none⟩) hB).trans (e8 j)⟩
/-- Its boxes, and the row of the kids that it has laid. -/
structure LI (W wr : World) (nb ob : Nat) (x0 : Nd) (h : Hd) (xp : Nd) (hx : Hd) (a : Option Addr) (cap : Nat) (P : Khs) : Prop where
  B : NBw wr nb x0 h
  X : NBw wr (nb + 1) xp hx
  R : NBw wr (nb + 1 + 1) zN zH
  O : NBw wr ob (x0.with (bare P)) ⟨h.aa, h.ca, a, cap⟩
  row : wr.ownsRow (ob + 1) 102 9 (.slice a P.length cap) P.length (kfl P)
  lo : nb + 1 + 1 < ob
  low : Below W.heap.size W wr
  hnb : W.heap.size = nb
theorem LI.hi {W wr : World} {nb ob : Nat} {x0 : Nd} {h : Hd} {xp : Nd} {hx : Hd} {a : Option Addr} {cap : Nat} {P : Khs} (H : LI W wr nb ob x0 h xp hx a cap P) : ob < wr.heap.size := H.O.1.lt
theorem below_app {wr w4 : World} {ob : Nat} {a : Option Addr} {cap n : Nat} {xs : List Value} (hi : ob < wr.heap.size) (row : wr.ownsRow (ob + 1) 102 9 (.slice a n cap) n xs) (c : Array Value) (hg : (wr.drew.alloc (.cells c 102)).grownBy w4 (Value.slice a n cap).ownBlock) : Below (ob + 1) wr w4 := by
  have b1 : Below (ob + 1) wr (wr.drew.alloc (.cells c 102)) := (below_drewN (Below.refl _ wr) 1).alloc (by show ob + 1 ≤ wr.heap.size; omega) _
  exact b1.grown hg (by have := b1.size; omega) (fun q e => (row.lt q e).1)
theorem LI.next {W wr w4 : World} {nb ob : Nat} {x0 : Nd} {h : Hd} {xp : Nd} {hx : Hd} {a : Option Addr} {cap : Nat} {P : Khs} (H : LI W wr nb ob x0 h xp hx a cap P) (c : Array Value) (e : ByteArray × Nd × Hd) (v2 : Value)
    (hrow : w4.ownsRow (ob + 1) 102 9 v2 (P.length + 1) (kfl P ++ kfl [e])) (hg : (wr.drew.alloc (.cells c 102)).grownBy w4 (Value.slice a P.length cap).ownBlock) :
    ∃ a2 cap2, v2 = .slice a2 (P.length + 1) cap2 ∧ LI W (w4.setCell ⟨ob, 7, none⟩ (.slice a2 (P.length + 1) cap2)) nb ob x0 h xp hx a2 cap2 (P ++ [e]) ∧ NBw w4 ob (x0.with (bare P)) ⟨h.aa, h.ca, a, cap⟩ ∧ Below (ob + 1) wr w4 ∧ Below ob wr (w4.setCell ⟨ob, 7, none⟩ (.slice a2 (P.length + 1) cap2)) := by
  have hb := below_app H.hi H.row c hg
  obtain ⟨a2, cap2, rfl, h1, h2, _⟩ := owns_cells hrow
  have hl := H.lo
  have hnb := H.hnb
  have O4 := H.O.low hb (by omega)
  have bs : But ob w4 (w4.setCell ⟨ob, 7, none⟩ (.slice a2 (P.length + 1) cap2)) := (But.refl _ _).setCell _ _ _
  have b2 : Below ob wr (w4.setCell ⟨ob, 7, none⟩ (.slice a2 (P.length + 1) cap2)) := (hb.mono (Nat.le_succ ob)).trans (bs.below (Nat.le_refl _) (by have := O4.1.lt; omega))
  refine ⟨a2, cap2, rfl, ⟨H.B.low b2 (by omega), H.X.low b2 (by omega), H.R.low b2 (by omega), ?_, ?_, hl, H.low.trans (b2.mono (by omega)), hnb⟩, O4, hb, b2⟩
  · obtain ⟨k, m, u, g, o, at_, d, ks⟩ := x0
    have := O4.set7 (bare (P ++ [e])) a2 cap2
    have hl2 : (bare (P ++ [e])).length = P.length + 1 := by rw [bare_length]; simp
    rw [hl2] at this
    exact this
  · rw [kfl_append, List.length_append]
    exact ownsRow_setCell_below hrow (by show ob < ob + 1; omega) _
/-- The new kid's own cells. -/
theorem kid_new (w : World) (nm : ByteArray) (x : Nd) (h : Hd) (t : TypeId) : ∀ j u, (kfl [(nm, x, h)])[j]? = some u → (w.alloc (.cells (kfl [(nm, x, h)]).toArray t)).cell? ((⟨w.heap.size, 0, none⟩ : Addr).add j) = some u := by
  intro j u hj
  rw [addr_add, Nat.zero_add]
  refine (World.cell?_alloc_at _ _ _ _ rfl).trans ?_
  simpa using hj
/-- S, and one block more. -/
def orS (S : Nat → Bool) (b : Nat) : Nat → Bool := fun k => k == b || S k
theorem LI.fin {W w6 : World} {S : Nat → Bool} (hS0 : ∀ k, S k = true → k < W.heap.size) {nb ob : Nat} {x0 : Nd} {h : Hd} {xp : Nd} {hx : Hd} {a : Option Addr} {cap : Nat} {P : Khs} (H : LI W w6 nb ob x0 h xp hx a cap P) (hN : NdV (offS W.cell? S) x0 h) (hm : ∀ e ∈ P, NdV (offS W.cell? S) e.2.1 e.2.2) :
    NdV (offS (stB w6 (nb + 1 + 1) (x0.with (bare P)) ⟨h.aa, h.ca, a, cap⟩).cell? S) (x0.with (bare P)) ⟨h.aa, h.ca, a, cap⟩ := by
  have hlo := H.lo
  have hnb := H.hnb
  have m1 : MLe (offS W.cell? S) (offS w6.cell? (orS S (nb + 1 + 1))) := mle_step fun k hk hs => ⟨by simp [orS, hs]; omega, H.low.block k hk⟩
  have m2 : MLe (offS w6.cell? (orS S (nb + 1 + 1))) (offS (stB w6 (nb + 1 + 1) (x0.with (bare P)) ⟨h.aa, h.ca, a, cap⟩).cell? S) := mle_step fun k hk hs => by
    simp only [orS, Bool.or_eq_false_iff, beq_eq_false_iff_ne] at hs
    exact ⟨hs.2, stB_but.block k hk hs.1⟩
  obtain ⟨a', cap', e, h1, h2, hK, _⟩ := ksH_of_ownsS (S := orS S (nb + 1 + 1)) (fun k hk => by
    simp only [orS, Bool.or_eq_true, beq_iff_eq] at hk
    rcases hk with rfl | hk
    · omega
    · have := hS0 k hk; omega) H.row (fun e he => (hm e he).on m1)
  obtain ⟨rfl, rfl⟩ : a = a' ∧ cap = cap' := by simpa using e
  obtain ⟨k, m, u, g, o, at_, d, ks⟩ := x0
  obtain ⟨q1, q2, q3, q4⟩ := ndV_iff.1 hN
  exact ndV_iff.2 ⟨(q1.on m1).on m2, q2, ⟨by rw [bare_length]; exact h1, h2⟩, ksH_ksV (hK.on m2)⟩
theorem NNm.low {w w' : World} {nb b p B : Nat} {nm : ByteArray} {x : Nd} {h : Hd} (hk : NNm w nb b p nm x h) (hb : Below B w w') (h1 : nb < B) (h2 : b < B) : NNm w' nb b p nm x h := by
  obtain ⟨k, m, u, g, o, at_, d, ks⟩ := x
  obtain ⟨e0, e1, e2, e3, e4, e5, e6, e7, e8⟩ := hk
  have q : ∀ j, w'.cell? ⟨nb, j, none⟩ = w.cell? ⟨nb, j, none⟩ := fun j => hb.cell (p := ⟨nb, j, none⟩) h1
  exact ⟨(q 0).trans e0, (q 1).trans e1, (q 2).trans e2, (q 3).trans e3, (q 4).trans e4, (q 5).trans e5, (q 6).trans e6, (q 7).trans e7, (hb.cell (p := ⟨b, p, none⟩) h2).trans e8⟩
theorem LI.drew {W wr : World} (n : Nat) {nb ob : Nat} {x0 : Nd} {h : Hd} {xp : Nd} {hx : Hd} {a : Option Addr} {cap : Nat} {P : Khs} (H : LI W wr nb ob x0 h xp hx a cap P) : LI W (wr.drewN n) nb ob x0 h xp hx a cap P := by
  have hb : Below wr.heap.size wr (wr.drewN n) := below_drewN (Below.refl _ wr) n
  exact ⟨H.B.below hb, H.X.below hb, H.R.below hb, H.O.below hb, H.row, H.lo, H.low.trans (hb.mono H.low.size), H.hnb⟩
theorem st_cutTrue (A : Int) (m : ByteArray) (x : Nd) (hx : Hd) (L : Khs) : ∀ j, (stF true A m x hx L j).2 = true
  | 0 => rfl
  | j + 1 => by
    have ih := st_cutTrue A m x hx L j
    cases hj : L[j]? with
    | none => rw [stF, hj]; exact ih
    | some e =>
      rw [stF_next hj, stepB]
      split
      · rfl
      · split
        · rfl
        · exact ih
end Go.Proofs.Ytkkhfnkmfkdhiab

namespace Go.Proofs.Ytkkhfnkmfkdhiab
open Go.RowKit

theorem kfl_set {c c' : Mem} {g p : Nat} {L : Khs} {nm : ByteArray} {z y : Nd} {hz hy : Hd} (h0 : L[p]? = some (nm, z, hz)) (hc : ∀ j u, (kfl L)[j]? = some u → c ⟨g, j, none⟩ = some u) (hf : ∀ j, (∀ i, i < 8 → j ≠ p * 9 + 1 + i) → c' ⟨g, j, none⟩ = c ⟨g, j, none⟩) (hn : NAt c' g (p * 9 + 1) y hy) :
    ∀ j u, (kfl (L.set p (nm, y, hy)))[j]? = some u → c' ⟨g, j, none⟩ = some u := by
  intro j u hj
  obtain ⟨n', x', h', hx, hq⟩ := kfl_at _ _ _ hj
  have hd : j / 9 * 9 + j % 9 = j := by omega
  by_cases hp : j / 9 = p
  · have hlt : p < L.length := (List.getElem?_eq_some_iff.1 h0).1
    rw [hp, List.getElem?_set_self hlt] at hx
    obtain ⟨rfl, rfl, rfl⟩ : nm = n' ∧ y = x' ∧ hy = h' := by simpa using hx
    have hr : j % 9 < 9 := Nat.mod_lt _ (by decide)
    cases hm : j % 9 with
    | zero =>
      rw [hm] at hq
      have e : j = p * 9 := by omega
      rw [hf j (fun i hi => by omega)]
      have := kfl_get L p nm z hz h0 0 (.string nm) rfl
      rw [e]
      have h2 := hc _ _ this
      rw [Nat.add_zero] at h2
      rw [h2]; simpa using hq
    | succ q =>
      rw [hm] at hq
      have e : j = p * 9 + 1 + q := by omega
      rw [e]
      exact nat_iff.1 hn q u (by simpa using hq)
  · rw [List.getElem?_set_ne (Ne.symm hp)] at hx
    rw [hf j (fun i hi e => hp (by omega))]
    have := kfl_get L (j / 9) n' x' h' hx (j % 9) u hq
    rw [hd] at this
    exact hc _ _ this
theorem bare_set (L : Khs) (p : Nat) (e : ByteArray × Nd × Hd) : bare (L.set p e) = (bare L).set p (e.1, e.2.1) := by
  unfold bare
  rw [List.map_set]
theorem mem_set_or {α : Type} {L : List α} {p : Nat} {a e : α} (h : e ∈ L.set p a) : e = a ∨ e ∈ L := by
  rcases List.mem_or_eq_of_mem_set h with h | h
  · exact .inr h
  · exact .inl h
/-- What is answered, where one kid's node is another one. -/
theorem down_fin {W w6 w9 : World} {S S3 : Nat → Bool} {g p ca : Nat} {x0 : Nd} {h : Hd} {L : Khs} {nm : ByteArray} {y : Nd} {hy : Hd} (hN : NdV (offS W.cell? S) x0 h) (hL : ∀ e ∈ L, NdV (offS W.cell? S) e.2.1 e.2.2) (hS0 : ∀ k, S k = true → k < W.heap.size)
    (hb9 : Below W.heap.size W w9) (hy0 : NdV (offS w6.cell? S3) y hy) (hS3 : ∀ k, k < w6.heap.size → S3 k = false → S k = false ∧ w9.heap[k]? = w6.heap[k]?) (hg : w6.heap.size ≤ g) (hWg : W.heap.size ≤ w6.heap.size)
    (hlen : L.length ≤ ca ∧ ca ≤ 9223372036854775807) (hbl : bare L = x0.kids) (hrow : ∀ j u, (kfl (L.set p (nm, y, hy)))[j]? = some u → w9.cell? ⟨g, j, none⟩ = some u) :
    NdV (offS w9.cell? S) (x0.with (x0.kids.set p (nm, y))) ⟨h.aa, h.ca, some ⟨g, 0, none⟩, ca⟩ := by
  have m1 : MLe (offS W.cell? S) (offS w9.cell? S) := mle_S hb9
  have m2 : MLe (offS w6.cell? S3) (offS w9.cell? S) := mle_step hS3
  have hSg : S g = false := by
    cases hs : S g with
    | false => rfl
    | true => have := hS0 g hs; omega
  have hK : KsH (offS w9.cell? S) (some ⟨g, 0, none⟩) (L.set p (nm, y, hy)) := by
    refine ⟨.inr ⟨g, 0, rfl, fun j u hj => ?_⟩, fun e he => ?_⟩
    · rw [Nat.zero_add, offS_ne hSg]; exact hrow j u hj
    · rcases mem_set_or he with e1 | e1
      · rw [e1]; exact hy0.on m2
      · exact (hL e e1).on m1
  obtain ⟨k, m, u, gg, o, at_, d, ks⟩ := x0
  obtain ⟨q1, q2, q3, q4⟩ := ndV_iff.1 hN
  have e : bare (L.set p (nm, y, hy)) = ks.set p (nm, y) := by rw [bare_set, hbl]; rfl
  have hl : (ks.set p (nm, y)).length = L.length := by rw [← e, bare_length, List.length_set]
  refine ndV_iff.2 ⟨q1.on m1, q2, ⟨by show (ks.set p (nm, y)).length ≤ ca; rw [hl]; exact hlen.1, hlen.2⟩, ?_⟩
  have := ksH_ksV hK
  rw [e] at this
  exact this
end Go.Proofs.Ytkkhfnkmfkdhiab
