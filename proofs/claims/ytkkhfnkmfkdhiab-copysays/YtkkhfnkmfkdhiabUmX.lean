/-
  A BRANCH: what stands while it is made; no walk.
  A BRANCH: one node into the one ahead of it; no walk.
-/
import Derived.Test.YtkkhfnkmfkdhiabUhX
import Derived.Test.YtkkhfnkmfkdhiabUcX
namespace Go.Proofs.Ytkkhfnkmfkdhiab
open Go.RowKit

theorem brF_err {us gs : List Rg} {f : Int} : ∀ {A : List (Nd × ByteArray)} (B : List (Nd × ByteArray)), brF us gs A = .error f → brF us gs (A ++ B) = .error f
  | [], B, h => by cases h
  | (x, m) :: r, B, h => by
    rw [List.cons_append, brF]
    rw [brF] at h
    cases hm : mvF true us gs x with
    | none => rw [hm] at h; exact h
    | some y =>
      rw [hm] at h
      dsimp only at h ⊢
      by_cases hn : nameB m = false
      · rw [if_pos hn] at h ⊢; exact h
      · rw [if_neg hn] at h ⊢
        cases hb : brF us gs r with
        | error f' =>
          rw [hb] at h
          rw [brF_err B hb]
          exact h
        | ok L => rw [hb] at h; cases h
/-- What is to come up, each with its name. -/
def prsF (ys : List Nd) (nms : List ByteArray) : List (Nd × ByteArray) := (ys.zip nms).map fun p => (bareN p.1, p.2)
theorem prs_len {ys : List Nd} {nms : List ByteArray} (h : ys.length ≤ nms.length) : (prsF ys nms).length = ys.length := by
  unfold prsF
  rw [List.length_map, List.length_zip, Nat.min_eq_left h]
theorem prs_at {ys : List Nd} {nms : List ByteArray} {j : Nat} {y : Nd} {nm : ByteArray} (hy : ys[j]? = some y) (hn : nms[j]? = some nm) : (prsF ys nms)[j]? = some (bareN y, nm) := by
  unfold prsF
  rw [List.getElem?_map, (List.getElem?_zip_eq_some (z := (y, nm))).2 ⟨hy, hn⟩]
  rfl
theorem prs_next {ys : List Nd} {nms : List ByteArray} {j : Nat} {y : Nd} {nm : ByteArray} (hy : ys[j]? = some y) (hn : nms[j]? = some nm) : (prsF ys nms).take (j + 1) = (prsF ys nms).take j ++ [(bareN y, nm)] := take_next2 (prs_at hy hn)
def brS (n₀ : Nat) (v : Value) (S : Nat → Bool) : Nat → Bool := fun k => (k == n₀ || k == n₀ + 1) || v.ownBlock == some k || S k
/-- What stands while the nodes come in. -/
structure BrI (S : Nat → Bool) (W : World) (ua ga : Option Addr) (nu ng uc gc : Nat) (v : Value) (L : List Fl) (wr : World) : Prop where
  low : Below W.heap.size W wr
  m0 : wr.cell? ⟨W.heap.size, 0, none⟩ = some (.slice ua nu uc)
  m1 : wr.cell? ⟨W.heap.size, 1, none⟩ = some (.slice ga ng gc)
  rb : NBw wr (W.heap.size + 1) zN zH
  row : wr.ownsRow (W.heap.size + 1 + 1) 25 8 v L.length (flN L)
  nd : ∀ f ∈ L, NdV (offS wr.cell? (brS W.heap.size v S)) f.x f.h
theorem BrI.below {S : Nat → Bool} {W : World} {ua ga : Option Addr} {nu ng uc gc : Nat} {v : Value} {L : List Fl} {wr w' : World} (h : BrI S W ua ga nu ng uc gc v L wr) (hb : Below wr.heap.size wr w') : BrI S W ua ga nu ng uc gc v L w' :=
  ⟨h.low.trans (hb.mono h.low.size), mle_below hb _ _ h.m0, mle_below hb _ _ h.m1, h.rb.below hb, ownsRow_bel h.row hb, fun f hf => (h.nd f hf).on (mle_S hb)⟩
theorem BrI.hid {S : Nat → Bool} {W : World} {ua ga : Option Addr} {nu ng uc gc : Nat} {v : Value} {L : List Fl} {wr : World} (hS0 : ∀ k, S k = true → k < W.heap.size) (h : BrI S W ua ga nu ng uc gc v L wr) : ∀ k, brS W.heap.size v S k = true → k < wr.heap.size := fun k hk => by
  simp [brS] at hk
  have e3 := h.rb.1.lt
  rcases hk with ((e | e) | e) | e
  · omega
  · omega
  · exact (h.row.lt k e).2
  · exact Nat.lt_of_lt_of_le (hS0 k e) h.low.size
theorem BrI.app {S : Nat → Bool} {W : World} {ua ga : Option Addr} {nu ng uc gc : Nat} {v v' : Value} {L : List Fl} {wr w' : World} (h : BrI S W ua ga nu ng uc gc v L wr) {f : Fl} (hf : NdV (offS wr.cell? (brS W.heap.size v S)) f.x f.h) (hown : w'.ownsRow (W.heap.size + 1 + 1) 25 8 v' (L ++ [f]).length (flN (L ++ [f]))) (hg : wr.grownBy w' v.ownBlock) (ho : v'.ownBlock = v.ownBlock ∨ v'.ownBlock = some wr.heap.size) : BrI S W ua ga nu ng uc gc v' (L ++ [f]) w' := by
  have hlow : ∀ g, v.ownBlock = some g → W.heap.size + 1 + 1 ≤ g ∧ g < wr.heap.size := fun g e => h.row.lt g e
  have hm : MLe (offS wr.cell? (brS W.heap.size v S)) (offS w'.cell? (brS W.heap.size v' S)) := mle_step fun k hk hs => by
    simp [brS] at hs
    refine ⟨?_, hg.block k hk (fun e => hs.1.2 e.symm)⟩
    simp [brS]
    refine ⟨⟨hs.1.1, ?_⟩, hs.2⟩
    rcases ho with e | e
    · rw [e]; exact hs.1.2
    · rw [e]; intro e2; cases e2; omega
  have hc : ∀ q : Addr, q.block < W.heap.size + 1 + 1 → q.block < wr.heap.size → w'.cell? q = wr.cell? q := fun q hq hq2 => World.cell?_of_block (hg.block q.block hq2 (fun e => by have := hlow _ e.symm; omega))
  have hfz : ∀ q : Addr, q.block < W.heap.size + 1 + 1 → q.block < wr.heap.size → w'.frozen? q = wr.frozen? q := fun q hq hq2 => World.frozen?_of_block (hg.block q.block hq2 (fun e => by have := hlow _ e.symm; omega))
  have hl := h.rb.1.lt
  refine ⟨h.low.grown hg h.low.size (fun g e => by have := hlow g e; omega), (hc ⟨W.heap.size, 0, none⟩ (by show W.heap.size < _; omega) (World.block_lt_of_cell? _ _ h.m0)).trans h.m0, (hc ⟨W.heap.size, 1, none⟩ (by show W.heap.size < _; omega) (World.block_lt_of_cell? _ _ h.m1)).trans h.m1, ⟨?_, fun j => (hfz ⟨W.heap.size + 1, j, none⟩ (by show W.heap.size + 1 < _; omega) hl).trans (h.rb.2 j)⟩, hown, ?_⟩
  · obtain ⟨e0, e1, e2, e3, e4, e5, e6, e7⟩ := h.rb.1
    have k : ∀ j u, wr.cell? ⟨W.heap.size + 1, j, none⟩ = some u → w'.cell? ⟨W.heap.size + 1, j, none⟩ = some u := fun j u e => (hc ⟨W.heap.size + 1, j, none⟩ (by show W.heap.size + 1 < _; omega) hl).trans e
    exact ⟨k _ _ e0, k _ _ e1, k _ _ e2, k _ _ e3, k _ _ e4, k _ _ e5, k _ _ e6, k _ _ e7⟩
  · intro f' hf'
    rcases List.mem_append.1 hf' with e | e
    · exact (h.nd f' e).on hm
    · rw [List.mem_singleton] at e; rw [e]; exact hf.on hm
theorem row_nat {w : World} {base : Nat} {v : Value} {L : List Fl} (h : w.ownsRow base 25 8 v L.length (flN L)) : L = [] ∨ ∃ g cap, v = .slice (some ⟨g, 0, none⟩) L.length cap ∧ base ≤ g ∧ L.length ≤ cap ∧ (∀ (i : Nat) f, L[i]? = some f → NAt w.cell? g (i * 8) f.x f.h) ∧ ∀ j, w.frozen? ⟨g, j, none⟩ = false := by
  rcases h.2 with ⟨_, h0⟩ | ⟨g, cap, cur, rfl, hb, hg, h1, h2, h3, h4⟩
  · exact .inl (List.length_eq_zero_iff.1 h0)
  · refine .inr ⟨g, cap, rfl, hb, h1, fun i f hi => nat_iff.2 fun q u hq => ?_, fun j => by simp [World.frozen?, hg]⟩
    exact ownsRow_cell hg h4 (flN_get L i f hi q u hq)
end Go.Proofs.Ytkkhfnkmfkdhiab

namespace Go.Proofs.Ytkkhfnkmfkdhiab
open Go.RowKit

/-- What stands while the nodes are laid into one another. -/
structure BrJ (S : Nat → Bool) (W : World) (v : Value) (g : Nat) (L : List Fl) (P : List (Nd × ByteArray)) (t : Nat) (w2 : World) : Prop where
  low : Below W.heap.size W w2
  gl : W.heap.size + 1 < g
  gz : g < w2.heap.size
  rb : NBw w2 (W.heap.size + 1) zN zH
  fz : ∀ j, w2.frozen? ⟨g, j, none⟩ = false
  ab : ∀ (s : Nat) f, s < t → L[s]? = some f → NAt w2.cell? g (s * 8) f.x f.h ∧ NdV (offS w2.cell? (brS W.heap.size v S)) f.x f.h
  ch : ∃ hc, NAt w2.cell? g (t * 8) (chainF (P.drop t)) hc ∧ NdV (offS w2.cell? (brS W.heap.size v S)) (chainF (P.drop t)) hc
theorem BrJ.below {S : Nat → Bool} {W : World} {v : Value} {g : Nat} {L : List Fl} {P : List (Nd × ByteArray)} {t : Nat} {w2 w3 : World} (h : BrJ S W v g L P t w2) (hb : Below w2.heap.size w2 w3) : BrJ S W v g L P t w3 := by
  obtain ⟨hc, h1, h2⟩ := h.ch
  exact ⟨h.low.trans (hb.mono h.low.size), h.gl, Nat.lt_of_lt_of_le h.gz hb.size, h.rb.below hb, fun j => (hb.frozen (p := ⟨g, j, none⟩) h.gz).trans (h.fz j), fun s f hs hf => ⟨(h.ab s f hs hf).1.below hb, (h.ab s f hs hf).2.on (mle_S hb)⟩, hc, h1.below hb, h2.on (mle_S hb)⟩
theorem chain_cons {P : List (Nd × ByteArray)} {t : Nat} {p q : Nd × ByteArray} (hp : P[t]? = some p) (hq : P[t + 1]? = some q) : chainF (P.drop t) = p.1.with [(q.2, chainF (P.drop (t + 1)))] := by
  obtain ⟨h1, e1⟩ := List.getElem?_eq_some_iff.1 hp
  obtain ⟨h2, e2⟩ := List.getElem?_eq_some_iff.1 hq
  have a1 := List.drop_eq_getElem_cons h1
  have a2 := List.drop_eq_getElem_cons h2
  rw [e1] at a1
  rw [e2] at a2
  rw [a1, a2, chainF]
theorem BrJ.step {S : Nat → Bool} {W : World} {v : Value} {g : Nat} {L : List Fl} {P : List (Nd × ByteArray)} {t : Nat} {w2 : World} (h : BrJ S W v g L P (t + 1) w2) (hv : v.ownBlock = some g) {f : Fl} {p q : Nd × ByteArray} (hf : L[t]? = some f) (hp : P[t]? = some p) (hq : P[t + 1]? = some q) (hfp : f.x = p.1) {hc : Hd} (_hC1 : NAt w2.cell? g ((t + 1) * 8) (chainF (P.drop (t + 1))) hc) (hC2 : NdV (offS w2.cell? (brS W.heap.size v S)) (chainF (P.drop (t + 1))) hc)
    (hbs : brS W.heap.size v S w2.heap.size = false) : BrJ S W v g L P t ((w2.alloc (.cells (.string q.2 :: ndL (chainF (P.drop (t + 1))) hc).toArray 102)).setCell ⟨g, t * 8 + 7, none⟩ (.slice (some ⟨w2.heap.size, 0, none⟩) 1 1)) := by
  have hb := (Below.refl _ w2).alloc (Nat.le_refl _) (.cells (.string q.2 :: ndL (chainF (P.drop (t + 1))) hc).toArray 102)
  have h3 := h.below hb
  obtain ⟨fa, fn⟩ := h3.ab t f (by omega) hf
  have hcell : ∀ j u, (Value.string q.2 :: ndL (chainF (P.drop (t + 1))) hc)[j]? = some u → (w2.alloc (.cells (.string q.2 :: ndL (chainF (P.drop (t + 1))) hc).toArray 102)).cell? ⟨w2.heap.size, j, none⟩ = some u := fun j u hj => by
    refine (World.cell?_alloc_at _ _ _ _ rfl).trans ?_
    simpa using hj
  have hgz := h.gz
  have hN2 := hC2.on (mle_S hb)
  have hcn := chain_cons hp hq
  generalize w2.alloc (.cells (.string q.2 :: ndL (chainF (P.drop (t + 1))) hc).toArray 102) = w3 at h3 hcell fa fn hN2
  generalize w2.heap.size = b at hcell hgz hbs
  clear hb hC2 h
  have hoth : ∀ (k j : Nat), k ≠ g ∨ j ≠ t * 8 + 7 → (w3.setCell ⟨g, t * 8 + 7, none⟩ (.slice (some ⟨b, 0, none⟩) 1 1)).cell? ⟨k, j, none⟩ = w3.cell? ⟨k, j, none⟩ := fun k j hk => World.cell?_setCell_other _ _ _ _ (fun e => by cases e; rcases hk with e | e <;> exact e rfl)
  have hm : MLe (offS w3.cell? (brS W.heap.size v S)) (offS (w3.setCell ⟨g, t * 8 + 7, none⟩ (.slice (some ⟨b, 0, none⟩) 1 1)).cell? (brS W.heap.size v S)) := mle_step fun k _ hs => ⟨hs, Below.heap_setCell _ _ _ _ (by
    show k ≠ g
    intro e
    subst e
    simp [brS, hv] at hs)⟩
  refine ⟨h3.low.setCell (p := ⟨g, t * 8 + 7, none⟩) (by show W.heap.size ≤ g; have := h3.gl; omega) _, h3.gl, ?_, h3.rb.other (by show g ≠ _; have := h3.gl; omega) _, ?_, ?_, ?_⟩
  · have := h3.gz; simpa using this
  · intro j
    have e := h3.fz j
    simpa using e
  · intro s f' hs hf'
    obtain ⟨a1, a2⟩ := h3.ab s f' (by omega) hf'
    refine ⟨nat_iff.2 fun j u hj => ?_, a2.on hm⟩
    have hl := (List.getElem?_eq_some_iff.1 hj).1
    rw [ndL_length] at hl
    exact (hoth g _ (.inr (by omega))).trans (nat_iff.1 a1 j u hj)
  · rw [hcn, ← hfp]
    obtain ⟨⟨k, m, u, gg, o, at_, d, ks⟩, fh, fl⟩ := f
    refine ⟨⟨fh.aa, fh.ca, some ⟨b, 0, none⟩, 1⟩, ?_, ?_⟩
    · obtain ⟨e0, e1, e2, e3, e4, e5, e6, e7⟩ := fa
      refine ⟨(hoth g _ (.inr (by omega))).trans e0, (hoth g _ (.inr (by omega))).trans e1, (hoth g _ (.inr (by omega))).trans e2, (hoth g _ (.inr (by omega))).trans e3, (hoth g _ (.inr (by omega))).trans e4, (hoth g _ (.inr (by omega))).trans e5, (hoth g _ (.inr (by omega))).trans e6, ?_⟩
      exact World.cell?_setCell_same _ _ _ e7
    · obtain ⟨q1, q2, _, _⟩ := ndV_iff.1 (fn.on hm)
      refine ndV_iff.2 ⟨q1, q2, ⟨Nat.le_refl _, by show (1 : Nat) ≤ _; omega⟩, .inr ⟨b, 0, rfl, fun _ => hc, fun i n x hi => ?_⟩⟩
      cases i with
      | succ i => simp at hi
      | zero =>
        simp at hi
        obtain ⟨rfl, rfl⟩ := hi
        refine ⟨kdAt_iff.2 fun j uu hj => ?_, hN2.on hm⟩
        rw [show 0 + 0 * 9 + j = j by omega, offS_ne hbs]
        exact (hoth b j (.inl (by omega))).trans (hcell j uu hj)
end Go.Proofs.Ytkkhfnkmfkdhiab
