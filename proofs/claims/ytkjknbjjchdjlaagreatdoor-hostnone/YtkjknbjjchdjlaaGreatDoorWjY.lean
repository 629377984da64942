/-
  WHAT Own DOES: the walk.
-/
import Derived.Test.YtkjknbjjchdjlaaGreatDoorNnX
import Derived.Deep.LoopGhost
import Derived.WalkSmall
namespace Go.Proofs.YtkjknbjjchdjlaaGreatDoor
open Go.RowKit
/-- A list that waits. -/
structure Pn where
  a : Option Addr
  c : Nat
  ks : Kds
def pv (P : List Pn) : List Value := P.map fun e => .slice e.a e.ks.length e.c
theorem pv_length (P : List Pn) : (pv P).length = P.length * 1 := by simp [pv]
/-- How much is still to do. -/
def ms : List Kds → Nat
  | [] => 0
  | k :: l => (1 + 2 * cntL k) + ms l
theorem ms_append : ∀ a b : List Kds, ms (a ++ b) = ms a + ms b
  | [], b => by simp [ms]
  | k :: a, b => by simp [ms, ms_append a b]; omega
theorem ms_len : ∀ l : List Kds, l.length ≤ ms l
  | [] => Nat.le_refl _
  | k :: l => by have := ms_len l; simp [ms]; omega
theorem cnt_kids (x : Nd) : cnt x = cntL x.kids + 1 := by obtain ⟨k, m, u, g, o, at_, d, ks⟩ := x; rw [cnt]; rfl
theorem ms_kids : ∀ ks : Kds, ms (ks.map fun p => p.2.kids) + ks.length = 2 * cntL ks
  | [] => rfl
  | (n, x) :: l => by
    have := ms_kids l
    have := cnt_kids x
    simp [ms, cntL]; omega
theorem ms_take (ks : Kds) (j : Nat) : ms ((ks.take j).map fun p => p.2.kids) ≤ ms (ks.map fun p => p.2.kids) := by
  have h : ks.map (fun p => p.2.kids) = (ks.take j).map (fun p => p.2.kids) ++ (ks.drop j).map (fun p => p.2.kids) := by rw [← List.map_append, List.take_append_drop]
  rw [h, ms_append]; omega
/-- What is hidden: the result's box, and the list of what waits. -/
def hsS (nb : Nat) (v : Value) (S : Nat → Bool) : Nat → Bool := fun k => (k == nb + 1 || some k == v.ownBlock) || S k
theorem hsS_no {nb k : Nat} {v : Value} {S : Nat → Bool} : hsS nb v S k = false ↔ k ≠ nb + 1 ∧ some k ≠ v.ownBlock ∧ S k = false := by simp [hsS, and_assoc]
theorem ksV_swap {c c' : Mem} {b p : Nat} {y : Nd} {hy hy' : Hd} (hK : NAt c b p y hy) (hN : NdV c y hy) (hN' : NdV c y hy') (hK' : NAt c' b p y hy')
    (hs : ∀ q, q ≠ ⟨b, p + 5, none⟩ → q ≠ ⟨b, p + 7, none⟩ → c' q = c q) {a : Option Addr} {ks : Kds} (hl : ks.length ≤ 1000) (h : KsV c a ks) : KsV c' a ks :=
  have hx : NdV c (.mk 0 0 0 0 false [] ⟨#[]⟩ ks) ⟨none, 0, a, ks.length⟩ := ndV_iff.2 ⟨.inl rfl, ⟨Nat.le_refl _, by simp⟩, ⟨Nat.le_refl _, by show ks.length ≤ _; omega⟩, h⟩
  (ndV_iff.1 (nd_swap' hK hN hN' hK' hs hx)).2.2.2
/-- A list that waits, in memory. -/
def Pend (base : Nat) (w : World) (S : Nat → Bool) (e : Pn) : Prop := KsV (offS w.cell? S) e.a e.ks ∧ FreshK base w e.a e.ks ∧ LimL e.ks ∧ e.ks.length ≤ 1000
structure OInv (W wr : World) (S : Nat → Bool) (nb : Nat) (x : Nd) (h0 : Hd) (v : Value) (P Q : List Pn) : Prop where
  row : wr.ownsRow (nb + 2) 100 1 v P.length (pv P)
  box : NBox wr nb x h0
  res : NBw wr (nb + 1) zN zH
  tree : NdV (offS wr.cell? (hsS nb v S)) x h0
  pend : ∀ e ∈ Q, Pend (nb + 2) wr (hsS nb v S) e
  low : Below W.heap.size W wr
  sz : W.heap.size = nb
theorem NBw.but {w w' : World} {b b' : Nat} {x : Nd} {h : Hd} (hk : NBw w b x h) (hb : But b' w w') (hne : b ≠ b') : NBw w' b x h :=
  ⟨hk.1.but hb hne, fun j => (hb.frozen (p := ⟨b, j, none⟩) hk.1.lt hne).trans (hk.2 j)⟩
theorem OInv.below {W wr w' : World} {S : Nat → Bool} {nb : Nat} {x : Nd} {h0 : Hd} {v : Value} {P Q : List Pn} (h : OInv W wr S nb x h0 v P Q) (hb : Below wr.heap.size wr w') : OInv W w' S nb x h0 v P Q :=
  ⟨owns_below h.row hb, h.box.below hb, h.res.below hb, h.tree.on (mle_S hb), fun e he => ⟨(h.pend e he).1.on (mle_S hb), (h.pend e he).2.1.below hb, (h.pend e he).2.2⟩, h.low.trans (hb.mono h.low.size), h.sz⟩
theorem OInv.sub {W wr : World} {S : Nat → Bool} {nb : Nat} {x : Nd} {h0 : Hd} {v : Value} {P Q Q' : List Pn} (h : OInv W wr S nb x h0 v P Q) (hq : ∀ e ∈ Q', e ∈ Q) : OInv W wr S nb x h0 v P Q' :=
  ⟨h.row, h.box, h.res, h.tree, fun e he => h.pend e (hq e he), h.low, h.sz⟩
/-- The last one is taken. -/
theorem OInv.pop {W wr : World} {S : Nat → Bool} {nb gw n cap : Nat} {x : Nd} {h0 : Hd} {P : List Pn} {e : Pn} {Q : List Pn} (hn : P.length = n) (h : OInv W wr S nb x h0 (.slice (some ⟨gw, 0, none⟩) (n + 1) cap) (P ++ [e]) Q) : OInv W wr S nb x h0 (.slice (some ⟨gw, 0, none⟩) n cap) P Q := by
  subst hn
  refine ⟨?_, h.box, h.res, h.tree, h.pend, h.low, h.sz⟩
  have := h.row
  rw [show (P ++ [e]).length = P.length + 1 by simp, show pv (P ++ [e]) = pv P ++ pv [e] by simp [pv]] at this
  exact ownsRow_pop (pv_length P) this
/-- A kid's node is put apart. -/
theorem OInv.store {W w : World} {S : Nat → Bool} {nb g p : Nat} {x y : Nd} {h0 hy h' : Hd} {v : Value} {P Q : List Pn} (h : OInv W w S nb x h0 v P Q) (hg : nb + 2 ≤ g)
    (hK : NAt (offS w.cell? (hsS nb v S)) g p y hy) (hN : NdV (offS w.cell? (hsS nb v S)) y hy) (hN' : NdV (offS w.cell? (hsS nb v S)) y h') : OInv W (st8 w g p y h') S nb x h0 v P Q := by
  have hgS : hsS nb v S g = false := by
    obtain ⟨k, m, u, gg, o, at_, d, ks⟩ := y
    exact offS_off hK.1
  have hne := hsS_no.1 hgS
  have hKw : NAt w.cell? g p y hy := hK.on (offS_le _ _)
  have hb : But g w (st8 w g p y h') := st8_but
  have hK' : NAt (offS (st8 w g p y h').cell? (hsS nb v S)) g p y h' := by
    have := st8_at (x := y) (h := h') hKw
    obtain ⟨k, m, u, gg, o, at_, d, ks⟩ := y
    obtain ⟨e0, e1, e2, e3, e4, e5, e6, e7⟩ := this
    exact ⟨(offS_ne hgS).trans e0, (offS_ne hgS).trans e1, (offS_ne hgS).trans e2, (offS_ne hgS).trans e3, (offS_ne hgS).trans e4, (offS_ne hgS).trans e5, (offS_ne hgS).trans e6, (offS_ne hgS).trans e7⟩
  have hs : ∀ q, q ≠ ⟨g, p + 5, none⟩ → q ≠ ⟨g, p + 7, none⟩ → offS (st8 w g p y h').cell? (hsS nb v S) q = offS w.cell? (hsS nb v S) q := by
    intro q h5 h7
    cases hq : hsS nb v S q.block with
    | true => simp [offS, hq]
    | false => rw [offS_ne hq, offS_ne hq]; exact st8_same hKw q h5 h7
  refine ⟨owns_keep h.row fun k hk => hb.block k (h.row.lt k hk).2 (fun e => hne.2.1 (by rw [← e]; exact hk.symm)), h.box.but hb (by omega), h.res.but hb (by omega), nd_swap' hK hN hN' hK' hs h.tree, ?_, ?_, h.sz⟩
  · intro e he
    obtain ⟨q1, q2, q3, q4⟩ := h.pend e he
    refine ⟨ksV_swap hK hN hN' hK' hs q4 q1, ?_, q3, q4⟩
    rcases q2 with q2 | ⟨gg, e1, e2, e3, e4⟩
    · exact .inl q2
    · exact .inr ⟨gg, e1, e2, by have := hb.size; omega, fun j => (st8_frozen _).trans (e4 j)⟩
  · exact h.low.trans (hb.below (B := W.heap.size) (by have := h.sz; omega) h.low.size)
/-- One more waits. -/
theorem OInv.push {W w w' : World} {S : Nat → Bool} {nb : Nat} {x : Nd} {h0 : Hd} {v v' : Value} {P Q : List Pn} {e : Pn} (h : OInv W w S nb x h0 v P Q) (hrow : w'.ownsRow (nb + 2) 100 1 v' (P.length + 1) (pv P ++ pv [e])) (hg : w.grownBy w' v.ownBlock) (hv : v'.ownBlock = v.ownBlock ∨ ∃ s, v'.ownBlock = some s ∧ w.heap.size ≤ s)
    (he : Pend (nb + 2) w (hsS nb v S) e) : OInv W w' S nb x h0 v' (P ++ [e]) (e :: Q) := by
  have step : MLe (offS w.cell? (hsS nb v S)) (offS w'.cell? (hsS nb v' S)) := by
    refine mle_step fun k hk hs => ?_
    obtain ⟨h1, h2, h3⟩ := hsS_no.1 hs
    refine ⟨hsS_no.2 ⟨h1, ?_, h3⟩, hg.block k hk h2⟩
    rcases hv with hv | ⟨s, hv, hle⟩
    · rw [hv]; exact h2
    · rw [hv]; intro e; simp at e; omega
  have blk : ∀ k, k < nb + 2 → w'.heap[k]? = w.heap[k]? := by
    intro k hk
    have hl := h.res.1.lt
    refine hg.block k (by omega) (fun e => ?_)
    have := (h.row.lt k e.symm).1; omega
  have hlow : Below (nb + 2) w w' := ⟨hg.os, hg.tape, hg.output, hg.size, blk⟩
  have cellS : ∀ q : Addr, q.block < nb + 2 → w'.cell? q = w.cell? q := fun q hq => hlow.cell hq
  refine ⟨by rw [show (P ++ [e]).length = P.length + 1 by simp, show pv (P ++ [e]) = pv P ++ pv [e] by simp [pv]]; exact hrow, ?_, ?_, h.tree.on step, ?_, ?_, h.sz⟩
  · have := h.box
    obtain ⟨k, m, u, g, o, at_, d, ks⟩ := x
    obtain ⟨e0, e1, e2, e3, e4, e5, e6, e7⟩ := this
    exact ⟨(cellS _ (by simp)).trans e0, (cellS _ (by simp)).trans e1, (cellS _ (by simp)).trans e2, (cellS _ (by simp)).trans e3, (cellS _ (by simp)).trans e4, (cellS _ (by simp)).trans e5, (cellS _ (by simp)).trans e6, (cellS _ (by simp)).trans e7⟩
  · obtain ⟨⟨e0, e1, e2, e3, e4, e5, e6, e7⟩, ef⟩ := h.res
    exact ⟨⟨(cellS _ (by simp)).trans e0, (cellS _ (by simp)).trans e1, (cellS _ (by simp)).trans e2, (cellS _ (by simp)).trans e3, (cellS _ (by simp)).trans e4, (cellS _ (by simp)).trans e5, (cellS _ (by simp)).trans e6, (cellS _ (by simp)).trans e7⟩, fun j => (hlow.frozen (by simp)).trans (ef j)⟩
  · have one : ∀ e, Pend (nb + 2) w (hsS nb v S) e → Pend (nb + 2) w' (hsS nb v' S) e := by
      rintro e ⟨q1, q2, q3, q4⟩
      refine ⟨q1.on step, ?_, q3, q4⟩
      rcases q2 with q2 | ⟨gg, e1, e2, e3, e4⟩
      · exact .inl q2
      · rcases q1 with q1 | ⟨b, off, ea, f, hf⟩
        · exact .inl q1
        · by_cases h0 : e.ks = []
          · exact .inl h0
          · refine .inr ⟨gg, e1, e2, Nat.lt_of_lt_of_le e3 hg.size, fun j => ?_⟩
            have hne : some gg ≠ v.ownBlock := by
              have hlen : 0 < e.ks.length := List.length_pos_iff.2 h0
              have hx := (hf 0 e.ks[0].1 e.ks[0].2 (List.getElem?_eq_getElem hlen)).1.1
              have := (hsS_no.1 (offS_off hx)).2.1
              rw [ea] at e1
              simp at e1
              rw [← e1.1]; exact this
            exact (World.frozen?_of_block (w := w) (hg.block gg e3 hne)).trans (e4 j)
    intro e' he'
    rcases List.mem_cons.1 he' with e1 | e1
    · rw [e1]; exact one e he
    · exact one e' (h.pend e' e1)
  · exact h.low.trans (hlow.mono (by have := h.sz; omega))
end Go.Proofs.YtkjknbjjchdjlaaGreatDoor
