/-
  WHAT Flat HOLDS WHEN ALL KIDS OF A PLACE ARE ON THE WORK: no walk.
-/
import Derived.Test.YtlbabnffiibnpaaGreatFdX
namespace Go.Proofs.YtlbabnffiibnpaaGreat
open Go.RowKit
/-- Kids of these names, nothing in them yet. -/
def zks (G : List Pe) : Khs := G.map fun e => (e.n, zN, zH)
theorem zks_len (G : List Pe) : (zks G).length = G.length := by unfold zks; rw [List.length_map]
theorem zks_at {G : List Pe} {i : Nat} {e : Pe} (h : G[i]? = some e) : (zks G)[i]? = some (e.n, zN, zH) := by unfold zks; rw [List.getElem?_map, h]; rfl
theorem pls_plP {G : List Pe} {M : List (ByteArray × Fls)} (h : (pls G).map plP = M) {i : Nat} {e : Pe} (he : G[i]? = some e) : M[i]? = some (e.n, e.L.map Sp.pr) := by
  rw [← h, List.getElem?_map, pls_get he]
  rfl
theorem pls_plP' {G : List Pe} {M : List (ByteArray × Fls)} (h : (pls G).map plP = M) {i : Nat} {p : ByteArray × Fls} (hp : M[i]? = some p) : ∃ e, G[i]? = some e ∧ p = (e.n, e.L.map Sp.pr) := by
  rw [← h, List.getElem?_map] at hp
  unfold pls at hp
  rw [List.getElem?_map, Option.map_map] at hp
  obtain ⟨e, he, rfl⟩ := Option.map_eq_some_iff.1 hp
  exact ⟨e, he, rfl⟩
set_option maxRecDepth 100000 in
theorem FJ.done {F : Nd → Nat → Nd} {S : Nat → Bool} {w W0 w5 wr wC A : World} {fb ab wb tb nT wc NG jc ca g : Nat} {fv vw' : Value} {T' : List Ft} {t : Ft} {top : Fls} {G : List Pe} {ja aa : Option Addr} {k m u gg : Int} {o : Bool} {at_ : List Kv} {d : ByteArray} {x0 : Nd × Nat} {r0 : Fls} {st : Loop}
    (h : FJ F S w W0 fb ab wb fv (.slice (some ⟨tb, 0, none⟩) nT wc) (T' ++ [t]) top) (hS0 : ∀ k, S k = true → k < w.heap.size)
    (r5 : RR w W0 w5 (flS w.heap.size wb (.slice (some ⟨tb, 0, none⟩) nT wc) S) (t.tk F))
    (hN5 : NAt w5.cell? t.b t.p (.mk k m u gg o at_ d []) ⟨aa, ca, none, 0⟩)
    (hK5 : Kvm (offS w5.cell? (blkT (flS w.heap.size wb (.slice (some ⟨tb, 0, none⟩) nT wc) S) (tks F (T' ++ [t])))) aa at_)
    (hca : at_.length ≤ ca ∧ ca ≤ 9223372036854775807) (hl : t.l = x0 :: r0) (hFx : F (nakN x0.1) x0.2 = .mk k m u gg o at_ d [])
    (hpl4 : ∀ e ∈ G, SpL (offS w5.cell? (blkT (flS w.heap.size wb (.slice (some ⟨tb, 0, none⟩) nT wc) S) (tks F (T' ++ [t])))) (.slice e.a e.L.length e.c) (e.L.map Sp.pr))
    (hpl5 : (pls G).map plP = (listP t.l).map fun nm => (nm, nxt t.l nm))
    (hB : Below w5.heap.size w5 wr) (hrow : wr.ownsRow w5.heap.size 61 9 (.slice ja NG jc) NG (kfl (zks G))) (hNG : G.length = NG)
    (hC : Below (wr.setCell ⟨t.b, t.p + 7, none⟩ (.slice ja NG jc)).heap.size (wr.setCell ⟨t.b, t.p + 7, none⟩ (.slice ja NG jc)) wC)
    (hg : G = [] ∨ ja = some ⟨g, 0, none⟩) (hbj : BJ w wC A wb tb (T' ++ bts g G 0) st) (_hbx : Boxed A wb 87 vw') (hrw : A.ownsRow w.heap.size 86 2 vw' (T' ++ bts g G 0).length (flT (T' ++ bts g G 0)))
    (ho : vw'.ownBlock = some tb ∨ ∃ s, vw'.ownBlock = some s ∧ wC.heap.size + 2 ≤ s) :
    FJ F S w (A.alloc (.cells #[vw'] 87)) fb ab A.heap.size fv vw' (T' ++ bts g G 0) top := by
  have htm : t ∈ T' ++ [t] := List.mem_append.2 (.inr (List.mem_singleton.2 rfl))
  obtain ⟨t1, t2, t3, t4⟩ := h.tb (fun _ => trivial) hS0 htm
  have hnb : w.heap.size < W0.heap.size := by omega
  have hwbl : wb < W0.heap.size := h.wbx.lt
  have htbl : tb < W0.heap.size := (h.row.lt tb rfl).2
  obtain ⟨tn1, tn2, tn3, tn4⟩ := flS_no.1 t3
  have htb : t.b ≠ tb := fun e => tn3 (by rw [e]; rfl)
  have hwn : w.heap.size ≠ wb := fun e => by
    obtain ⟨cs, hh⟩ := h.rty
    have h1 := h.wbx
    unfold Boxed at h1
    rw [← e, hh] at h1
    simp at h1
  have htn : w.heap.size ≠ tb := fun e => by
    obtain ⟨cs, hh⟩ := h.rty
    rcases h.row.2 with ⟨e1, _⟩ | ⟨g', cap, cur, e1, _, hg', _⟩
    · cases e1
    · simp only [Value.slice.injEq, Option.some.injEq, Addr.mk.injEq] at e1
      rw [← e1.1.1, ← e, hh] at hg'
      simp at hg'
  have z5 : W0.heap.size ≤ w5.heap.size := r5.siz
  have zr : w5.heap.size ≤ wr.heap.size := hB.size
  have zC : wr.heap.size ≤ wC.heap.size := by have := hC.size; rwa [World.size_setCell] at this
  have zA : wC.heap.size + 2 ≤ A.heap.size := hbj.siz
  have rs : RR w W0 (wr.setCell ⟨t.b, t.p + 7, none⟩ (.slice ja NG jc)) (flS w.heap.size wb (.slice (some ⟨tb, 0, none⟩) nT wc) S) (t.tk F) := (r5.below ⟨t2, t3⟩ hnb hB).own (t := t.tk F) t1 7 (by omega) _
  have rC := rs.below ⟨t2, t3⟩ hnb hC
  have rA : RR w W0 A (flS w.heap.size wb (.slice (some ⟨tb, 0, none⟩) nT wc) S) (t.tk F) := by
    have bA : ∀ q, q < W0.heap.size → q ≠ wb → q ≠ tb → A.heap[q]? = wC.heap[q]? := fun q hq h1 h2 => hbj.blk q (by omega) h1 h2
    refine ⟨hbj.low, by omega, (bA _ hnb hwn htn).trans rC.res, fun q hq hh hne => ?_, fun q hq hh => ?_, ?_⟩
    · obtain ⟨_, n2, n3, _⟩ := flS_no.1 hh
      exact (bA q hq n2 (fun e => n3 (by rw [e]; rfl))).trans (rC.blk q hq hh hne)
    · refine Eq.trans ?_ (rC.cel q hq hh)
      exact World.cell?_of_block (w := wC) (bA q.block (by rw [hq]; exact t2) (by rw [hq]; exact tn2) (by rw [hq]; exact htb))
    · rw [show (t.tk F).b = t.b from rfl, bA t.b t2 tn2 htb]
      exact rC.typ
  have hal : Below A.heap.size A (A.alloc (.cells #[vw'] 87)) := (Below.refl _ _).alloc (Nat.le_refl _) _
  have rW := rA.below ⟨t2, t3⟩ hnb hal
  have blkW : ∀ q, q < wr.heap.size → q ≠ t.b → q ≠ wb → q ≠ tb → (A.alloc (.cells #[vw'] 87)).heap[q]? = wr.heap[q]? := fun q hq h1 h2 h3 =>
    (hal.block q (by omega)).trans ((hbj.blk q (by omega) h2 h3).trans ((hC.block q (by rw [World.size_setCell]; exact hq)).trans (Below.heap_setCell _ _ _ _ h1)))
  -- the kids' row
  have krow : (A.alloc (.cells #[vw'] 87)).ownsRow w5.heap.size 61 9 (.slice ja NG jc) NG (kfl (zks G)) := owns_keep hrow fun q hq => by
    obtain ⟨q1, q2⟩ := hrow.lt q hq
    exact blkW q q2 (by omega) (by omega) (by omega)
  have M : MLe (offS w5.cell? (blkT (flS w.heap.size wb (.slice (some ⟨tb, 0, none⟩) nT wc) S) (tks F (T' ++ [t])))) (offS (A.alloc (.cells #[vw'] 87)).cell? (blkT (flS w.heap.size A.heap.size vw' S) (tks F (T' ++ bts g G 0)))) := mle_step fun q hq hs => by
    obtain ⟨s1, s2⟩ := blkT_no.1 hs
    obtain ⟨n1, n2, n3, n4⟩ := flS_no.1 s1
    have ntb : q ≠ tb := fun e => n3 (by rw [e]; rfl)
    refine ⟨blkT_no.2 ⟨flS_no.2 ⟨n1, by omega, fun e => ?_, n4⟩, fun s hs' e => ?_⟩, (blkW q (by omega) (s2 (t.tk F) (List.mem_map_of_mem htm)) n2 ntb).trans (hB.block q hq)⟩
    · rcases ho with q1 | ⟨s, q1, q2⟩
      · rw [q1] at e; simp at e; exact ntb e
      · rw [q1] at e; simp at e; omega
    · obtain ⟨s0, hs0, rfl⟩ := List.mem_map.1 hs'
      rcases List.mem_append.1 hs0 with hs0 | hs0
      · exact s2 (s0.tk F) (List.mem_map_of_mem (List.mem_append.2 (.inl hs0))) e
      · obtain ⟨i, e', he, rfl⟩ := bts_mem hs0
        rcases hg with q1 | q1
        · rw [q1] at he; simp at he
        · have := (hrow.lt g (by rw [q1]; rfl)).1
          simp only [Ft.tk] at e
          omega
  have hx : flatD F t.l = .mk k m u gg o at_ d ((listP t.l).map fun nm => (nm, flatD F (nxt t.l nm))) := by
    rw [hl, flatD_cons, hFx]
    rfl
  have hlen : ((listP t.l).map fun nm => (nm, flatD F (nxt t.l nm))).length = NG := by
    have h1 := congrArg List.length hpl5
    rw [List.length_map, List.length_map] at h1
    unfold pls at h1
    rw [List.length_map, hNG] at h1
    rw [List.length_map, ← h1]
  have hn : NAt (A.alloc (.cells #[vw'] 87)).cell? t.b t.p (.mk k m u gg o at_ d ((listP t.l).map fun nm => (nm, flatD F (nxt t.l nm)))) ⟨aa, ca, ja, jc⟩ := by
    have c1 : ∀ j, (A.alloc (.cells #[vw'] 87)).cell? ⟨t.b, t.p + j, none⟩ = (wr.setCell ⟨t.b, t.p + 7, none⟩ (.slice ja NG jc)).cell? ⟨t.b, t.p + j, none⟩ := fun j =>
      World.cell?_of_block (w := wr.setCell ⟨t.b, t.p + 7, none⟩ (.slice ja NG jc)) ((hal.block t.b (by omega)).trans ((hbj.blk t.b (by omega) tn2 htb).trans (hC.block t.b (by rw [World.size_setCell]; omega))))
    have c2 : ∀ j, j < 7 → (A.alloc (.cells #[vw'] 87)).cell? ⟨t.b, t.p + j, none⟩ = wr.cell? ⟨t.b, t.p + j, none⟩ := fun j hj => (c1 j).trans (World.cell?_setCell_other _ _ _ _ (fun e => by have := (Addr.mk.inj e).2.1; omega))
    obtain ⟨e0, e1, e2, e3, e4, e5, e6, e7⟩ := hN5.below hB
    refine ⟨(c2 0 (by omega)).trans e0, (c2 1 (by omega)).trans e1, (c2 2 (by omega)).trans e2, (c2 3 (by omega)).trans e3, (c2 4 (by omega)).trans e4, (c2 5 (by omega)).trans e5, (c2 6 (by omega)).trans e6, ?_⟩
    rw [c1 7, hlen]
    exact World.cell?_setCell_same _ _ _ e7
  obtain ⟨_, _, hv, hc1, hc2, hcase⟩ := owns_cells krow
  simp only [Value.slice.injEq, true_and] at hv
  obtain ⟨rfl, rfl⟩ := hv
  have hvw : vw'.ownBlock = (Value.slice (some ⟨tb, 0, none⟩) nT wc).ownBlock ∨ ∃ s, vw'.ownBlock = some s ∧ W0.heap.size ≤ s := by
    rcases ho with q | ⟨s, q1, q2⟩
    · exact .inl q
    · exact .inr ⟨s, q1, by omega⟩
  by_cases hG : G = []
  · subst hG
    have hks : ((listP t.l).map fun nm => (nm, flatD F (nxt t.l nm))) = [] := List.eq_nil_of_length_eq_zero (by rw [hlen, ← hNG]; rfl)
    rw [hks] at hx hn hlen
    rw [show bts g ([] : List Pe) 0 = [] from rfl] at hrw M ⊢
    exact FJ.next h hS0 rW (Boxed.new A _ _) (by omega) (hrw.alloc _) hvw (g := W0.heap.size) (Nat.le_refl _) (fun s hs => by cases hs) List.Pairwise.nil hx hn (hK5.on M) hca ⟨by rw [hlen]; exact hc1, hc2⟩ (.inl rfl) (fun i nm y hi => by simp at hi) (fun s hs => by cases hs)
  have hja : ja = some ⟨g, 0, none⟩ := hg.resolve_left hG
  rcases hcase with ⟨q, _⟩ | ⟨g', q, hb1, hb2, hcell, hfr⟩
  · rw [hja] at q; cases q
  rw [hja] at q
  simp only [Option.some.injEq, Addr.mk.injEq] at q
  obtain ⟨rfl, _⟩ := q
  have hty : ∃ cs, (A.alloc (.cells #[vw'] 87)).heap[g]? = some (.cells cs 61 (0, 0)) := by
    rcases krow.2 with ⟨e1, _⟩ | ⟨g', cap, cur, e1, _, hg', _⟩
    · rw [hja] at e1; cases e1
    · rw [hja] at e1
      simp only [Value.slice.injEq, Option.some.injEq, Addr.mk.injEq] at e1
      rw [← e1.1.1] at hg'
      exact ⟨cur, hg'⟩
  have hkd : ∀ (i : Nat) e, G[i]? = some e → KdAt (A.alloc (.cells #[vw'] 87)).cell? g (i * 9) e.n zN zH := fun i e he => kdAt_iff.2 fun q u hq => hcell _ _ (kfl_get _ _ _ _ _ (zks_at he) q u hq)
  have hseeo := (h.see t htm).1
  refine FJ.next h hS0 rW (Boxed.new A _ _) (by omega) (hrw.alloc _) hvw (g := g) (by omega) (fun s hs => ?_) (bts_apt F g G 0) hx hn (hK5.on M) hca ⟨by rw [hlen]; exact hc1, hc2⟩ (.inr ⟨hja, hty⟩) (fun i nm y hi => ?_) (fun s hs => ?_)
  · obtain ⟨i, e, he, rfl⟩ := bts_mem hs
    exact ⟨rfl, ⟨i, rfl⟩, hty, (hkd i e he).2⟩
  · rw [List.getElem?_map] at hi
    obtain ⟨nm', hnm, hp⟩ := Option.map_eq_some_iff.1 hi
    simp only [Prod.mk.injEq] at hp
    obtain ⟨rfl, rfl⟩ := hp
    obtain ⟨e, he, hq⟩ := pls_plP' hpl5 (i := i) (p := (nm', nxt t.l nm')) (by rw [List.getElem?_map, hnm]; rfl)
    simp only [Prod.mk.injEq] at hq
    refine ⟨by rw [hq.1]; exact (hkd i e he).1, ?_⟩
    rw [hq.2]
    exact List.mem_map.2 ⟨_, bts_all he, rfl⟩
  · obtain ⟨i, e, he, rfl⟩ := bts_mem hs
    have hM := pls_plP hpl5 he
    rw [List.getElem?_map] at hM
    obtain ⟨nm, hnm, hp⟩ := Option.map_eq_some_iff.1 hM
    simp only [Prod.mk.injEq] at hp
    have hmem := mem_listP.1 (List.mem_of_getElem? hnm)
    refine ⟨?_, ?_⟩
    · show SeenOk (e.L.map Sp.pr)
      rw [← hp.2]
      exact hseeo.next hmem
    · have h1 := (hpl4 e (List.mem_of_getElem? he)).on M
      show SpL _ (.slice e.a (e.L.map Sp.pr).length e.c) (e.L.map Sp.pr)
      rw [List.length_map]
      exact h1
/-- How much is still to do. -/
def wt : List Ft → Nat
  | [] => 0
  | t :: r => tot t.l + wt r
theorem wt_app : ∀ a b : List Ft, wt (a ++ b) = wt a + wt b
  | [], b => by simp [wt]
  | t :: a, b => by simp [wt, wt_app a b]; omega
theorem wt_len : ∀ {T : List Ft}, (∀ t ∈ T, t.l ≠ []) → T.length ≤ wt T
  | [], _ => Nat.le_refl _
  | t :: r, h => by
    have h1 := wt_len fun s hs => h s (List.mem_cons_of_mem _ hs)
    have h2 := List.length_pos_iff.2 (h t (List.mem_cons_self ..))
    have h3 := len_tot t.l
    simp [wt]; omega
theorem wt_sum : ∀ T : List Ft, wt T = (T.map fun t => tot t.l).sum
  | [] => rfl
  | t :: r => by rw [wt, wt_sum r, List.map_cons, List.sum_cons]
theorem sum_rev : ∀ l : List Nat, l.reverse.sum = l.sum
  | [] => rfl
  | x :: l => by rw [List.reverse_cons, List.sum_append, sum_rev l]; simp; omega
theorem wt_bts0 {g : Nat} {G : List Pe} {l : Fls} (h : (pls G).map plP = (listP l).map fun nm => (nm, nxt l nm)) : wt (bts g G 0) + l.length ≤ tot l := by
  have h1 := tot_nxt l (listP l) (rise_nodup (listP_rise l))
  rw [← wt_bts (_g := g) h] at h1
  have e : wt (bts g G 0) = (G.map fun e => tot (e.L.map Sp.pr)).sum := by
    rw [wt_sum]
    unfold bts
    rw [List.drop_zero, List.map_map, List.map_reverse, sum_rev]
    congr 1
    apply List.ext_getElem?
    intro i
    rw [List.getElem?_map, List.getElem?_map]
    by_cases hi : i < G.length
    · rw [List.getElem?_range hi, List.getElem?_eq_getElem hi]
      simp only [Option.map_some, Function.comp]
      rw [bt_at (List.getElem?_eq_getElem hi)]
    · rw [List.getElem?_eq_none (by simpa using hi), List.getElem?_eq_none (by omega)]
      rfl
  rw [e]
  exact h1
end Go.Proofs.YtlbabnffiibnpaaGreat
