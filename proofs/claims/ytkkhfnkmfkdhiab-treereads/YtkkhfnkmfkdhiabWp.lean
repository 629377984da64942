/-
  A WAY DOWN A TREE, whose lists become new: the facts of no program.
-/
import Derived.Test.YtkkhfnkmfkdhiabWo
namespace Go.Proofs.Ytkkhfnkmfkdhiab
open Go.RowKit

/-- Names in memory. -/
def Strs (c : Mem) (a : Option Addr) (l : List ByteArray) : Prop := l = [] ∨ ∃ b off, a = some ⟨b, off, none⟩ ∧ ∀ i s, l[i]? = some s → c ⟨b, off + i, none⟩ = some (.string s)
theorem Strs.on {c c' : Mem} {a : Option Addr} {l : List ByteArray} (h : Strs c a l) (hb : MLe c c') : Strs c' a l := by
  rcases h with h | ⟨b, off, ha, hc⟩
  · exact .inl h
  · exact .inr ⟨b, off, ha, fun i s hi => hb _ _ (hc i s hi)⟩
theorem Nd.eta (x : Nd) : x.with x.kids = x := by obtain ⟨k, m, u, g, o, at_, d, ks⟩ := x; rfl
/-- What is hidden: the result's box too. -/
def upS (nb : Nat) (S : Nat → Bool) : Nat → Bool := fun k => k == nb + 1 || S k
theorem upS_no {nb k : Nat} {S : Nat → Bool} : upS nb S k = false ↔ k ≠ nb + 1 ∧ S k = false := by simp [upS]
theorem mle_up {W w' : World} {S : Nat → Bool} {nb : Nat} (hb : Below W.heap.size W w') (hsz : W.heap.size = nb) : MLe (offS W.cell? S) (offS w'.cell? (upS nb S)) := mle_step fun k hk hs => ⟨upS_no.2 ⟨by omega, hs⟩, hb.block k hk⟩
theorem nat_offS {c : Mem} {S : Nat → Bool} {b p : Nat} {x : Nd} {h : Hd} (hs : S b = false) (hk : NAt c b p x h) : NAt (offS c S) b p x h := nat_iff.2 fun q u hq => (offS_ne hs).trans (nat_iff.1 hk q u hq)
/-- Where a change stands, on its way down. -/
structure Spine (W wr : World) (S : Nat → Bool) (nb : Nat) (x0 : Nd) (c : Option Nd) (l rest : List ByteArray) (ab ap : Nat) (y : Nd) (hy : Hd) : Prop where
  low : Below W.heap.size W wr
  sz : W.heap.size = nb
  res : NBw wr (nb + 1) zN zH
  atc : NAt wr.cell? ab ap y hy
  fz : ∀ q, wr.frozen? ⟨ab, q, none⟩ = false
  ge : nb ≤ ab
  ne : ab ≠ nb + 1
  hS : ∀ k, S k = true → k < W.heap.size
  tree : NdV (offS W.cell? S) y hy
  wand : ∃ plug : Nd → Nd, (chgF c l x0 = (chgF c rest y).map plug) ∧ ∀ w', Below W.heap.size W w' → (∀ q v, wr.cell? q = some v → (∀ i, i < 8 → q ≠ ⟨ab, ap + i, none⟩) → w'.cell? q = some v) → ∀ z hz, NAt w'.cell? ab ap z hz → NdV (offS w'.cell? (upS nb S)) z hz → ∃ hr, NBox w' nb (plug z) hr ∧ NdV (offS w'.cell? (upS nb S)) (plug z) hr
theorem NAt.lt {w : World} {b p : Nat} {x : Nd} {h : Hd} (hk : NAt w.cell? b p x h) : b < w.heap.size := by
  obtain ⟨k, m, u, g, o, at_, d, ks⟩ := x
  exact World.block_lt_of_cell? _ _ hk.1
theorem Spine.start {W wr : World} {S : Nat → Bool} {nb : Nat} {x0 : Nd} {c : Option Nd} {l : List ByteArray} {h : Hd} (low : Below W.heap.size W wr) (sz : W.heap.size = nb) (res : NBw wr (nb + 1) zN zH) (box : NBw wr nb x0 h) (hS : ∀ k, S k = true → k < W.heap.size) (tree : NdV (offS W.cell? S) x0 h) : Spine W wr S nb x0 c l l nb 0 x0 h := by
  refine ⟨low, sz, res, box.1.at, box.2, Nat.le_refl _, by omega, hS, tree, id, ?_, ?_⟩
  · cases chgF c l x0 <;> rfl
  · intro w' _ _ z hz hA hN
    exact ⟨hz, hA.box, hN⟩
theorem Spine.below {W wr w' : World} {S : Nat → Bool} {nb : Nat} {x0 : Nd} {c : Option Nd} {l rest : List ByteArray} {ab ap : Nat} {y : Nd} {hy : Hd} (h : Spine W wr S nb x0 c l rest ab ap y hy) (hb : Below wr.heap.size wr w') : Spine W w' S nb x0 c l rest ab ap y hy := by
  obtain ⟨plug, h1, h2⟩ := h.wand
  refine ⟨h.low.trans (hb.mono h.low.size), h.sz, h.res.below hb, h.atc.below hb, fun q => (hb.frozen (p := ⟨ab, q, none⟩) h.atc.lt).trans (h.fz q), h.ge, h.ne, h.hS, h.tree, plug, h1, ?_⟩
  intro w2 hl hq z hz hA hN
  exact h2 w2 hl (fun q v hv hn => hq q v ((hb.cell (World.block_lt_of_cell? _ _ hv)).trans hv) hn) z hz hA hN
/-- The seventh cell of a node is written. -/
theorem nat_set7 {w : World} {b p : Nat} {y : Nd} {hy : Hd} (h : NAt w.cell? b p y hy) (ks' : Kds) (ak : Option Addr) (ck : Nat) : NAt (w.setCell ⟨b, p + 7, none⟩ (.slice ak ks'.length ck)).cell? b p (y.with ks') ⟨hy.aa, hy.ca, ak, ck⟩ := by
  obtain ⟨k, m, u, g, o, at_, d, ks⟩ := y
  obtain ⟨h0, h1, h2, h3, h4, h5, h6, h7⟩ := h
  have e : ∀ o, o ≠ p + 7 → (w.setCell ⟨b, p + 7, none⟩ (.slice ak ks'.length ck)).cell? ⟨b, o, none⟩ = w.cell? ⟨b, o, none⟩ := fun o ho => World.cell?_setCell_other _ _ _ _ (fun e => ho (Addr.mk.inj e).2.1.symm)
  exact ⟨(e _ (by omega)).trans h0, (e _ (by omega)).trans h1, (e _ (by omega)).trans h2, (e _ (by omega)).trans h3, (e _ (by omega)).trans h4, (e _ (by omega)).trans h5, (e _ (by omega)).trans h6, World.cell?_setCell_same _ _ _ h7⟩
theorem chg_step {c : Option Nd} {m m' : ByteArray} {rest : List ByteArray} {y z : Nd} {p : Nat} (hk : y.kind = 2) (hp : kidI m y.kids 0 = (p : Int)) (hz : y.kids[p]? = some (m, z)) : chgF c (m :: m' :: rest) y = (chgF c (m' :: rest) z).map fun q => y.with (y.kids.set p (m, q)) := by
  rw [chgF, if_neg (by simp [hk]), if_neg (by rw [hp]; omega), hp]
  have e : y.kid p = z := by unfold Nd.kid; rw [hz]
  simp only [Int.toNat_natCast]
  rw [e]
/-- One step down. -/
theorem Spine.step {W wr w2 : World} {S : Nat → Bool} {nb : Nat} {x0 : Nd} {c : Option Nd} {l rest : List ByteArray} {m m' : ByteArray} {ab ap : Nat} {y z : Nd} {hy : Hd} {L : Khs} {base g p ck : Nat} {hz : Hd} (h : Spine W wr S nb x0 c l (m :: m' :: rest) ab ap y hy) (hb : Below wr.heap.size wr w2) (hbase : wr.heap.size ≤ base)
    (hL : bare L = y.kids) (hLN : ∀ e ∈ L, NdV (offS W.cell? S) e.2.1 e.2.2) (hk : y.kind = 2) (hp : kidI m y.kids 0 = (p : Int)) (he : L[p]? = some (m, z, hz)) (hrow : w2.ownsRow base 102 9 (.slice (some ⟨g, 0, none⟩) y.kids.length ck) y.kids.length (kfl L)) :
    Spine W (w2.setCell ⟨ab, ap + 7, none⟩ (.slice (some ⟨g, 0, none⟩) y.kids.length ck)) S nb x0 c l (m' :: rest) g (p * 9 + 1) z hz := by
  obtain ⟨plug, h1, h2⟩ := h.wand
  have hlt := h.atc.lt
  obtain ⟨a0, c0, hv, hc1, hc2, hf⟩ := owns_cells hrow
  simp only [Value.slice.injEq, true_and] at hv
  obtain ⟨rfl, rfl⟩ := hv
  rcases hf with ⟨e, _⟩ | ⟨g', e, hg1, hg2, hg3, hg4⟩
  · cases e
  simp only [Option.some.injEq, Addr.mk.injEq, and_true] at e
  subst e
  have hgab : g ≠ ab := by omega
  have hge : W.heap.size ≤ g := by have := h.low.size; omega
  have hgS : upS nb S g = false := upS_no.2 ⟨by have := h.res.1.lt; omega, by
    cases hs : S g with
    | false => rfl
    | true => have := h.hS g hs; omega⟩
  have hyk : y.kids[p]? = some (m, z) := by
    rw [← hL]; unfold bare; rw [List.getElem?_map, he]; rfl
  -- the new world
  have hcell : ∀ q : Addr, q ≠ ⟨ab, ap + 7, none⟩ → (w2.setCell ⟨ab, ap + 7, none⟩ (.slice (some ⟨g, 0, none⟩) y.kids.length ck)).cell? q = w2.cell? q := fun q hq => World.cell?_setCell_other _ _ _ _ (fun e => hq e.symm)
  have hcg : ∀ j u, (kfl L)[j]? = some u → (w2.setCell ⟨ab, ap + 7, none⟩ (.slice (some ⟨g, 0, none⟩) y.kids.length ck)).cell? ⟨g, j, none⟩ = some u := fun j u hj => (hcell _ (fun e => hgab (Addr.mk.inj e).1)).trans (hg3 j u hj)
  have hlow3 : Below W.heap.size W (w2.setCell ⟨ab, ap + 7, none⟩ (.slice (some ⟨g, 0, none⟩) y.kids.length ck)) := (h.low.trans (hb.mono h.low.size)).setCell (p := ⟨ab, ap + 7, none⟩) (by show W.heap.size ≤ ab; have := h.ge; have := h.sz; omega) _
  refine ⟨hlow3, h.sz, (h.res.below hb).other (p := ⟨ab, ap + 7, none⟩) h.ne _, ?_, fun q => by rw [World.frozen?_setCell]; exact hg4 q, by have := h.sz; omega, by have := h.res.1.lt; omega, h.hS, hLN _ (List.mem_of_getElem? he), ?_⟩
  · refine nat_iff.2 fun q u hq => ?_
    have := kfl_get L p m z hz he (q + 1) u (by simpa using hq)
    have := hcg _ _ this
    rw [show p * 9 + 1 + q = p * 9 + (q + 1) by omega]; exact this
  · refine ⟨fun q => plug (y.with (y.kids.set p (m, q))), ?_, ?_⟩
    · rw [h1, chg_step hk hp hyk]
      cases chgF c (m' :: rest) z <;> rfl
    · intro w' hl hq zz hzz hA hN
      have hat3 := nat_set7 (h.atc.below hb) y.kids (some ⟨g, 0, none⟩) ck
      rw [Nd.eta] at hat3
      refine h2 w' hl ?_ (y.with (y.kids.set p (m, zz))) ⟨hy.aa, hy.ca, some ⟨g, 0, none⟩, ck⟩ ?_ ?_
      · intro q v hv hn
        have hqlt : q.block < wr.heap.size := World.block_lt_of_cell? _ _ hv
        refine hq q v ?_ (fun i hi e => ?_)
        · rw [hcell q (hn 7 (by omega))]; exact (hb.cell hqlt).trans hv
        · rw [e] at hqlt; simp at hqlt; omega
      · have hw' : ∀ q v, (w2.setCell ⟨ab, ap + 7, none⟩ (.slice (some ⟨g, 0, none⟩) y.kids.length ck)).cell? q = some v → q.block ≠ g → w'.cell? q = some v := fun q v hv hne => hq q v hv (fun i hi e => hne (by rw [e]))
        obtain ⟨k, mo, u, gg, o, at_, d, ks⟩ := y
        obtain ⟨e0, e1, e2, e3, e4, e5, e6, e7⟩ := hat3
        have hlen : (ks.set p (m, zz)).length = ks.length := List.length_set
        refine ⟨hw' _ _ e0 hgab.symm, hw' _ _ e1 hgab.symm, hw' _ _ e2 hgab.symm, hw' _ _ e3 hgab.symm, hw' _ _ e4 hgab.symm, hw' _ _ e5 hgab.symm, hw' _ _ e6 hgab.symm, ?_⟩
        show w'.cell? _ = some (.slice _ (ks.set p (m, zz)).length _)
        rw [hlen]
        exact hw' _ _ e7 hgab.symm
      · have ht := h.tree
        obtain ⟨k, mo, u, gg, o, at_, d, ks⟩ := y
        obtain ⟨t1, t2, t3, _⟩ := ndV_iff.1 ht
        have hlen : (ks.set p (m, zz)).length = ks.length := List.length_set
        refine ndV_iff.2 ⟨t1.on (mle_up hl h.sz), t2, ⟨by show (ks.set p (m, zz)).length ≤ ck; rw [hlen]; exact hc1, hc2⟩, .inr ⟨g, 0, rfl, fun i => if i = p then hzz else ((L[i]?).map (fun e => e.2.2)).getD hzz, ?_⟩⟩
        intro i n xx hi
        dsimp only
        change (ks.set p (m, zz))[i]? = some (n, xx) at hi
        have hil : i < ks.length := by have := (List.getElem?_eq_some_iff.1 hi).1; rwa [hlen] at this
        have hLl : i < L.length := by have := congrArg List.length hL; rw [bare_length] at this; show i < L.length; rw [this]; exact hil
        have hcell' : ∀ j u, (kfl L)[j]? = some u → (∀ q, q < 8 → j ≠ p * 9 + 1 + q) → w'.cell? ⟨g, j, none⟩ = some u := fun j u hj hn => hq _ _ (hcg j u hj) (fun q hqq e => hn q hqq (Addr.mk.inj e).2.1)
        by_cases hip : i = p
        · subst hip
          rw [List.getElem?_set_self hil] at hi
          simp only [Option.some.injEq, Prod.mk.injEq] at hi
          obtain ⟨rfl, rfl⟩ := hi
          rw [if_pos rfl, Nat.zero_add]
          refine ⟨⟨?_, nat_offS hgS hA⟩, hN⟩
          rw [offS_ne hgS]
          refine hcell' _ _ (by have := kfl_get L i m z hz he 0 _ rfl; simpa using this) (fun q hq' e => by omega)
        · rw [List.getElem?_set_ne (by omega)] at hi
          have hLi : L[i]? = some (n, xx, L[i].2.2) := by
            have e1 : (bare L)[i]? = some (n, xx) := by rw [hL]; exact hi
            unfold bare at e1
            rw [List.getElem?_map, List.getElem?_eq_getElem hLl] at e1
            simp at e1
            rw [List.getElem?_eq_getElem hLl]
            congr 1
            exact Prod.ext e1.1 (Prod.ext e1.2 rfl)
          rw [if_neg hip, hLi]
          simp only [Option.map_some, Option.getD_some]
          rw [Nat.zero_add]
          refine ⟨kdAt_iff.2 fun q u hq' => ?_, (hLN _ (List.mem_of_getElem? hLi)).on (mle_up hl h.sz)⟩
          rw [offS_ne hgS]
          have hq9 : q < 9 := by have := (List.getElem?_eq_some_iff.1 hq').1; simp [ndL_length] at this; omega
          exact hcell' _ _ (kfl_get L i _ _ _ hLi q u hq') (fun r hr e => by omega)
/-- At the end. -/
theorem Spine.fin {W wr w2 : World} {S : Nat → Bool} {nb : Nat} {x0 : Nd} {c : Option Nd} {l : List ByteArray} {m : ByteArray} {ab ap : Nat} {y : Nd} {hy : Hd} {M : Khs} {base n ck : Nat} {ak : Option Addr} (h : Spine W wr S nb x0 c l [m] ab ap y hy) (hb : Below wr.heap.size wr w2) (hbase : wr.heap.size ≤ base)
    (hMN : ∀ e ∈ M, NdV (offS W.cell? S) e.2.1 e.2.2) (hk : y.kind = 2) (hM : lastF c m y.kids = .ok (bare M)) (hn : M.length = n) (hrow : w2.ownsRow base 102 9 (.slice ak n ck) n (kfl M)) :
    ∃ r hr, chgF c l x0 = .ok r ∧ NBox (w2.setCell ⟨ab, ap + 7, none⟩ (.slice ak n ck)) nb r hr ∧ NdV (offS (w2.setCell ⟨ab, ap + 7, none⟩ (.slice ak n ck)).cell? (upS nb S)) r hr ∧ Below W.heap.size W (w2.setCell ⟨ab, ap + 7, none⟩ (.slice ak n ck)) ∧ NBw (w2.setCell ⟨ab, ap + 7, none⟩ (.slice ak n ck)) (nb + 1) zN zH := by
  subst hn
  obtain ⟨plug, h1, h2⟩ := h.wand
  have hlt := h.atc.lt
  have hlow3 : Below W.heap.size W (w2.setCell ⟨ab, ap + 7, none⟩ (.slice ak M.length ck)) := (h.low.trans (hb.mono h.low.size)).setCell (p := ⟨ab, ap + 7, none⟩) (by show W.heap.size ≤ ab; have := h.ge; have := h.sz; omega) _
  have hrow3 := owns_set hrow (p := ⟨ab, ap + 7, none⟩) (show ab < base by omega) (.slice ak M.length ck)
  obtain ⟨a8, c8, e8, h81, h82, hK8, _⟩ := ksH_of_ownsS (S := upS nb S) (fun k hk => by
    simp [upS] at hk
    rcases hk with hk | hk
    · have := h.res.1.lt; omega
    · have := h.hS k hk; have := h.low.size; omega) hrow3 (fun e he => (hMN e he).on (mle_up hlow3 h.sz))
  simp only [Value.slice.injEq, true_and] at e8
  obtain ⟨rfl, rfl⟩ := e8
  have hat3 := nat_set7 (h.atc.below hb) (bare M) ak ck
  rw [bare_length] at hat3
  have hN3 : NdV (offS (w2.setCell ⟨ab, ap + 7, none⟩ (.slice ak M.length ck)).cell? (upS nb S)) (y.with (bare M)) ⟨hy.aa, hy.ca, ak, ck⟩ := by
    have ht := h.tree
    obtain ⟨k, mo, u, gg, o, at_, d, ks⟩ := y
    obtain ⟨t1, t2, t3, _⟩ := ndV_iff.1 ht
    exact ndV_iff.2 ⟨t1.on (mle_up hlow3 h.sz), t2, ⟨by rw [bare_length]; exact h81, h82⟩, ksH_ksV hK8⟩
  obtain ⟨hr, g1, g2⟩ := h2 _ hlow3 (fun q v hv hn => (World.cell?_setCell_other _ _ _ _ (fun e => hn 7 (by omega) e.symm)).trans ((hb.cell (World.block_lt_of_cell? _ _ hv)).trans hv)) _ _ hat3 hN3
  refine ⟨_, hr, ?_, g1, g2, hlow3, (h.res.below hb).other (p := ⟨ab, ap + 7, none⟩) h.ne _⟩
  rw [h1, chgF, if_neg (by simp [hk]), hM]
  rfl
end Go.Proofs.Ytkkhfnkmfkdhiab
