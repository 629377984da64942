/-
  THE READER: node: the walk.
-/
import Derived.Test.YtkkhfnkmfkdhiabRe
import Derived.Deep.RegionHeld3
import Derived.Deep.RegionLaw
import Derived.Deep.Cut
namespace Go.Proofs.Ytkkhfnkmfkdhiab
open Go.RowKit

/-- A box, cell by cell, which may be written. -/
def BX (w : World) (b : Nat) (vs : List Value) : Prop := (∀ (j : Nat) v, vs[j]? = some v → w.cell? ⟨b, j, none⟩ = some v) ∧ ∀ j : Nat, w.frozen? ⟨b, j, none⟩ = false
theorem BX.lt {w : World} {b : Nat} {v : Value} {vs : List Value} (h : BX w b (v :: vs)) : b < w.heap.size := World.block_lt_of_cell? _ _ (h.1 0 v rfl)
theorem BX.same {w w' : World} {b : Nat} {vs : List Value} (h : BX w b vs) (hb : w'.heap[b]? = w.heap[b]?) : BX w' b vs :=
  ⟨fun j v hj => (World.cell?_of_block (w := w) hb).trans (h.1 j v hj), fun j => (World.frozen?_of_block (w := w) hb).trans (h.2 j)⟩
theorem BX.below {w w' : World} {b : Nat} {v : Value} {vs : List Value} (h : BX w b (v :: vs)) (hb : Below w.heap.size w w') : BX w' b (v :: vs) := h.same (hb.block b h.lt)
theorem BX.but {w w' : World} {b rb : Nat} {v : Value} {vs : List Value} (h : BX w b (v :: vs)) (hb : But rb w w') (hne : b ≠ rb) : BX w' b (v :: vs) := h.same (hb.block b h.lt hne)
theorem BX.grown {w w' : World} {b : Nat} {v : Value} {vs : List Value} {row : Option Nat} (h : BX w b (v :: vs)) (hb : w.grownBy w' row) (hne : some b ≠ row) : BX w' b (v :: vs) := h.same (hb.block b h.lt hne)
theorem BX.set {w : World} {b : Nat} {vs : List Value} (h : BX w b vs) (i : Nat) (hi : i < vs.length) (u : Value) : BX (w.setCell ⟨b, i, none⟩ u) b (vs.set i u) := by
  refine ⟨fun j v hj => ?_, fun j => by simpa using h.2 j⟩
  by_cases e : i = j
  · subst e
    rw [List.getElem?_set_self hi] at hj
    cases hj
    exact World.cell?_setCell_same _ _ _ (h.1 i vs[i] (List.getElem?_eq_getElem hi))
  · rw [List.getElem?_set_ne e] at hj
    exact (World.cell?_setCell_other _ _ _ _ (by simp)).trans (h.1 j v hj)
theorem BX.other {w : World} {b c i : Nat} {vs : List Value} (h : BX w b vs) (hne : b ≠ c) (u : Value) : BX (w.setCell ⟨c, i, none⟩ u) b vs := h.same (Below.heap_setCell _ _ _ _ hne)
theorem BX.new (w : World) (vs : List Value) (t : TypeId) : BX (w.alloc (.cells vs.toArray t)) w.heap.size vs :=
  ⟨fun j v hj => by refine (World.cell?_alloc_at _ _ _ _ rfl).trans ?_; simpa using hj, fun _ => World.frozen?_alloc_new _ _ _ _⟩
/-- What a call of node tells. -/
structure NP (fu : Nat) (l : List UInt8) (n : Nat) (f : Bool) (x : Nd) (l' : List UInt8) (n' : Nat) (f' : Bool) : Prop where
  nil : f' = true → l' = []
  le : n' ≤ 61
  len : l'.length ≤ l.length
  ok : f' = false → f = false ∧ n' ≤ 60 ∧ rNd dT fu l = some (x, l') ∧ n' = n + cnt x
  bad : f' = true → f = false → ∀ y q, rNd dT fu l = some (y, q) → 60 < n + cnt y
/-- How node begins. -/
def HSt (n : Nat) (l : List UInt8) (f : Bool) (la : List UInt8) (fa : Bool) (n1 : Nat) : Prop := (n = 60 ∧ la = [] ∧ fa = true ∧ n1 = 61) ∨ (n < 60 ∧ la = l ∧ fa = f ∧ n1 = n + 1)
theorem RB.but {w w' : World} {rb c : Nat} {l : List UInt8} {n : Int} {f : Bool} (h : RB w rb l n f) (hb : But c w w') (hne : rb ≠ c) : RB w' rb l n f := by
  have hl := h.lt
  exact ⟨(hb.cell (p := ⟨rb, 0, none⟩) hl hne).trans h.c0, (hb.cell (p := ⟨rb, 1, none⟩) hl hne).trans h.c1, (hb.cell (p := ⟨rb, 2, none⟩) hl hne).trans h.c2, (hb.frozen (p := ⟨rb, 0, none⟩) hl hne).trans h.f0, (hb.frozen (p := ⟨rb, 1, none⟩) hl hne).trans h.f1, (hb.frozen (p := ⟨rb, 2, none⟩) hl hne).trans h.f2⟩
theorem RB.grown {w w' : World} {rb : Nat} {l : List UInt8} {n : Int} {f : Bool} {row : Option Nat} (h : RB w rb l n f) (hb : w.grownBy w' row) (hne : some rb ≠ row) : RB w' rb l n f := by
  have hl := hb.block rb h.lt hne
  exact ⟨(World.cell?_of_block (w := w) hl).trans h.c0, (World.cell?_of_block (w := w) hl).trans h.c1, (World.cell?_of_block (w := w) hl).trans h.c2, (World.frozen?_of_block (w := w) hl).trans h.f0, (World.frozen?_of_block (w := w) hl).trans h.f1, (World.frozen?_of_block (w := w) hl).trans h.f2⟩
theorem RB.other {w : World} {rb c i : Nat} {l : List UInt8} {n : Int} {f : Bool} (h : RB w rb l n f) (hne : rb ≠ c) (u : Value) : RB (w.setCell ⟨c, i, none⟩ u) rb l n f := by
  have hb := Below.heap_setCell w ⟨c, i, none⟩ u rb hne
  exact ⟨(World.cell?_of_block (w := w) hb).trans h.c0, (World.cell?_of_block (w := w) hb).trans h.c1, (World.cell?_of_block (w := w) hb).trans h.c2, (World.frozen?_of_block (w := w) hb).trans h.f0, (World.frozen?_of_block (w := w) hb).trans h.f1, (World.frozen?_of_block (w := w) hb).trans h.f2⟩
theorem But.trans' {W w : World} {rb nb : Nat} (h : But rb W w) (hn : W.heap.size < nb) (i : Nat) (v : Value) : But rb W (w.setCell ⟨nb, i, none⟩ v) :=
  ⟨h.os, h.tape, h.output, by simpa [World.setCell] using h.size, fun k hk hkr => (Below.heap_setCell _ _ _ _ (by show k ≠ nb; omega)).trans (h.block k hk hkr)⟩
theorem but_new {W w : World} {rb nb : Nat} (h : But rb W w) (hn : W.heap.size < nb) (i : Nat) (v : Value) : But rb W (w.setCell ⟨nb, i, none⟩ v) :=
  h.trans' hn i v
/-- What stands while the attributes are read. -/
structure AI (W wr : World) (rb nb n1 : Nat) (k m u g : Int) (o : Bool) (d : ByteArray) (A : List Kv) (va : Value) (lc : List UInt8) (fc : Bool) : Prop where
  r : RB wr rb lc n1 fc
  x : BX wr W.heap.size [.int .i64 0, .int .i64 0, .int .i64 0, .int .i64 0, .bool false, .slice none 0 0, .string ⟨#[]⟩, .slice none 0 0]
  b : BX wr nb [.int .i64 k, .int .i64 m, .int .i64 u, .int .i64 g, .bool o, va, .string d, .slice none 0 0]
  row : wr.ownsRow (nb + 1) 146 2 va A.length (flat A)
  but : But rb W wr
  lt : W.heap.size < nb
  rl : rb < W.heap.size
theorem row_but {w w' : World} {rb b : Nat} {e : TypeId} {z : Nat} {v : Value} {n : Nat} {xs : List Value} (h : w.ownsRow b e z v n xs) (hb : But rb w w') (hne : rb < b) : w'.ownsRow b e z v n xs := by
  have hg : w.grownBy w' (some rb) := ⟨hb.os, hb.tape, hb.output, hb.size, fun k hk hs => hb.block k hk (fun e => hs (by rw [e]))⟩
  refine h.kept hg ?_
  cases hv : v.ownBlock with
  | none => exact .inl rfl
  | some q => exact .inr (fun e => by have := (h.lt q hv).1; simp at e; omega)
theorem row_neA {w : World} {b : Nat} {e : TypeId} {z : Nat} {v : Value} {n : Nat} {xs : List Value} (h : w.ownsRow (b + 1) e z v n xs) : some b ≠ v.ownBlock := fun e => by have := (h.lt _ e.symm).1; omega
theorem kv_new (w : World) (a b : ByteArray) (t : TypeId) : ∀ j u, (flat [⟨a, b⟩])[j]? = some u → (w.alloc (.cells #[.string a, .string b] t)).cell? ((⟨w.heap.size, 0, none⟩ : Addr).add j) = some u := by
  intro j u hj
  rw [addr_add, Nat.zero_add]
  refine (World.cell?_alloc_at _ _ _ _ rfl).trans ?_
  simpa [flat] using hj
theorem AI.but' {W wr w' : World} {rb nb n1 : Nat} {k m u g : Int} {o : Bool} {d : ByteArray} {A : List Kv} {va : Value} {lc : List UInt8} {fc : Bool} {l' : List UInt8} {f' : Bool} (h : AI W wr rb nb n1 k m u g o d A va lc fc) (hb : But rb wr w') (hr : RB w' rb l' n1 f') : AI W w' rb nb n1 k m u g o d A va l' f' := by
  have h1 := h.lt
  have h2 := h.rl
  exact ⟨hr, h.x.but hb (by omega), h.b.but hb (by omega), row_but h.row hb (by omega), h.but.trans hb, h1, h2⟩
theorem AI.app {W wr w' : World} {rb nb n1 : Nat} {k m u g : Int} {o : Bool} {d : ByteArray} {A : List Kv} {va v' : Value} {lc : List UInt8} {fc : Bool} (h : AI W wr rb nb n1 k m u g o d A va lc fc) (ob : Obj) (hg : (wr.alloc ob).grownBy w' va.ownBlock) (r : Kv) (hrow : w'.ownsRow (nb + 1) 146 2 v' (A.length + 1) (flat A ++ flat [r])) : AI W (w'.setCell ⟨nb, 5, none⟩ v') rb nb n1 k m u g o d (A ++ [r]) v' lc fc := by
  have h1 := h.lt
  have h2 := h.rl
  have ha : Below wr.heap.size wr (wr.alloc ob) := (Below.refl _ _).alloc (Nat.le_refl _) _
  have hn : ∀ c, c ≤ nb → some c ≠ va.ownBlock := fun c hc e => by have := (h.row.lt c e.symm).1; omega
  refine ⟨((h.r.below ha).grown hg (hn _ (by omega))).other (by omega) _, ((h.x.below ha).grown hg (hn _ (by omega))).other (by omega) _, ((h.b.below ha).grown hg (hn _ (Nat.le_refl _))).set 5 (by simp) v', ?_, ?_, h1, h2⟩
  · rw [List.length_append, flat_append]
    exact ownsRow_setCell_below hrow (by show nb < nb + 1; omega) _
  · refine ⟨?_, ?_, ?_, ?_, fun k hk hkr => ?_⟩
    · exact hg.os.trans (ha.os.trans h.but.os)
    · exact hg.tape.trans (ha.tape.trans h.but.tape)
    · exact hg.output.trans (ha.output.trans h.but.output)
    · have q1 := h.but.size
      have q2 := ha.size
      have q3 := hg.size
      simp [World.setCell]
      omega
    · have q1 := h.but.size
      have q2 := ha.size
      rw [Below.heap_setCell _ _ _ _ (by show k ≠ nb; omega), hg.block k (by omega) (hn k (by omega)), ha.block k (by omega)]
      exact h.but.block k hk hkr
theorem Hdr.rest {la : List UInt8} {fa : Bool} {kb zm zu zg ca : Nat} {A : List Kv} {sd : ByteArray} {ck : Nat} {lq : List UInt8} {fq : Bool} (h : Hdr la fa kb zm zu zg ca A sd ck lq fq) (hfa : fa = true → la = []) : (fq = true → lq = []) ∧ lq.length ≤ la.length ∧ (fq = false → fa = false ∧ 1 ≤ la.length) ∧ ck ≤ 255 := by
  obtain ⟨lb, fb, lm, fm, lu, fu_, lg, fg, lc, fc, lt, ft, ld, fd, ⟨a1, a2⟩, ⟨b1, b2⟩, ⟨c1, c2⟩, ⟨d1, d2⟩, ⟨e1, e2⟩, f1, ⟨g1, g2⟩, ⟨h1, h2⟩⟩ := h.out
  have nx : ∀ {k : Nat} {l : List UInt8} {f : Bool} {l' : List UInt8} {f' : Bool}, (tkR k l f).2 = (l', f') → (f = true → l = []) → (f' = true → l' = []) ∧ l'.length ≤ l.length ∧ (f' = false → f = false ∧ k ≤ l.length) := fun {k l f l' f'} e hf => by
    have q1 := tkR_nil (n := k) hf
    have q2 := (tkR_len k l f).2
    have q3 := tk_pos (n := k) (l := l) (f := f)
    rw [e] at q1 q2 q3
    exact ⟨q1, q2, fun e' => ⟨(q3 e').2.1, (q3 e').1⟩⟩
  have A1 := nx a2 hfa
  have A2 := nx b2 A1.1
  have A3 := nx c2 A2.1
  have A4 := nx d2 A3.1
  have A5 := nx e2 A4.1
  have q6 := atR_nil (c := ca) A5.1
  have q6l := atR_len ca lc fc
  have q6f : ft = false → fc = false := fun e => by
    cases hc : fc with
    | false => rfl
    | true =>
      have t : ft = true := by
        have := atR_true ca lc
        rw [hc] at f1
        rw [f1] at this
        exact this
      rw [e] at t
      cases t
  rw [f1] at q6 q6l
  have q7 := txR_nil q6
  have q7l := txR_len lt ft
  have q7f := tx_pos (l := lt) (f := ft)
  rw [g2] at q7 q7l q7f
  have A8 := nx h2 q7
  dsimp only at q6l q7l q7f
  have hck : ck ≤ 255 := by rw [← h1]; exact nuV_one (tkR_len 1 ld fd).1
  refine ⟨A8.1, ?_, fun e => ?_, hck⟩
  · have := A8.2.1; have := A5.2.1; have := A4.2.1; have := A3.2.1; have := A2.2.1; have := A1.2.1
    omega
  · have e8 := (A8.2.2 e).1
    have e7 := (q7f e8).1
    have e5 := (A5.2.2 (q6f e7)).1
    exact A1.2.2 (A2.2.2 (A3.2.2 (A4.2.2 e5).1).1).1
abbrev newM (B : Nat) (w : World) : Mem := offS w.cell? (fun k => decide (k < B))
/-- The blocks that no kid's tree has. -/
def KS (B nb : Nat) (vk : Value) : Nat → Bool := fun k => decide (k ≤ B) || k == nb || some k == vk.ownBlock
theorem KS_false {B nb : Nat} {vk : Value} {k : Nat} : KS B nb vk k = false ↔ B < k ∧ k ≠ nb ∧ some k ≠ vk.ownBlock := by
  unfold KS
  simp only [Bool.or_eq_false_iff, decide_eq_false_iff_not, beq_eq_false_iff_ne, ne_eq]
  constructor
  · rintro ⟨⟨h1, h2⟩, h3⟩; exact ⟨by omega, h2, h3⟩
  · rintro ⟨h1, h2, h3⟩; exact ⟨⟨by omega, h2⟩, h3⟩
/-- What stands while the kids are read. -/
structure KI (W wr : World) (rb nb : Nat) (k m u g : Int) (o : Bool) (A : List Kv) (va : Value) (d : ByteArray) (L : Khs) (vk : Value) (lk : List UInt8) (nk : Nat) (fk : Bool) : Prop where
  r : RB wr rb lk nk fk
  x : BX wr W.heap.size [.int .i64 0, .int .i64 0, .int .i64 0, .int .i64 0, .bool false, .slice none 0 0, .string ⟨#[]⟩, .slice none 0 0]
  b : BX wr nb [.int .i64 k, .int .i64 m, .int .i64 u, .int .i64 g, .bool o, va, .string d, vk]
  rowA : wr.ownsRow (nb + 1) 146 2 va A.length (flat A)
  row : wr.ownsRow (nb + 1) 102 9 vk L.length (kfl L)
  ap : vk.ownBlock = none ∨ vk.ownBlock ≠ va.ownBlock
  nds : ∀ e ∈ L, NdV (offS wr.cell? (KS W.heap.size nb vk)) e.2.1 e.2.2
  but : But rb W wr
  lt : W.heap.size < nb
  rl : rb < W.heap.size
theorem AI.kids {W wr : World} {rb nb n1 : Nat} {k m u g : Int} {o : Bool} {A : List Kv} {va : Value} {lc : List UInt8} {fc : Bool} (h : AI W wr rb nb n1 k m u g o ⟨#[]⟩ A va lc fc) (d : ByteArray) : KI W (wr.setCell ⟨nb, 6, none⟩ (.string d)) rb nb k m u g o A va d [] (.slice none 0 0) lc n1 fc := by
  have h1 := h.lt
  have h2 := h.rl
  exact ⟨h.r.other (by omega) _, h.x.other (by omega) _, h.b.set 6 (by simp) _, ownsRow_setCell_below h.row (by show nb < nb + 1; omega) _, World.ownsRow_nil _ _ _ _, .inl rfl, fun e he => (by cases he), but_new h.but h1 _ _, h1, h2⟩
theorem KI.but' {W wr w' : World} {rb nb : Nat} {k m u g : Int} {o : Bool} {A : List Kv} {va : Value} {d : ByteArray} {L : Khs} {vk : Value} {lk : List UInt8} {nk : Nat} {fk : Bool} {l' : List UInt8} {n' : Nat} {f' : Bool} (h : KI W wr rb nb k m u g o A va d L vk lk nk fk) (hb : But rb wr w') (hr : RB w' rb l' n' f') : KI W w' rb nb k m u g o A va d L vk l' n' f' := by
  have h1 := h.lt
  have h2 := h.rl
  refine ⟨hr, h.x.but hb (by omega), h.b.but hb (by omega), row_but h.rowA hb (by omega), row_but h.row hb (by omega), h.ap, fun e he => (h.nds e he).on (mle_step fun q hq hs => ?_), h.but.trans hb, h1, h2⟩
  have hs2 := KS_false.1 hs
  exact ⟨hs, hb.block q hq (by omega)⟩
theorem bare_len (L : Khs) : (bare L).length = L.length := by simp [bare]
theorem neA_flip {a b : Option Nat} (h : a = none ∨ a ≠ b) : b = none ∨ b ≠ a := by
  rcases h with e | e
  · cases b with
    | none => exact .inl rfl
    | some s => exact .inr (by rw [e]; simp)
  · exact .inr (fun q => e q.symm)
theorem KI.app {W w6 w7 : World} {rb nb B5 : Nat} {k m u g : Int} {o : Bool} {A : List Kv} {va : Value} {d : ByteArray} {L : Khs} {vk v' : Value} {lk : List UInt8} {nk : Nat} {fk : Bool} (h : KI W w6 rb nb k m u g o A va d L vk lk nk fk) (ob : Obj) (hg : (w6.alloc ob).grownBy w7 vk.ownBlock) (e : ByteArray × Nd × Hd) (hN : NdV (newM B5 w6) e.2.1 e.2.2) (_hB : W.heap.size < B5) (hnb : nb < B5) (hvk : ∀ s, vk.ownBlock = some s → s < B5) (hrow : w7.ownsRow (nb + 1) 102 9 v' (L.length + 1) (kfl L ++ kfl [e])) (ho : v'.ownBlock = vk.ownBlock ∨ v'.ownBlock = some (w6.heap.size + 1)) :
    KI W (w7.setCell ⟨nb, 7, none⟩ v') rb nb k m u g o A va d (L ++ [e]) v' lk nk fk := by
  have h1 := h.lt
  have h2 := h.rl
  have ha : Below w6.heap.size w6 (w6.alloc ob) := (Below.refl _ _).alloc (Nat.le_refl _) _
  have hn : ∀ c, c ≤ nb → some c ≠ vk.ownBlock := fun c hc e => by have := (h.row.lt c e.symm).1; omega
  have hheap : ∀ q, q < w6.heap.size → q ≠ nb → some q ≠ vk.ownBlock → (w7.setCell ⟨nb, 7, none⟩ v').heap[q]? = w6.heap[q]? := fun q hq hqn hqv => by
    rw [Below.heap_setCell _ _ _ _ (by show q ≠ nb; omega), hg.block q (by rw [World.size_alloc]; omega) hqv, ha.block q hq]
  have hv' : ∀ q, q < w6.heap.size → some q ≠ vk.ownBlock → some q ≠ v'.ownBlock := fun q hq hqv e => by
    rcases ho with e2 | e2
    · rw [e2] at e; exact hqv e
    · rw [e2] at e
      have : q = w6.heap.size + 1 := by simpa using e
      omega
  refine ⟨((h.r.below ha).grown hg (hn _ (by omega))).other (by omega) _, ((h.x.below ha).grown hg (hn _ (by omega))).other (by omega) _, ((h.b.below ha).grown hg (hn _ (Nat.le_refl _))).set 7 (by simp) v', ?_, ?_, ?_, ?_, ?_, h1, h2⟩
  · exact ownsRow_setCell_below ((h.rowA.alloc ob).kept hg (neA_flip h.ap)) (by show nb < nb + 1; omega) _
  · rw [List.length_append, kfl_append]
    exact ownsRow_setCell_below hrow (by show nb < nb + 1; omega) _
  · rcases ho with e2 | e2
    · rw [e2]; exact h.ap
    · refine .inr ?_
      rw [e2]
      intro q
      have := (h.rowA.lt _ q.symm).2
      omega
  · intro c hc
    rcases List.mem_append.1 hc with hc | hc
    · refine (h.nds c hc).on (mle_step fun q hq hs => ?_)
      have hs2 := KS_false.1 hs
      exact ⟨KS_false.2 ⟨hs2.1, hs2.2.1, hv' q hq hs2.2.2⟩, hheap q hq hs2.2.1 hs2.2.2⟩
    · simp at hc
      subst hc
      refine hN.on (mle_step fun q hq hs => ?_)
      have hs2 : B5 ≤ q := by have := of_decide_eq_false hs; omega
      have hqv : some q ≠ vk.ownBlock := fun e => by have := hvk q e.symm; omega
      exact ⟨KS_false.2 ⟨by omega, by omega, hv' q hq hqv⟩, hheap q hq (by omega) hqv⟩
  · refine ⟨?_, ?_, ?_, ?_, fun q hq hqr => ?_⟩
    · exact hg.os.trans (ha.os.trans h.but.os)
    · exact hg.tape.trans (ha.tape.trans h.but.tape)
    · exact hg.output.trans (ha.output.trans h.but.output)
    · have q1 := h.but.size
      have q2 := ha.size
      have q3 := hg.size
      have q4 : (w7.setCell ⟨nb, 7, none⟩ v').heap.size = w7.heap.size := by simp [World.setCell]
      rw [q4]
      omega
    · have q1 := h.but.size
      rw [hheap q (by omega) (by omega) (hn q (by omega))]
      exact h.but.block q hq hqr
theorem KI.fin {W wr w' : World} {rb nb : Nat} {k m u g : Int} {o : Bool} {A : List Kv} {aa ak : Option Addr} {c1 c2 : Nat} {d : ByteArray} {L : Khs} {lk : List UInt8} {nk : Nat} {fk : Bool} (h : KI W wr rb nb k m u g o A (.slice aa A.length c1) d L (.slice ak L.length c2) lk nk fk) (hb : But W.heap.size wr w') : NdV (newM W.heap.size w') (.mk k m u g o A d (bare L)) ⟨aa, c1, ak, c2⟩ := by
  have h1 := h.lt
  have hS : ∀ q, (decide (q < W.heap.size)) = true → q < nb + 1 := fun q e => by have := of_decide_eq_true e; omega
  obtain ⟨a1, b1, e1, p1, p2, p3⟩ := kvm_of_ownsS (S := fun q => decide (q < W.heap.size)) hS (row_but h.rowA hb (by omega))
  obtain ⟨a2, b2, e2, q1, q2, q3, _⟩ := ksH_of_ownsS (S := fun q => decide (q < W.heap.size)) hS (row_but h.row hb (by omega)) (fun e he => (h.nds e he).on (mle_step fun q hq hs => by
    have hs2 := KS_false.1 hs
    exact ⟨decide_eq_false (by omega), hb.block q hq (by omega)⟩))
  simp only [Value.slice.injEq, true_and] at e1 e2
  obtain ⟨rfl, rfl⟩ := e1
  obtain ⟨rfl, rfl⟩ := e2
  refine ndV_iff.2 ⟨p3, ⟨p1, p2⟩, ⟨?_, q2⟩, ksH_ksV q3⟩
  rw [bare_len]; exact q1
theorem eightX {w : World} {b : Nat} {a0 a1 a2 a3 a4 a5 a6 a7 : Value} (h : BX w b [a0, a1, a2, a3, a4, a5, a6, a7]) : w.cell? ⟨b, 0, none⟩ = some a0 ∧ w.cell? ⟨b, 1, none⟩ = some a1 ∧ w.cell? ⟨b, 2, none⟩ = some a2 ∧ w.cell? ⟨b, 3, none⟩ = some a3 ∧ w.cell? ⟨b, 4, none⟩ = some a4 ∧ w.cell? ⟨b, 5, none⟩ = some a5 ∧ w.cell? ⟨b, 6, none⟩ = some a6 ∧ w.cell? ⟨b, 7, none⟩ = some a7 :=
  ⟨h.1 0 _ rfl, h.1 1 _ rfl, h.1 2 _ rfl, h.1 3 _ rfl, h.1 4 _ rfl, h.1 5 _ rfl, h.1 6 _ rfl, h.1 7 _ rfl⟩
theorem kid_newA (w : World) (nm : ByteArray) (x : Nd) (h : Hd) (t : TypeId) : ∀ j u, (kfl [(nm, x, h)])[j]? = some u → (w.alloc (.cells (kfl [(nm, x, h)]).toArray t)).cell? ((⟨w.heap.size, 0, none⟩ : Addr).add j) = some u := by
  intro j u hj
  rw [addr_add, Nat.zero_add]
  refine (World.cell?_alloc_at _ _ _ _ rfl).trans ?_
  simpa using hj
def mes (l : List UInt8) (f : Bool) : Nat := if f = true then 0 else l.length + 1
theorem NP.of {n : Nat} {l : List UInt8} {f : Bool} {la : List UInt8} {fa : Bool} {n1 : Nat} (hs : HSt n l f la fa n1) {kb zm zu zg ca : Nat} {A : List Kv} {sd : ByteArray} {ck : Nat} {lq : List UInt8} {fq : Bool} (hh : Hdr la fa kb zm zu zg ca A sd ck lq fq) {fu : Nat} {j : Nat} {K : Kds} {lk : List UInt8} {nk : Nat} {fk : Bool} (hk : KR (rNd dT fu) ck lq n1 fq j K lk nk fk) (hj : j = 0 ∨ fk = true) (hnil : fk = true → lk = []) (hle : nk ≤ 61) (hlen : lk.length ≤ l.length) {kk : Int} {oo : Bool} (hd : (dT kb).1 = kk ∧ (dT kb).2 = oo) : NP (fu + 1) l n f (.mk kk zm zu zg oo A sd K) lk nk fk := by
  obtain ⟨s1, s2⟩ := hh.says fu
  rw [hd.1, hd.2] at s1
  refine ⟨hnil, hle, hlen, fun e => ?_, fun e ef y q hy => ?_⟩
  · obtain ⟨k1, k2, k3, k4⟩ := hk.ok e
    have j0 : j = 0 := by
      rcases hj with h | h
      · exact h
      · rw [e] at h; cases h
    subst j0
    obtain ⟨a1, a2⟩ := s1 k1
    rw [k4, rKs_zero] at a2
    simp only [Option.bind_some, List.append_nil] at a2
    rcases hs with ⟨_, _, h3, _⟩ | ⟨h1, h2, h3, h4⟩
    · rw [h3] at a1; cases a1
    · rw [h2] at a2
      rw [h3] at a1
      exact ⟨a1, k3, a2, by rw [k2, h4, cnt]; omega⟩
  · rcases hs with ⟨h1, _, _, _⟩ | ⟨h1, h2, h3, h4⟩
    · have := cnt_pos y; omega
    · rw [← h2] at hy
      have hfa : fa = false := h3.trans ef
      cases hfq : fq with
      | true => rw [s2 hfq hfa] at hy; cases hy
      | false =>
        rw [(s1 hfq).2] at hy
        cases hr : rKs (rNd dT fu) ck lq with
        | none => rw [hr] at hy; cases hy
        | some r =>
          have hb := hk.bad e hfq r.1 r.2 hr
          rw [hr] at hy
          simp only [Option.bind_some, Option.some.injEq, Prod.mk.injEq] at hy
          rw [← hy.1, cnt]
          omega
theorem but_two {W w w' : World} {rb : Nat} (h : But rb W w) (hb : But W.heap.size w w') : But rb W w' :=
  ⟨hb.os.trans h.os, hb.tape.trans h.tape, hb.output.trans h.output, Nat.le_trans h.size hb.size, fun k hk hkr => (hb.block k (Nat.lt_of_lt_of_le hk h.size) (by omega)).trans (h.block k hk hkr)⟩
set_option maxRecDepth 100000 in
set_option maxHeartbeats 4000000 in
theorem dnode_any (rb : Nat) : ∀ (md : Nat) (W : World) (l : List UInt8) (n : Nat) (f : Bool), mes l f < md → RB W rb l n f → n ≤ 60 → (f = true → l = []) → l.length ≤ 100000 → ∀ fu, l.length < fu →
    Calls Try.prog 64 #[.pointer (some ⟨rb, 0, none⟩)] W fun e w' => ∃ x h l' n' f', e = .returned (ndV x h) ∧ RB w' rb l' (n' : Nat) f' ∧ But rb W w' ∧ NdV (newM W.heap.size w') x h ∧ NP fu l n f x l' n' f' := by
  obtain ⟨i1, hj0, hj1, hj2, hj3⟩ := info_three Try.infoA
  have HJ0 : Hid _ := hj0
  have HJ1 : Hid _ := hj1
  have HJ2 : Hid _ := hj2
  have HJ3 : Hid _ := hj3
  clear hj0 hj1 hj2 hj3
  obtain ⟨i2, hg0, hg1, hg2, hg3⟩ := info_three Try.infoK
  have HG0 : Hid _ := hg0
  have HG1 : Hid _ := hg1
  have HG2 : Hid _ := hg2
  have HG3 : Hid _ := hg3
  clear hg0 hg1 hg2 hg3
  intro md
  induction md with
  | zero => intro W l n f h; omega
  | succ md ih =>
    intro W l n f hmes hR hn hfl hll fu hfu
    have HIH : Hid _ := ih
    have HR : Hid (RB W rb l n f) := hR
    clear ih hR
    have hrb := HR.out.lt
    have HR1 : Hid (RB (W.alloc (.cells #[.int .i64 0, .int .i64 0, .int .i64 0, .int .i64 0, .bool false, .slice none 0 0, .string ⟨#[]⟩, .slice none 0 0] 25)) rb l n f) := HR.out.below ((Below.refl _ _).alloc (Nat.le_refl _) _)
    have HX1 : Hid (BX (W.alloc (.cells #[.int .i64 0, .int .i64 0, .int .i64 0, .int .i64 0, .bool false, .slice none 0 0, .string ⟨#[]⟩, .slice none 0 0] 25)) W.heap.size [.int .i64 0, .int .i64 0, .int .i64 0, .int .i64 0, .bool false, .slice none 0 0, .string ⟨#[]⟩, .slice none 0 0]) := BX.new W _ _
    have HB1 : Hid (But rb W (W.alloc (.cells #[.int .i64 0, .int .i64 0, .int .i64 0, .int .i64 0, .bool false, .slice none 0 0, .string ⟨#[]⟩, .slice none 0 0] 25))) := (But.refl _ _).alloc _
    go_enter Try.func64, Try.ntmps64
    obtain ⟨r0, r1, r2, r3, r4, r5⟩ := HR1.out
    have eN : ((n + 1 : Nat) : Int) = (n : Int) + 1 := by omega
    by_cases h60 : n = 60
    · subst h60
      go_wp2_with fail
      refine Calls.mono (dfail_any HR1.out) ?_
      rintro e w1 ⟨rfl, hb, hr⟩
      have HX2 : Hid (BX w1 W.heap.size [.int .i64 0, .int .i64 0, .int .i64 0, .int .i64 0, .bool false, .slice none 0 0, .string ⟨#[]⟩, .slice none 0 0]) := HX1.out.but hb (by omega)
      have HB2 : Hid (But rb W w1) := HB1.out.trans hb
      have HRx : Hid (RB w1 rb [] (60 : Nat) true) := hr
      clear hb r0 r1 r2 r3 r4 r5 HX1 HR1 HB1
      obtain ⟨r0, r1, r2, r3, r4, r5⟩ := hr
      go_upto_region 4 with fail
      have HRA : Hid (RB (w1.setCell ⟨rb, 1, none⟩ (.int .i64 61)) rb [] ((61 : Nat) : Int) true) := HRx.out.set1 61
      have HXA : Hid (BX (w1.setCell ⟨rb, 1, none⟩ (.int .i64 61)) W.heap.size [.int .i64 0, .int .i64 0, .int .i64 0, .int .i64 0, .bool false, .slice none 0 0, .string ⟨#[]⟩, .slice none 0 0]) := HX2.out.other (by omega) _
      have HBA : Hid (But rb W (w1.setCell ⟨rb, 1, none⟩ (.int .i64 61))) := HB2.out.setCell _ _ _
      obtain ⟨la, fa, n1, HRA, HS, hla, hfa, hn1⟩ : ∃ la fa n1, Hid (RB (w1.setCell ⟨rb, 1, none⟩ (.int .i64 61)) rb la ((n1 : Nat) : Int) fa) ∧ Hid (HSt 60 l f la fa n1) ∧ la.length ≤ l.length ∧ (fa = true → la = []) ∧ n1 ≤ 61 := ⟨[], true, 61, HRA, .inl ⟨rfl, rfl, rfl, rfl⟩, Nat.zero_le _, fun _ => rfl, Nat.le_refl _⟩
      clear HRx HX2 HB2 HR r0 r1 r2 r3 r4 r5 eN
      generalize w1.setCell ⟨rb, 1, none⟩ (.int .i64 61) = wA at HRA HXA HBA ⊢
      obtain ⟨kb, hkb⟩ : ∃ z, nuV (tkR 1 la fa).1 = z := ⟨_, rfl⟩
      obtain ⟨⟨lb, fb⟩, hlb⟩ : ∃ p, (tkR 1 la fa).2 = p := ⟨_, rfl⟩
      have hlbl := (tkR_len 1 la fa).2
      have hkbb : kb ≤ 255 := by rw [← hkb]; exact nuV_one (tkR_len 1 la fa).1
      rw [hlb] at hlbl
      dsimp only at hlbl
      have HC : Hid (Calls Try.prog 97 #[.pointer (some ⟨rb, 0, none⟩), .int .i64 1] wA fun e w' => e = .returned (.int .i64 kb) ∧ But rb wA w' ∧ RB w' rb lb ((n1 : Nat) : Int) fb) := by
        have q := dnumber_any HRA.out 1 (by omega) (by omega)
        rw [hkb, hlb] at q
        exact q
      have Hkb : Hid (nuV (tkR 1 la fa).1 = kb ∧ (tkR 1 la fa).2 = (lb, fb)) := ⟨hkb, hlb⟩
      clear hkb hlb
      go_wp2_with fail
      refine Calls.mono HC.out ?_
      rintro e wB ⟨rfl, hb, hr⟩
      have HRkb : Hid (RB wB rb lb ((n1 : Nat) : Int) fb) := hr
      have HBkb : Hid (But rb W wB) := HBA.out.trans hb
      have HXB : Hid (BX wB W.heap.size [.int .i64 0, .int .i64 0, .int .i64 0, .int .i64 0, .bool false, .slice none 0 0, .string ⟨#[]⟩, .slice none 0 0]) := HXA.out.but hb (by omega)
      clear HC HRA HXA HBA hb hr
      go_upto_region 6 with fail
      obtain ⟨kk, hkk⟩ : ∃ z, bits BinOp.andNot IntKind.i64 (kb : Int) 8 = z := ⟨_, rfl⟩
      obtain ⟨oo, hoo⟩ : ∃ z, (bits BinOp.and IntKind.i64 (kb : Int) 8 != 0) = z := ⟨_, rfl⟩
      rw [hkk, hoo]
      have HKO : Hid ((dT kb).1 = kk ∧ (dT kb).2 = oo) := ⟨hkk, hoo⟩
      clear hkk hoo
      have HNC : Hid (BX (wB.alloc (.cells #[.int .i64 kk, .int .i64 0, .int .i64 0, .int .i64 0, .bool oo, .slice none 0 0, .string ⟨#[]⟩, .slice none 0 0] 25)) wB.heap.size [.int .i64 kk, .int .i64 0, .int .i64 0, .int .i64 0, .bool oo, .slice none 0 0, .string ⟨#[]⟩, .slice none 0 0]) := BX.new wB _ _
      have hal : Below wB.heap.size wB (wB.alloc (.cells #[.int .i64 kk, .int .i64 0, .int .i64 0, .int .i64 0, .bool oo, .slice none 0 0, .string ⟨#[]⟩, .slice none 0 0] 25)) := (Below.refl _ _).alloc (Nat.le_refl _) _
      have HRC : Hid (RB (wB.alloc (.cells #[.int .i64 kk, .int .i64 0, .int .i64 0, .int .i64 0, .bool oo, .slice none 0 0, .string ⟨#[]⟩, .slice none 0 0] 25)) rb lb n1 fb) := HRkb.out.below hal
      have HXC : Hid (BX (wB.alloc (.cells #[.int .i64 kk, .int .i64 0, .int .i64 0, .int .i64 0, .bool oo, .slice none 0 0, .string ⟨#[]⟩, .slice none 0 0] 25)) W.heap.size [.int .i64 0, .int .i64 0, .int .i64 0, .int .i64 0, .bool false, .slice none 0 0, .string ⟨#[]⟩, .slice none 0 0]) := HXB.out.below hal
      have HBC : Hid (But rb W (wB.alloc (.cells #[.int .i64 kk, .int .i64 0, .int .i64 0, .int .i64 0, .bool oo, .slice none 0 0, .string ⟨#[]⟩, .slice none 0 0] 25))) := HBkb.out.then hal
      have hnb : W.heap.size < wB.heap.size := HXB.out.lt
      clear HRkb HXB HBkb hal
      generalize wB.alloc (.cells #[.int .i64 kk, .int .i64 0, .int .i64 0, .int .i64 0, .bool oo, .slice none 0 0, .string ⟨#[]⟩, .slice none 0 0] 25) = wC at HNC HRC HXC HBC ⊢
      generalize wB.heap.size = nb at HNC hnb ⊢
      obtain ⟨zm, hzm⟩ : ∃ z, nuV (tkR 2 lb fb).1 = z := ⟨_, rfl⟩
      obtain ⟨⟨lm, fm⟩, hlm⟩ : ∃ p, (tkR 2 lb fb).2 = p := ⟨_, rfl⟩
      have hlml := (tkR_len 2 lb fb).2
      have hzmb : zm ≤ 65535 := by rw [← hzm]; exact nuV_two (tkR_len 2 lb fb).1
      rw [hlm] at hlml
      dsimp only at hlml
      have HC : Hid (Calls Try.prog 97 #[.pointer (some ⟨rb, 0, none⟩), .int .i64 2] wC fun e w' => e = .returned (.int .i64 zm) ∧ But rb wC w' ∧ RB w' rb lm ((n1 : Nat) : Int) fm) := by
        have q := dnumber_any HRC.out 2 (by omega) (by omega)
        rw [hzm, hlm] at q
        exact q
      have Hzm : Hid (nuV (tkR 2 lb fb).1 = zm ∧ (tkR 2 lb fb).2 = (lm, fm)) := ⟨hzm, hlm⟩
      clear hzm hlm
      go_wp2_with fail
      refine Calls.mono HC.out ?_
      rintro e wD ⟨rfl, hb, hr⟩
      have HRzm : Hid (RB wD rb lm ((n1 : Nat) : Int) fm) := hr
      have HBzm : Hid (But rb W wD) := HBC.out.trans hb
      have HXzm : Hid (BX wD W.heap.size [.int .i64 0, .int .i64 0, .int .i64 0, .int .i64 0, .bool false, .slice none 0 0, .string ⟨#[]⟩, .slice none 0 0]) := HXC.out.but hb (by omega)
      have HNzm : Hid (BX wD nb [.int .i64 kk, .int .i64 0, .int .i64 0, .int .i64 0, .bool oo, .slice none 0 0, .string ⟨#[]⟩, .slice none 0 0]) := HNC.out.but hb (by omega)
      clear HC HRC HXC HBC HNC hb hr
      have p0 := HNzm.out.1 1 _ rfl
      have p1 := HNzm.out.2 1
      go_upto_region 7 with fail
      have HRzms : Hid (RB (wD.setCell ⟨nb, 1, none⟩ (.int .i64 zm)) rb lm n1 fm) := HRzm.out.other (by omega) _
      have HXzms : Hid (BX (wD.setCell ⟨nb, 1, none⟩ (.int .i64 zm)) W.heap.size [.int .i64 0, .int .i64 0, .int .i64 0, .int .i64 0, .bool false, .slice none 0 0, .string ⟨#[]⟩, .slice none 0 0]) := HXzm.out.other (by omega) _
      have HNzms : Hid (BX (wD.setCell ⟨nb, 1, none⟩ (.int .i64 zm)) nb [.int .i64 kk, .int .i64 zm, .int .i64 0, .int .i64 0, .bool oo, .slice none 0 0, .string ⟨#[]⟩, .slice none 0 0]) := HNzm.out.set 1 (by simp) _
      have HBzms : Hid (But rb W (wD.setCell ⟨nb, 1, none⟩ (.int .i64 zm))) := but_new HBzm.out hnb _ _
      clear p0 p1 HRzm HXzm HNzm HBzm
      generalize wD.setCell ⟨nb, 1, none⟩ (.int .i64 zm) = wDs at HRzms HXzms HNzms HBzms ⊢
      obtain ⟨zu, hzu⟩ : ∃ z, nuV (tkR 2 lm fm).1 = z := ⟨_, rfl⟩
      obtain ⟨⟨lu, fu_⟩, hlu⟩ : ∃ p, (tkR 2 lm fm).2 = p := ⟨_, rfl⟩
      have hlul := (tkR_len 2 lm fm).2
      have hzub : zu ≤ 65535 := by rw [← hzu]; exact nuV_two (tkR_len 2 lm fm).1
      rw [hlu] at hlul
      dsimp only at hlul
      have HC : Hid (Calls Try.prog 97 #[.pointer (some ⟨rb, 0, none⟩), .int .i64 2] wDs fun e w' => e = .returned (.int .i64 zu) ∧ But rb wDs w' ∧ RB w' rb lu ((n1 : Nat) : Int) fu_) := by
        have q := dnumber_any HRzms.out 2 (by omega) (by omega)
        rw [hzu, hlu] at q
        exact q
      have Hzu : Hid (nuV (tkR 2 lm fm).1 = zu ∧ (tkR 2 lm fm).2 = (lu, fu_)) := ⟨hzu, hlu⟩
      clear hzu hlu
      go_wp2_with fail
      refine Calls.mono HC.out ?_
      rintro e wE ⟨rfl, hb, hr⟩
      have HRzu : Hid (RB wE rb lu ((n1 : Nat) : Int) fu_) := hr
      have HBzu : Hid (But rb W wE) := HBzms.out.trans hb
      have HXzu : Hid (BX wE W.heap.size [.int .i64 0, .int .i64 0, .int .i64 0, .int .i64 0, .bool false, .slice none 0 0, .string ⟨#[]⟩, .slice none 0 0]) := HXzms.out.but hb (by omega)
      have HNzu : Hid (BX wE nb [.int .i64 kk, .int .i64 zm, .int .i64 0, .int .i64 0, .bool oo, .slice none 0 0, .string ⟨#[]⟩, .slice none 0 0]) := HNzms.out.but hb (by omega)
      clear HC HRzms HXzms HBzms HNzms hb hr
      have p0 := HNzu.out.1 2 _ rfl
      have p1 := HNzu.out.2 2
      go_upto_region 8 with fail
      have HRzus : Hid (RB (wE.setCell ⟨nb, 2, none⟩ (.int .i64 zu)) rb lu n1 fu_) := HRzu.out.other (by omega) _
      have HXzus : Hid (BX (wE.setCell ⟨nb, 2, none⟩ (.int .i64 zu)) W.heap.size [.int .i64 0, .int .i64 0, .int .i64 0, .int .i64 0, .bool false, .slice none 0 0, .string ⟨#[]⟩, .slice none 0 0]) := HXzu.out.other (by omega) _
      have HNzus : Hid (BX (wE.setCell ⟨nb, 2, none⟩ (.int .i64 zu)) nb [.int .i64 kk, .int .i64 zm, .int .i64 zu, .int .i64 0, .bool oo, .slice none 0 0, .string ⟨#[]⟩, .slice none 0 0]) := HNzu.out.set 2 (by simp) _
      have HBzus : Hid (But rb W (wE.setCell ⟨nb, 2, none⟩ (.int .i64 zu))) := but_new HBzu.out hnb _ _
      clear p0 p1 HRzu HXzu HNzu HBzu
      generalize wE.setCell ⟨nb, 2, none⟩ (.int .i64 zu) = wEs at HRzus HXzus HNzus HBzus ⊢
      obtain ⟨zg, hzg⟩ : ∃ z, nuV (tkR 2 lu fu_).1 = z := ⟨_, rfl⟩
      obtain ⟨⟨lg, fg⟩, hlg⟩ : ∃ p, (tkR 2 lu fu_).2 = p := ⟨_, rfl⟩
      have hlgl := (tkR_len 2 lu fu_).2
      have hzgb : zg ≤ 65535 := by rw [← hzg]; exact nuV_two (tkR_len 2 lu fu_).1
      rw [hlg] at hlgl
      dsimp only at hlgl
      have HC : Hid (Calls Try.prog 97 #[.pointer (some ⟨rb, 0, none⟩), .int .i64 2] wEs fun e w' => e = .returned (.int .i64 zg) ∧ But rb wEs w' ∧ RB w' rb lg ((n1 : Nat) : Int) fg) := by
        have q := dnumber_any HRzus.out 2 (by omega) (by omega)
        rw [hzg, hlg] at q
        exact q
      have Hzg : Hid (nuV (tkR 2 lu fu_).1 = zg ∧ (tkR 2 lu fu_).2 = (lg, fg)) := ⟨hzg, hlg⟩
      clear hzg hlg
      go_wp2_with fail
      refine Calls.mono HC.out ?_
      rintro e wF ⟨rfl, hb, hr⟩
      have HRzg : Hid (RB wF rb lg ((n1 : Nat) : Int) fg) := hr
      have HBzg : Hid (But rb W wF) := HBzus.out.trans hb
      have HXzg : Hid (BX wF W.heap.size [.int .i64 0, .int .i64 0, .int .i64 0, .int .i64 0, .bool false, .slice none 0 0, .string ⟨#[]⟩, .slice none 0 0]) := HXzus.out.but hb (by omega)
      have HNzg : Hid (BX wF nb [.int .i64 kk, .int .i64 zm, .int .i64 zu, .int .i64 0, .bool oo, .slice none 0 0, .string ⟨#[]⟩, .slice none 0 0]) := HNzus.out.but hb (by omega)
      clear HC HRzus HXzus HBzus HNzus hb hr
      have p0 := HNzg.out.1 3 _ rfl
      have p1 := HNzg.out.2 3
      go_upto_region 9 with fail
      have HRzgs : Hid (RB (wF.setCell ⟨nb, 3, none⟩ (.int .i64 zg)) rb lg n1 fg) := HRzg.out.other (by omega) _
      have HXzgs : Hid (BX (wF.setCell ⟨nb, 3, none⟩ (.int .i64 zg)) W.heap.size [.int .i64 0, .int .i64 0, .int .i64 0, .int .i64 0, .bool false, .slice none 0 0, .string ⟨#[]⟩, .slice none 0 0]) := HXzg.out.other (by omega) _
      have HNzgs : Hid (BX (wF.setCell ⟨nb, 3, none⟩ (.int .i64 zg)) nb [.int .i64 kk, .int .i64 zm, .int .i64 zu, .int .i64 zg, .bool oo, .slice none 0 0, .string ⟨#[]⟩, .slice none 0 0]) := HNzg.out.set 3 (by simp) _
      have HBzgs : Hid (But rb W (wF.setCell ⟨nb, 3, none⟩ (.int .i64 zg))) := but_new HBzg.out hnb _ _
      clear p0 p1 HRzg HXzg HNzg HBzg
      generalize wF.setCell ⟨nb, 3, none⟩ (.int .i64 zg) = wFs at HRzgs HXzgs HNzgs HBzgs ⊢
      obtain ⟨ca, hca⟩ : ∃ z, nuV (tkR 1 lg fg).1 = z := ⟨_, rfl⟩
      obtain ⟨⟨lc, fc⟩, hlc⟩ : ∃ p, (tkR 1 lg fg).2 = p := ⟨_, rfl⟩
      have hlcl := (tkR_len 1 lg fg).2
      have hcab : ca ≤ 255 := by rw [← hca]; exact nuV_one (tkR_len 1 lg fg).1
      rw [hlc] at hlcl
      dsimp only at hlcl
      have HC : Hid (Calls Try.prog 97 #[.pointer (some ⟨rb, 0, none⟩), .int .i64 1] wFs fun e w' => e = .returned (.int .i64 ca) ∧ But rb wFs w' ∧ RB w' rb lc ((n1 : Nat) : Int) fc) := by
        have q := dnumber_any HRzgs.out 1 (by omega) (by omega)
        rw [hca, hlc] at q
        exact q
      have Hca : Hid (nuV (tkR 1 lg fg).1 = ca ∧ (tkR 1 lg fg).2 = (lc, fc)) := ⟨hca, hlc⟩
      clear hca hlc
      go_wp2_with fail
      refine Calls.mono HC.out ?_
      rintro e wG ⟨rfl, hb, hr⟩
      have HRca : Hid (RB wG rb lc ((n1 : Nat) : Int) fc) := hr
      have HBca : Hid (But rb W wG) := HBzgs.out.trans hb
      have HAI : Hid (AI W wG rb nb n1 kk zm zu zg oo ⟨#[]⟩ [] (.slice none 0 0) lc fc) := ⟨HRca.out, HXzgs.out.but hb (by omega), HNzgs.out.but hb (by omega), World.ownsRow_nil _ _ _ _, HBca.out, hnb, hrb⟩
      clear HC HRzgs HXzgs HNzgs HBzgs hb hr HRca HBca
      go_wp2
      go_loopw [41] (fun i wr => ∃ (j : Nat) (A : List Kv) (va : Value) (l2 : List UInt8) (f2 : Bool), j ≤ ca ∧ i = .int .i64 j ∧ A.length = j ∧ l2.length ≤ lc.length ∧ Hid (atR ca lc fc = (A ++ (atR (ca - j) l2 f2).1, (atR (ca - j) l2 f2).2)) ∧ Hid (AI W wr rb nb n1 kk zm zu zg oo ⟨#[]⟩ A va l2 f2)) (fun i _ => ca - (intOf i).toNat)
      case atStart => exact ⟨0, [], _, lc, fc, Nat.zero_le _, rfl, rfl, Nat.le_refl _, by show _ = _; simp, HAI.out⟩
      case round =>
        obtain ⟨j, A, va, l2, f2, hj, rfl, hAj, hl2, HAT, HA2⟩ := hrel
        have HAJ : Hid (A.length = j) := hAj
        have hA255 : A.length ≤ 255 := by omega
        clear HAI hAj
        by_cases hjl : j < ca
        · have hji : (j : Int) < (ca : Int) := by omega
          obtain ⟨s1, hs1⟩ : ∃ s, ofB (txR l2 f2).1 = s := ⟨_, rfl⟩
          obtain ⟨⟨l3, f3⟩, h3⟩ : ∃ p, (txR l2 f2).2 = p := ⟨_, rfl⟩
          have hl3 := txR_len l2 f2
          rw [h3] at hl3
          dsimp only at hl3
          have HC1 : Hid (Calls Try.prog 98 #[.pointer (some ⟨rb, 0, none⟩)] wr fun e w' => e = .returned (.string s1) ∧ But rb wr w' ∧ RB w' rb l3 n1 f3) := by
            have q := dtext_any HA2.out.r (by omega)
            rw [hs1, h3] at q
            exact q
          obtain ⟨s2, hs2⟩ : ∃ s, ofB (txR l3 f3).1 = s := ⟨_, rfl⟩
          obtain ⟨⟨l4, f4⟩, h4⟩ : ∃ p, (txR l3 f3).2 = p := ⟨_, rfl⟩
          have hl4 := txR_len l3 f3
          rw [h4] at hl4
          dsimp only at hl4
          have HTX : Hid (atR ca lc fc = ((A ++ [⟨s1, s2⟩]) ++ (atR (ca - (j + 1)) l4 f4).1, (atR (ca - (j + 1)) l4 f4).2)) := by
            show _ = _
            rw [HAT.out, show ca - j = (ca - (j + 1)) + 1 by omega, atR, hs1, h3]
            dsimp only
            rw [hs2, h4]
            simp
          have HT2 : Hid (ofB (txR l3 f3).1 = s2 ∧ (txR l3 f3).2 = (l4, f4)) := ⟨hs2, h4⟩
          clear hs1 h3 hs2 h4 HAT
          go_wp2_with fail
          refine Calls.mono HC1.out ?_
          rintro e w5 ⟨rfl, hb5, hr5⟩
          have HA5 : Hid (AI W w5 rb nb n1 kk zm zu zg oo ⟨#[]⟩ A va l3 f3) := HA2.out.but' hb5 hr5
          clear HC1 HA2 hb5 hr5
          have hd5 : Below w5.heap.size w5 w5.drew := below_drewN (Below.refl _ w5) 1
          have HA5d : Hid (AI W w5.drew rb nb n1 kk zm zu zg oo ⟨#[]⟩ A va l3 f3) := HA5.out.but' (But.of_below hd5) (HA5.out.r.below hd5)
          have HC2 : Hid (Calls Try.prog 98 #[.pointer (some ⟨rb, 0, none⟩)] w5.drew fun e w' => e = .returned (.string s2) ∧ But rb w5.drew w' ∧ RB w' rb l4 n1 f4) := by
            have q := dtext_any HA5d.out.r (by omega)
            rw [HT2.out.1, HT2.out.2] at q
            exact q
          clear HT2 hd5
          go_upto_region 12 with fail
          obtain ⟨aa, cap5, e5, _, _, _⟩ := owns_cells HA5.out.row
          subst e5
          have y5 := HA5.out.b.1 5 _ rfl
          have y6 := HA5.out.b.2 5
          go_region_law (first | (refine step_append_src (w6.alloc (.cells #[.string s1, .string s2] 146)) (by rfl) (.tmp 46) (.tmp 51) 22 (by rfl) (nb + 1) 146 i1 _ 2 32 Try.underlying22 HJ0.out HJ1.out HJ2.out HJ3.out rfl (by decide) (.slice aa A.length cap5) A.length (flat A) (by rfl) (HA6.out.row.alloc _) (some ⟨w6.heap.size, 0, none⟩) 1 1 (flat [⟨s1, s2⟩]) (by rfl) (by rfl) (.inr ⟨_, rfl, kv_new w6 s1 s2 _⟩) (flat_one _) (by unfold maxLen; omega) (by omega) (Nat.le_trans HA6.out.b.lt (by rw [World.size_alloc]; omega)) ?_; intro v7 w7 hown7 hgr7 ho7; obtain ⟨a7, cap7, rfl, _, _, _⟩ := owns_cells hown7; have hA7 := HA6.out.app _ hgr7 ⟨s1, s2⟩ hown7; have hq7 : some nb ≠ (Value.slice aa A.length cap5).ownBlock := row_neA HA6.out.row; have hbx := (HA6.out.b.below ((Below.refl _ w6).alloc (Nat.le_refl _) _)).grown hgr7 hq7; have d5 := hbx.1 5 _ rfl; have d6 := hbx.2 5; have HA7 : Hid (AI W (w7.setCell ⟨nb, 5, none⟩ (.slice a7 (A.length + 1) cap7)) rb nb n1 kk zm zu zg oo ⟨#[]⟩ (A ++ [⟨s1, s2⟩]) (.slice a7 (A.length + 1) cap7) l4 f4) := hA7; clear hown7 hgr7 ho7 hA7 hbx hq7) | (go_simp; go_at_call 98; (with_reducible refine Calls.mono HC2.out ?_); rintro e w6 ⟨rfl, hb6, hr6⟩; have HA6 : Hid (AI W w6 rb nb n1 kk zm zu zg oo ⟨#[]⟩ A (.slice aa A.length cap5) l4 f4) := HA5d.out.but' hb6 hr6; have c5 := HA6.out.b.1 5 _ rfl; have c6 := HA6.out.b.2 5; have c7 := (HA6.out.b.below ((Below.refl _ w6).alloc (Nat.le_refl _) (.cells #[.string s1, .string s2] 146))).1 5 _ rfl; clear HC2 hb6 hr6))
          all_goals
            clear HA5 HA5d HA6 c5 c6 c7 d5 d6 y5 y6
            go_wp2
            go_roundw
            case rel => exact ⟨j + 1, _, _, l4, f4, by omega, by go_num, by (have := HAJ.out; simp; omega), by omega, HTX.out, HA7.out⟩
            case measure => simp [intOf]; omega
        · have hji : decide ((j : Int) < (ca : Int)) = false := decide_eq_false (by omega)
          have HAT2 : Hid (atR ca lc fc = (A, l2, f2)) := by
            show _ = _
            rw [HAT.out, show ca - j = 0 by omega]
            simp [atR]
          clear HAT
          obtain ⟨sd, hsd⟩ : ∃ s, ofB (txR l2 f2).1 = s := ⟨_, rfl⟩
          obtain ⟨⟨ld, fd⟩, hld⟩ : ∃ p, (txR l2 f2).2 = p := ⟨_, rfl⟩
          have hldl := txR_len l2 f2
          rw [hld] at hldl
          dsimp only at hldl
          have HC1 : Hid (Calls Try.prog 98 #[.pointer (some ⟨rb, 0, none⟩)] wr fun e w' => e = .returned (.string sd) ∧ But rb wr w' ∧ RB w' rb ld n1 fd) := by
            have q := dtext_any HA2.out.r (by omega)
            rw [hsd, hld] at q
            exact q
          have HD1 : Hid (ofB (txR l2 f2).1 = sd ∧ (txR l2 f2).2 = (ld, fd)) := ⟨hsd, hld⟩
          clear hsd hld
          go_wp2_with fail
          refine Calls.mono HC1.out ?_
          rintro e w5 ⟨rfl, hb5, hr5⟩
          have HA5 : Hid (AI W w5 rb nb n1 kk zm zu zg oo ⟨#[]⟩ A va ld fd) := HA2.out.but' hb5 hr5
          clear HC1 HA2 hb5 hr5
          obtain ⟨aa, cap5, e5, hcp1, hcp2, _⟩ := owns_cells HA5.out.row
          subst e5
          have y5 := HA5.out.b.1 6 _ rfl
          have y6 := HA5.out.b.2 6
          go_upto_region 15 with fail
          have HK1 : Hid (KI W (w5.setCell ⟨nb, 6, none⟩ (.string sd)) rb nb kk zm zu zg oo A (.slice aa A.length cap5) sd [] (.slice none 0 0) ld n1 fd) := HA5.out.kids sd
          clear HA5 y5 y6
          generalize w5.setCell ⟨nb, 6, none⟩ (.string sd) = w7 at HK1 ⊢
          have HRd : Hid (RB w7 rb ld n1 fd) := HK1.out.r
          have HBd : Hid (But rb W w7) := HK1.out.but
          obtain ⟨ck, hck⟩ : ∃ z, nuV (tkR 1 ld fd).1 = z := ⟨_, rfl⟩
          obtain ⟨⟨lq, fq⟩, hlq⟩ : ∃ p, (tkR 1 ld fd).2 = p := ⟨_, rfl⟩
          have hlql := (tkR_len 1 ld fd).2
          have hckb : ck ≤ 255 := by rw [← hck]; exact nuV_one (tkR_len 1 ld fd).1
          rw [hlq] at hlql
          dsimp only at hlql
          have HC : Hid (Calls Try.prog 97 #[.pointer (some ⟨rb, 0, none⟩), .int .i64 1] w7 fun e w' => e = .returned (.int .i64 ck) ∧ But rb w7 w' ∧ RB w' rb lq ((n1 : Nat) : Int) fq) := by
            have q := dnumber_any HRd.out 1 (by omega) (by omega)
            rw [hck, hlq] at q
            exact q
          have Hck : Hid (nuV (tkR 1 ld fd).1 = ck ∧ (tkR 1 ld fd).2 = (lq, fq)) := ⟨hck, hlq⟩
          clear hck hlq
          go_wp2_with fail
          refine Calls.mono HC.out ?_
          rintro e w8 ⟨rfl, hb, hr⟩
          have HRck : Hid (RB w8 rb lq ((n1 : Nat) : Int) fq) := hr
          have HBck : Hid (But rb W w8) := HBd.out.trans hb
          have HK2 : Hid (KI W w8 rb nb kk zm zu zg oo A (.slice aa A.length cap5) sd [] (.slice none 0 0) lq n1 fq) := HK1.out.but' hb hr
          have HHD : Hid (Hdr la fa kb zm zu zg ca A sd ck lq fq) := ⟨lb, fb, lm, fm, lu, fu_, lg, fg, lc, fc, l2, f2, ld, fd, Hkb.out, Hzm.out, Hzu.out, Hzg.out, Hca.out, HAT2.out, HD1.out, Hck.out⟩
          have hrest := HHD.out.rest hfa
          obtain ⟨hnq, hlq, hfq, hck⟩ := hrest
          obtain ⟨fu', hfu'⟩ : ∃ q, fu = q + 1 := ⟨fu - 1, by omega⟩
          subst hfu'
          have HST : Hid (KR (rNd dT fu') ck lq n1 fq ck [] lq n1 fq) := KR.start (fun e => by
            have e2 := (hfq e).1
            rcases HS.out with ⟨_, _, e3, _⟩ | ⟨h3, _, _, e4⟩
            · rw [e3] at e2; cases e2
            · omega)
          have HHQ : Hid ((fq = false → fa = false ∧ 1 ≤ la.length) ∧ (fq = true → lq = [])) := ⟨hfq, hnq⟩
          clear HC HK1 HRd HBd hb hr HRck HBck Hkb Hzm Hzu Hzg Hca HAT2 HD1 Hck hfq hnq
          go_wp2
          go_loopw [6] (fun i wr => ∃ (j : Nat) (L : Khs) (vk : Value) (lk : List UInt8) (nk : Nat) (fk : Bool), j ≤ ck ∧ i = .int .i64 j ∧ lk.length ≤ lq.length ∧ Hid (L.length + j ≤ 255) ∧ Hid (fk = true → lk = []) ∧ nk ≤ 61 ∧ Hid (KR (rNd dT fu') ck lq n1 fq j (bare L) lk nk fk) ∧ Hid (KI W wr rb nb kk zm zu zg oo A (.slice aa A.length cap5) sd L vk lk nk fk)) (fun i _ => (intOf i).toNat)
          case atStart => exact ⟨ck, [], _, lq, n1, fq, Nat.le_refl _, rfl, Nat.le_refl _, by show _ ≤ _; simp; omega, HHQ.out.2, hn1, HST.out, HK2.out⟩
          case round =>
            obtain ⟨j2, L, vk, lk, nk, fk, hj2, rfl, hlk, HLJ, HFK, hnk, HKR, HKI⟩ := hrel
            clear HK2 HST
            obtain ⟨ak, cap6, e6, _, _, _⟩ := owns_cells HKI.out.row
            subst e6
            obtain ⟨r0, r1, r2, r3, r4, r5⟩ := HKI.out.r
            by_cases hj0 : j2 = 0
            · subst hj0
              obtain ⟨x0, x1, x2, x3, x4, x5, x6, x7⟩ := eightX HKI.out.x
              obtain ⟨b0, b1, b2, b3, b4, b5, b6, b7⟩ := eightX HKI.out.b
              have f0 := HKI.out.x.2 0
              have f1 := HKI.out.x.2 1
              have f2 := HKI.out.x.2 2
              have f3 := HKI.out.x.2 3
              have f4 := HKI.out.x.2 4
              have f5 := HKI.out.x.2 5
              have f6 := HKI.out.x.2 6
              have f7 := HKI.out.x.2 7
              go_wp2
              have HXF : Hid (BX ((((((((wr.setCell ⟨W.heap.size, 0, none⟩ (.int .i64 kk)).setCell ⟨W.heap.size, 1, none⟩ (.int .i64 zm)).setCell ⟨W.heap.size, 2, none⟩ (.int .i64 zu)).setCell ⟨W.heap.size, 3, none⟩ (.int .i64 zg)).setCell ⟨W.heap.size, 4, none⟩ (.bool oo)).setCell ⟨W.heap.size, 5, none⟩ (.slice aa A.length cap5)).setCell ⟨W.heap.size, 6, none⟩ (.string sd)).setCell ⟨W.heap.size, 7, none⟩ (.slice ak L.length cap6)) W.heap.size [.int .i64 kk, .int .i64 zm, .int .i64 zu, .int .i64 zg, .bool oo, .slice aa A.length cap5, .string sd, .slice ak L.length cap6]) := (((((((HKI.out.x.set 0 (by simp) _).set 1 (by simp) _).set 2 (by simp) _).set 3 (by simp) _).set 4 (by simp) _).set 5 (by simp) _).set 6 (by simp) _).set 7 (by simp) _
              have HBF : Hid (But W.heap.size wr ((((((((wr.setCell ⟨W.heap.size, 0, none⟩ (.int .i64 kk)).setCell ⟨W.heap.size, 1, none⟩ (.int .i64 zm)).setCell ⟨W.heap.size, 2, none⟩ (.int .i64 zu)).setCell ⟨W.heap.size, 3, none⟩ (.int .i64 zg)).setCell ⟨W.heap.size, 4, none⟩ (.bool oo)).setCell ⟨W.heap.size, 5, none⟩ (.slice aa A.length cap5)).setCell ⟨W.heap.size, 6, none⟩ (.string sd)).setCell ⟨W.heap.size, 7, none⟩ (.slice ak L.length cap6))) := ((((((((But.refl _ _).setCell _ _ _).setCell _ _ _).setCell _ _ _).setCell _ _ _).setCell _ _ _).setCell _ _ _).setCell _ _ _).setCell _ _ _
              generalize ((((((((wr.setCell ⟨W.heap.size, 0, none⟩ (.int .i64 kk)).setCell ⟨W.heap.size, 1, none⟩ (.int .i64 zm)).setCell ⟨W.heap.size, 2, none⟩ (.int .i64 zu)).setCell ⟨W.heap.size, 3, none⟩ (.int .i64 zg)).setCell ⟨W.heap.size, 4, none⟩ (.bool oo)).setCell ⟨W.heap.size, 5, none⟩ (.slice aa A.length cap5)).setCell ⟨W.heap.size, 6, none⟩ (.string sd)).setCell ⟨W.heap.size, 7, none⟩ (.slice ak L.length cap6)) = wF at HXF HBF ⊢
              have HRF : Hid (RB wF rb lk nk fk) := HKI.out.r.but HBF.out (by omega)
              have HNP := NP.of HS.out HHD.out HKR.out (.inl rfl) HFK.out hnk (by omega) HKO.out
              have HNF := HKI.out.fin HBF.out
              obtain ⟨r0, r1, r2, r3, r4, r5, r6, r7⟩ := eightX HXF.out
              refine bodyPost_ret (v := ndV (.mk kk zm zu zg oo A sd (bare L)) ⟨aa, cap5, ak, cap6⟩) (by simp [results, Try.results64, go_sem, ndV, bare_len, r0, r1, r2, r3, r4, r5, r6, r7]) rfl ⟨_, _, lk, nk, fk, rfl, HRF.out, but_two HKI.out.but HBF.out, HNF, HNP⟩
            · obtain ⟨j3, hj3⟩ : ∃ q, j2 = q + 1 := ⟨j2 - 1, by omega⟩
              subst hj3
              have hjp : decide ((0 : Int) < ((j3 + 1 : Nat) : Int)) = true := decide_eq_true (by omega)
              cases fk
              · obtain ⟨nm, hnm⟩ : ∃ s, ofB (txR lk false).1 = s := ⟨_, rfl⟩
                obtain ⟨⟨l3, f3⟩, h3⟩ : ∃ p, (txR lk false).2 = p := ⟨_, rfl⟩
                have hl3 := txR_len lk false
                have hp3 := tx_pos (l := lk) (f := false)
                have hn3 := txR_nil (l := lk) (f := false) (fun e => by cases e)
                rw [h3] at hl3 hp3 hn3
                dsimp only at hl3 hp3 hn3
                have HC1 : Hid (Calls Try.prog 98 #[.pointer (some ⟨rb, 0, none⟩)] wr fun e w' => e = .returned (.string nm) ∧ But rb wr w' ∧ RB w' rb l3 nk f3) := by
                  have q := dtext_any HKI.out.r (by omega)
                  rw [hnm, h3] at q
                  exact q
                have hkr := HKR.out.ok rfl
                have hq := HHQ.out.1 hkr.1
                have hlf : f = false ∧ la = l := by
                  rcases HS.out with ⟨_, _, e3, _⟩ | ⟨_, h2, h3, _⟩
                  · rw [e3] at hq; cases hq.1
                  · exact ⟨h3.symm.trans hq.1, h2⟩
                have hmd : l.length < md := by
                  have := hmes
                  rw [hlf.1] at this
                  unfold mes at this
                  simp at this
                  omega
                have hl1 : 1 ≤ l.length := by rw [← hlf.2]; exact hq.2
                have hms : mes l3 f3 < md := by
                  unfold mes
                  cases hf3 : f3 with
                  | true => simp; omega
                  | false => have := (hp3 hf3).2; simp; omega
                have hfu3 : l3.length < fu' := by
                  cases hf3 : f3 with
                  | true => rw [hn3 hf3]; simp; omega
                  | false => have := (hp3 hf3).2; omega
                have hnk60 := hkr.2.2.1
                have HTX : Hid (ofB (txR lk false).1 = nm ∧ (txR lk false).2 = (l3, f3)) := ⟨hnm, h3⟩
                have HN3 : Hid (f3 = true → l3 = []) := hn3
                clear hnm h3 hkr hq hlf hp3 hn3 hmd hl1
                go_wp2_with fail
                refine Calls.mono HC1.out ?_
                rintro e w5 ⟨rfl, hb5, hr5⟩
                have HK5 : Hid (KI W w5 rb nb kk zm zu zg oo A (.slice aa A.length cap5) sd L (.slice ak L.length cap6) l3 nk f3) := HKI.out.but' hb5 hr5
                have hd5 : Below w5.heap.size w5 w5.drew := below_drewN (Below.refl _ w5) 1
                have HK5d : Hid (KI W w5.drew rb nb kk zm zu zg oo A (.slice aa A.length cap5) sd L (.slice ak L.length cap6) l3 nk f3) := HK5.out.but' (But.of_below hd5) (HK5.out.r.below hd5)
                have HCN : Hid (Calls Try.prog 64 #[.pointer (some ⟨rb, 0, none⟩)] w5.drew fun e w' => ∃ k5 m5 u5 g5 o5 at5 d5 ks5 hx l' n' f', e = .returned (.agg #[.int .i64 k5, .int .i64 m5, .int .i64 u5, .int .i64 g5, .bool o5, .slice hx.aa at5.length hx.ca, .string d5, .slice hx.ak ks5.length hx.ck]) ∧ RB w' rb l' (n' : Nat) f' ∧ But rb w5.drew w' ∧ NdV (newM w5.drew.heap.size w') (.mk k5 m5 u5 g5 o5 at5 d5 ks5) hx ∧ NP fu' l3 nk f3 (.mk k5 m5 u5 g5 o5 at5 d5 ks5) l' n' f') := by
                  refine Calls.mono (HIH.out w5.drew l3 nk f3 hms HK5d.out.r hnk60 HN3.out (by omega) fu' hfu3) ?_
                  rintro e w' ⟨⟨k5, m5, u5, g5, o5, at5, d5, ks5⟩, hx, l', n', f', e1, e2, e3, e4, e5⟩
                  exact ⟨k5, m5, u5, g5, o5, at5, d5, ks5, hx, l', n', f', e1, e2, e3, e4, e5⟩
                have hsz5 : nb < w5.drew.heap.size := HK5d.out.b.lt
                have hvk5 : ∀ s, (Value.slice ak L.length cap6).ownBlock = some s → s < w5.drew.heap.size := fun s e => (HK5d.out.row.lt s e).2
                have HSZ : Hid (W.heap.size < w5.drew.heap.size ∧ nb < w5.drew.heap.size ∧ ∀ s, (Value.slice ak L.length cap6).ownBlock = some s → s < w5.drew.heap.size) := ⟨by omega, hsz5, hvk5⟩
                clear HC1 HKI hb5 hr5 hd5 r0 r1 r2 r3 r4 r5 hms hfu3 hsz5 hvk5
                have hLL : L.length ≤ 255 := by have := HLJ.out; omega
                go_upto_region 19 with fail
                have y5 := HK5.out.b.1 7 _ rfl
                have y6 := HK5.out.b.2 7
                go_region_law (first | (refine step_append_src (w6.alloc (.cells #[.string nm, .int .i64 k5, .int .i64 m5, .int .i64 u5, .int .i64 g5, .bool o5, .slice hx.aa at5.length hx.ca, .string d5, .slice hx.ak ks5.length hx.ck] 102)) (by rfl) (.tmp 74) (.tmp 79) 23 (by rfl) (nb + 1) 102 i2 zK 9 120 Try.underlying23 HG0.out HG1.out HG2.out HG3.out rfl (by decide) (.slice ak L.length cap6) L.length (kfl L) (by rfl) (HK6.out.row.alloc _) (some ⟨w6.heap.size, 0, none⟩) 1 1 (kfl [(nm, (.mk k5 m5 u5 g5 o5 at5 d5 ks5), hx)]) (by rfl) (by rfl) (.inr ⟨_, rfl, kid_newA w6 nm (.mk k5 m5 u5 g5 o5 at5 d5 ks5) hx _⟩) (kfl_one _) (by unfold maxLen; omega) (by omega) (Nat.le_trans HK6.out.b.lt (by rw [World.size_alloc]; omega)) ?_; intro v7 w7 hown7 hgr7 ho7; obtain ⟨a7, cap7, rfl, _, _, _⟩ := owns_cells hown7; have hK7 := HK6.out.app _ hgr7 (nm, (.mk k5 m5 u5 g5 o5 at5 d5 ks5), hx) HN6.out HSZ.out.1 HSZ.out.2.1 HSZ.out.2.2 hown7 (by first | exact ho7 | (rw [World.size_alloc] at ho7; exact ho7)); have hq7 : some nb ≠ (Value.slice ak L.length cap6).ownBlock := row_neA HK6.out.row; have hbx := (HK6.out.b.below ((Below.refl _ w6).alloc (Nat.le_refl _) _)).grown hgr7 hq7; have d5' := hbx.1 7 _ rfl; have d6' := hbx.2 7; have HK7 : Hid (KI W (w7.setCell ⟨nb, 7, none⟩ (.slice a7 (L.length + 1) cap7)) rb nb kk zm zu zg oo A (.slice aa A.length cap5) sd (L ++ [(nm, (.mk k5 m5 u5 g5 o5 at5 d5 ks5), hx)]) (.slice a7 (L.length + 1) cap7) l4 n4 f4) := hK7; clear hown7 hgr7 ho7 hK7 hbx hq7) | (go_simp; go_at_call 64; (with_reducible refine Calls.mono HCN.out ?_); rintro e w6 ⟨k5, m5, u5, g5, o5, at5, d5, ks5, hx, l4, n4, f4, rfl, hr6, hb6, hN6, hNP6⟩; have HK6 : Hid (KI W w6 rb nb kk zm zu zg oo A (.slice aa A.length cap5) sd L (.slice ak L.length cap6) l4 n4 f4) := HK5d.out.but' hb6 hr6; have HN6 : Hid (NdV (newM w5.drew.heap.size w6) (.mk k5 m5 u5 g5 o5 at5 d5 ks5) hx) := hN6; have HNP6 : Hid (NP fu' l3 nk f3 (.mk k5 m5 u5 g5 o5 at5 d5 ks5) l4 n4 f4) := hNP6; have c5 := HK6.out.b.1 7 _ rfl; have c6 := HK6.out.b.2 7; have c7 := (HK6.out.b.below ((Below.refl _ w6).alloc (Nat.le_refl _) (.cells #[.string nm, .int .i64 k5, .int .i64 m5, .int .i64 u5, .int .i64 g5, .bool o5, .slice hx.aa at5.length hx.ca, .string d5, .slice hx.ak ks5.length hx.ck] 102))).1 7 _ rfl; clear HCN hb6 hr6 hN6 hNP6))
                all_goals
                  have HKR2 : Hid (KR (rNd dT fu') ck lq n1 fq j3 (bare (L ++ [(nm, (.mk k5 m5 u5 g5 o5 at5 d5 ks5), hx)])) l4 n4 f4) := by
                    have q := HKR.out.next HTX.out.1 HTX.out.2 (fun e => HNP6.out.ok e) (fun e e' => HNP6.out.bad e e')
                    have eb : bare (L ++ [(nm, (.mk k5 m5 u5 g5 o5 at5 d5 ks5), hx)]) = bare L ++ [(nm, (.mk k5 m5 u5 g5 o5 at5 d5 ks5))] := by simp [bare]
                    show KR _ _ _ _ _ _ _ _ _ _
                    rw [eb]
                    exact q
                  have hl4 := HNP6.out.len
                  have hn4 := HNP6.out.le
                  have HF4 : Hid (f4 = true → l4 = []) := HNP6.out.nil
                  clear HK5 HK5d HK6 c5 c6 c7 d5' d6' y5 y6 HNP6 HN6 HSZ HKR HTX HN3
                  go_wp2
                  go_roundw
                  case rel => exact ⟨j3, _, _, l4, n4, f4, by omega, by go_num, by omega, by (have := HLJ.out; show _ ≤ _; simp; omega), HF4.out, hn4, HKR2.out, HK7.out⟩
                  case measure => (simp [intOf]; try omega)
              · have ej : ((j3 + 1 : Nat) : Int) = (j3 : Int) + 1 := by omega
                obtain ⟨x0, x1, x2, x3, x4, x5, x6, x7⟩ := eightX HKI.out.x
                obtain ⟨b0, b1, b2, b3, b4, b5, b6, b7⟩ := eightX HKI.out.b
                have f0 := HKI.out.x.2 0
                have f1 := HKI.out.x.2 1
                have f2 := HKI.out.x.2 2
                have f3 := HKI.out.x.2 3
                have f4 := HKI.out.x.2 4
                have f5 := HKI.out.x.2 5
                have f6 := HKI.out.x.2 6
                have f7 := HKI.out.x.2 7
                go_wp2
                have HXF : Hid (BX ((((((((wr.setCell ⟨W.heap.size, 0, none⟩ (.int .i64 kk)).setCell ⟨W.heap.size, 1, none⟩ (.int .i64 zm)).setCell ⟨W.heap.size, 2, none⟩ (.int .i64 zu)).setCell ⟨W.heap.size, 3, none⟩ (.int .i64 zg)).setCell ⟨W.heap.size, 4, none⟩ (.bool oo)).setCell ⟨W.heap.size, 5, none⟩ (.slice aa A.length cap5)).setCell ⟨W.heap.size, 6, none⟩ (.string sd)).setCell ⟨W.heap.size, 7, none⟩ (.slice ak L.length cap6)) W.heap.size [.int .i64 kk, .int .i64 zm, .int .i64 zu, .int .i64 zg, .bool oo, .slice aa A.length cap5, .string sd, .slice ak L.length cap6]) := (((((((HKI.out.x.set 0 (by simp) _).set 1 (by simp) _).set 2 (by simp) _).set 3 (by simp) _).set 4 (by simp) _).set 5 (by simp) _).set 6 (by simp) _).set 7 (by simp) _
                have HBF : Hid (But W.heap.size wr ((((((((wr.setCell ⟨W.heap.size, 0, none⟩ (.int .i64 kk)).setCell ⟨W.heap.size, 1, none⟩ (.int .i64 zm)).setCell ⟨W.heap.size, 2, none⟩ (.int .i64 zu)).setCell ⟨W.heap.size, 3, none⟩ (.int .i64 zg)).setCell ⟨W.heap.size, 4, none⟩ (.bool oo)).setCell ⟨W.heap.size, 5, none⟩ (.slice aa A.length cap5)).setCell ⟨W.heap.size, 6, none⟩ (.string sd)).setCell ⟨W.heap.size, 7, none⟩ (.slice ak L.length cap6))) := ((((((((But.refl _ _).setCell _ _ _).setCell _ _ _).setCell _ _ _).setCell _ _ _).setCell _ _ _).setCell _ _ _).setCell _ _ _).setCell _ _ _
                generalize ((((((((wr.setCell ⟨W.heap.size, 0, none⟩ (.int .i64 kk)).setCell ⟨W.heap.size, 1, none⟩ (.int .i64 zm)).setCell ⟨W.heap.size, 2, none⟩ (.int .i64 zu)).setCell ⟨W.heap.size, 3, none⟩ (.int .i64 zg)).setCell ⟨W.heap.size, 4, none⟩ (.bool oo)).setCell ⟨W.heap.size, 5, none⟩ (.slice aa A.length cap5)).setCell ⟨W.heap.size, 6, none⟩ (.string sd)).setCell ⟨W.heap.size, 7, none⟩ (.slice ak L.length cap6)) = wF at HXF HBF ⊢
                have HRF : Hid (RB wF rb lk nk true) := HKI.out.r.but HBF.out (by omega)
                have HNP := NP.of HS.out HHD.out HKR.out (.inr rfl) (fun _ => HFK.out (by first | rfl | trivial)) hnk (by omega) HKO.out
                have HNF := HKI.out.fin HBF.out
                obtain ⟨r0, r1, r2, r3, r4, r5, r6, r7⟩ := eightX HXF.out
                refine bodyPost_ret (v := ndV (.mk kk zm zu zg oo A sd (bare L)) ⟨aa, cap5, ak, cap6⟩) (by simp [results, Try.results64, go_sem, ndV, bare_len, r0, r1, r2, r3, r4, r5, r6, r7]) rfl ?_
                first | exact ⟨_, _, lk, nk, true, rfl, HRF.out, but_two HKI.out.but HBF.out, HNF, HNP⟩ | exact ⟨_, _, rfl, lk, nk, .inr ⟨HRF.out, but_two HKI.out.but HBF.out, HNF, HNP⟩⟩
    · have b60 : ((n : Int) == 60) = false := by simp; omega
      go_upto_region 4 with fail
      have esz : (W.setCell ⟨rb, 1, none⟩ (.int .i64 ((n : Int) + 1))).heap.size = W.heap.size := by simp [World.setCell]
      have HRA : Hid (RB ((W.setCell ⟨rb, 1, none⟩ (.int .i64 ((n : Int) + 1))).alloc (.cells #[.int .i64 0, .int .i64 0, .int .i64 0, .int .i64 0, .bool false, .slice none 0 0, .string ⟨#[]⟩, .slice none 0 0] 25)) rb l ((n + 1 : Nat) : Int) f) := by
        rw [eN]
        exact (HR.out.set1 ((n : Int) + 1)).below ((Below.refl _ _).alloc (Nat.le_refl _) _)
      have HXA : Hid (BX ((W.setCell ⟨rb, 1, none⟩ (.int .i64 ((n : Int) + 1))).alloc (.cells #[.int .i64 0, .int .i64 0, .int .i64 0, .int .i64 0, .bool false, .slice none 0 0, .string ⟨#[]⟩, .slice none 0 0] 25)) W.heap.size [.int .i64 0, .int .i64 0, .int .i64 0, .int .i64 0, .bool false, .slice none 0 0, .string ⟨#[]⟩, .slice none 0 0]) := by
        have q := BX.new (W.setCell ⟨rb, 1, none⟩ (.int .i64 ((n : Int) + 1))) [.int .i64 0, .int .i64 0, .int .i64 0, .int .i64 0, .bool false, .slice none 0 0, .string ⟨#[]⟩, .slice none 0 0] 25
        rw [esz] at q
        exact q
      have HBA : Hid (But rb W ((W.setCell ⟨rb, 1, none⟩ (.int .i64 ((n : Int) + 1))).alloc (.cells #[.int .i64 0, .int .i64 0, .int .i64 0, .int .i64 0, .bool false, .slice none 0 0, .string ⟨#[]⟩, .slice none 0 0] 25))) := ((But.refl rb W).setCell _ _ _).alloc _
      obtain ⟨la, fa, n1, HRA, HS, hla, hfa, hn1⟩ : ∃ la fa n1, Hid (RB ((W.setCell ⟨rb, 1, none⟩ (.int .i64 ((n : Int) + 1))).alloc (.cells #[.int .i64 0, .int .i64 0, .int .i64 0, .int .i64 0, .bool false, .slice none 0 0, .string ⟨#[]⟩, .slice none 0 0] 25)) rb la ((n1 : Nat) : Int) fa) ∧ Hid (HSt n l f la fa n1) ∧ la.length ≤ l.length ∧ (fa = true → la = []) ∧ n1 ≤ 61 := ⟨l, f, n + 1, HRA, .inr ⟨by omega, rfl, rfl, rfl⟩, Nat.le_refl _, hfl, by omega⟩
      clear HR HR1 HX1 HB1 r0 r1 r2 r3 r4 r5 b60 h60 eN esz
      generalize (W.setCell ⟨rb, 1, none⟩ (.int .i64 ((n : Int) + 1))).alloc (.cells #[.int .i64 0, .int .i64 0, .int .i64 0, .int .i64 0, .bool false, .slice none 0 0, .string ⟨#[]⟩, .slice none 0 0] 25) = wA at HRA HXA HBA ⊢
      obtain ⟨kb, hkb⟩ : ∃ z, nuV (tkR 1 la fa).1 = z := ⟨_, rfl⟩
      obtain ⟨⟨lb, fb⟩, hlb⟩ : ∃ p, (tkR 1 la fa).2 = p := ⟨_, rfl⟩
      have hlbl := (tkR_len 1 la fa).2
      have hkbb : kb ≤ 255 := by rw [← hkb]; exact nuV_one (tkR_len 1 la fa).1
      rw [hlb] at hlbl
      dsimp only at hlbl
      have HC : Hid (Calls Try.prog 97 #[.pointer (some ⟨rb, 0, none⟩), .int .i64 1] wA fun e w' => e = .returned (.int .i64 kb) ∧ But rb wA w' ∧ RB w' rb lb ((n1 : Nat) : Int) fb) := by
        have q := dnumber_any HRA.out 1 (by omega) (by omega)
        rw [hkb, hlb] at q
        exact q
      have Hkb : Hid (nuV (tkR 1 la fa).1 = kb ∧ (tkR 1 la fa).2 = (lb, fb)) := ⟨hkb, hlb⟩
      clear hkb hlb
      go_wp2_with fail
      refine Calls.mono HC.out ?_
      rintro e wB ⟨rfl, hb, hr⟩
      have HRkb : Hid (RB wB rb lb ((n1 : Nat) : Int) fb) := hr
      have HBkb : Hid (But rb W wB) := HBA.out.trans hb
      have HXB : Hid (BX wB W.heap.size [.int .i64 0, .int .i64 0, .int .i64 0, .int .i64 0, .bool false, .slice none 0 0, .string ⟨#[]⟩, .slice none 0 0]) := HXA.out.but hb (by omega)
      clear HC HRA HXA HBA hb hr
      go_upto_region 6 with fail
      obtain ⟨kk, hkk⟩ : ∃ z, bits BinOp.andNot IntKind.i64 (kb : Int) 8 = z := ⟨_, rfl⟩
      obtain ⟨oo, hoo⟩ : ∃ z, (bits BinOp.and IntKind.i64 (kb : Int) 8 != 0) = z := ⟨_, rfl⟩
      rw [hkk, hoo]
      have HKO : Hid ((dT kb).1 = kk ∧ (dT kb).2 = oo) := ⟨hkk, hoo⟩
      clear hkk hoo
      have HNC : Hid (BX (wB.alloc (.cells #[.int .i64 kk, .int .i64 0, .int .i64 0, .int .i64 0, .bool oo, .slice none 0 0, .string ⟨#[]⟩, .slice none 0 0] 25)) wB.heap.size [.int .i64 kk, .int .i64 0, .int .i64 0, .int .i64 0, .bool oo, .slice none 0 0, .string ⟨#[]⟩, .slice none 0 0]) := BX.new wB _ _
      have hal : Below wB.heap.size wB (wB.alloc (.cells #[.int .i64 kk, .int .i64 0, .int .i64 0, .int .i64 0, .bool oo, .slice none 0 0, .string ⟨#[]⟩, .slice none 0 0] 25)) := (Below.refl _ _).alloc (Nat.le_refl _) _
      have HRC : Hid (RB (wB.alloc (.cells #[.int .i64 kk, .int .i64 0, .int .i64 0, .int .i64 0, .bool oo, .slice none 0 0, .string ⟨#[]⟩, .slice none 0 0] 25)) rb lb n1 fb) := HRkb.out.below hal
      have HXC : Hid (BX (wB.alloc (.cells #[.int .i64 kk, .int .i64 0, .int .i64 0, .int .i64 0, .bool oo, .slice none 0 0, .string ⟨#[]⟩, .slice none 0 0] 25)) W.heap.size [.int .i64 0, .int .i64 0, .int .i64 0, .int .i64 0, .bool false, .slice none 0 0, .string ⟨#[]⟩, .slice none 0 0]) := HXB.out.below hal
      have HBC : Hid (But rb W (wB.alloc (.cells #[.int .i64 kk, .int .i64 0, .int .i64 0, .int .i64 0, .bool oo, .slice none 0 0, .string ⟨#[]⟩, .slice none 0 0] 25))) := HBkb.out.then hal
      have hnb : W.heap.size < wB.heap.size := HXB.out.lt
      clear HRkb HXB HBkb hal
      generalize wB.alloc (.cells #[.int .i64 kk, .int .i64 0, .int .i64 0, .int .i64 0, .bool oo, .slice none 0 0, .string ⟨#[]⟩, .slice none 0 0] 25) = wC at HNC HRC HXC HBC ⊢
      generalize wB.heap.size = nb at HNC hnb ⊢
      obtain ⟨zm, hzm⟩ : ∃ z, nuV (tkR 2 lb fb).1 = z := ⟨_, rfl⟩
      obtain ⟨⟨lm, fm⟩, hlm⟩ : ∃ p, (tkR 2 lb fb).2 = p := ⟨_, rfl⟩
      have hlml := (tkR_len 2 lb fb).2
      have hzmb : zm ≤ 65535 := by rw [← hzm]; exact nuV_two (tkR_len 2 lb fb).1
      rw [hlm] at hlml
      dsimp only at hlml
      have HC : Hid (Calls Try.prog 97 #[.pointer (some ⟨rb, 0, none⟩), .int .i64 2] wC fun e w' => e = .returned (.int .i64 zm) ∧ But rb wC w' ∧ RB w' rb lm ((n1 : Nat) : Int) fm) := by
        have q := dnumber_any HRC.out 2 (by omega) (by omega)
        rw [hzm, hlm] at q
        exact q
      have Hzm : Hid (nuV (tkR 2 lb fb).1 = zm ∧ (tkR 2 lb fb).2 = (lm, fm)) := ⟨hzm, hlm⟩
      clear hzm hlm
      go_wp2_with fail
      refine Calls.mono HC.out ?_
      rintro e wD ⟨rfl, hb, hr⟩
      have HRzm : Hid (RB wD rb lm ((n1 : Nat) : Int) fm) := hr
      have HBzm : Hid (But rb W wD) := HBC.out.trans hb
      have HXzm : Hid (BX wD W.heap.size [.int .i64 0, .int .i64 0, .int .i64 0, .int .i64 0, .bool false, .slice none 0 0, .string ⟨#[]⟩, .slice none 0 0]) := HXC.out.but hb (by omega)
      have HNzm : Hid (BX wD nb [.int .i64 kk, .int .i64 0, .int .i64 0, .int .i64 0, .bool oo, .slice none 0 0, .string ⟨#[]⟩, .slice none 0 0]) := HNC.out.but hb (by omega)
      clear HC HRC HXC HBC HNC hb hr
      have p0 := HNzm.out.1 1 _ rfl
      have p1 := HNzm.out.2 1
      go_upto_region 7 with fail
      have HRzms : Hid (RB (wD.setCell ⟨nb, 1, none⟩ (.int .i64 zm)) rb lm n1 fm) := HRzm.out.other (by omega) _
      have HXzms : Hid (BX (wD.setCell ⟨nb, 1, none⟩ (.int .i64 zm)) W.heap.size [.int .i64 0, .int .i64 0, .int .i64 0, .int .i64 0, .bool false, .slice none 0 0, .string ⟨#[]⟩, .slice none 0 0]) := HXzm.out.other (by omega) _
      have HNzms : Hid (BX (wD.setCell ⟨nb, 1, none⟩ (.int .i64 zm)) nb [.int .i64 kk, .int .i64 zm, .int .i64 0, .int .i64 0, .bool oo, .slice none 0 0, .string ⟨#[]⟩, .slice none 0 0]) := HNzm.out.set 1 (by simp) _
      have HBzms : Hid (But rb W (wD.setCell ⟨nb, 1, none⟩ (.int .i64 zm))) := but_new HBzm.out hnb _ _
      clear p0 p1 HRzm HXzm HNzm HBzm
      generalize wD.setCell ⟨nb, 1, none⟩ (.int .i64 zm) = wDs at HRzms HXzms HNzms HBzms ⊢
      obtain ⟨zu, hzu⟩ : ∃ z, nuV (tkR 2 lm fm).1 = z := ⟨_, rfl⟩
      obtain ⟨⟨lu, fu_⟩, hlu⟩ : ∃ p, (tkR 2 lm fm).2 = p := ⟨_, rfl⟩
      have hlul := (tkR_len 2 lm fm).2
      have hzub : zu ≤ 65535 := by rw [← hzu]; exact nuV_two (tkR_len 2 lm fm).1
      rw [hlu] at hlul
      dsimp only at hlul
      have HC : Hid (Calls Try.prog 97 #[.pointer (some ⟨rb, 0, none⟩), .int .i64 2] wDs fun e w' => e = .returned (.int .i64 zu) ∧ But rb wDs w' ∧ RB w' rb lu ((n1 : Nat) : Int) fu_) := by
        have q := dnumber_any HRzms.out 2 (by omega) (by omega)
        rw [hzu, hlu] at q
        exact q
      have Hzu : Hid (nuV (tkR 2 lm fm).1 = zu ∧ (tkR 2 lm fm).2 = (lu, fu_)) := ⟨hzu, hlu⟩
      clear hzu hlu
      go_wp2_with fail
      refine Calls.mono HC.out ?_
      rintro e wE ⟨rfl, hb, hr⟩
      have HRzu : Hid (RB wE rb lu ((n1 : Nat) : Int) fu_) := hr
      have HBzu : Hid (But rb W wE) := HBzms.out.trans hb
      have HXzu : Hid (BX wE W.heap.size [.int .i64 0, .int .i64 0, .int .i64 0, .int .i64 0, .bool false, .slice none 0 0, .string ⟨#[]⟩, .slice none 0 0]) := HXzms.out.but hb (by omega)
      have HNzu : Hid (BX wE nb [.int .i64 kk, .int .i64 zm, .int .i64 0, .int .i64 0, .bool oo, .slice none 0 0, .string ⟨#[]⟩, .slice none 0 0]) := HNzms.out.but hb (by omega)
      clear HC HRzms HXzms HBzms HNzms hb hr
      have p0 := HNzu.out.1 2 _ rfl
      have p1 := HNzu.out.2 2
      go_upto_region 8 with fail
      have HRzus : Hid (RB (wE.setCell ⟨nb, 2, none⟩ (.int .i64 zu)) rb lu n1 fu_) := HRzu.out.other (by omega) _
      have HXzus : Hid (BX (wE.setCell ⟨nb, 2, none⟩ (.int .i64 zu)) W.heap.size [.int .i64 0, .int .i64 0, .int .i64 0, .int .i64 0, .bool false, .slice none 0 0, .string ⟨#[]⟩, .slice none 0 0]) := HXzu.out.other (by omega) _
      have HNzus : Hid (BX (wE.setCell ⟨nb, 2, none⟩ (.int .i64 zu)) nb [.int .i64 kk, .int .i64 zm, .int .i64 zu, .int .i64 0, .bool oo, .slice none 0 0, .string ⟨#[]⟩, .slice none 0 0]) := HNzu.out.set 2 (by simp) _
      have HBzus : Hid (But rb W (wE.setCell ⟨nb, 2, none⟩ (.int .i64 zu))) := but_new HBzu.out hnb _ _
      clear p0 p1 HRzu HXzu HNzu HBzu
      generalize wE.setCell ⟨nb, 2, none⟩ (.int .i64 zu) = wEs at HRzus HXzus HNzus HBzus ⊢
      obtain ⟨zg, hzg⟩ : ∃ z, nuV (tkR 2 lu fu_).1 = z := ⟨_, rfl⟩
      obtain ⟨⟨lg, fg⟩, hlg⟩ : ∃ p, (tkR 2 lu fu_).2 = p := ⟨_, rfl⟩
      have hlgl := (tkR_len 2 lu fu_).2
      have hzgb : zg ≤ 65535 := by rw [← hzg]; exact nuV_two (tkR_len 2 lu fu_).1
      rw [hlg] at hlgl
      dsimp only at hlgl
      have HC : Hid (Calls Try.prog 97 #[.pointer (some ⟨rb, 0, none⟩), .int .i64 2] wEs fun e w' => e = .returned (.int .i64 zg) ∧ But rb wEs w' ∧ RB w' rb lg ((n1 : Nat) : Int) fg) := by
        have q := dnumber_any HRzus.out 2 (by omega) (by omega)
        rw [hzg, hlg] at q
        exact q
      have Hzg : Hid (nuV (tkR 2 lu fu_).1 = zg ∧ (tkR 2 lu fu_).2 = (lg, fg)) := ⟨hzg, hlg⟩
      clear hzg hlg
      go_wp2_with fail
      refine Calls.mono HC.out ?_
      rintro e wF ⟨rfl, hb, hr⟩
      have HRzg : Hid (RB wF rb lg ((n1 : Nat) : Int) fg) := hr
      have HBzg : Hid (But rb W wF) := HBzus.out.trans hb
      have HXzg : Hid (BX wF W.heap.size [.int .i64 0, .int .i64 0, .int .i64 0, .int .i64 0, .bool false, .slice none 0 0, .string ⟨#[]⟩, .slice none 0 0]) := HXzus.out.but hb (by omega)
      have HNzg : Hid (BX wF nb [.int .i64 kk, .int .i64 zm, .int .i64 zu, .int .i64 0, .bool oo, .slice none 0 0, .string ⟨#[]⟩, .slice none 0 0]) := HNzus.out.but hb (by omega)
      clear HC HRzus HXzus HBzus HNzus hb hr
      have p0 := HNzg.out.1 3 _ rfl
      have p1 := HNzg.out.2 3
      go_upto_region 9 with fail
      have HRzgs : Hid (RB (wF.setCell ⟨nb, 3, none⟩ (.int .i64 zg)) rb lg n1 fg) := HRzg.out.other (by omega) _
      have HXzgs : Hid (BX (wF.setCell ⟨nb, 3, none⟩ (.int .i64 zg)) W.heap.size [.int .i64 0, .int .i64 0, .int .i64 0, .int .i64 0, .bool false, .slice none 0 0, .string ⟨#[]⟩, .slice none 0 0]) := HXzg.out.other (by omega) _
      have HNzgs : Hid (BX (wF.setCell ⟨nb, 3, none⟩ (.int .i64 zg)) nb [.int .i64 kk, .int .i64 zm, .int .i64 zu, .int .i64 zg, .bool oo, .slice none 0 0, .string ⟨#[]⟩, .slice none 0 0]) := HNzg.out.set 3 (by simp) _
      have HBzgs : Hid (But rb W (wF.setCell ⟨nb, 3, none⟩ (.int .i64 zg))) := but_new HBzg.out hnb _ _
      clear p0 p1 HRzg HXzg HNzg HBzg
      generalize wF.setCell ⟨nb, 3, none⟩ (.int .i64 zg) = wFs at HRzgs HXzgs HNzgs HBzgs ⊢
      obtain ⟨ca, hca⟩ : ∃ z, nuV (tkR 1 lg fg).1 = z := ⟨_, rfl⟩
      obtain ⟨⟨lc, fc⟩, hlc⟩ : ∃ p, (tkR 1 lg fg).2 = p := ⟨_, rfl⟩
      have hlcl := (tkR_len 1 lg fg).2
      have hcab : ca ≤ 255 := by rw [← hca]; exact nuV_one (tkR_len 1 lg fg).1
      rw [hlc] at hlcl
      dsimp only at hlcl
      have HC : Hid (Calls Try.prog 97 #[.pointer (some ⟨rb, 0, none⟩), .int .i64 1] wFs fun e w' => e = .returned (.int .i64 ca) ∧ But rb wFs w' ∧ RB w' rb lc ((n1 : Nat) : Int) fc) := by
        have q := dnumber_any HRzgs.out 1 (by omega) (by omega)
        rw [hca, hlc] at q
        exact q
      have Hca : Hid (nuV (tkR 1 lg fg).1 = ca ∧ (tkR 1 lg fg).2 = (lc, fc)) := ⟨hca, hlc⟩
      clear hca hlc
      go_wp2_with fail
      refine Calls.mono HC.out ?_
      rintro e wG ⟨rfl, hb, hr⟩
      have HRca : Hid (RB wG rb lc ((n1 : Nat) : Int) fc) := hr
      have HBca : Hid (But rb W wG) := HBzgs.out.trans hb
      have HAI : Hid (AI W wG rb nb n1 kk zm zu zg oo ⟨#[]⟩ [] (.slice none 0 0) lc fc) := ⟨HRca.out, HXzgs.out.but hb (by omega), HNzgs.out.but hb (by omega), World.ownsRow_nil _ _ _ _, HBca.out, hnb, hrb⟩
      clear HC HRzgs HXzgs HNzgs HBzgs hb hr HRca HBca
      go_wp2
      go_loopw [41] (fun i wr => ∃ (j : Nat) (A : List Kv) (va : Value) (l2 : List UInt8) (f2 : Bool), j ≤ ca ∧ i = .int .i64 j ∧ A.length = j ∧ l2.length ≤ lc.length ∧ Hid (atR ca lc fc = (A ++ (atR (ca - j) l2 f2).1, (atR (ca - j) l2 f2).2)) ∧ Hid (AI W wr rb nb n1 kk zm zu zg oo ⟨#[]⟩ A va l2 f2)) (fun i _ => ca - (intOf i).toNat)
      case atStart => exact ⟨0, [], _, lc, fc, Nat.zero_le _, rfl, rfl, Nat.le_refl _, by show _ = _; simp, HAI.out⟩
      case round =>
        obtain ⟨j, A, va, l2, f2, hj, rfl, hAj, hl2, HAT, HA2⟩ := hrel
        have HAJ : Hid (A.length = j) := hAj
        have hA255 : A.length ≤ 255 := by omega
        clear HAI hAj
        by_cases hjl : j < ca
        · have hji : (j : Int) < (ca : Int) := by omega
          obtain ⟨s1, hs1⟩ : ∃ s, ofB (txR l2 f2).1 = s := ⟨_, rfl⟩
          obtain ⟨⟨l3, f3⟩, h3⟩ : ∃ p, (txR l2 f2).2 = p := ⟨_, rfl⟩
          have hl3 := txR_len l2 f2
          rw [h3] at hl3
          dsimp only at hl3
          have HC1 : Hid (Calls Try.prog 98 #[.pointer (some ⟨rb, 0, none⟩)] wr fun e w' => e = .returned (.string s1) ∧ But rb wr w' ∧ RB w' rb l3 n1 f3) := by
            have q := dtext_any HA2.out.r (by omega)
            rw [hs1, h3] at q
            exact q
          obtain ⟨s2, hs2⟩ : ∃ s, ofB (txR l3 f3).1 = s := ⟨_, rfl⟩
          obtain ⟨⟨l4, f4⟩, h4⟩ : ∃ p, (txR l3 f3).2 = p := ⟨_, rfl⟩
          have hl4 := txR_len l3 f3
          rw [h4] at hl4
          dsimp only at hl4
          have HTX : Hid (atR ca lc fc = ((A ++ [⟨s1, s2⟩]) ++ (atR (ca - (j + 1)) l4 f4).1, (atR (ca - (j + 1)) l4 f4).2)) := by
            show _ = _
            rw [HAT.out, show ca - j = (ca - (j + 1)) + 1 by omega, atR, hs1, h3]
            dsimp only
            rw [hs2, h4]
            simp
          have HT2 : Hid (ofB (txR l3 f3).1 = s2 ∧ (txR l3 f3).2 = (l4, f4)) := ⟨hs2, h4⟩
          clear hs1 h3 hs2 h4 HAT
          go_wp2_with fail
          refine Calls.mono HC1.out ?_
          rintro e w5 ⟨rfl, hb5, hr5⟩
          have HA5 : Hid (AI W w5 rb nb n1 kk zm zu zg oo ⟨#[]⟩ A va l3 f3) := HA2.out.but' hb5 hr5
          clear HC1 HA2 hb5 hr5
          have hd5 : Below w5.heap.size w5 w5.drew := below_drewN (Below.refl _ w5) 1
          have HA5d : Hid (AI W w5.drew rb nb n1 kk zm zu zg oo ⟨#[]⟩ A va l3 f3) := HA5.out.but' (But.of_below hd5) (HA5.out.r.below hd5)
          have HC2 : Hid (Calls Try.prog 98 #[.pointer (some ⟨rb, 0, none⟩)] w5.drew fun e w' => e = .returned (.string s2) ∧ But rb w5.drew w' ∧ RB w' rb l4 n1 f4) := by
            have q := dtext_any HA5d.out.r (by omega)
            rw [HT2.out.1, HT2.out.2] at q
            exact q
          clear HT2 hd5
          go_upto_region 12 with fail
          obtain ⟨aa, cap5, e5, _, _, _⟩ := owns_cells HA5.out.row
          subst e5
          have y5 := HA5.out.b.1 5 _ rfl
          have y6 := HA5.out.b.2 5
          go_region_law (first | (refine step_append_src (w6.alloc (.cells #[.string s1, .string s2] 146)) (by rfl) (.tmp 46) (.tmp 51) 22 (by rfl) (nb + 1) 146 i1 _ 2 32 Try.underlying22 HJ0.out HJ1.out HJ2.out HJ3.out rfl (by decide) (.slice aa A.length cap5) A.length (flat A) (by rfl) (HA6.out.row.alloc _) (some ⟨w6.heap.size, 0, none⟩) 1 1 (flat [⟨s1, s2⟩]) (by rfl) (by rfl) (.inr ⟨_, rfl, kv_new w6 s1 s2 _⟩) (flat_one _) (by unfold maxLen; omega) (by omega) (Nat.le_trans HA6.out.b.lt (by rw [World.size_alloc]; omega)) ?_; intro v7 w7 hown7 hgr7 ho7; obtain ⟨a7, cap7, rfl, _, _, _⟩ := owns_cells hown7; have hA7 := HA6.out.app _ hgr7 ⟨s1, s2⟩ hown7; have hq7 : some nb ≠ (Value.slice aa A.length cap5).ownBlock := row_neA HA6.out.row; have hbx := (HA6.out.b.below ((Below.refl _ w6).alloc (Nat.le_refl _) _)).grown hgr7 hq7; have d5 := hbx.1 5 _ rfl; have d6 := hbx.2 5; have HA7 : Hid (AI W (w7.setCell ⟨nb, 5, none⟩ (.slice a7 (A.length + 1) cap7)) rb nb n1 kk zm zu zg oo ⟨#[]⟩ (A ++ [⟨s1, s2⟩]) (.slice a7 (A.length + 1) cap7) l4 f4) := hA7; clear hown7 hgr7 ho7 hA7 hbx hq7) | (go_simp; go_at_call 98; (with_reducible refine Calls.mono HC2.out ?_); rintro e w6 ⟨rfl, hb6, hr6⟩; have HA6 : Hid (AI W w6 rb nb n1 kk zm zu zg oo ⟨#[]⟩ A (.slice aa A.length cap5) l4 f4) := HA5d.out.but' hb6 hr6; have c5 := HA6.out.b.1 5 _ rfl; have c6 := HA6.out.b.2 5; have c7 := (HA6.out.b.below ((Below.refl _ w6).alloc (Nat.le_refl _) (.cells #[.string s1, .string s2] 146))).1 5 _ rfl; clear HC2 hb6 hr6))
          all_goals
            clear HA5 HA5d HA6 c5 c6 c7 d5 d6 y5 y6
            go_wp2
            go_roundw
            case rel => exact ⟨j + 1, _, _, l4, f4, by omega, by go_num, by (have := HAJ.out; simp; omega), by omega, HTX.out, HA7.out⟩
            case measure => simp [intOf]; omega
        · have hji : decide ((j : Int) < (ca : Int)) = false := decide_eq_false (by omega)
          have HAT2 : Hid (atR ca lc fc = (A, l2, f2)) := by
            show _ = _
            rw [HAT.out, show ca - j = 0 by omega]
            simp [atR]
          clear HAT
          obtain ⟨sd, hsd⟩ : ∃ s, ofB (txR l2 f2).1 = s := ⟨_, rfl⟩
          obtain ⟨⟨ld, fd⟩, hld⟩ : ∃ p, (txR l2 f2).2 = p := ⟨_, rfl⟩
          have hldl := txR_len l2 f2
          rw [hld] at hldl
          dsimp only at hldl
          have HC1 : Hid (Calls Try.prog 98 #[.pointer (some ⟨rb, 0, none⟩)] wr fun e w' => e = .returned (.string sd) ∧ But rb wr w' ∧ RB w' rb ld n1 fd) := by
            have q := dtext_any HA2.out.r (by omega)
            rw [hsd, hld] at q
            exact q
          have HD1 : Hid (ofB (txR l2 f2).1 = sd ∧ (txR l2 f2).2 = (ld, fd)) := ⟨hsd, hld⟩
          clear hsd hld
          go_wp2_with fail
          refine Calls.mono HC1.out ?_
          rintro e w5 ⟨rfl, hb5, hr5⟩
          have HA5 : Hid (AI W w5 rb nb n1 kk zm zu zg oo ⟨#[]⟩ A va ld fd) := HA2.out.but' hb5 hr5
          clear HC1 HA2 hb5 hr5
          obtain ⟨aa, cap5, e5, hcp1, hcp2, _⟩ := owns_cells HA5.out.row
          subst e5
          have y5 := HA5.out.b.1 6 _ rfl
          have y6 := HA5.out.b.2 6
          go_upto_region 15 with fail
          have HK1 : Hid (KI W (w5.setCell ⟨nb, 6, none⟩ (.string sd)) rb nb kk zm zu zg oo A (.slice aa A.length cap5) sd [] (.slice none 0 0) ld n1 fd) := HA5.out.kids sd
          clear HA5 y5 y6
          generalize w5.setCell ⟨nb, 6, none⟩ (.string sd) = w7 at HK1 ⊢
          have HRd : Hid (RB w7 rb ld n1 fd) := HK1.out.r
          have HBd : Hid (But rb W w7) := HK1.out.but
          obtain ⟨ck, hck⟩ : ∃ z, nuV (tkR 1 ld fd).1 = z := ⟨_, rfl⟩
          obtain ⟨⟨lq, fq⟩, hlq⟩ : ∃ p, (tkR 1 ld fd).2 = p := ⟨_, rfl⟩
          have hlql := (tkR_len 1 ld fd).2
          have hckb : ck ≤ 255 := by rw [← hck]; exact nuV_one (tkR_len 1 ld fd).1
          rw [hlq] at hlql
          dsimp only at hlql
          have HC : Hid (Calls Try.prog 97 #[.pointer (some ⟨rb, 0, none⟩), .int .i64 1] w7 fun e w' => e = .returned (.int .i64 ck) ∧ But rb w7 w' ∧ RB w' rb lq ((n1 : Nat) : Int) fq) := by
            have q := dnumber_any HRd.out 1 (by omega) (by omega)
            rw [hck, hlq] at q
            exact q
          have Hck : Hid (nuV (tkR 1 ld fd).1 = ck ∧ (tkR 1 ld fd).2 = (lq, fq)) := ⟨hck, hlq⟩
          clear hck hlq
          go_wp2_with fail
          refine Calls.mono HC.out ?_
          rintro e w8 ⟨rfl, hb, hr⟩
          have HRck : Hid (RB w8 rb lq ((n1 : Nat) : Int) fq) := hr
          have HBck : Hid (But rb W w8) := HBd.out.trans hb
          have HK2 : Hid (KI W w8 rb nb kk zm zu zg oo A (.slice aa A.length cap5) sd [] (.slice none 0 0) lq n1 fq) := HK1.out.but' hb hr
          have HHD : Hid (Hdr la fa kb zm zu zg ca A sd ck lq fq) := ⟨lb, fb, lm, fm, lu, fu_, lg, fg, lc, fc, l2, f2, ld, fd, Hkb.out, Hzm.out, Hzu.out, Hzg.out, Hca.out, HAT2.out, HD1.out, Hck.out⟩
          have hrest := HHD.out.rest hfa
          obtain ⟨hnq, hlq, hfq, hck⟩ := hrest
          obtain ⟨fu', hfu'⟩ : ∃ q, fu = q + 1 := ⟨fu - 1, by omega⟩
          subst hfu'
          have HST : Hid (KR (rNd dT fu') ck lq n1 fq ck [] lq n1 fq) := KR.start (fun e => by
            have e2 := (hfq e).1
            rcases HS.out with ⟨_, _, e3, _⟩ | ⟨h3, _, _, e4⟩
            · rw [e3] at e2; cases e2
            · omega)
          have HHQ : Hid ((fq = false → fa = false ∧ 1 ≤ la.length) ∧ (fq = true → lq = [])) := ⟨hfq, hnq⟩
          clear HC HK1 HRd HBd hb hr HRck HBck Hkb Hzm Hzu Hzg Hca HAT2 HD1 Hck hfq hnq
          go_wp2
          go_loopw [6] (fun i wr => ∃ (j : Nat) (L : Khs) (vk : Value) (lk : List UInt8) (nk : Nat) (fk : Bool), j ≤ ck ∧ i = .int .i64 j ∧ lk.length ≤ lq.length ∧ Hid (L.length + j ≤ 255) ∧ Hid (fk = true → lk = []) ∧ nk ≤ 61 ∧ Hid (KR (rNd dT fu') ck lq n1 fq j (bare L) lk nk fk) ∧ Hid (KI W wr rb nb kk zm zu zg oo A (.slice aa A.length cap5) sd L vk lk nk fk)) (fun i _ => (intOf i).toNat)
          case atStart => exact ⟨ck, [], _, lq, n1, fq, Nat.le_refl _, rfl, Nat.le_refl _, by show _ ≤ _; simp; omega, HHQ.out.2, hn1, HST.out, HK2.out⟩
          case round =>
            obtain ⟨j2, L, vk, lk, nk, fk, hj2, rfl, hlk, HLJ, HFK, hnk, HKR, HKI⟩ := hrel
            clear HK2 HST
            obtain ⟨ak, cap6, e6, _, _, _⟩ := owns_cells HKI.out.row
            subst e6
            obtain ⟨r0, r1, r2, r3, r4, r5⟩ := HKI.out.r
            by_cases hj0 : j2 = 0
            · subst hj0
              obtain ⟨x0, x1, x2, x3, x4, x5, x6, x7⟩ := eightX HKI.out.x
              obtain ⟨b0, b1, b2, b3, b4, b5, b6, b7⟩ := eightX HKI.out.b
              have f0 := HKI.out.x.2 0
              have f1 := HKI.out.x.2 1
              have f2 := HKI.out.x.2 2
              have f3 := HKI.out.x.2 3
              have f4 := HKI.out.x.2 4
              have f5 := HKI.out.x.2 5
              have f6 := HKI.out.x.2 6
              have f7 := HKI.out.x.2 7
              go_wp2
              have HXF : Hid (BX ((((((((wr.setCell ⟨W.heap.size, 0, none⟩ (.int .i64 kk)).setCell ⟨W.heap.size, 1, none⟩ (.int .i64 zm)).setCell ⟨W.heap.size, 2, none⟩ (.int .i64 zu)).setCell ⟨W.heap.size, 3, none⟩ (.int .i64 zg)).setCell ⟨W.heap.size, 4, none⟩ (.bool oo)).setCell ⟨W.heap.size, 5, none⟩ (.slice aa A.length cap5)).setCell ⟨W.heap.size, 6, none⟩ (.string sd)).setCell ⟨W.heap.size, 7, none⟩ (.slice ak L.length cap6)) W.heap.size [.int .i64 kk, .int .i64 zm, .int .i64 zu, .int .i64 zg, .bool oo, .slice aa A.length cap5, .string sd, .slice ak L.length cap6]) := (((((((HKI.out.x.set 0 (by simp) _).set 1 (by simp) _).set 2 (by simp) _).set 3 (by simp) _).set 4 (by simp) _).set 5 (by simp) _).set 6 (by simp) _).set 7 (by simp) _
              have HBF : Hid (But W.heap.size wr ((((((((wr.setCell ⟨W.heap.size, 0, none⟩ (.int .i64 kk)).setCell ⟨W.heap.size, 1, none⟩ (.int .i64 zm)).setCell ⟨W.heap.size, 2, none⟩ (.int .i64 zu)).setCell ⟨W.heap.size, 3, none⟩ (.int .i64 zg)).setCell ⟨W.heap.size, 4, none⟩ (.bool oo)).setCell ⟨W.heap.size, 5, none⟩ (.slice aa A.length cap5)).setCell ⟨W.heap.size, 6, none⟩ (.string sd)).setCell ⟨W.heap.size, 7, none⟩ (.slice ak L.length cap6))) := ((((((((But.refl _ _).setCell _ _ _).setCell _ _ _).setCell _ _ _).setCell _ _ _).setCell _ _ _).setCell _ _ _).setCell _ _ _).setCell _ _ _
              generalize ((((((((wr.setCell ⟨W.heap.size, 0, none⟩ (.int .i64 kk)).setCell ⟨W.heap.size, 1, none⟩ (.int .i64 zm)).setCell ⟨W.heap.size, 2, none⟩ (.int .i64 zu)).setCell ⟨W.heap.size, 3, none⟩ (.int .i64 zg)).setCell ⟨W.heap.size, 4, none⟩ (.bool oo)).setCell ⟨W.heap.size, 5, none⟩ (.slice aa A.length cap5)).setCell ⟨W.heap.size, 6, none⟩ (.string sd)).setCell ⟨W.heap.size, 7, none⟩ (.slice ak L.length cap6)) = wF at HXF HBF ⊢
              have HRF : Hid (RB wF rb lk nk fk) := HKI.out.r.but HBF.out (by omega)
              have HNP := NP.of HS.out HHD.out HKR.out (.inl rfl) HFK.out hnk (by omega) HKO.out
              have HNF := HKI.out.fin HBF.out
              obtain ⟨r0, r1, r2, r3, r4, r5, r6, r7⟩ := eightX HXF.out
              refine bodyPost_ret (v := ndV (.mk kk zm zu zg oo A sd (bare L)) ⟨aa, cap5, ak, cap6⟩) (by simp [results, Try.results64, go_sem, ndV, bare_len, r0, r1, r2, r3, r4, r5, r6, r7]) rfl ⟨_, _, lk, nk, fk, rfl, HRF.out, but_two HKI.out.but HBF.out, HNF, HNP⟩
            · obtain ⟨j3, hj3⟩ : ∃ q, j2 = q + 1 := ⟨j2 - 1, by omega⟩
              subst hj3
              have hjp : decide ((0 : Int) < ((j3 + 1 : Nat) : Int)) = true := decide_eq_true (by omega)
              cases fk
              · obtain ⟨nm, hnm⟩ : ∃ s, ofB (txR lk false).1 = s := ⟨_, rfl⟩
                obtain ⟨⟨l3, f3⟩, h3⟩ : ∃ p, (txR lk false).2 = p := ⟨_, rfl⟩
                have hl3 := txR_len lk false
                have hp3 := tx_pos (l := lk) (f := false)
                have hn3 := txR_nil (l := lk) (f := false) (fun e => by cases e)
                rw [h3] at hl3 hp3 hn3
                dsimp only at hl3 hp3 hn3
                have HC1 : Hid (Calls Try.prog 98 #[.pointer (some ⟨rb, 0, none⟩)] wr fun e w' => e = .returned (.string nm) ∧ But rb wr w' ∧ RB w' rb l3 nk f3) := by
                  have q := dtext_any HKI.out.r (by omega)
                  rw [hnm, h3] at q
                  exact q
                have hkr := HKR.out.ok rfl
                have hq := HHQ.out.1 hkr.1
                have hlf : f = false ∧ la = l := by
                  rcases HS.out with ⟨_, _, e3, _⟩ | ⟨_, h2, h3, _⟩
                  · rw [e3] at hq; cases hq.1
                  · exact ⟨h3.symm.trans hq.1, h2⟩
                have hmd : l.length < md := by
                  have := hmes
                  rw [hlf.1] at this
                  unfold mes at this
                  simp at this
                  omega
                have hl1 : 1 ≤ l.length := by rw [← hlf.2]; exact hq.2
                have hms : mes l3 f3 < md := by
                  unfold mes
                  cases hf3 : f3 with
                  | true => simp; omega
                  | false => have := (hp3 hf3).2; simp; omega
                have hfu3 : l3.length < fu' := by
                  cases hf3 : f3 with
                  | true => rw [hn3 hf3]; simp; omega
                  | false => have := (hp3 hf3).2; omega
                have hnk60 := hkr.2.2.1
                have HTX : Hid (ofB (txR lk false).1 = nm ∧ (txR lk false).2 = (l3, f3)) := ⟨hnm, h3⟩
                have HN3 : Hid (f3 = true → l3 = []) := hn3
                clear hnm h3 hkr hq hlf hp3 hn3 hmd hl1
                go_wp2_with fail
                refine Calls.mono HC1.out ?_
                rintro e w5 ⟨rfl, hb5, hr5⟩
                have HK5 : Hid (KI W w5 rb nb kk zm zu zg oo A (.slice aa A.length cap5) sd L (.slice ak L.length cap6) l3 nk f3) := HKI.out.but' hb5 hr5
                have hd5 : Below w5.heap.size w5 w5.drew := below_drewN (Below.refl _ w5) 1
                have HK5d : Hid (KI W w5.drew rb nb kk zm zu zg oo A (.slice aa A.length cap5) sd L (.slice ak L.length cap6) l3 nk f3) := HK5.out.but' (But.of_below hd5) (HK5.out.r.below hd5)
                have HCN : Hid (Calls Try.prog 64 #[.pointer (some ⟨rb, 0, none⟩)] w5.drew fun e w' => ∃ k5 m5 u5 g5 o5 at5 d5 ks5 hx l' n' f', e = .returned (.agg #[.int .i64 k5, .int .i64 m5, .int .i64 u5, .int .i64 g5, .bool o5, .slice hx.aa at5.length hx.ca, .string d5, .slice hx.ak ks5.length hx.ck]) ∧ RB w' rb l' (n' : Nat) f' ∧ But rb w5.drew w' ∧ NdV (newM w5.drew.heap.size w') (.mk k5 m5 u5 g5 o5 at5 d5 ks5) hx ∧ NP fu' l3 nk f3 (.mk k5 m5 u5 g5 o5 at5 d5 ks5) l' n' f') := by
                  refine Calls.mono (HIH.out w5.drew l3 nk f3 hms HK5d.out.r hnk60 HN3.out (by omega) fu' hfu3) ?_
                  rintro e w' ⟨⟨k5, m5, u5, g5, o5, at5, d5, ks5⟩, hx, l', n', f', e1, e2, e3, e4, e5⟩
                  exact ⟨k5, m5, u5, g5, o5, at5, d5, ks5, hx, l', n', f', e1, e2, e3, e4, e5⟩
                have hsz5 : nb < w5.drew.heap.size := HK5d.out.b.lt
                have hvk5 : ∀ s, (Value.slice ak L.length cap6).ownBlock = some s → s < w5.drew.heap.size := fun s e => (HK5d.out.row.lt s e).2
                have HSZ : Hid (W.heap.size < w5.drew.heap.size ∧ nb < w5.drew.heap.size ∧ ∀ s, (Value.slice ak L.length cap6).ownBlock = some s → s < w5.drew.heap.size) := ⟨by omega, hsz5, hvk5⟩
                clear HC1 HKI hb5 hr5 hd5 r0 r1 r2 r3 r4 r5 hms hfu3 hsz5 hvk5
                have hLL : L.length ≤ 255 := by have := HLJ.out; omega
                go_upto_region 19 with fail
                have y5 := HK5.out.b.1 7 _ rfl
                have y6 := HK5.out.b.2 7
                go_region_law (first | (refine step_append_src (w6.alloc (.cells #[.string nm, .int .i64 k5, .int .i64 m5, .int .i64 u5, .int .i64 g5, .bool o5, .slice hx.aa at5.length hx.ca, .string d5, .slice hx.ak ks5.length hx.ck] 102)) (by rfl) (.tmp 74) (.tmp 79) 23 (by rfl) (nb + 1) 102 i2 zK 9 120 Try.underlying23 HG0.out HG1.out HG2.out HG3.out rfl (by decide) (.slice ak L.length cap6) L.length (kfl L) (by rfl) (HK6.out.row.alloc _) (some ⟨w6.heap.size, 0, none⟩) 1 1 (kfl [(nm, (.mk k5 m5 u5 g5 o5 at5 d5 ks5), hx)]) (by rfl) (by rfl) (.inr ⟨_, rfl, kid_newA w6 nm (.mk k5 m5 u5 g5 o5 at5 d5 ks5) hx _⟩) (kfl_one _) (by unfold maxLen; omega) (by omega) (Nat.le_trans HK6.out.b.lt (by rw [World.size_alloc]; omega)) ?_; intro v7 w7 hown7 hgr7 ho7; obtain ⟨a7, cap7, rfl, _, _, _⟩ := owns_cells hown7; have hK7 := HK6.out.app _ hgr7 (nm, (.mk k5 m5 u5 g5 o5 at5 d5 ks5), hx) HN6.out HSZ.out.1 HSZ.out.2.1 HSZ.out.2.2 hown7 (by first | exact ho7 | (rw [World.size_alloc] at ho7; exact ho7)); have hq7 : some nb ≠ (Value.slice ak L.length cap6).ownBlock := row_neA HK6.out.row; have hbx := (HK6.out.b.below ((Below.refl _ w6).alloc (Nat.le_refl _) _)).grown hgr7 hq7; have d5' := hbx.1 7 _ rfl; have d6' := hbx.2 7; have HK7 : Hid (KI W (w7.setCell ⟨nb, 7, none⟩ (.slice a7 (L.length + 1) cap7)) rb nb kk zm zu zg oo A (.slice aa A.length cap5) sd (L ++ [(nm, (.mk k5 m5 u5 g5 o5 at5 d5 ks5), hx)]) (.slice a7 (L.length + 1) cap7) l4 n4 f4) := hK7; clear hown7 hgr7 ho7 hK7 hbx hq7) | (go_simp; go_at_call 64; (with_reducible refine Calls.mono HCN.out ?_); rintro e w6 ⟨k5, m5, u5, g5, o5, at5, d5, ks5, hx, l4, n4, f4, rfl, hr6, hb6, hN6, hNP6⟩; have HK6 : Hid (KI W w6 rb nb kk zm zu zg oo A (.slice aa A.length cap5) sd L (.slice ak L.length cap6) l4 n4 f4) := HK5d.out.but' hb6 hr6; have HN6 : Hid (NdV (newM w5.drew.heap.size w6) (.mk k5 m5 u5 g5 o5 at5 d5 ks5) hx) := hN6; have HNP6 : Hid (NP fu' l3 nk f3 (.mk k5 m5 u5 g5 o5 at5 d5 ks5) l4 n4 f4) := hNP6; have c5 := HK6.out.b.1 7 _ rfl; have c6 := HK6.out.b.2 7; have c7 := (HK6.out.b.below ((Below.refl _ w6).alloc (Nat.le_refl _) (.cells #[.string nm, .int .i64 k5, .int .i64 m5, .int .i64 u5, .int .i64 g5, .bool o5, .slice hx.aa at5.length hx.ca, .string d5, .slice hx.ak ks5.length hx.ck] 102))).1 7 _ rfl; clear HCN hb6 hr6 hN6 hNP6))
                all_goals
                  have HKR2 : Hid (KR (rNd dT fu') ck lq n1 fq j3 (bare (L ++ [(nm, (.mk k5 m5 u5 g5 o5 at5 d5 ks5), hx)])) l4 n4 f4) := by
                    have q := HKR.out.next HTX.out.1 HTX.out.2 (fun e => HNP6.out.ok e) (fun e e' => HNP6.out.bad e e')
                    have eb : bare (L ++ [(nm, (.mk k5 m5 u5 g5 o5 at5 d5 ks5), hx)]) = bare L ++ [(nm, (.mk k5 m5 u5 g5 o5 at5 d5 ks5))] := by simp [bare]
                    show KR _ _ _ _ _ _ _ _ _ _
                    rw [eb]
                    exact q
                  have hl4 := HNP6.out.len
                  have hn4 := HNP6.out.le
                  have HF4 : Hid (f4 = true → l4 = []) := HNP6.out.nil
                  clear HK5 HK5d HK6 c5 c6 c7 d5' d6' y5 y6 HNP6 HN6 HSZ HKR HTX HN3
                  go_wp2
                  go_roundw
                  case rel => exact ⟨j3, _, _, l4, n4, f4, by omega, by go_num, by omega, by (have := HLJ.out; show _ ≤ _; simp; omega), HF4.out, hn4, HKR2.out, HK7.out⟩
                  case measure => (simp [intOf]; try omega)
              · have ej : ((j3 + 1 : Nat) : Int) = (j3 : Int) + 1 := by omega
                obtain ⟨x0, x1, x2, x3, x4, x5, x6, x7⟩ := eightX HKI.out.x
                obtain ⟨b0, b1, b2, b3, b4, b5, b6, b7⟩ := eightX HKI.out.b
                have f0 := HKI.out.x.2 0
                have f1 := HKI.out.x.2 1
                have f2 := HKI.out.x.2 2
                have f3 := HKI.out.x.2 3
                have f4 := HKI.out.x.2 4
                have f5 := HKI.out.x.2 5
                have f6 := HKI.out.x.2 6
                have f7 := HKI.out.x.2 7
                go_wp2
                have HXF : Hid (BX ((((((((wr.setCell ⟨W.heap.size, 0, none⟩ (.int .i64 kk)).setCell ⟨W.heap.size, 1, none⟩ (.int .i64 zm)).setCell ⟨W.heap.size, 2, none⟩ (.int .i64 zu)).setCell ⟨W.heap.size, 3, none⟩ (.int .i64 zg)).setCell ⟨W.heap.size, 4, none⟩ (.bool oo)).setCell ⟨W.heap.size, 5, none⟩ (.slice aa A.length cap5)).setCell ⟨W.heap.size, 6, none⟩ (.string sd)).setCell ⟨W.heap.size, 7, none⟩ (.slice ak L.length cap6)) W.heap.size [.int .i64 kk, .int .i64 zm, .int .i64 zu, .int .i64 zg, .bool oo, .slice aa A.length cap5, .string sd, .slice ak L.length cap6]) := (((((((HKI.out.x.set 0 (by simp) _).set 1 (by simp) _).set 2 (by simp) _).set 3 (by simp) _).set 4 (by simp) _).set 5 (by simp) _).set 6 (by simp) _).set 7 (by simp) _
                have HBF : Hid (But W.heap.size wr ((((((((wr.setCell ⟨W.heap.size, 0, none⟩ (.int .i64 kk)).setCell ⟨W.heap.size, 1, none⟩ (.int .i64 zm)).setCell ⟨W.heap.size, 2, none⟩ (.int .i64 zu)).setCell ⟨W.heap.size, 3, none⟩ (.int .i64 zg)).setCell ⟨W.heap.size, 4, none⟩ (.bool oo)).setCell ⟨W.heap.size, 5, none⟩ (.slice aa A.length cap5)).setCell ⟨W.heap.size, 6, none⟩ (.string sd)).setCell ⟨W.heap.size, 7, none⟩ (.slice ak L.length cap6))) := ((((((((But.refl _ _).setCell _ _ _).setCell _ _ _).setCell _ _ _).setCell _ _ _).setCell _ _ _).setCell _ _ _).setCell _ _ _).setCell _ _ _
                generalize ((((((((wr.setCell ⟨W.heap.size, 0, none⟩ (.int .i64 kk)).setCell ⟨W.heap.size, 1, none⟩ (.int .i64 zm)).setCell ⟨W.heap.size, 2, none⟩ (.int .i64 zu)).setCell ⟨W.heap.size, 3, none⟩ (.int .i64 zg)).setCell ⟨W.heap.size, 4, none⟩ (.bool oo)).setCell ⟨W.heap.size, 5, none⟩ (.slice aa A.length cap5)).setCell ⟨W.heap.size, 6, none⟩ (.string sd)).setCell ⟨W.heap.size, 7, none⟩ (.slice ak L.length cap6)) = wF at HXF HBF ⊢
                have HRF : Hid (RB wF rb lk nk true) := HKI.out.r.but HBF.out (by omega)
                have HNP := NP.of HS.out HHD.out HKR.out (.inr rfl) (fun _ => HFK.out (by first | rfl | trivial)) hnk (by omega) HKO.out
                have HNF := HKI.out.fin HBF.out
                obtain ⟨r0, r1, r2, r3, r4, r5, r6, r7⟩ := eightX HXF.out
                refine bodyPost_ret (v := ndV (.mk kk zm zu zg oo A sd (bare L)) ⟨aa, cap5, ak, cap6⟩) (by simp [results, Try.results64, go_sem, ndV, bare_len, r0, r1, r2, r3, r4, r5, r6, r7]) rfl ?_
                first | exact ⟨_, _, lk, nk, true, rfl, HRF.out, but_two HKI.out.but HBF.out, HNF, HNP⟩ | exact ⟨_, _, rfl, lk, nk, .inr ⟨HRF.out, but_two HKI.out.but HBF.out, HNF, HNP⟩⟩
end Go.Proofs.Ytkkhfnkmfkdhiab
