/-
  THE DOCUMENT's READER: node: the walk.
-/
import Derived.Test.YtkkhfnkmfkdhiabSa
import Derived.Deep.RegionHeld3
import Derived.Deep.Cut
namespace Go.Proofs.Ytkkhfnkmfkdhiab
open Go.RowKit

structure AS (W wr : World) (rb nb : Nat) (n1 : List UInt8) (k m u g : Int) (o : Bool) (d : ByteArray) (A : List Kv) (va : Value) (lc : List UInt8) (fc : Bool) : Prop where
  r : SBL wr rb n1 lc fc
  x : BX wr W.heap.size [.int .i64 0, .int .i64 0, .int .i64 0, .int .i64 0, .bool false, .slice none 0 0, .string ⟨#[]⟩, .slice none 0 0]
  b : BX wr nb [.int .i64 k, .int .i64 m, .int .i64 u, .int .i64 g, .bool o, va, .string d, .slice none 0 0]
  row : wr.ownsRow (nb + 1) 146 2 va A.length (flat A)
  but : But rb W wr
  lt : W.heap.size < nb
  rl : rb < W.heap.size
theorem AS.but' {W wr w' : World} {rb nb : Nat} {n1 : List UInt8} {k m u g : Int} {o : Bool} {d : ByteArray} {A : List Kv} {va : Value} {lc : List UInt8} {fc : Bool} {l' : List UInt8} {f' : Bool} (h : AS W wr rb nb n1 k m u g o d A va lc fc) (hb : But rb wr w') (hr : SBL w' rb n1 l' f') : AS W w' rb nb n1 k m u g o d A va l' f' := by
  have h1 := h.lt
  have h2 := h.rl
  exact ⟨hr, h.x.but hb (by omega), h.b.but hb (by omega), row_but h.row hb (by omega), h.but.trans hb, h1, h2⟩
theorem AS.app {W wr w' : World} {rb nb : Nat} {n1 : List UInt8} {k m u g : Int} {o : Bool} {d : ByteArray} {A : List Kv} {va v' : Value} {lc : List UInt8} {fc : Bool} (h : AS W wr rb nb n1 k m u g o d A va lc fc) (ob : Obj) (hg : (wr.alloc ob).grownBy w' va.ownBlock) (r : Kv) (hrow : w'.ownsRow (nb + 1) 146 2 v' (A.length + 1) (flat A ++ flat [r])) : AS W (w'.setCell ⟨nb, 5, none⟩ v') rb nb n1 k m u g o d (A ++ [r]) v' lc fc := by
  have h1 := h.lt
  have h2 := h.rl
  have ha : Below wr.heap.size wr (wr.alloc ob) := (Below.refl _ _).alloc (Nat.le_refl _) _
  have hn : ∀ c, c ≤ nb → some c ≠ va.ownBlock := fun c hc e => by have := (h.row.lt c e.symm).1; omega
  refine ⟨((h.r.below ha).grown hg (hn _ (by omega))).other (by omega) _, ((h.x.below ha).grown hg (hn _ (by omega))).other (by omega) _, ((h.b.below ha).grown hg (hn _ (Nat.le_refl _))).set 5 (by simp) v', ?_, ?_, h1, h2⟩
  · rw [List.length_append, flat_append]
    exact ownsRow_setCell_below hrow (by show nb < nb + 1; omega) _
  · refine ⟨?_, ?_, ?_, ?_, fun k hk hkr => ?_⟩
    · exact hg.os.trans (ha.os.trans h.but.os)
    · exact hg.tape.trans (ha.tape.trans h.but.tape)
    · exact hg.output.trans (ha.output.trans h.but.output)
    · have q1 := h.but.size
      have q2 := ha.size
      have q3 := hg.size
      simp [World.setCell]
      omega
    · have q1 := h.but.size
      have q2 := ha.size
      rw [Below.heap_setCell _ _ _ _ (by show k ≠ nb; omega), hg.block k (by omega) (hn k (by omega)), ha.block k (by omega)]
      exact h.but.block k hk hkr
structure KY (W wr : World) (rb nb : Nat) (k m u g : Int) (o : Bool) (A : List Kv) (va : Value) (d : ByteArray) (L : Khs) (vk : Value) (lk : List UInt8) (nk : List UInt8) (fk : Bool) : Prop where
  r : SBL wr rb nk lk fk
  x : BX wr W.heap.size [.int .i64 0, .int .i64 0, .int .i64 0, .int .i64 0, .bool false, .slice none 0 0, .string ⟨#[]⟩, .slice none 0 0]
  b : BX wr nb [.int .i64 k, .int .i64 m, .int .i64 u, .int .i64 g, .bool o, va, .string d, vk]
  rowA : wr.ownsRow (nb + 1) 146 2 va A.length (flat A)
  row : wr.ownsRow (nb + 1) 102 9 vk L.length (kfl L)
  ap : vk.ownBlock = none ∨ vk.ownBlock ≠ va.ownBlock
  nds : ∀ e ∈ L, NdV (offS wr.cell? (KS W.heap.size nb vk)) e.2.1 e.2.2
  but : But rb W wr
  lt : W.heap.size < nb
  rl : rb < W.heap.size
theorem AS.kids {W wr : World} {rb nb : Nat} {n1 : List UInt8} {k m u g : Int} {o : Bool} {A : List Kv} {va : Value} {lc : List UInt8} {fc : Bool} (h : AS W wr rb nb n1 k m u g o ⟨#[]⟩ A va lc fc) (d : ByteArray) : KY W (wr.setCell ⟨nb, 6, none⟩ (.string d)) rb nb k m u g o A va d [] (.slice none 0 0) lc n1 fc := by
  have h1 := h.lt
  have h2 := h.rl
  exact ⟨h.r.other (by omega) _, h.x.other (by omega) _, h.b.set 6 (by simp) _, ownsRow_setCell_below h.row (by show nb < nb + 1; omega) _, World.ownsRow_nil _ _ _ _, .inl rfl, fun e he => (by cases he), but_new h.but h1 _ _, h1, h2⟩
theorem KY.but' {W wr w' : World} {rb nb : Nat} {k m u g : Int} {o : Bool} {A : List Kv} {va : Value} {d : ByteArray} {L : Khs} {vk : Value} {lk : List UInt8} {nk : List UInt8} {fk : Bool} {l' : List UInt8} {n' : List UInt8} {f' : Bool} (h : KY W wr rb nb k m u g o A va d L vk lk nk fk) (hb : But rb wr w') (hr : SBL w' rb n' l' f') : KY W w' rb nb k m u g o A va d L vk l' n' f' := by
  have h1 := h.lt
  have h2 := h.rl
  refine ⟨hr, h.x.but hb (by omega), h.b.but hb (by omega), row_but h.rowA hb (by omega), row_but h.row hb (by omega), h.ap, fun e he => (h.nds e he).on (mle_step fun q hq hs => ?_), h.but.trans hb, h1, h2⟩
  have hs2 := KS_false.1 hs
  exact ⟨hs, hb.block q hq (by omega)⟩
theorem KY.app {W w6 w7 : World} {rb nb B5 : Nat} {k m u g : Int} {o : Bool} {A : List Kv} {va : Value} {d : ByteArray} {L : Khs} {vk v' : Value} {lk : List UInt8} {nk : List UInt8} {fk : Bool} (h : KY W w6 rb nb k m u g o A va d L vk lk nk fk) (ob : Obj) (hg : (w6.alloc ob).grownBy w7 vk.ownBlock) (e : ByteArray × Nd × Hd) (hN : NdV (newM B5 w6) e.2.1 e.2.2) (_hB : W.heap.size < B5) (hnb : nb < B5) (hvk : ∀ s, vk.ownBlock = some s → s < B5) (hrow : w7.ownsRow (nb + 1) 102 9 v' (L.length + 1) (kfl L ++ kfl [e])) (ho : v'.ownBlock = vk.ownBlock ∨ v'.ownBlock = some (w6.heap.size + 1)) :
    KY W (w7.setCell ⟨nb, 7, none⟩ v') rb nb k m u g o A va d (L ++ [e]) v' lk nk fk := by
  have h1 := h.lt
  have h2 := h.rl
  have ha : Below w6.heap.size w6 (w6.alloc ob) := (Below.refl _ _).alloc (Nat.le_refl _) _
  have hn : ∀ c, c ≤ nb → some c ≠ vk.ownBlock := fun c hc e => by have := (h.row.lt c e.symm).1; omega
  have hheap : ∀ q, q < w6.heap.size → q ≠ nb → some q ≠ vk.ownBlock → (w7.setCell ⟨nb, 7, none⟩ v').heap[q]? = w6.heap[q]? := fun q hq hqn hqv => by
    rw [Below.heap_setCell _ _ _ _ (by show q ≠ nb; omega), hg.block q (by rw [World.size_alloc]; omega) hqv, ha.block q hq]
  have hv' : ∀ q, q < w6.heap.size → some q ≠ vk.ownBlock → some q ≠ v'.ownBlock := fun q hq hqv e => by
    rcases ho with e2 | e2
    · rw [e2] at e; exact hqv e
    · rw [e2] at e
      have : q = w6.heap.size + 1 := by simpa using e
      omega
  refine ⟨((h.r.below ha).grown hg (hn _ (by omega))).other (by omega) _, ((h.x.below ha).grown hg (hn _ (by omega))).other (by omega) _, ((h.b.below ha).grown hg (hn _ (Nat.le_refl _))).set 7 (by simp) v', ?_, ?_, ?_, ?_, ?_, h1, h2⟩
  · exact ownsRow_setCell_below ((h.rowA.alloc ob).kept hg (neA_flip h.ap)) (by show nb < nb + 1; omega) _
  · rw [List.length_append, kfl_append]
    exact ownsRow_setCell_below hrow (by show nb < nb + 1; omega) _
  · rcases ho with e2 | e2
    · rw [e2]; exact h.ap
    · refine .inr ?_
      rw [e2]
      intro q
      have := (h.rowA.lt _ q.symm).2
      omega
  · intro c hc
    rcases List.mem_append.1 hc with hc | hc
    · refine (h.nds c hc).on (mle_step fun q hq hs => ?_)
      have hs2 := KS_false.1 hs
      exact ⟨KS_false.2 ⟨hs2.1, hs2.2.1, hv' q hq hs2.2.2⟩, hheap q hq hs2.2.1 hs2.2.2⟩
    · simp at hc
      subst hc
      refine hN.on (mle_step fun q hq hs => ?_)
      have hs2 : B5 ≤ q := by have := of_decide_eq_false hs; omega
      have hqv : some q ≠ vk.ownBlock := fun e => by have := hvk q e.symm; omega
      exact ⟨KS_false.2 ⟨by omega, by omega, hv' q hq hqv⟩, hheap q hq (by omega) hqv⟩
  · refine ⟨?_, ?_, ?_, ?_, fun q hq hqr => ?_⟩
    · exact hg.os.trans (ha.os.trans h.but.os)
    · exact hg.tape.trans (ha.tape.trans h.but.tape)
    · exact hg.output.trans (ha.output.trans h.but.output)
    · have q1 := h.but.size
      have q2 := ha.size
      have q3 := hg.size
      have q4 : (w7.setCell ⟨nb, 7, none⟩ v').heap.size = w7.heap.size := by simp [World.setCell]
      rw [q4]
      omega
    · have q1 := h.but.size
      rw [hheap q (by omega) (by omega) (hn q (by omega))]
      exact h.but.block q hq hqr
theorem KY.fin {W wr w' : World} {rb nb : Nat} {k m u g : Int} {o : Bool} {A : List Kv} {aa ak : Option Addr} {c1 c2 : Nat} {d : ByteArray} {L : Khs} {lk : List UInt8} {nk : List UInt8} {fk : Bool} (h : KY W wr rb nb k m u g o A (.slice aa A.length c1) d L (.slice ak L.length c2) lk nk fk) (hb : But W.heap.size wr w') : NdV (newM W.heap.size w') (.mk k m u g o A d (bare L)) ⟨aa, c1, ak, c2⟩ := by
  have h1 := h.lt
  have hS : ∀ q, (decide (q < W.heap.size)) = true → q < nb + 1 := fun q e => by have := of_decide_eq_true e; omega
  obtain ⟨a1, b1, e1, p1, p2, p3⟩ := kvm_of_ownsS (S := fun q => decide (q < W.heap.size)) hS (row_but h.rowA hb (by omega))
  obtain ⟨a2, b2, e2, q1, q2, q3, _⟩ := ksH_of_ownsS (S := fun q => decide (q < W.heap.size)) hS (row_but h.row hb (by omega)) (fun e he => (h.nds e he).on (mle_step fun q hq hs => by
    have hs2 := KS_false.1 hs
    exact ⟨decide_eq_false (by omega), hb.block q hq (by omega)⟩))
  simp only [Value.slice.injEq, true_and] at e1 e2
  obtain ⟨rfl, rfl⟩ := e1
  obtain ⟨rfl, rfl⟩ := e2
  refine ndV_iff.2 ⟨p3, ⟨p1, p2⟩, ⟨?_, q2⟩, ksH_ksV q3⟩
  rw [bare_len]; exact q1
theorem SBL.short {w : World} {sb : Nat} {S l : List UInt8} {f : Bool} (h : SBL w sb S l f) : SBL (w.setCell ⟨sb, 2, none⟩ (.bool true)) sb S [] true := by
  obtain ⟨q, h1, h2, _, _⟩ := h
  exact ⟨q, h1.set 2 (by simp) (.bool true), h2, fun e => (by cases e), fun _ => rfl⟩
theorem HdS.pos {la : List UInt8} {fa : Bool} {kb zm zu zg : Nat} {A : List Kv} {sd : ByteArray} {ck : Nat} {lq : List UInt8} {fq : Bool} (h : HdS la fa kb zm zu zg A sd ck lq fq) (e : fq = false) : fa = false ∧ 1 ≤ la.length := by
  obtain ⟨lb, fb, lm, fm, lu, fu_, lg, fg, ca, lc, fc, lt, ft, ld, fd, j, ⟨a1, a2⟩, ⟨b1, b2⟩, ⟨c1, c2⟩, ⟨d1, d2⟩, ⟨e1, e2⟩, ⟨f1, f2⟩, ⟨g1, g2⟩, ⟨h1, h2⟩⟩ := h.out
  have nf : ∀ {k : Nat} {l : List UInt8} {f : Bool} {l' : List UInt8} {f' : Bool}, (tkR k l f).2 = (l', f') → f' = false → f = false ∧ k ≤ l.length := fun {k l f l' f'} e h => by
    have q := tk_pos (n := k) (l := l) (f := f)
    rw [e] at q
    exact ⟨(q h).2.1, (q h).1⟩
  have e8 := (nf h2 e).1
  have q7 := tx_pos (l := lt) (f := ft)
  rw [g2] at q7
  have e6 := (f1.ok (q7 e8).1).1
  exact nf a2 (nf b2 (nf c2 (nf d2 (nf e2 e6).1).1).1).1
theorem SBL.cells {w : World} {sb : Nat} {S l : List UInt8} {f : Bool} (h : SBL w sb S l f) : w.cell? ⟨sb, 2, none⟩ = some (.bool f) ∧ w.frozen? ⟨sb, 2, none⟩ = false := by
  obtain ⟨q, h1, _⟩ := h
  exact ⟨h1.1 2 _ rfl, h1.2 2⟩

set_option maxRecDepth 100000 in
set_option maxHeartbeats 4000000 in
theorem snode_any (rb : Nat) (S : List UInt8) (hS : S.length ≤ 100000) : ∀ (md : Nat) (W : World) (l : List UInt8) (f : Bool) (deep : Nat), mes l f < md → SBL W rb S l f → deep ≤ 7 → ∀ fu, l.length < fu →
    Calls Try.prog 66 #[.pointer (some ⟨rb, 0, none⟩), .int .i64 deep] W fun e w' => ∃ x h l' f', e = .returned (ndV x h) ∧ SBL w' rb S l' f' ∧ But rb W w' ∧ NdV (newM W.heap.size w') x h ∧ NQ fu l f deep x l' f' := by
  obtain ⟨i1, hj0, hj1, hj2, hj3⟩ := info_three Try.infoA
  have HJ0 : Hid _ := hj0
  have HJ1 : Hid _ := hj1
  have HJ2 : Hid _ := hj2
  have HJ3 : Hid _ := hj3
  clear hj0 hj1 hj2 hj3
  obtain ⟨i2, hg0, hg1, hg2, hg3⟩ := info_three Try.infoK
  have HG0 : Hid _ := hg0
  have HG1 : Hid _ := hg1
  have HG2 : Hid _ := hg2
  have HG3 : Hid _ := hg3
  clear hg0 hg1 hg2 hg3
  intro md
  induction md with
  | zero => intro W l f deep h; omega
  | succ md ih =>
    intro W l f deep hmes hR hdp fu hfu
    have HIH : Hid _ := ih
    have HR : Hid (SBL W rb S l f) := hR
    clear ih hR
    have hrb := HR.out.lt
    have hlS := HR.out.len
    have hal : Below W.heap.size W ((W.alloc (.cells #[.int .i64 0, .int .i64 0, .int .i64 0, .int .i64 0, .bool false, .slice none 0 0, .string ⟨#[]⟩, .slice none 0 0] 25)).alloc (.cells #[.int .i64 0, .int .i64 0, .int .i64 0, .int .i64 0, .bool false, .slice none 0 0, .string ⟨#[]⟩, .slice none 0 0] 25)) := ((Below.refl _ _).alloc (Nat.le_refl _) _).alloc (by rw [World.size_alloc]; omega) _
    have HR2 : Hid (SBL ((W.alloc (.cells #[.int .i64 0, .int .i64 0, .int .i64 0, .int .i64 0, .bool false, .slice none 0 0, .string ⟨#[]⟩, .slice none 0 0] 25)).alloc (.cells #[.int .i64 0, .int .i64 0, .int .i64 0, .int .i64 0, .bool false, .slice none 0 0, .string ⟨#[]⟩, .slice none 0 0] 25)) rb S l f) := HR.out.below hal
    have HX2 : Hid (BX ((W.alloc (.cells #[.int .i64 0, .int .i64 0, .int .i64 0, .int .i64 0, .bool false, .slice none 0 0, .string ⟨#[]⟩, .slice none 0 0] 25)).alloc (.cells #[.int .i64 0, .int .i64 0, .int .i64 0, .int .i64 0, .bool false, .slice none 0 0, .string ⟨#[]⟩, .slice none 0 0] 25)) W.heap.size [.int .i64 0, .int .i64 0, .int .i64 0, .int .i64 0, .bool false, .slice none 0 0, .string ⟨#[]⟩, .slice none 0 0]) := (BX.new W _ _).below ((Below.refl _ _).alloc (Nat.le_refl _) _)
    have hnx := BX.new (W.alloc (.cells #[.int .i64 0, .int .i64 0, .int .i64 0, .int .i64 0, .bool false, .slice none 0 0, .string ⟨#[]⟩, .slice none 0 0] 25)) [.int .i64 0, .int .i64 0, .int .i64 0, .int .i64 0, .bool false, .slice none 0 0, .string ⟨#[]⟩, .slice none 0 0] 25
    rw [World.size_alloc] at hnx
    have HN2 : Hid (BX ((W.alloc (.cells #[.int .i64 0, .int .i64 0, .int .i64 0, .int .i64 0, .bool false, .slice none 0 0, .string ⟨#[]⟩, .slice none 0 0] 25)).alloc (.cells #[.int .i64 0, .int .i64 0, .int .i64 0, .int .i64 0, .bool false, .slice none 0 0, .string ⟨#[]⟩, .slice none 0 0] 25)) (W.heap.size + 1) [.int .i64 0, .int .i64 0, .int .i64 0, .int .i64 0, .bool false, .slice none 0 0, .string ⟨#[]⟩, .slice none 0 0]) := hnx
    have HB2 : Hid (But rb W ((W.alloc (.cells #[.int .i64 0, .int .i64 0, .int .i64 0, .int .i64 0, .bool false, .slice none 0 0, .string ⟨#[]⟩, .slice none 0 0] 25)).alloc (.cells #[.int .i64 0, .int .i64 0, .int .i64 0, .int .i64 0, .bool false, .slice none 0 0, .string ⟨#[]⟩, .slice none 0 0] 25))) := But.of_below hal
    clear hnx hal
    go_enter Try.func66, Try.ntmps66
    by_cases hdeep : 6 < deep
    · have b1 : decide ((6 : Int) < (deep : Int)) = true := decide_eq_true (by omega)
      obtain ⟨s0, s1⟩ := HR2.out.cells
      go_upto_region 4 with fail
      have esz : (W.setCell ⟨rb, 2, none⟩ (.bool true)).heap.size = W.heap.size := by simp [World.setCell]
      have hal3 : Below (W.setCell ⟨rb, 2, none⟩ (.bool true)).heap.size (W.setCell ⟨rb, 2, none⟩ (.bool true)) (((W.setCell ⟨rb, 2, none⟩ (.bool true)).alloc (.cells #[.int .i64 0, .int .i64 0, .int .i64 0, .int .i64 0, .bool false, .slice none 0 0, .string ⟨#[]⟩, .slice none 0 0] 25)).alloc (.cells #[.int .i64 0, .int .i64 0, .int .i64 0, .int .i64 0, .bool false, .slice none 0 0, .string ⟨#[]⟩, .slice none 0 0] 25)) := ((Below.refl _ _).alloc (Nat.le_refl _) _).alloc (by rw [World.size_alloc]; omega) _
      have HR3 : Hid (SBL (((W.setCell ⟨rb, 2, none⟩ (.bool true)).alloc (.cells #[.int .i64 0, .int .i64 0, .int .i64 0, .int .i64 0, .bool false, .slice none 0 0, .string ⟨#[]⟩, .slice none 0 0] 25)).alloc (.cells #[.int .i64 0, .int .i64 0, .int .i64 0, .int .i64 0, .bool false, .slice none 0 0, .string ⟨#[]⟩, .slice none 0 0] 25)) rb S [] true) := HR.out.short.below hal3
      have hx3 := (BX.new (W.setCell ⟨rb, 2, none⟩ (.bool true)) [.int .i64 0, .int .i64 0, .int .i64 0, .int .i64 0, .bool false, .slice none 0 0, .string ⟨#[]⟩, .slice none 0 0] 25).below ((Below.refl _ _).alloc (Nat.le_refl _) (.cells #[.int .i64 0, .int .i64 0, .int .i64 0, .int .i64 0, .bool false, .slice none 0 0, .string ⟨#[]⟩, .slice none 0 0] 25))
      have hn3 := BX.new ((W.setCell ⟨rb, 2, none⟩ (.bool true)).alloc (.cells #[.int .i64 0, .int .i64 0, .int .i64 0, .int .i64 0, .bool false, .slice none 0 0, .string ⟨#[]⟩, .slice none 0 0] 25)) [.int .i64 0, .int .i64 0, .int .i64 0, .int .i64 0, .bool false, .slice none 0 0, .string ⟨#[]⟩, .slice none 0 0] 25
      rw [World.size_alloc, esz] at hn3
      rw [esz] at hx3
      have HX3 : Hid (BX (((W.setCell ⟨rb, 2, none⟩ (.bool true)).alloc (.cells #[.int .i64 0, .int .i64 0, .int .i64 0, .int .i64 0, .bool false, .slice none 0 0, .string ⟨#[]⟩, .slice none 0 0] 25)).alloc (.cells #[.int .i64 0, .int .i64 0, .int .i64 0, .int .i64 0, .bool false, .slice none 0 0, .string ⟨#[]⟩, .slice none 0 0] 25)) W.heap.size [.int .i64 0, .int .i64 0, .int .i64 0, .int .i64 0, .bool false, .slice none 0 0, .string ⟨#[]⟩, .slice none 0 0]) := hx3
      have HN3 : Hid (BX (((W.setCell ⟨rb, 2, none⟩ (.bool true)).alloc (.cells #[.int .i64 0, .int .i64 0, .int .i64 0, .int .i64 0, .bool false, .slice none 0 0, .string ⟨#[]⟩, .slice none 0 0] 25)).alloc (.cells #[.int .i64 0, .int .i64 0, .int .i64 0, .int .i64 0, .bool false, .slice none 0 0, .string ⟨#[]⟩, .slice none 0 0] 25)) (W.heap.size + 1) [.int .i64 0, .int .i64 0, .int .i64 0, .int .i64 0, .bool false, .slice none 0 0, .string ⟨#[]⟩, .slice none 0 0]) := hn3
      have HB3 : Hid (But rb W (((W.setCell ⟨rb, 2, none⟩ (.bool true)).alloc (.cells #[.int .i64 0, .int .i64 0, .int .i64 0, .int .i64 0, .bool false, .slice none 0 0, .string ⟨#[]⟩, .slice none 0 0] 25)).alloc (.cells #[.int .i64 0, .int .i64 0, .int .i64 0, .int .i64 0, .bool false, .slice none 0 0, .string ⟨#[]⟩, .slice none 0 0] 25))) := ((But.refl rb W).setCell 2 none (.bool true)).then hal3
      clear hx3 hn3 hal3 esz HR2 HX2 HN2 HB2 HR s0 s1
      generalize (((W.setCell ⟨rb, 2, none⟩ (.bool true)).alloc (.cells #[.int .i64 0, .int .i64 0, .int .i64 0, .int .i64 0, .bool false, .slice none 0 0, .string ⟨#[]⟩, .slice none 0 0] 25)).alloc (.cells #[.int .i64 0, .int .i64 0, .int .i64 0, .int .i64 0, .bool false, .slice none 0 0, .string ⟨#[]⟩, .slice none 0 0] 25)) = w3 at HR3 HX3 HN3 HB3 ⊢
      obtain ⟨x0, x1, x2, x3, x4, x5, x6, x7⟩ := eightX HX3.out
      obtain ⟨b0, b1, b2, b3, b4, b5, b6, b7⟩ := eightX HN3.out
      have f0 := HX3.out.2 0
      have f1 := HX3.out.2 1
      have f2 := HX3.out.2 2
      have f3 := HX3.out.2 3
      have f4 := HX3.out.2 4
      have f5 := HX3.out.2 5
      have f6 := HX3.out.2 6
      have f7 := HX3.out.2 7
      go_wp2
      have HXF : Hid (BX ((((((((w3.setCell ⟨W.heap.size, 0, none⟩ (.int .i64 0)).setCell ⟨W.heap.size, 1, none⟩ (.int .i64 0)).setCell ⟨W.heap.size, 2, none⟩ (.int .i64 0)).setCell ⟨W.heap.size, 3, none⟩ (.int .i64 0)).setCell ⟨W.heap.size, 4, none⟩ (.bool false)).setCell ⟨W.heap.size, 5, none⟩ (.slice none 0 0)).setCell ⟨W.heap.size, 6, none⟩ (.string ⟨#[]⟩)).setCell ⟨W.heap.size, 7, none⟩ (.slice none 0 0)) W.heap.size [.int .i64 0, .int .i64 0, .int .i64 0, .int .i64 0, .bool false, .slice none 0 0, .string ⟨#[]⟩, .slice none 0 0]) := (((((((HX3.out.set 0 (by simp) _).set 1 (by simp) _).set 2 (by simp) _).set 3 (by simp) _).set 4 (by simp) _).set 5 (by simp) _).set 6 (by simp) _).set 7 (by simp) _
      have HBF : Hid (But W.heap.size w3 ((((((((w3.setCell ⟨W.heap.size, 0, none⟩ (.int .i64 0)).setCell ⟨W.heap.size, 1, none⟩ (.int .i64 0)).setCell ⟨W.heap.size, 2, none⟩ (.int .i64 0)).setCell ⟨W.heap.size, 3, none⟩ (.int .i64 0)).setCell ⟨W.heap.size, 4, none⟩ (.bool false)).setCell ⟨W.heap.size, 5, none⟩ (.slice none 0 0)).setCell ⟨W.heap.size, 6, none⟩ (.string ⟨#[]⟩)).setCell ⟨W.heap.size, 7, none⟩ (.slice none 0 0))) := ((((((((But.refl _ _).setCell _ _ _).setCell _ _ _).setCell _ _ _).setCell _ _ _).setCell _ _ _).setCell _ _ _).setCell _ _ _).setCell _ _ _
      generalize ((((((((w3.setCell ⟨W.heap.size, 0, none⟩ (.int .i64 0)).setCell ⟨W.heap.size, 1, none⟩ (.int .i64 0)).setCell ⟨W.heap.size, 2, none⟩ (.int .i64 0)).setCell ⟨W.heap.size, 3, none⟩ (.int .i64 0)).setCell ⟨W.heap.size, 4, none⟩ (.bool false)).setCell ⟨W.heap.size, 5, none⟩ (.slice none 0 0)).setCell ⟨W.heap.size, 6, none⟩ (.string ⟨#[]⟩)).setCell ⟨W.heap.size, 7, none⟩ (.slice none 0 0)) = wF at HXF HBF ⊢
      have HRF : Hid (SBL wF rb S [] true) := HR3.out.but HBF.out (by omega)
      have HNQ : NQ fu l f deep zN [] true := ⟨Nat.zero_le _, fun e => (by cases e), fun _ _ y _ _ => by have := dep_pos y; omega⟩
      have HNF : NdV (newM W.heap.size wF) zN zH := ndV_iff.2 ⟨.inl rfl, ⟨Nat.le_refl _, by show (0 : Nat) ≤ _; omega⟩, ⟨Nat.le_refl _, by show (0 : Nat) ≤ _; omega⟩, .inl rfl⟩
      have HBW := but_two HB3.out HBF.out
      obtain ⟨r0, r1, r2, r3, r4, r5, r6, r7⟩ := eightX HXF.out
      refine bodyPost_ret (v := ndV zN zH) (by simp [results, Try.results66, go_sem, ndV, zN, zH, r0, r1, r2, r3, r4, r5, r6, r7]) rfl ?_
      first | exact ⟨_, _, [], true, rfl, HRF.out, HBW, HNF, HNQ⟩ | exact ⟨_, _, rfl, [], .inr ⟨HRF.out, HBW, HNF, HNQ⟩⟩
    have b1 : decide ((6 : Int) < (deep : Int)) = false := decide_eq_false (by omega)
    go_upto_region 5 with fail
    clear HR
    have hnb : W.heap.size < W.heap.size + 1 := by omega
    generalize ((W.alloc (.cells #[.int .i64 0, .int .i64 0, .int .i64 0, .int .i64 0, .bool false, .slice none 0 0, .string ⟨#[]⟩, .slice none 0 0] 25)).alloc (.cells #[.int .i64 0, .int .i64 0, .int .i64 0, .int .i64 0, .bool false, .slice none 0 0, .string ⟨#[]⟩, .slice none 0 0] 25)) = wB at HR2 HX2 HN2 HB2 ⊢
    generalize W.heap.size + 1 = nb at HN2 hnb ⊢
    obtain ⟨kb, hkb⟩ : ∃ z, nuV (tkR 1 l f).1 = z := ⟨_, rfl⟩
    obtain ⟨⟨lb, fb⟩, hlb⟩ : ∃ p, (tkR 1 l f).2 = p := ⟨_, rfl⟩
    have hlbl := (tkR_len 1 l f).2
    have hkbb : kb ≤ 255 := by rw [← hkb]; exact nuV_one (tkR_len 1 l f).1
    rw [hlb] at hlbl
    dsimp only at hlbl
    have HC : Hid (Calls Try.prog 101 #[.pointer (some ⟨rb, 0, none⟩), .int .i64 1] wB fun e w' => e = .returned (.int .i64 kb) ∧ But rb wB w' ∧ SBL w' rb S lb fb) := by
      have q := snumber_any HR2.out 1 (by omega) hS
      rw [hkb, hlb] at q
      exact q
    have Hkb : Hid (nuV (tkR 1 l f).1 = kb ∧ (tkR 1 l f).2 = (lb, fb)) := ⟨hkb, hlb⟩
    clear hkb hlb
    go_wp2_with fail
    refine Calls.mono HC.out ?_
    rintro e wC ⟨rfl, hb, hr⟩
    have HXC : Hid (BX wC W.heap.size [.int .i64 0, .int .i64 0, .int .i64 0, .int .i64 0, .bool false, .slice none 0 0, .string ⟨#[]⟩, .slice none 0 0]) := HX2.out.but hb (by omega)
    have HNC : Hid (BX wC nb [.int .i64 0, .int .i64 0, .int .i64 0, .int .i64 0, .bool false, .slice none 0 0, .string ⟨#[]⟩, .slice none 0 0]) := HN2.out.but hb (by omega)
    have HBC : Hid (But rb W wC) := HB2.out.trans hb
    have HRC : Hid (SBL wC rb S lb fb) := hr
    clear HC HR2 HX2 HN2 HB2 hb hr
    have p0 := HNC.out.1 0 _ rfl
    have p1 := HNC.out.2 0
    go_upto_region 6 with fail
    have HRD : Hid (SBL (wC.setCell ⟨nb, 0, none⟩ (.int .i64 kb)) rb S lb fb) := HRC.out.other (by omega) _
    have HXD : Hid (BX (wC.setCell ⟨nb, 0, none⟩ (.int .i64 kb)) W.heap.size [.int .i64 0, .int .i64 0, .int .i64 0, .int .i64 0, .bool false, .slice none 0 0, .string ⟨#[]⟩, .slice none 0 0]) := HXC.out.other (by omega) _
    have HND : Hid (BX (wC.setCell ⟨nb, 0, none⟩ (.int .i64 kb)) nb [.int .i64 kb, .int .i64 0, .int .i64 0, .int .i64 0, .bool false, .slice none 0 0, .string ⟨#[]⟩, .slice none 0 0]) := HNC.out.set 0 (by simp) _
    have HBD : Hid (But rb W (wC.setCell ⟨nb, 0, none⟩ (.int .i64 kb))) := but_new HBC.out hnb _ _
    clear p0 p1 HRC HXC HNC HBC
    generalize wC.setCell ⟨nb, 0, none⟩ (.int .i64 kb) = wD at HRD HXD HND HBD ⊢
    have p0 := HND.out.1 0 _ rfl
    have p1 := HND.out.2 0
    have p4 := HND.out.1 4 _ rfl
    have p5 := HND.out.2 4
    by_cases hk8 : 8 ≤ kb
    · have bk : decide ((8 : Int) ≤ (kb : Int)) = true := decide_eq_true (by omega)
      go_upto_region 9 with fail
      obtain ⟨kk, hkk⟩ : ∃ z, (kb : Int) - 8 = z := ⟨_, rfl⟩
      obtain ⟨oo, hoo⟩ : ∃ z, true = z := ⟨_, rfl⟩
      have HKO : Hid ((dR kb).1 = kk ∧ (dR kb).2 = oo) := by
        show _ ∧ _
        unfold dR
        rw [if_pos hk8]
        exact ⟨hkk, hoo⟩
      have HRK : Hid (SBL ((wD.setCell ⟨nb, 4, none⟩ (.bool true)).setCell ⟨nb, 0, none⟩ (.int .i64 ((kb : Int) - 8))) rb S lb fb) := (HRD.out.other (by omega) _).other (by omega) _
      have HXK : Hid (BX ((wD.setCell ⟨nb, 4, none⟩ (.bool true)).setCell ⟨nb, 0, none⟩ (.int .i64 ((kb : Int) - 8))) W.heap.size [.int .i64 0, .int .i64 0, .int .i64 0, .int .i64 0, .bool false, .slice none 0 0, .string ⟨#[]⟩, .slice none 0 0]) := (HXD.out.other (by omega) _).other (by omega) _
      have hnk : BX ((wD.setCell ⟨nb, 4, none⟩ (.bool true)).setCell ⟨nb, 0, none⟩ (.int .i64 ((kb : Int) - 8))) nb [.int .i64 ((kb : Int) - 8), .int .i64 0, .int .i64 0, .int .i64 0, .bool true, .slice none 0 0, .string ⟨#[]⟩, .slice none 0 0] := (HND.out.set 4 (by simp) _).set 0 (by simp) _
      have HBK : Hid (But rb W ((wD.setCell ⟨nb, 4, none⟩ (.bool true)).setCell ⟨nb, 0, none⟩ (.int .i64 ((kb : Int) - 8)))) := but_new (but_new HBD.out hnb _ _) hnb _ _
      generalize (wD.setCell ⟨nb, 4, none⟩ (.bool true)).setCell ⟨nb, 0, none⟩ (.int .i64 ((kb : Int) - 8)) = wK at HRK HXK hnk HBK ⊢
      have HNK : Hid (BX wK nb [.int .i64 kk, .int .i64 0, .int .i64 0, .int .i64 0, .bool oo, .slice none 0 0, .string ⟨#[]⟩, .slice none 0 0]) := by rw [← hkk, ← hoo]; exact hnk
      clear HRD HXD HND HBD p0 p1 p4 p5 hnk hkk hoo bk hk8
      obtain ⟨zm, hzm⟩ : ∃ z, nuV (tkR 2 lb fb).1 = z := ⟨_, rfl⟩
      obtain ⟨⟨lm, fm⟩, hlm⟩ : ∃ p, (tkR 2 lb fb).2 = p := ⟨_, rfl⟩
      have hlml := (tkR_len 2 lb fb).2
      have hzmb : zm ≤ 65535 := by rw [← hzm]; exact nuV_two (tkR_len 2 lb fb).1
      rw [hlm] at hlml
      dsimp only at hlml
      have HC : Hid (Calls Try.prog 101 #[.pointer (some ⟨rb, 0, none⟩), .int .i64 2] wK fun e w' => e = .returned (.int .i64 zm) ∧ But rb wK w' ∧ SBL w' rb S lm fm) := by
        have q := snumber_any HRK.out 2 (by omega) hS
        rw [hzm, hlm] at q
        exact q
      have Hzm : Hid (nuV (tkR 2 lb fb).1 = zm ∧ (tkR 2 lb fb).2 = (lm, fm)) := ⟨hzm, hlm⟩
      clear hzm hlm
      go_wp2_with fail
      refine Calls.mono HC.out ?_
      rintro e wE ⟨rfl, hb, hr⟩
      have HXzm : Hid (BX wE W.heap.size [.int .i64 0, .int .i64 0, .int .i64 0, .int .i64 0, .bool false, .slice none 0 0, .string ⟨#[]⟩, .slice none 0 0]) := HXK.out.but hb (by omega)
      have HNzm : Hid (BX wE nb [.int .i64 kk, .int .i64 0, .int .i64 0, .int .i64 0, .bool oo, .slice none 0 0, .string ⟨#[]⟩, .slice none 0 0]) := HNK.out.but hb (by omega)
      have HBzm : Hid (But rb W wE) := HBK.out.trans hb
      have HRzm : Hid (SBL wE rb S lm fm) := hr
      clear HC HRK HXK HNK HBK hb hr
      have p0 := HNzm.out.1 1 _ rfl
      have p1 := HNzm.out.2 1
      go_upto_region 10 with fail
      have HRzms : Hid (SBL (wE.setCell ⟨nb, 1, none⟩ (.int .i64 zm)) rb S lm fm) := HRzm.out.other (by omega) _
      have HXzms : Hid (BX (wE.setCell ⟨nb, 1, none⟩ (.int .i64 zm)) W.heap.size [.int .i64 0, .int .i64 0, .int .i64 0, .int .i64 0, .bool false, .slice none 0 0, .string ⟨#[]⟩, .slice none 0 0]) := HXzm.out.other (by omega) _
      have HNzms : Hid (BX (wE.setCell ⟨nb, 1, none⟩ (.int .i64 zm)) nb [.int .i64 kk, .int .i64 zm, .int .i64 0, .int .i64 0, .bool oo, .slice none 0 0, .string ⟨#[]⟩, .slice none 0 0]) := HNzm.out.set 1 (by simp) _
      have HBzms : Hid (But rb W (wE.setCell ⟨nb, 1, none⟩ (.int .i64 zm))) := but_new HBzm.out hnb _ _
      clear p0 p1 HRzm HXzm HNzm HBzm
      generalize wE.setCell ⟨nb, 1, none⟩ (.int .i64 zm) = wEs at HRzms HXzms HNzms HBzms ⊢
      obtain ⟨zu, hzu⟩ : ∃ z, nuV (tkR 2 lm fm).1 = z := ⟨_, rfl⟩
      obtain ⟨⟨lu, fu_⟩, hlu⟩ : ∃ p, (tkR 2 lm fm).2 = p := ⟨_, rfl⟩
      have hlul := (tkR_len 2 lm fm).2
      have hzub : zu ≤ 65535 := by rw [← hzu]; exact nuV_two (tkR_len 2 lm fm).1
      rw [hlu] at hlul
      dsimp only at hlul
      have HC : Hid (Calls Try.prog 101 #[.pointer (some ⟨rb, 0, none⟩), .int .i64 2] wEs fun e w' => e = .returned (.int .i64 zu) ∧ But rb wEs w' ∧ SBL w' rb S lu fu_) := by
        have q := snumber_any HRzms.out 2 (by omega) hS
        rw [hzu, hlu] at q
        exact q
      have Hzu : Hid (nuV (tkR 2 lm fm).1 = zu ∧ (tkR 2 lm fm).2 = (lu, fu_)) := ⟨hzu, hlu⟩
      clear hzu hlu
      go_wp2_with fail
      refine Calls.mono HC.out ?_
      rintro e wG ⟨rfl, hb, hr⟩
      have HXzu : Hid (BX wG W.heap.size [.int .i64 0, .int .i64 0, .int .i64 0, .int .i64 0, .bool false, .slice none 0 0, .string ⟨#[]⟩, .slice none 0 0]) := HXzms.out.but hb (by omega)
      have HNzu : Hid (BX wG nb [.int .i64 kk, .int .i64 zm, .int .i64 0, .int .i64 0, .bool oo, .slice none 0 0, .string ⟨#[]⟩, .slice none 0 0]) := HNzms.out.but hb (by omega)
      have HBzu : Hid (But rb W wG) := HBzms.out.trans hb
      have HRzu : Hid (SBL wG rb S lu fu_) := hr
      clear HC HRzms HXzms HNzms HBzms hb hr
      have p0 := HNzu.out.1 2 _ rfl
      have p1 := HNzu.out.2 2
      go_upto_region 11 with fail
      have HRzus : Hid (SBL (wG.setCell ⟨nb, 2, none⟩ (.int .i64 zu)) rb S lu fu_) := HRzu.out.other (by omega) _
      have HXzus : Hid (BX (wG.setCell ⟨nb, 2, none⟩ (.int .i64 zu)) W.heap.size [.int .i64 0, .int .i64 0, .int .i64 0, .int .i64 0, .bool false, .slice none 0 0, .string ⟨#[]⟩, .slice none 0 0]) := HXzu.out.other (by omega) _
      have HNzus : Hid (BX (wG.setCell ⟨nb, 2, none⟩ (.int .i64 zu)) nb [.int .i64 kk, .int .i64 zm, .int .i64 zu, .int .i64 0, .bool oo, .slice none 0 0, .string ⟨#[]⟩, .slice none 0 0]) := HNzu.out.set 2 (by simp) _
      have HBzus : Hid (But rb W (wG.setCell ⟨nb, 2, none⟩ (.int .i64 zu))) := but_new HBzu.out hnb _ _
      clear p0 p1 HRzu HXzu HNzu HBzu
      generalize wG.setCell ⟨nb, 2, none⟩ (.int .i64 zu) = wGs at HRzus HXzus HNzus HBzus ⊢
      obtain ⟨zg, hzg⟩ : ∃ z, nuV (tkR 2 lu fu_).1 = z := ⟨_, rfl⟩
      obtain ⟨⟨lg, fg⟩, hlg⟩ : ∃ p, (tkR 2 lu fu_).2 = p := ⟨_, rfl⟩
      have hlgl := (tkR_len 2 lu fu_).2
      have hzgb : zg ≤ 65535 := by rw [← hzg]; exact nuV_two (tkR_len 2 lu fu_).1
      rw [hlg] at hlgl
      dsimp only at hlgl
      have HC : Hid (Calls Try.prog 101 #[.pointer (some ⟨rb, 0, none⟩), .int .i64 2] wGs fun e w' => e = .returned (.int .i64 zg) ∧ But rb wGs w' ∧ SBL w' rb S lg fg) := by
        have q := snumber_any HRzus.out 2 (by omega) hS
        rw [hzg, hlg] at q
        exact q
      have Hzg : Hid (nuV (tkR 2 lu fu_).1 = zg ∧ (tkR 2 lu fu_).2 = (lg, fg)) := ⟨hzg, hlg⟩
      clear hzg hlg
      go_wp2_with fail
      refine Calls.mono HC.out ?_
      rintro e wH ⟨rfl, hb, hr⟩
      have HXzg : Hid (BX wH W.heap.size [.int .i64 0, .int .i64 0, .int .i64 0, .int .i64 0, .bool false, .slice none 0 0, .string ⟨#[]⟩, .slice none 0 0]) := HXzus.out.but hb (by omega)
      have HNzg : Hid (BX wH nb [.int .i64 kk, .int .i64 zm, .int .i64 zu, .int .i64 0, .bool oo, .slice none 0 0, .string ⟨#[]⟩, .slice none 0 0]) := HNzus.out.but hb (by omega)
      have HBzg : Hid (But rb W wH) := HBzus.out.trans hb
      have HRzg : Hid (SBL wH rb S lg fg) := hr
      clear HC HRzus HXzus HNzus HBzus hb hr
      have p0 := HNzg.out.1 3 _ rfl
      have p1 := HNzg.out.2 3
      go_upto_region 12 with fail
      have HRzgs : Hid (SBL (wH.setCell ⟨nb, 3, none⟩ (.int .i64 zg)) rb S lg fg) := HRzg.out.other (by omega) _
      have HXzgs : Hid (BX (wH.setCell ⟨nb, 3, none⟩ (.int .i64 zg)) W.heap.size [.int .i64 0, .int .i64 0, .int .i64 0, .int .i64 0, .bool false, .slice none 0 0, .string ⟨#[]⟩, .slice none 0 0]) := HXzg.out.other (by omega) _
      have HNzgs : Hid (BX (wH.setCell ⟨nb, 3, none⟩ (.int .i64 zg)) nb [.int .i64 kk, .int .i64 zm, .int .i64 zu, .int .i64 zg, .bool oo, .slice none 0 0, .string ⟨#[]⟩, .slice none 0 0]) := HNzg.out.set 3 (by simp) _
      have HBzgs : Hid (But rb W (wH.setCell ⟨nb, 3, none⟩ (.int .i64 zg))) := but_new HBzg.out hnb _ _
      clear p0 p1 HRzg HXzg HNzg HBzg
      generalize wH.setCell ⟨nb, 3, none⟩ (.int .i64 zg) = wHs at HRzgs HXzgs HNzgs HBzgs ⊢
      obtain ⟨ca, hca⟩ : ∃ z, nuV (tkR 1 lg fg).1 = z := ⟨_, rfl⟩
      obtain ⟨⟨lc, fc⟩, hlc⟩ : ∃ p, (tkR 1 lg fg).2 = p := ⟨_, rfl⟩
      have hlcl := (tkR_len 1 lg fg).2
      have hcab : ca ≤ 255 := by rw [← hca]; exact nuV_one (tkR_len 1 lg fg).1
      rw [hlc] at hlcl
      dsimp only at hlcl
      have HC : Hid (Calls Try.prog 101 #[.pointer (some ⟨rb, 0, none⟩), .int .i64 1] wHs fun e w' => e = .returned (.int .i64 ca) ∧ But rb wHs w' ∧ SBL w' rb S lc fc) := by
        have q := snumber_any HRzgs.out 1 (by omega) hS
        rw [hca, hlc] at q
        exact q
      have Hca : Hid (nuV (tkR 1 lg fg).1 = ca ∧ (tkR 1 lg fg).2 = (lc, fc)) := ⟨hca, hlc⟩
      clear hca hlc
      go_wp2_with fail
      refine Calls.mono HC.out ?_
      rintro e wJ ⟨rfl, hb, hr⟩
      have HAS : Hid (AS W wJ rb nb S kk zm zu zg oo ⟨#[]⟩ [] (.slice none 0 0) lc fc) := ⟨hr, HXzgs.out.but hb (by omega), HNzgs.out.but hb (by omega), World.ownsRow_nil _ _ _ _, HBzgs.out.trans hb, hnb, hrb⟩
      clear HC HRzgs HXzgs HNzgs HBzgs hb hr
      go_wp2
      go_loopw [6] (fun i wr => ∃ (j : Nat) (A : List Kv) (va : Value) (l2 : List UInt8) (f2 : Bool), j ≤ ca ∧ i = .int .i64 j ∧ l2.length ≤ lc.length ∧ Hid (A.length + j ≤ 255) ∧ Hid (AR ca lc fc j A l2 f2) ∧ Hid (AS W wr rb nb S kk zm zu zg oo ⟨#[]⟩ A va l2 f2)) (fun i _ => (intOf i).toNat)
      case atStart => exact ⟨ca, [], _, lc, fc, Nat.le_refl _, rfl, Nat.le_refl _, by show _ ≤ _; simp; omega, AR.start, HAS.out⟩
      case round =>
        obtain ⟨j, A, va, l2, f2, hj, rfl, hl2, HLJ, HAR, HA2⟩ := hrel
        clear HAS
        obtain ⟨s0, s1⟩ := HA2.out.r.cells
        obtain ⟨aa, cap5, e5, hcp1, hcp2, _⟩ := owns_cells HA2.out.row
        subst e5
        by_cases hj0 : j = 0
        · subst hj0
          obtain ⟨sd, hssd⟩ : ∃ s, ofB (txR l2 f2).1 = s := ⟨_, rfl⟩
          obtain ⟨⟨ld, fd⟩, htsd⟩ : ∃ p, (txR l2 f2).2 = p := ⟨_, rfl⟩
          have hlsd := txR_len l2 f2
          rw [htsd] at hlsd
          dsimp only at hlsd
          obtain ⟨uk, uhk⟩ : ∃ z, nuV (tkR 1 l2 f2).1 = z := ⟨_, rfl⟩
          obtain ⟨⟨ul, uf⟩, uhl⟩ : ∃ p, (tkR 1 l2 f2).2 = p := ⟨_, rfl⟩
          have ukb : uk ≤ 255 := by rw [← uhk]; exact nuV_one (tkR_len 1 l2 f2).1
          have ueq := txR_eq uhk uhl
          have uC1 : Hid (Calls Try.prog 101 #[.pointer (some ⟨rb, 0, none⟩), .int .i64 1] wr fun e w' => e = .returned (.int .i64 uk) ∧ But rb wr w' ∧ SBL w' rb S ul uf) := by
            have q := snumber_any HA2.out.r 1 (by omega) hS
            rw [uhk, uhl] at q
            exact q
          have uC2 : Hid (∀ w5 : World, SBL w5 rb S ul uf → Calls Try.prog 102 #[.pointer (some ⟨rb, 0, none⟩), .int .i64 uk] w5 fun e w' => e = .returned (.string sd) ∧ But rb w5 w' ∧ SBL w' rb S ld fd) := fun w5 h5 => by
            have q := stext_any h5 uk (by omega) hS
            rw [← ueq, hssd, htsd] at q
            exact q
          have HTsd : Hid (ofB (txR l2 f2).1 = sd ∧ (txR l2 f2).2 = (ld, fd)) := ⟨hssd, htsd⟩
          clear hssd htsd uhk uhl ueq
          go_wp2_with fail
          refine Calls.mono uC1.out ?_
          rintro e uw ⟨rfl, ub, ur⟩
          have uC3 : Hid _ := uC2.out uw ur
          clear uC1 uC2
          go_wp2_with fail
          refine Calls.mono uC3.out ?_
          rintro e w5 ⟨rfl, ub2, hrT⟩
          have hbT : But rb wr w5 := ub.trans ub2
          clear uC3 ub ub2 ur
          have HA5 : Hid (AS W w5 rb nb S kk zm zu zg oo ⟨#[]⟩ A (.slice aa A.length cap5) ld fd) := HA2.out.but' hbT hrT
          clear HA2 hbT hrT s0 s1
          have y5 := HA5.out.b.1 6 _ rfl
          have y6 := HA5.out.b.2 6
          go_upto_region 19 with fail
          have HK1 : Hid (KY W (w5.setCell ⟨nb, 6, none⟩ (.string sd)) rb nb kk zm zu zg oo A (.slice aa A.length cap5) sd [] (.slice none 0 0) ld S fd) := HA5.out.kids sd
          clear HA5 y5 y6
          generalize w5.setCell ⟨nb, 6, none⟩ (.string sd) = w7 at HK1 ⊢
          obtain ⟨ck, hck⟩ : ∃ z, nuV (tkR 1 ld fd).1 = z := ⟨_, rfl⟩
          obtain ⟨⟨lq, fq⟩, hlq⟩ : ∃ p, (tkR 1 ld fd).2 = p := ⟨_, rfl⟩
          have hlql := (tkR_len 1 ld fd).2
          have hckb : ck ≤ 255 := by rw [← hck]; exact nuV_one (tkR_len 1 ld fd).1
          rw [hlq] at hlql
          dsimp only at hlql
          have HC : Hid (Calls Try.prog 101 #[.pointer (some ⟨rb, 0, none⟩), .int .i64 1] w7 fun e w' => e = .returned (.int .i64 ck) ∧ But rb w7 w' ∧ SBL w' rb S lq fq) := by
            have q := snumber_any HK1.out.r 1 (by omega) hS
            rw [hck, hlq] at q
            exact q
          have Hck : Hid (nuV (tkR 1 ld fd).1 = ck ∧ (tkR 1 ld fd).2 = (lq, fq)) := ⟨hck, hlq⟩
          clear hck hlq
          go_wp2_with fail
          refine Calls.mono HC.out ?_
          rintro e w8 ⟨rfl, hb, hr⟩
          have HK2 : Hid (KY W w8 rb nb kk zm zu zg oo A (.slice aa A.length cap5) sd [] (.slice none 0 0) lq S fq) := HK1.out.but' hb hr
          have HHD : Hid (HdS l f kb zm zu zg A sd ck lq fq) := ⟨lb, fb, lm, fm, lu, fu_, lg, fg, ca, lc, fc, l2, f2, ld, fd, 0, Hkb.out, Hzm.out, Hzu.out, Hzg.out, Hca.out, ⟨HAR.out, (.inl rfl)⟩, HTsd.out, Hck.out⟩
          obtain ⟨fu', hfu'⟩ : ∃ q, fu = q + 1 := ⟨fu - 1, by omega⟩
          subst hfu'
          have hck := (HHD.out.says fu').2.2
          have hlq : lq.length ≤ l.length := by omega
          clear HC HK1 hb hr Hkb Hzm Hzu Hzg Hca HAR HTsd Hck
          go_wp2
          go_loopw [9] (fun i wr => ∃ (j : Nat) (L : Khs) (vk : Value) (lk : List UInt8) (fk : Bool), j ≤ ck ∧ i = .int .i64 j ∧ lk.length ≤ lq.length ∧ Hid (L.length + j ≤ 255) ∧ Hid (KQ (rNd dR fu') ck lq fq (deep + 1) j (bare L) lk fk) ∧ Hid (KY W wr rb nb kk zm zu zg oo A (.slice aa A.length cap5) sd L vk lk S fk)) (fun i _ => (intOf i).toNat)
          case atStart => exact ⟨ck, [], _, lq, fq, Nat.le_refl _, rfl, Nat.le_refl _, by show _ ≤ _; simp; omega, KQ.start (by omega), HK2.out⟩
          case round =>
            obtain ⟨j4, L, vk, lk, fk, hj4, rfl, hlk, HLK, HKQ, HKI⟩ := hrel
            clear HK2
            obtain ⟨ak, cap6, e6, _, _, _⟩ := owns_cells HKI.out.row
            subst e6
            obtain ⟨s0, s1⟩ := HKI.out.r.cells
            by_cases hj5 : j4 = 0
            · subst hj5
              obtain ⟨x0, x1, x2, x3, x4, x5, x6, x7⟩ := eightX HKI.out.x
              obtain ⟨b0, b1, b2, b3, b4, b5, b6, b7⟩ := eightX HKI.out.b
              have f0 := HKI.out.x.2 0
              have f1 := HKI.out.x.2 1
              have f2 := HKI.out.x.2 2
              have f3 := HKI.out.x.2 3
              have f4 := HKI.out.x.2 4
              have f5 := HKI.out.x.2 5
              have f6 := HKI.out.x.2 6
              have f7 := HKI.out.x.2 7
              go_wp2
              have HXF : Hid (BX ((((((((wr.setCell ⟨W.heap.size, 0, none⟩ (.int .i64 kk)).setCell ⟨W.heap.size, 1, none⟩ (.int .i64 zm)).setCell ⟨W.heap.size, 2, none⟩ (.int .i64 zu)).setCell ⟨W.heap.size, 3, none⟩ (.int .i64 zg)).setCell ⟨W.heap.size, 4, none⟩ (.bool oo)).setCell ⟨W.heap.size, 5, none⟩ (.slice aa A.length cap5)).setCell ⟨W.heap.size, 6, none⟩ (.string sd)).setCell ⟨W.heap.size, 7, none⟩ (.slice ak L.length cap6)) W.heap.size [.int .i64 kk, .int .i64 zm, .int .i64 zu, .int .i64 zg, .bool oo, .slice aa A.length cap5, .string sd, .slice ak L.length cap6]) := (((((((HKI.out.x.set 0 (by simp) _).set 1 (by simp) _).set 2 (by simp) _).set 3 (by simp) _).set 4 (by simp) _).set 5 (by simp) _).set 6 (by simp) _).set 7 (by simp) _
              have HBF : Hid (But W.heap.size wr ((((((((wr.setCell ⟨W.heap.size, 0, none⟩ (.int .i64 kk)).setCell ⟨W.heap.size, 1, none⟩ (.int .i64 zm)).setCell ⟨W.heap.size, 2, none⟩ (.int .i64 zu)).setCell ⟨W.heap.size, 3, none⟩ (.int .i64 zg)).setCell ⟨W.heap.size, 4, none⟩ (.bool oo)).setCell ⟨W.heap.size, 5, none⟩ (.slice aa A.length cap5)).setCell ⟨W.heap.size, 6, none⟩ (.string sd)).setCell ⟨W.heap.size, 7, none⟩ (.slice ak L.length cap6))) := ((((((((But.refl _ _).setCell _ _ _).setCell _ _ _).setCell _ _ _).setCell _ _ _).setCell _ _ _).setCell _ _ _).setCell _ _ _).setCell _ _ _
              generalize ((((((((wr.setCell ⟨W.heap.size, 0, none⟩ (.int .i64 kk)).setCell ⟨W.heap.size, 1, none⟩ (.int .i64 zm)).setCell ⟨W.heap.size, 2, none⟩ (.int .i64 zu)).setCell ⟨W.heap.size, 3, none⟩ (.int .i64 zg)).setCell ⟨W.heap.size, 4, none⟩ (.bool oo)).setCell ⟨W.heap.size, 5, none⟩ (.slice aa A.length cap5)).setCell ⟨W.heap.size, 6, none⟩ (.string sd)).setCell ⟨W.heap.size, 7, none⟩ (.slice ak L.length cap6)) = wF at HXF HBF ⊢
              have HRF : Hid (SBL wF rb S lk fk) := HKI.out.r.but HBF.out (by omega)
              have HNQ := NQ.of HHD.out HKQ.out (.inl rfl) (by omega) HKO.out
              have HNF := HKI.out.fin HBF.out
              have HBW := but_two HKI.out.but HBF.out
              obtain ⟨r0, r1, r2, r3, r4, r5, r6, r7⟩ := eightX HXF.out
              refine bodyPost_ret (v := ndV (.mk kk zm zu zg oo A sd (bare L)) ⟨aa, cap5, ak, cap6⟩) (by simp [results, Try.results66, go_sem, ndV, bare_len, r0, r1, r2, r3, r4, r5, r6, r7]) rfl ?_
              first | exact ⟨_, _, lk, fk, rfl, HRF.out, HBW, HNF, HNQ⟩ | exact ⟨_, _, rfl, lk, .inr ⟨HRF.out, HBW, HNF, HNQ⟩⟩
            · obtain ⟨j6, hj6⟩ : ∃ q, j4 = q + 1 := ⟨j4 - 1, by omega⟩
              subst hj6
              have hjq : decide ((0 : Int) < ((j6 + 1 : Nat) : Int)) = true := decide_eq_true (by omega)
              cases fk
              · have hp3 := tx_pos (l := lk) (f := false)
                have hn3 := txR_nil (l := lk) (f := false) (fun e => by cases e)
                have hpos := HHD.out.pos (HKQ.out.ok rfl).1
                obtain ⟨nm, hsnm⟩ : ∃ s, ofB (txR lk false).1 = s := ⟨_, rfl⟩
                obtain ⟨⟨l3, f3⟩, htnm⟩ : ∃ p, (txR lk false).2 = p := ⟨_, rfl⟩
                have hlnm := txR_len lk false
                rw [htnm] at hlnm
                dsimp only at hlnm
                obtain ⟨vk, vhk⟩ : ∃ z, nuV (tkR 1 lk false).1 = z := ⟨_, rfl⟩
                obtain ⟨⟨vl, vf⟩, vhl⟩ : ∃ p, (tkR 1 lk false).2 = p := ⟨_, rfl⟩
                have vkb : vk ≤ 255 := by rw [← vhk]; exact nuV_one (tkR_len 1 lk false).1
                have veq := txR_eq vhk vhl
                have vC1 : Hid (Calls Try.prog 101 #[.pointer (some ⟨rb, 0, none⟩), .int .i64 1] wr fun e w' => e = .returned (.int .i64 vk) ∧ But rb wr w' ∧ SBL w' rb S vl vf) := by
                  have q := snumber_any HKI.out.r 1 (by omega) hS
                  rw [vhk, vhl] at q
                  exact q
                have vC2 : Hid (∀ w5 : World, SBL w5 rb S vl vf → Calls Try.prog 102 #[.pointer (some ⟨rb, 0, none⟩), .int .i64 vk] w5 fun e w' => e = .returned (.string nm) ∧ But rb w5 w' ∧ SBL w' rb S l3 f3) := fun w5 h5 => by
                  have q := stext_any h5 vk (by omega) hS
                  rw [← veq, hsnm, htnm] at q
                  exact q
                have HTnm : Hid (ofB (txR lk false).1 = nm ∧ (txR lk false).2 = (l3, f3)) := ⟨hsnm, htnm⟩
                clear hsnm htnm vhk vhl veq
                go_wp2_with fail
                refine Calls.mono vC1.out ?_
                rintro e vw ⟨rfl, vb, vr⟩
                have vC3 : Hid _ := vC2.out vw vr
                clear vC1 vC2
                go_wp2_with fail
                refine Calls.mono vC3.out ?_
                rintro e w9 ⟨rfl, vb2, hrT⟩
                have hbT : But rb wr w9 := vb.trans vb2
                clear vC3 vb vb2 vr
                rw [HTnm.out.2] at hp3 hn3
                dsimp only at hp3 hn3
                have hmd : l.length < md := by
                  have := hmes
                  rw [hpos.1] at this
                  unfold mes at this
                  simp at this
                  omega
                have hms : mes l3 f3 < md := by
                  unfold mes
                  cases hf3 : f3 with
                  | true => simp; omega
                  | false => have := (hp3 hf3).2; simp; omega
                have hfu3 : l3.length < fu' := by
                  cases hf3 : f3 with
                  | true => rw [hn3 hf3]; simp; omega
                  | false => have := (hp3 hf3).2; omega
                have HK5 : Hid (KY W w9 rb nb kk zm zu zg oo A (.slice aa A.length cap5) sd L (.slice ak L.length cap6) l3 S f3) := HKI.out.but' hbT hrT
                have eD : ((deep + 1 : Nat) : Int) = (deep : Int) + 1 := by omega
                have HCN : Hid (Calls Try.prog 66 #[.pointer (some ⟨rb, 0, none⟩), .int .i64 ((deep : Int) + 1)] w9 fun e w' => ∃ k5 m5 u5 g5 o5 at5 d5 ks5 hx l' f', e = .returned (.agg #[.int .i64 k5, .int .i64 m5, .int .i64 u5, .int .i64 g5, .bool o5, .slice hx.aa at5.length hx.ca, .string d5, .slice hx.ak ks5.length hx.ck]) ∧ SBL w' rb S l' f' ∧ But rb w9 w' ∧ NdV (newM w9.heap.size w') (.mk k5 m5 u5 g5 o5 at5 d5 ks5) hx ∧ NQ fu' l3 f3 (deep + 1) (.mk k5 m5 u5 g5 o5 at5 d5 ks5) l' f') := by
                  rw [← eD]
                  refine Calls.mono (HIH.out w9 l3 f3 (deep + 1) hms HK5.out.r (by omega) fu' hfu3) ?_
                  rintro e w' ⟨⟨k5, m5, u5, g5, o5, at5, d5, ks5⟩, hx, l', f', e1, e2, e3, e4, e5⟩
                  exact ⟨k5, m5, u5, g5, o5, at5, d5, ks5, hx, l', f', e1, e2, e3, e4, e5⟩
                have HSZ : Hid (W.heap.size < w9.heap.size ∧ nb < w9.heap.size ∧ ∀ s, (Value.slice ak L.length cap6).ownBlock = some s → s < w9.heap.size) := ⟨by have := HK5.out.b.lt; omega, HK5.out.b.lt, fun s e => (HK5.out.row.lt s e).2⟩
                clear HKI hbT hrT s0 s1 hms hfu3 hmd hpos hp3 hn3 eD
                have hLL : L.length ≤ 255 := by have := HLK.out; omega
                go_wp2_with fail
                refine Calls.mono HCN.out ?_
                rintro e w10 ⟨k5, m5, u5, g5, o5, at5, d5, ks5, hx, l4, f4, rfl, hr6, hb6, hN6, hNQ6⟩
                have hal : Below w10.heap.size w10 (w10.alloc (.cells #[.int .i64 k5, .int .i64 m5, .int .i64 u5, .int .i64 g5, .bool o5, .slice hx.aa at5.length hx.ca, .string d5, .slice hx.ak ks5.length hx.ck] 25)) := (Below.refl _ _).alloc (Nat.le_refl _) _
                have hK6 := HK5.out.but' hb6 hr6
                have HK7 : Hid (KY W (w10.alloc (.cells #[.int .i64 k5, .int .i64 m5, .int .i64 u5, .int .i64 g5, .bool o5, .slice hx.aa at5.length hx.ca, .string d5, .slice hx.ak ks5.length hx.ck] 25)) rb nb kk zm zu zg oo A (.slice aa A.length cap5) sd L (.slice ak L.length cap6) l4 S f4) := hK6.but' (But.of_below hal) (hr6.below hal)
                have HN7 : Hid (NdV (newM w9.heap.size (w10.alloc (.cells #[.int .i64 k5, .int .i64 m5, .int .i64 u5, .int .i64 g5, .bool o5, .slice hx.aa at5.length hx.ca, .string d5, .slice hx.ak ks5.length hx.ck] 25))) (.mk k5 m5 u5 g5 o5 at5 d5 ks5) hx) := hN6.on (mle_S hal)
                have HNQ6 : Hid (NQ fu' l3 f3 (deep + 1) (.mk k5 m5 u5 g5 o5 at5 d5 ks5) l4 f4) := hNQ6
                have HZ7 : Hid (BX (w10.alloc (.cells #[.int .i64 k5, .int .i64 m5, .int .i64 u5, .int .i64 g5, .bool o5, .slice hx.aa at5.length hx.ca, .string d5, .slice hx.ak ks5.length hx.ck] 25)) w10.heap.size [.int .i64 k5, .int .i64 m5, .int .i64 u5, .int .i64 g5, .bool o5, .slice hx.aa at5.length hx.ca, .string d5, .slice hx.ak ks5.length hx.ck]) := BX.new w10 _ _
                clear HCN HK5 hr6 hb6 hN6 hNQ6 hK6 hal
                go_upto_region 24 with fail
                generalize w10.alloc (.cells #[.int .i64 k5, .int .i64 m5, .int .i64 u5, .int .i64 g5, .bool o5, .slice hx.aa at5.length hx.ca, .string d5, .slice hx.ak ks5.length hx.ck] 25) = w11 at HK7 HN7 HZ7 ⊢
                generalize w10.heap.size = zb at HZ7 ⊢
                have c5 := HK7.out.b.1 7 _ rfl
                have c6 := HK7.out.b.2 7
                obtain ⟨z0, z1, z2, z3, z4, z5, z6, z7⟩ := eightX HZ7.out
                go_wp2_with (at_builtin; refine wpList_append_src (w11.alloc (.cells #[.string nm, .int .i64 k5, .int .i64 m5, .int .i64 u5, .int .i64 g5, .bool o5, .slice hx.aa at5.length hx.ca, .string d5, .slice hx.ak ks5.length hx.ck] 102)) rfl (.tmp 94) (.tmp 98) 23 rfl (nb + 1) 102 i2 zK 9 120 Try.underlying23 HG0.out HG1.out HG2.out HG3.out rfl (by decide) (.slice ak L.length cap6) L.length (kfl L) rfl (HK7.out.row.alloc _) (some ⟨w11.heap.size, 0, none⟩) 1 1 (kfl [(nm, (.mk k5 m5 u5 g5 o5 at5 d5 ks5), hx)]) rfl rfl (.inr ⟨_, rfl, kid_newA w11 nm (.mk k5 m5 u5 g5 o5 at5 d5 ks5) hx _⟩) (kfl_one _) (by unfold maxLen; omega) (by omega) (Nat.le_trans HK7.out.b.lt (by rw [World.size_alloc]; omega)) ?_)
                intro v12 w12 hown7 hgr7 ho7
                obtain ⟨a7, cap7, e7, _, _, _⟩ := owns_cells hown7
                subst e7
                have HK8 : Hid (KY W (w12.setCell ⟨nb, 7, none⟩ (.slice a7 (L.length + 1) cap7)) rb nb kk zm zu zg oo A (.slice aa A.length cap5) sd (L ++ [(nm, (.mk k5 m5 u5 g5 o5 at5 d5 ks5), hx)]) (.slice a7 (L.length + 1) cap7) l4 S f4) := HK7.out.app _ hgr7 (nm, (.mk k5 m5 u5 g5 o5 at5 d5 ks5), hx) HN7.out HSZ.out.1 HSZ.out.2.1 HSZ.out.2.2 hown7 (by first | exact ho7 | (rw [World.size_alloc] at ho7; exact ho7))
                have hq7 : some nb ≠ (Value.slice ak L.length cap6).ownBlock := row_neA HK7.out.row
                have hbx := (HK7.out.b.below ((Below.refl _ w11).alloc (Nat.le_refl _) (.cells #[.string nm, .int .i64 k5, .int .i64 m5, .int .i64 u5, .int .i64 g5, .bool o5, .slice hx.aa at5.length hx.ca, .string d5, .slice hx.ak ks5.length hx.ck] 102))).grown hgr7 hq7
                have d5' := hbx.1 7 _ rfl
                have d6' := hbx.2 7
                have HKQ2 : Hid (KQ (rNd dR fu') ck lq fq (deep + 1) j6 (bare (L ++ [(nm, (.mk k5 m5 u5 g5 o5 at5 d5 ks5), hx)])) l4 f4) := by
                  have q := HKQ.out.next HTnm.out.1 HTnm.out.2 (fun e => HNQ6.out.ok e) (fun e e' => HNQ6.out.bad e e')
                  have eb : bare (L ++ [(nm, (.mk k5 m5 u5 g5 o5 at5 d5 ks5), hx)]) = bare L ++ [(nm, (.mk k5 m5 u5 g5 o5 at5 d5 ks5))] := by simp [bare]
                  show KQ _ _ _ _ _ _ _ _ _
                  rw [eb]
                  exact q
                have hl4 := HNQ6.out.len
                clear hown7 hgr7 ho7 hbx hq7 HK7 c5 c6 z0 z1 z2 z3 z4 z5 z6 z7 HZ7 HN7 HNQ6 HSZ HKQ HTnm
                go_wp2
                go_roundw
                case rel => exact ⟨j6, _, _, l4, f4, by omega, by go_num, by omega, by (have := HLK.out; show _ ≤ _; simp; omega), HKQ2.out, HK8.out⟩
                case measure => (simp [intOf]; try omega)
              · skip
                obtain ⟨x0, x1, x2, x3, x4, x5, x6, x7⟩ := eightX HKI.out.x
                obtain ⟨b0, b1, b2, b3, b4, b5, b6, b7⟩ := eightX HKI.out.b
                have f0 := HKI.out.x.2 0
                have f1 := HKI.out.x.2 1
                have f2 := HKI.out.x.2 2
                have f3 := HKI.out.x.2 3
                have f4 := HKI.out.x.2 4
                have f5 := HKI.out.x.2 5
                have f6 := HKI.out.x.2 6
                have f7 := HKI.out.x.2 7
                go_wp2
                have HXF : Hid (BX ((((((((wr.setCell ⟨W.heap.size, 0, none⟩ (.int .i64 kk)).setCell ⟨W.heap.size, 1, none⟩ (.int .i64 zm)).setCell ⟨W.heap.size, 2, none⟩ (.int .i64 zu)).setCell ⟨W.heap.size, 3, none⟩ (.int .i64 zg)).setCell ⟨W.heap.size, 4, none⟩ (.bool oo)).setCell ⟨W.heap.size, 5, none⟩ (.slice aa A.length cap5)).setCell ⟨W.heap.size, 6, none⟩ (.string sd)).setCell ⟨W.heap.size, 7, none⟩ (.slice ak L.length cap6)) W.heap.size [.int .i64 kk, .int .i64 zm, .int .i64 zu, .int .i64 zg, .bool oo, .slice aa A.length cap5, .string sd, .slice ak L.length cap6]) := (((((((HKI.out.x.set 0 (by simp) _).set 1 (by simp) _).set 2 (by simp) _).set 3 (by simp) _).set 4 (by simp) _).set 5 (by simp) _).set 6 (by simp) _).set 7 (by simp) _
                have HBF : Hid (But W.heap.size wr ((((((((wr.setCell ⟨W.heap.size, 0, none⟩ (.int .i64 kk)).setCell ⟨W.heap.size, 1, none⟩ (.int .i64 zm)).setCell ⟨W.heap.size, 2, none⟩ (.int .i64 zu)).setCell ⟨W.heap.size, 3, none⟩ (.int .i64 zg)).setCell ⟨W.heap.size, 4, none⟩ (.bool oo)).setCell ⟨W.heap.size, 5, none⟩ (.slice aa A.length cap5)).setCell ⟨W.heap.size, 6, none⟩ (.string sd)).setCell ⟨W.heap.size, 7, none⟩ (.slice ak L.length cap6))) := ((((((((But.refl _ _).setCell _ _ _).setCell _ _ _).setCell _ _ _).setCell _ _ _).setCell _ _ _).setCell _ _ _).setCell _ _ _).setCell _ _ _
                generalize ((((((((wr.setCell ⟨W.heap.size, 0, none⟩ (.int .i64 kk)).setCell ⟨W.heap.size, 1, none⟩ (.int .i64 zm)).setCell ⟨W.heap.size, 2, none⟩ (.int .i64 zu)).setCell ⟨W.heap.size, 3, none⟩ (.int .i64 zg)).setCell ⟨W.heap.size, 4, none⟩ (.bool oo)).setCell ⟨W.heap.size, 5, none⟩ (.slice aa A.length cap5)).setCell ⟨W.heap.size, 6, none⟩ (.string sd)).setCell ⟨W.heap.size, 7, none⟩ (.slice ak L.length cap6)) = wF at HXF HBF ⊢
                have HRF : Hid (SBL wF rb S lk true) := HKI.out.r.but HBF.out (by omega)
                have HNQ := NQ.of HHD.out HKQ.out (.inr rfl) (by omega) HKO.out
                have HNF := HKI.out.fin HBF.out
                have HBW := but_two HKI.out.but HBF.out
                obtain ⟨r0, r1, r2, r3, r4, r5, r6, r7⟩ := eightX HXF.out
                refine bodyPost_ret (v := ndV (.mk kk zm zu zg oo A sd (bare L)) ⟨aa, cap5, ak, cap6⟩) (by simp [results, Try.results66, go_sem, ndV, bare_len, r0, r1, r2, r3, r4, r5, r6, r7]) rfl ?_
                first | exact ⟨_, _, lk, true, rfl, HRF.out, HBW, HNF, HNQ⟩ | exact ⟨_, _, rfl, lk, .inr ⟨HRF.out, HBW, HNF, HNQ⟩⟩
        · obtain ⟨j2, hj2⟩ : ∃ q, j = q + 1 := ⟨j - 1, by omega⟩
          subst hj2
          have hjp : decide ((0 : Int) < ((j2 + 1 : Nat) : Int)) = true := decide_eq_true (by omega)
          cases f2
          · skip
            obtain ⟨st1, hsst1⟩ : ∃ s, ofB (txR l2 false).1 = s := ⟨_, rfl⟩
            obtain ⟨⟨l3, f3⟩, htst1⟩ : ∃ p, (txR l2 false).2 = p := ⟨_, rfl⟩
            have hlst1 := txR_len l2 false
            rw [htst1] at hlst1
            dsimp only at hlst1
            obtain ⟨uk, uhk⟩ : ∃ z, nuV (tkR 1 l2 false).1 = z := ⟨_, rfl⟩
            obtain ⟨⟨ul, uf⟩, uhl⟩ : ∃ p, (tkR 1 l2 false).2 = p := ⟨_, rfl⟩
            have ukb : uk ≤ 255 := by rw [← uhk]; exact nuV_one (tkR_len 1 l2 false).1
            have ueq := txR_eq uhk uhl
            have uC1 : Hid (Calls Try.prog 101 #[.pointer (some ⟨rb, 0, none⟩), .int .i64 1] wr fun e w' => e = .returned (.int .i64 uk) ∧ But rb wr w' ∧ SBL w' rb S ul uf) := by
              have q := snumber_any HA2.out.r 1 (by omega) hS
              rw [uhk, uhl] at q
              exact q
            have uC2 : Hid (∀ w5 : World, SBL w5 rb S ul uf → Calls Try.prog 102 #[.pointer (some ⟨rb, 0, none⟩), .int .i64 uk] w5 fun e w' => e = .returned (.string st1) ∧ But rb w5 w' ∧ SBL w' rb S l3 f3) := fun w5 h5 => by
              have q := stext_any h5 uk (by omega) hS
              rw [← ueq, hsst1, htst1] at q
              exact q
            have HTst1 : Hid (ofB (txR l2 false).1 = st1 ∧ (txR l2 false).2 = (l3, f3)) := ⟨hsst1, htst1⟩
            clear hsst1 htst1 uhk uhl ueq
            go_wp2_with fail
            refine Calls.mono uC1.out ?_
            rintro e uw ⟨rfl, ub, ur⟩
            have uC3 : Hid _ := uC2.out uw ur
            clear uC1 uC2
            go_wp2_with fail
            refine Calls.mono uC3.out ?_
            rintro e w5 ⟨rfl, ub2, hrT⟩
            have hbT : But rb wr w5 := ub.trans ub2
            clear uC3 ub ub2 ur
            have HA5 : Hid (AS W w5 rb nb S kk zm zu zg oo ⟨#[]⟩ A (.slice aa A.length cap5) l3 f3) := HA2.out.but' hbT hrT
            clear HA2 hbT hrT s0 s1
            obtain ⟨st2, hsst2⟩ : ∃ s, ofB (txR l3 f3).1 = s := ⟨_, rfl⟩
            obtain ⟨⟨l4, f4⟩, htst2⟩ : ∃ p, (txR l3 f3).2 = p := ⟨_, rfl⟩
            have hlst2 := txR_len l3 f3
            rw [htst2] at hlst2
            dsimp only at hlst2
            obtain ⟨vk, vhk⟩ : ∃ z, nuV (tkR 1 l3 f3).1 = z := ⟨_, rfl⟩
            obtain ⟨⟨vl, vf⟩, vhl⟩ : ∃ p, (tkR 1 l3 f3).2 = p := ⟨_, rfl⟩
            have vkb : vk ≤ 255 := by rw [← vhk]; exact nuV_one (tkR_len 1 l3 f3).1
            have veq := txR_eq vhk vhl
            have vC1 : Hid (Calls Try.prog 101 #[.pointer (some ⟨rb, 0, none⟩), .int .i64 1] w5 fun e w' => e = .returned (.int .i64 vk) ∧ But rb w5 w' ∧ SBL w' rb S vl vf) := by
              have q := snumber_any HA5.out.r 1 (by omega) hS
              rw [vhk, vhl] at q
              exact q
            have vC2 : Hid (∀ w5 : World, SBL w5 rb S vl vf → Calls Try.prog 102 #[.pointer (some ⟨rb, 0, none⟩), .int .i64 vk] w5 fun e w' => e = .returned (.string st2) ∧ But rb w5 w' ∧ SBL w' rb S l4 f4) := fun w5 h5 => by
              have q := stext_any h5 vk (by omega) hS
              rw [← veq, hsst2, htst2] at q
              exact q
            have HTst2 : Hid (ofB (txR l3 f3).1 = st2 ∧ (txR l3 f3).2 = (l4, f4)) := ⟨hsst2, htst2⟩
            clear hsst2 htst2 vhk vhl veq
            go_wp2_with fail
            refine Calls.mono vC1.out ?_
            rintro e vw ⟨rfl, vb, vr⟩
            have vC3 : Hid _ := vC2.out vw vr
            clear vC1 vC2
            go_wp2_with fail
            refine Calls.mono vC3.out ?_
            rintro e w6 ⟨rfl, vb2, hrT⟩
            have hbT : But rb w5 w6 := vb.trans vb2
            clear vC3 vb vb2 vr
            have HA6 : Hid (AS W w6 rb nb S kk zm zu zg oo ⟨#[]⟩ A (.slice aa A.length cap5) l4 f4) := HA5.out.but' hbT hrT
            clear HA5 hbT hrT
            have hA255 : A.length ≤ 255 := by have := HLJ.out; omega
            have c5 := HA6.out.b.1 5 _ rfl
            have c6 := HA6.out.b.2 5
            go_wp2_with (at_builtin; refine wpList_append_src (w6.alloc (.cells #[.string st1, .string st2] 146)) rfl (.tmp 60) (.tmp 64) 22 rfl (nb + 1) 146 i1 _ 2 32 Try.underlying22 HJ0.out HJ1.out HJ2.out HJ3.out rfl (by decide) (.slice aa A.length cap5) A.length (flat A) rfl (HA6.out.row.alloc _) (some ⟨w6.heap.size, 0, none⟩) 1 1 (flat [⟨st1, st2⟩]) rfl rfl (.inr ⟨_, rfl, kv_new w6 st1 st2 _⟩) (flat_one _) (by unfold maxLen; omega) (by omega) (Nat.le_trans HA6.out.b.lt (by rw [World.size_alloc]; omega)) ?_)
            intro v7 w7 hown7 hgr7 ho7
            obtain ⟨a7, cap7, e7, _, _, _⟩ := owns_cells hown7
            subst e7
            have HA7 : Hid (AS W (w7.setCell ⟨nb, 5, none⟩ (.slice a7 (A.length + 1) cap7)) rb nb S kk zm zu zg oo ⟨#[]⟩ (A ++ [⟨st1, st2⟩]) (.slice a7 (A.length + 1) cap7) l4 f4) := HA6.out.app _ hgr7 ⟨st1, st2⟩ hown7
            have hq7 : some nb ≠ (Value.slice aa A.length cap5).ownBlock := row_neA HA6.out.row
            have hbx := (HA6.out.b.below ((Below.refl _ w6).alloc (Nat.le_refl _) (.cells #[.string st1, .string st2] 146))).grown hgr7 hq7
            have d5 := hbx.1 5 _ rfl
            have d6 := hbx.2 5
            have HAR2 : Hid (AR ca lc fc j2 (A ++ [⟨st1, st2⟩]) l4 f4) := HAR.out.next HTst1.out.1 HTst1.out.2 HTst2.out.1 HTst2.out.2
            clear hown7 hgr7 ho7 hbx hq7 HA6 c5 c6 HAR HTst1 HTst2
            go_wp2
            go_roundw
            case rel => exact ⟨j2, _, _, l4, f4, by omega, by go_num, by omega, by (have := HLJ.out; show _ ≤ _; simp; omega), HAR2.out, HA7.out⟩
            case measure => (simp [intOf]; try omega)
          · skip
            obtain ⟨sd, hssd⟩ : ∃ s, ofB (txR l2 true).1 = s := ⟨_, rfl⟩
            obtain ⟨⟨ld, fd⟩, htsd⟩ : ∃ p, (txR l2 true).2 = p := ⟨_, rfl⟩
            have hlsd := txR_len l2 true
            rw [htsd] at hlsd
            dsimp only at hlsd
            obtain ⟨uk, uhk⟩ : ∃ z, nuV (tkR 1 l2 true).1 = z := ⟨_, rfl⟩
            obtain ⟨⟨ul, uf⟩, uhl⟩ : ∃ p, (tkR 1 l2 true).2 = p := ⟨_, rfl⟩
            have ukb : uk ≤ 255 := by rw [← uhk]; exact nuV_one (tkR_len 1 l2 true).1
            have ueq := txR_eq uhk uhl
            have uC1 : Hid (Calls Try.prog 101 #[.pointer (some ⟨rb, 0, none⟩), .int .i64 1] wr fun e w' => e = .returned (.int .i64 uk) ∧ But rb wr w' ∧ SBL w' rb S ul uf) := by
              have q := snumber_any HA2.out.r 1 (by omega) hS
              rw [uhk, uhl] at q
              exact q
            have uC2 : Hid (∀ w5 : World, SBL w5 rb S ul uf → Calls Try.prog 102 #[.pointer (some ⟨rb, 0, none⟩), .int .i64 uk] w5 fun e w' => e = .returned (.string sd) ∧ But rb w5 w' ∧ SBL w' rb S ld fd) := fun w5 h5 => by
              have q := stext_any h5 uk (by omega) hS
              rw [← ueq, hssd, htsd] at q
              exact q
            have HTsd : Hid (ofB (txR l2 true).1 = sd ∧ (txR l2 true).2 = (ld, fd)) := ⟨hssd, htsd⟩
            clear hssd htsd uhk uhl ueq
            go_wp2_with fail
            refine Calls.mono uC1.out ?_
            rintro e uw ⟨rfl, ub, ur⟩
            have uC3 : Hid _ := uC2.out uw ur
            clear uC1 uC2
            go_wp2_with fail
            refine Calls.mono uC3.out ?_
            rintro e w5 ⟨rfl, ub2, hrT⟩
            have hbT : But rb wr w5 := ub.trans ub2
            clear uC3 ub ub2 ur
            have HA5 : Hid (AS W w5 rb nb S kk zm zu zg oo ⟨#[]⟩ A (.slice aa A.length cap5) ld fd) := HA2.out.but' hbT hrT
            clear HA2 hbT hrT s0 s1
            have y5 := HA5.out.b.1 6 _ rfl
            have y6 := HA5.out.b.2 6
            go_upto_region 19 with fail
            have HK1 : Hid (KY W (w5.setCell ⟨nb, 6, none⟩ (.string sd)) rb nb kk zm zu zg oo A (.slice aa A.length cap5) sd [] (.slice none 0 0) ld S fd) := HA5.out.kids sd
            clear HA5 y5 y6
            generalize w5.setCell ⟨nb, 6, none⟩ (.string sd) = w7 at HK1 ⊢
            obtain ⟨ck, hck⟩ : ∃ z, nuV (tkR 1 ld fd).1 = z := ⟨_, rfl⟩
            obtain ⟨⟨lq, fq⟩, hlq⟩ : ∃ p, (tkR 1 ld fd).2 = p := ⟨_, rfl⟩
            have hlql := (tkR_len 1 ld fd).2
            have hckb : ck ≤ 255 := by rw [← hck]; exact nuV_one (tkR_len 1 ld fd).1
            rw [hlq] at hlql
            dsimp only at hlql
            have HC : Hid (Calls Try.prog 101 #[.pointer (some ⟨rb, 0, none⟩), .int .i64 1] w7 fun e w' => e = .returned (.int .i64 ck) ∧ But rb w7 w' ∧ SBL w' rb S lq fq) := by
              have q := snumber_any HK1.out.r 1 (by omega) hS
              rw [hck, hlq] at q
              exact q
            have Hck : Hid (nuV (tkR 1 ld fd).1 = ck ∧ (tkR 1 ld fd).2 = (lq, fq)) := ⟨hck, hlq⟩
            clear hck hlq
            go_wp2_with fail
            refine Calls.mono HC.out ?_
            rintro e w8 ⟨rfl, hb, hr⟩
            have HK2 : Hid (KY W w8 rb nb kk zm zu zg oo A (.slice aa A.length cap5) sd [] (.slice none 0 0) lq S fq) := HK1.out.but' hb hr
            have HHD : Hid (HdS l f kb zm zu zg A sd ck lq fq) := ⟨lb, fb, lm, fm, lu, fu_, lg, fg, ca, lc, fc, l2, true, ld, fd, (j2 + 1), Hkb.out, Hzm.out, Hzu.out, Hzg.out, Hca.out, ⟨HAR.out, (.inr rfl)⟩, HTsd.out, Hck.out⟩
            obtain ⟨fu', hfu'⟩ : ∃ q, fu = q + 1 := ⟨fu - 1, by omega⟩
            subst hfu'
            have hck := (HHD.out.says fu').2.2
            have hlq : lq.length ≤ l.length := by omega
            clear HC HK1 hb hr Hkb Hzm Hzu Hzg Hca HAR HTsd Hck
            go_wp2
            go_loopw [9] (fun i wr => ∃ (j : Nat) (L : Khs) (vk : Value) (lk : List UInt8) (fk : Bool), j ≤ ck ∧ i = .int .i64 j ∧ lk.length ≤ lq.length ∧ Hid (L.length + j ≤ 255) ∧ Hid (KQ (rNd dR fu') ck lq fq (deep + 1) j (bare L) lk fk) ∧ Hid (KY W wr rb nb kk zm zu zg oo A (.slice aa A.length cap5) sd L vk lk S fk)) (fun i _ => (intOf i).toNat)
            case atStart => exact ⟨ck, [], _, lq, fq, Nat.le_refl _, rfl, Nat.le_refl _, by show _ ≤ _; simp; omega, KQ.start (by omega), HK2.out⟩
            case round =>
              obtain ⟨j4, L, vk, lk, fk, hj4, rfl, hlk, HLK, HKQ, HKI⟩ := hrel
              clear HK2
              obtain ⟨ak, cap6, e6, _, _, _⟩ := owns_cells HKI.out.row
              subst e6
              obtain ⟨s0, s1⟩ := HKI.out.r.cells
              by_cases hj5 : j4 = 0
              · subst hj5
                obtain ⟨x0, x1, x2, x3, x4, x5, x6, x7⟩ := eightX HKI.out.x
                obtain ⟨b0, b1, b2, b3, b4, b5, b6, b7⟩ := eightX HKI.out.b
                have f0 := HKI.out.x.2 0
                have f1 := HKI.out.x.2 1
                have f2 := HKI.out.x.2 2
                have f3 := HKI.out.x.2 3
                have f4 := HKI.out.x.2 4
                have f5 := HKI.out.x.2 5
                have f6 := HKI.out.x.2 6
                have f7 := HKI.out.x.2 7
                go_wp2
                have HXF : Hid (BX ((((((((wr.setCell ⟨W.heap.size, 0, none⟩ (.int .i64 kk)).setCell ⟨W.heap.size, 1, none⟩ (.int .i64 zm)).setCell ⟨W.heap.size, 2, none⟩ (.int .i64 zu)).setCell ⟨W.heap.size, 3, none⟩ (.int .i64 zg)).setCell ⟨W.heap.size, 4, none⟩ (.bool oo)).setCell ⟨W.heap.size, 5, none⟩ (.slice aa A.length cap5)).setCell ⟨W.heap.size, 6, none⟩ (.string sd)).setCell ⟨W.heap.size, 7, none⟩ (.slice ak L.length cap6)) W.heap.size [.int .i64 kk, .int .i64 zm, .int .i64 zu, .int .i64 zg, .bool oo, .slice aa A.length cap5, .string sd, .slice ak L.length cap6]) := (((((((HKI.out.x.set 0 (by simp) _).set 1 (by simp) _).set 2 (by simp) _).set 3 (by simp) _).set 4 (by simp) _).set 5 (by simp) _).set 6 (by simp) _).set 7 (by simp) _
                have HBF : Hid (But W.heap.size wr ((((((((wr.setCell ⟨W.heap.size, 0, none⟩ (.int .i64 kk)).setCell ⟨W.heap.size, 1, none⟩ (.int .i64 zm)).setCell ⟨W.heap.size, 2, none⟩ (.int .i64 zu)).setCell ⟨W.heap.size, 3, none⟩ (.int .i64 zg)).setCell ⟨W.heap.size, 4, none⟩ (.bool oo)).setCell ⟨W.heap.size, 5, none⟩ (.slice aa A.length cap5)).setCell ⟨W.heap.size, 6, none⟩ (.string sd)).setCell ⟨W.heap.size, 7, none⟩ (.slice ak L.length cap6))) := ((((((((But.refl _ _).setCell _ _ _).setCell _ _ _).setCell _ _ _).setCell _ _ _).setCell _ _ _).setCell _ _ _).setCell _ _ _).setCell _ _ _
                generalize ((((((((wr.setCell ⟨W.heap.size, 0, none⟩ (.int .i64 kk)).setCell ⟨W.heap.size, 1, none⟩ (.int .i64 zm)).setCell ⟨W.heap.size, 2, none⟩ (.int .i64 zu)).setCell ⟨W.heap.size, 3, none⟩ (.int .i64 zg)).setCell ⟨W.heap.size, 4, none⟩ (.bool oo)).setCell ⟨W.heap.size, 5, none⟩ (.slice aa A.length cap5)).setCell ⟨W.heap.size, 6, none⟩ (.string sd)).setCell ⟨W.heap.size, 7, none⟩ (.slice ak L.length cap6)) = wF at HXF HBF ⊢
                have HRF : Hid (SBL wF rb S lk fk) := HKI.out.r.but HBF.out (by omega)
                have HNQ := NQ.of HHD.out HKQ.out (.inl rfl) (by omega) HKO.out
                have HNF := HKI.out.fin HBF.out
                have HBW := but_two HKI.out.but HBF.out
                obtain ⟨r0, r1, r2, r3, r4, r5, r6, r7⟩ := eightX HXF.out
                refine bodyPost_ret (v := ndV (.mk kk zm zu zg oo A sd (bare L)) ⟨aa, cap5, ak, cap6⟩) (by simp [results, Try.results66, go_sem, ndV, bare_len, r0, r1, r2, r3, r4, r5, r6, r7]) rfl ?_
                first | exact ⟨_, _, lk, fk, rfl, HRF.out, HBW, HNF, HNQ⟩ | exact ⟨_, _, rfl, lk, .inr ⟨HRF.out, HBW, HNF, HNQ⟩⟩
              · obtain ⟨j6, hj6⟩ : ∃ q, j4 = q + 1 := ⟨j4 - 1, by omega⟩
                subst hj6
                have hjq : decide ((0 : Int) < ((j6 + 1 : Nat) : Int)) = true := decide_eq_true (by omega)
                cases fk
                · have hp3 := tx_pos (l := lk) (f := false)
                  have hn3 := txR_nil (l := lk) (f := false) (fun e => by cases e)
                  have hpos := HHD.out.pos (HKQ.out.ok rfl).1
                  obtain ⟨nm, hsnm⟩ : ∃ s, ofB (txR lk false).1 = s := ⟨_, rfl⟩
                  obtain ⟨⟨l3, f3⟩, htnm⟩ : ∃ p, (txR lk false).2 = p := ⟨_, rfl⟩
                  have hlnm := txR_len lk false
                  rw [htnm] at hlnm
                  dsimp only at hlnm
                  obtain ⟨vk, vhk⟩ : ∃ z, nuV (tkR 1 lk false).1 = z := ⟨_, rfl⟩
                  obtain ⟨⟨vl, vf⟩, vhl⟩ : ∃ p, (tkR 1 lk false).2 = p := ⟨_, rfl⟩
                  have vkb : vk ≤ 255 := by rw [← vhk]; exact nuV_one (tkR_len 1 lk false).1
                  have veq := txR_eq vhk vhl
                  have vC1 : Hid (Calls Try.prog 101 #[.pointer (some ⟨rb, 0, none⟩), .int .i64 1] wr fun e w' => e = .returned (.int .i64 vk) ∧ But rb wr w' ∧ SBL w' rb S vl vf) := by
                    have q := snumber_any HKI.out.r 1 (by omega) hS
                    rw [vhk, vhl] at q
                    exact q
                  have vC2 : Hid (∀ w5 : World, SBL w5 rb S vl vf → Calls Try.prog 102 #[.pointer (some ⟨rb, 0, none⟩), .int .i64 vk] w5 fun e w' => e = .returned (.string nm) ∧ But rb w5 w' ∧ SBL w' rb S l3 f3) := fun w5 h5 => by
                    have q := stext_any h5 vk (by omega) hS
                    rw [← veq, hsnm, htnm] at q
                    exact q
                  have HTnm : Hid (ofB (txR lk false).1 = nm ∧ (txR lk false).2 = (l3, f3)) := ⟨hsnm, htnm⟩
                  clear hsnm htnm vhk vhl veq
                  go_wp2_with fail
                  refine Calls.mono vC1.out ?_
                  rintro e vw ⟨rfl, vb, vr⟩
                  have vC3 : Hid _ := vC2.out vw vr
                  clear vC1 vC2
                  go_wp2_with fail
                  refine Calls.mono vC3.out ?_
                  rintro e w9 ⟨rfl, vb2, hrT⟩
                  have hbT : But rb wr w9 := vb.trans vb2
                  clear vC3 vb vb2 vr
                  rw [HTnm.out.2] at hp3 hn3
                  dsimp only at hp3 hn3
                  have hmd : l.length < md := by
                    have := hmes
                    rw [hpos.1] at this
                    unfold mes at this
                    simp at this
                    omega
                  have hms : mes l3 f3 < md := by
                    unfold mes
                    cases hf3 : f3 with
                    | true => simp; omega
                    | false => have := (hp3 hf3).2; simp; omega
                  have hfu3 : l3.length < fu' := by
                    cases hf3 : f3 with
                    | true => rw [hn3 hf3]; simp; omega
                    | false => have := (hp3 hf3).2; omega
                  have HK5 : Hid (KY W w9 rb nb kk zm zu zg oo A (.slice aa A.length cap5) sd L (.slice ak L.length cap6) l3 S f3) := HKI.out.but' hbT hrT
                  have eD : ((deep + 1 : Nat) : Int) = (deep : Int) + 1 := by omega
                  have HCN : Hid (Calls Try.prog 66 #[.pointer (some ⟨rb, 0, none⟩), .int .i64 ((deep : Int) + 1)] w9 fun e w' => ∃ k5 m5 u5 g5 o5 at5 d5 ks5 hx l' f', e = .returned (.agg #[.int .i64 k5, .int .i64 m5, .int .i64 u5, .int .i64 g5, .bool o5, .slice hx.aa at5.length hx.ca, .string d5, .slice hx.ak ks5.length hx.ck]) ∧ SBL w' rb S l' f' ∧ But rb w9 w' ∧ NdV (newM w9.heap.size w') (.mk k5 m5 u5 g5 o5 at5 d5 ks5) hx ∧ NQ fu' l3 f3 (deep + 1) (.mk k5 m5 u5 g5 o5 at5 d5 ks5) l' f') := by
                    rw [← eD]
                    refine Calls.mono (HIH.out w9 l3 f3 (deep + 1) hms HK5.out.r (by omega) fu' hfu3) ?_
                    rintro e w' ⟨⟨k5, m5, u5, g5, o5, at5, d5, ks5⟩, hx, l', f', e1, e2, e3, e4, e5⟩
                    exact ⟨k5, m5, u5, g5, o5, at5, d5, ks5, hx, l', f', e1, e2, e3, e4, e5⟩
                  have HSZ : Hid (W.heap.size < w9.heap.size ∧ nb < w9.heap.size ∧ ∀ s, (Value.slice ak L.length cap6).ownBlock = some s → s < w9.heap.size) := ⟨by have := HK5.out.b.lt; omega, HK5.out.b.lt, fun s e => (HK5.out.row.lt s e).2⟩
                  clear HKI hbT hrT s0 s1 hms hfu3 hmd hpos hp3 hn3 eD
                  have hLL : L.length ≤ 255 := by have := HLK.out; omega
                  go_wp2_with fail
                  refine Calls.mono HCN.out ?_
                  rintro e w10 ⟨k5, m5, u5, g5, o5, at5, d5, ks5, hx, l4, f4, rfl, hr6, hb6, hN6, hNQ6⟩
                  have hal : Below w10.heap.size w10 (w10.alloc (.cells #[.int .i64 k5, .int .i64 m5, .int .i64 u5, .int .i64 g5, .bool o5, .slice hx.aa at5.length hx.ca, .string d5, .slice hx.ak ks5.length hx.ck] 25)) := (Below.refl _ _).alloc (Nat.le_refl _) _
                  have hK6 := HK5.out.but' hb6 hr6
                  have HK7 : Hid (KY W (w10.alloc (.cells #[.int .i64 k5, .int .i64 m5, .int .i64 u5, .int .i64 g5, .bool o5, .slice hx.aa at5.length hx.ca, .string d5, .slice hx.ak ks5.length hx.ck] 25)) rb nb kk zm zu zg oo A (.slice aa A.length cap5) sd L (.slice ak L.length cap6) l4 S f4) := hK6.but' (But.of_below hal) (hr6.below hal)
                  have HN7 : Hid (NdV (newM w9.heap.size (w10.alloc (.cells #[.int .i64 k5, .int .i64 m5, .int .i64 u5, .int .i64 g5, .bool o5, .slice hx.aa at5.length hx.ca, .string d5, .slice hx.ak ks5.length hx.ck] 25))) (.mk k5 m5 u5 g5 o5 at5 d5 ks5) hx) := hN6.on (mle_S hal)
                  have HNQ6 : Hid (NQ fu' l3 f3 (deep + 1) (.mk k5 m5 u5 g5 o5 at5 d5 ks5) l4 f4) := hNQ6
                  have HZ7 : Hid (BX (w10.alloc (.cells #[.int .i64 k5, .int .i64 m5, .int .i64 u5, .int .i64 g5, .bool o5, .slice hx.aa at5.length hx.ca, .string d5, .slice hx.ak ks5.length hx.ck] 25)) w10.heap.size [.int .i64 k5, .int .i64 m5, .int .i64 u5, .int .i64 g5, .bool o5, .slice hx.aa at5.length hx.ca, .string d5, .slice hx.ak ks5.length hx.ck]) := BX.new w10 _ _
                  clear HCN HK5 hr6 hb6 hN6 hNQ6 hK6 hal
                  go_upto_region 24 with fail
                  generalize w10.alloc (.cells #[.int .i64 k5, .int .i64 m5, .int .i64 u5, .int .i64 g5, .bool o5, .slice hx.aa at5.length hx.ca, .string d5, .slice hx.ak ks5.length hx.ck] 25) = w11 at HK7 HN7 HZ7 ⊢
                  generalize w10.heap.size = zb at HZ7 ⊢
                  have c5 := HK7.out.b.1 7 _ rfl
                  have c6 := HK7.out.b.2 7
                  obtain ⟨z0, z1, z2, z3, z4, z5, z6, z7⟩ := eightX HZ7.out
                  go_wp2_with (at_builtin; refine wpList_append_src (w11.alloc (.cells #[.string nm, .int .i64 k5, .int .i64 m5, .int .i64 u5, .int .i64 g5, .bool o5, .slice hx.aa at5.length hx.ca, .string d5, .slice hx.ak ks5.length hx.ck] 102)) rfl (.tmp 94) (.tmp 98) 23 rfl (nb + 1) 102 i2 zK 9 120 Try.underlying23 HG0.out HG1.out HG2.out HG3.out rfl (by decide) (.slice ak L.length cap6) L.length (kfl L) rfl (HK7.out.row.alloc _) (some ⟨w11.heap.size, 0, none⟩) 1 1 (kfl [(nm, (.mk k5 m5 u5 g5 o5 at5 d5 ks5), hx)]) rfl rfl (.inr ⟨_, rfl, kid_newA w11 nm (.mk k5 m5 u5 g5 o5 at5 d5 ks5) hx _⟩) (kfl_one _) (by unfold maxLen; omega) (by omega) (Nat.le_trans HK7.out.b.lt (by rw [World.size_alloc]; omega)) ?_)
                  intro v12 w12 hown7 hgr7 ho7
                  obtain ⟨a7, cap7, e7, _, _, _⟩ := owns_cells hown7
                  subst e7
                  have HK8 : Hid (KY W (w12.setCell ⟨nb, 7, none⟩ (.slice a7 (L.length + 1) cap7)) rb nb kk zm zu zg oo A (.slice aa A.length cap5) sd (L ++ [(nm, (.mk k5 m5 u5 g5 o5 at5 d5 ks5), hx)]) (.slice a7 (L.length + 1) cap7) l4 S f4) := HK7.out.app _ hgr7 (nm, (.mk k5 m5 u5 g5 o5 at5 d5 ks5), hx) HN7.out HSZ.out.1 HSZ.out.2.1 HSZ.out.2.2 hown7 (by first | exact ho7 | (rw [World.size_alloc] at ho7; exact ho7))
                  have hq7 : some nb ≠ (Value.slice ak L.length cap6).ownBlock := row_neA HK7.out.row
                  have hbx := (HK7.out.b.below ((Below.refl _ w11).alloc (Nat.le_refl _) (.cells #[.string nm, .int .i64 k5, .int .i64 m5, .int .i64 u5, .int .i64 g5, .bool o5, .slice hx.aa at5.length hx.ca, .string d5, .slice hx.ak ks5.length hx.ck] 102))).grown hgr7 hq7
                  have d5' := hbx.1 7 _ rfl
                  have d6' := hbx.2 7
                  have HKQ2 : Hid (KQ (rNd dR fu') ck lq fq (deep + 1) j6 (bare (L ++ [(nm, (.mk k5 m5 u5 g5 o5 at5 d5 ks5), hx)])) l4 f4) := by
                    have q := HKQ.out.next HTnm.out.1 HTnm.out.2 (fun e => HNQ6.out.ok e) (fun e e' => HNQ6.out.bad e e')
                    have eb : bare (L ++ [(nm, (.mk k5 m5 u5 g5 o5 at5 d5 ks5), hx)]) = bare L ++ [(nm, (.mk k5 m5 u5 g5 o5 at5 d5 ks5))] := by simp [bare]
                    show KQ _ _ _ _ _ _ _ _ _
                    rw [eb]
                    exact q
                  have hl4 := HNQ6.out.len
                  clear hown7 hgr7 ho7 hbx hq7 HK7 c5 c6 z0 z1 z2 z3 z4 z5 z6 z7 HZ7 HN7 HNQ6 HSZ HKQ HTnm
                  go_wp2
                  go_roundw
                  case rel => exact ⟨j6, _, _, l4, f4, by omega, by go_num, by omega, by (have := HLK.out; show _ ≤ _; simp; omega), HKQ2.out, HK8.out⟩
                  case measure => (simp [intOf]; try omega)
                · skip
                  obtain ⟨x0, x1, x2, x3, x4, x5, x6, x7⟩ := eightX HKI.out.x
                  obtain ⟨b0, b1, b2, b3, b4, b5, b6, b7⟩ := eightX HKI.out.b
                  have f0 := HKI.out.x.2 0
                  have f1 := HKI.out.x.2 1
                  have f2 := HKI.out.x.2 2
                  have f3 := HKI.out.x.2 3
                  have f4 := HKI.out.x.2 4
                  have f5 := HKI.out.x.2 5
                  have f6 := HKI.out.x.2 6
                  have f7 := HKI.out.x.2 7
                  go_wp2
                  have HXF : Hid (BX ((((((((wr.setCell ⟨W.heap.size, 0, none⟩ (.int .i64 kk)).setCell ⟨W.heap.size, 1, none⟩ (.int .i64 zm)).setCell ⟨W.heap.size, 2, none⟩ (.int .i64 zu)).setCell ⟨W.heap.size, 3, none⟩ (.int .i64 zg)).setCell ⟨W.heap.size, 4, none⟩ (.bool oo)).setCell ⟨W.heap.size, 5, none⟩ (.slice aa A.length cap5)).setCell ⟨W.heap.size, 6, none⟩ (.string sd)).setCell ⟨W.heap.size, 7, none⟩ (.slice ak L.length cap6)) W.heap.size [.int .i64 kk, .int .i64 zm, .int .i64 zu, .int .i64 zg, .bool oo, .slice aa A.length cap5, .string sd, .slice ak L.length cap6]) := (((((((HKI.out.x.set 0 (by simp) _).set 1 (by simp) _).set 2 (by simp) _).set 3 (by simp) _).set 4 (by simp) _).set 5 (by simp) _).set 6 (by simp) _).set 7 (by simp) _
                  have HBF : Hid (But W.heap.size wr ((((((((wr.setCell ⟨W.heap.size, 0, none⟩ (.int .i64 kk)).setCell ⟨W.heap.size, 1, none⟩ (.int .i64 zm)).setCell ⟨W.heap.size, 2, none⟩ (.int .i64 zu)).setCell ⟨W.heap.size, 3, none⟩ (.int .i64 zg)).setCell ⟨W.heap.size, 4, none⟩ (.bool oo)).setCell ⟨W.heap.size, 5, none⟩ (.slice aa A.length cap5)).setCell ⟨W.heap.size, 6, none⟩ (.string sd)).setCell ⟨W.heap.size, 7, none⟩ (.slice ak L.length cap6))) := ((((((((But.refl _ _).setCell _ _ _).setCell _ _ _).setCell _ _ _).setCell _ _ _).setCell _ _ _).setCell _ _ _).setCell _ _ _).setCell _ _ _
                  generalize ((((((((wr.setCell ⟨W.heap.size, 0, none⟩ (.int .i64 kk)).setCell ⟨W.heap.size, 1, none⟩ (.int .i64 zm)).setCell ⟨W.heap.size, 2, none⟩ (.int .i64 zu)).setCell ⟨W.heap.size, 3, none⟩ (.int .i64 zg)).setCell ⟨W.heap.size, 4, none⟩ (.bool oo)).setCell ⟨W.heap.size, 5, none⟩ (.slice aa A.length cap5)).setCell ⟨W.heap.size, 6, none⟩ (.string sd)).setCell ⟨W.heap.size, 7, none⟩ (.slice ak L.length cap6)) = wF at HXF HBF ⊢
                  have HRF : Hid (SBL wF rb S lk true) := HKI.out.r.but HBF.out (by omega)
                  have HNQ := NQ.of HHD.out HKQ.out (.inr rfl) (by omega) HKO.out
                  have HNF := HKI.out.fin HBF.out
                  have HBW := but_two HKI.out.but HBF.out
                  obtain ⟨r0, r1, r2, r3, r4, r5, r6, r7⟩ := eightX HXF.out
                  refine bodyPost_ret (v := ndV (.mk kk zm zu zg oo A sd (bare L)) ⟨aa, cap5, ak, cap6⟩) (by simp [results, Try.results66, go_sem, ndV, bare_len, r0, r1, r2, r3, r4, r5, r6, r7]) rfl ?_
                  first | exact ⟨_, _, lk, true, rfl, HRF.out, HBW, HNF, HNQ⟩ | exact ⟨_, _, rfl, lk, .inr ⟨HRF.out, HBW, HNF, HNQ⟩⟩
    · have bk : decide ((8 : Int) ≤ (kb : Int)) = false := decide_eq_false (by omega)
      go_upto_region 9 with fail
      obtain ⟨kk, hkk⟩ : ∃ z, (kb : Int) = z := ⟨_, rfl⟩
      obtain ⟨oo, hoo⟩ : ∃ z, false = z := ⟨_, rfl⟩
      have HKO : Hid ((dR kb).1 = kk ∧ (dR kb).2 = oo) := by
        show _ ∧ _
        unfold dR
        rw [if_neg hk8]
        exact ⟨hkk, hoo⟩
      have HNK : Hid (BX wD nb [.int .i64 kk, .int .i64 0, .int .i64 0, .int .i64 0, .bool oo, .slice none 0 0, .string ⟨#[]⟩, .slice none 0 0]) := by rw [← hkk, ← hoo]; exact HND.out
      have HRK : Hid (SBL wD rb S lb fb) := HRD.out
      have HXK : Hid (BX wD W.heap.size [.int .i64 0, .int .i64 0, .int .i64 0, .int .i64 0, .bool false, .slice none 0 0, .string ⟨#[]⟩, .slice none 0 0]) := HXD.out
      have HBK : Hid (But rb W wD) := HBD.out
      clear HRD HXD HND HBD p0 p1 p4 p5 hkk hoo bk hk8
      generalize wD = wK at HRK HXK HNK HBK ⊢
      obtain ⟨zm, hzm⟩ : ∃ z, nuV (tkR 2 lb fb).1 = z := ⟨_, rfl⟩
      obtain ⟨⟨lm, fm⟩, hlm⟩ : ∃ p, (tkR 2 lb fb).2 = p := ⟨_, rfl⟩
      have hlml := (tkR_len 2 lb fb).2
      have hzmb : zm ≤ 65535 := by rw [← hzm]; exact nuV_two (tkR_len 2 lb fb).1
      rw [hlm] at hlml
      dsimp only at hlml
      have HC : Hid (Calls Try.prog 101 #[.pointer (some ⟨rb, 0, none⟩), .int .i64 2] wK fun e w' => e = .returned (.int .i64 zm) ∧ But rb wK w' ∧ SBL w' rb S lm fm) := by
        have q := snumber_any HRK.out 2 (by omega) hS
        rw [hzm, hlm] at q
        exact q
      have Hzm : Hid (nuV (tkR 2 lb fb).1 = zm ∧ (tkR 2 lb fb).2 = (lm, fm)) := ⟨hzm, hlm⟩
      clear hzm hlm
      go_wp2_with fail
      refine Calls.mono HC.out ?_
      rintro e wE ⟨rfl, hb, hr⟩
      have HXzm : Hid (BX wE W.heap.size [.int .i64 0, .int .i64 0, .int .i64 0, .int .i64 0, .bool false, .slice none 0 0, .string ⟨#[]⟩, .slice none 0 0]) := HXK.out.but hb (by omega)
      have HNzm : Hid (BX wE nb [.int .i64 kk, .int .i64 0, .int .i64 0, .int .i64 0, .bool oo, .slice none 0 0, .string ⟨#[]⟩, .slice none 0 0]) := HNK.out.but hb (by omega)
      have HBzm : Hid (But rb W wE) := HBK.out.trans hb
      have HRzm : Hid (SBL wE rb S lm fm) := hr
      clear HC HRK HXK HNK HBK hb hr
      have p0 := HNzm.out.1 1 _ rfl
      have p1 := HNzm.out.2 1
      go_upto_region 10 with fail
      have HRzms : Hid (SBL (wE.setCell ⟨nb, 1, none⟩ (.int .i64 zm)) rb S lm fm) := HRzm.out.other (by omega) _
      have HXzms : Hid (BX (wE.setCell ⟨nb, 1, none⟩ (.int .i64 zm)) W.heap.size [.int .i64 0, .int .i64 0, .int .i64 0, .int .i64 0, .bool false, .slice none 0 0, .string ⟨#[]⟩, .slice none 0 0]) := HXzm.out.other (by omega) _
      have HNzms : Hid (BX (wE.setCell ⟨nb, 1, none⟩ (.int .i64 zm)) nb [.int .i64 kk, .int .i64 zm, .int .i64 0, .int .i64 0, .bool oo, .slice none 0 0, .string ⟨#[]⟩, .slice none 0 0]) := HNzm.out.set 1 (by simp) _
      have HBzms : Hid (But rb W (wE.setCell ⟨nb, 1, none⟩ (.int .i64 zm))) := but_new HBzm.out hnb _ _
      clear p0 p1 HRzm HXzm HNzm HBzm
      generalize wE.setCell ⟨nb, 1, none⟩ (.int .i64 zm) = wEs at HRzms HXzms HNzms HBzms ⊢
      obtain ⟨zu, hzu⟩ : ∃ z, nuV (tkR 2 lm fm).1 = z := ⟨_, rfl⟩
      obtain ⟨⟨lu, fu_⟩, hlu⟩ : ∃ p, (tkR 2 lm fm).2 = p := ⟨_, rfl⟩
      have hlul := (tkR_len 2 lm fm).2
      have hzub : zu ≤ 65535 := by rw [← hzu]; exact nuV_two (tkR_len 2 lm fm).1
      rw [hlu] at hlul
      dsimp only at hlul
      have HC : Hid (Calls Try.prog 101 #[.pointer (some ⟨rb, 0, none⟩), .int .i64 2] wEs fun e w' => e = .returned (.int .i64 zu) ∧ But rb wEs w' ∧ SBL w' rb S lu fu_) := by
        have q := snumber_any HRzms.out 2 (by omega) hS
        rw [hzu, hlu] at q
        exact q
      have Hzu : Hid (nuV (tkR 2 lm fm).1 = zu ∧ (tkR 2 lm fm).2 = (lu, fu_)) := ⟨hzu, hlu⟩
      clear hzu hlu
      go_wp2_with fail
      refine Calls.mono HC.out ?_
      rintro e wG ⟨rfl, hb, hr⟩
      have HXzu : Hid (BX wG W.heap.size [.int .i64 0, .int .i64 0, .int .i64 0, .int .i64 0, .bool false, .slice none 0 0, .string ⟨#[]⟩, .slice none 0 0]) := HXzms.out.but hb (by omega)
      have HNzu : Hid (BX wG nb [.int .i64 kk, .int .i64 zm, .int .i64 0, .int .i64 0, .bool oo, .slice none 0 0, .string ⟨#[]⟩, .slice none 0 0]) := HNzms.out.but hb (by omega)
      have HBzu : Hid (But rb W wG) := HBzms.out.trans hb
      have HRzu : Hid (SBL wG rb S lu fu_) := hr
      clear HC HRzms HXzms HNzms HBzms hb hr
      have p0 := HNzu.out.1 2 _ rfl
      have p1 := HNzu.out.2 2
      go_upto_region 11 with fail
      have HRzus : Hid (SBL (wG.setCell ⟨nb, 2, none⟩ (.int .i64 zu)) rb S lu fu_) := HRzu.out.other (by omega) _
      have HXzus : Hid (BX (wG.setCell ⟨nb, 2, none⟩ (.int .i64 zu)) W.heap.size [.int .i64 0, .int .i64 0, .int .i64 0, .int .i64 0, .bool false, .slice none 0 0, .string ⟨#[]⟩, .slice none 0 0]) := HXzu.out.other (by omega) _
      have HNzus : Hid (BX (wG.setCell ⟨nb, 2, none⟩ (.int .i64 zu)) nb [.int .i64 kk, .int .i64 zm, .int .i64 zu, .int .i64 0, .bool oo, .slice none 0 0, .string ⟨#[]⟩, .slice none 0 0]) := HNzu.out.set 2 (by simp) _
      have HBzus : Hid (But rb W (wG.setCell ⟨nb, 2, none⟩ (.int .i64 zu))) := but_new HBzu.out hnb _ _
      clear p0 p1 HRzu HXzu HNzu HBzu
      generalize wG.setCell ⟨nb, 2, none⟩ (.int .i64 zu) = wGs at HRzus HXzus HNzus HBzus ⊢
      obtain ⟨zg, hzg⟩ : ∃ z, nuV (tkR 2 lu fu_).1 = z := ⟨_, rfl⟩
      obtain ⟨⟨lg, fg⟩, hlg⟩ : ∃ p, (tkR 2 lu fu_).2 = p := ⟨_, rfl⟩
      have hlgl := (tkR_len 2 lu fu_).2
      have hzgb : zg ≤ 65535 := by rw [← hzg]; exact nuV_two (tkR_len 2 lu fu_).1
      rw [hlg] at hlgl
      dsimp only at hlgl
      have HC : Hid (Calls Try.prog 101 #[.pointer (some ⟨rb, 0, none⟩), .int .i64 2] wGs fun e w' => e = .returned (.int .i64 zg) ∧ But rb wGs w' ∧ SBL w' rb S lg fg) := by
        have q := snumber_any HRzus.out 2 (by omega) hS
        rw [hzg, hlg] at q
        exact q
      have Hzg : Hid (nuV (tkR 2 lu fu_).1 = zg ∧ (tkR 2 lu fu_).2 = (lg, fg)) := ⟨hzg, hlg⟩
      clear hzg hlg
      go_wp2_with fail
      refine Calls.mono HC.out ?_
      rintro e wH ⟨rfl, hb, hr⟩
      have HXzg : Hid (BX wH W.heap.size [.int .i64 0, .int .i64 0, .int .i64 0, .int .i64 0, .bool false, .slice none 0 0, .string ⟨#[]⟩, .slice none 0 0]) := HXzus.out.but hb (by omega)
      have HNzg : Hid (BX wH nb [.int .i64 kk, .int .i64 zm, .int .i64 zu, .int .i64 0, .bool oo, .slice none 0 0, .string ⟨#[]⟩, .slice none 0 0]) := HNzus.out.but hb (by omega)
      have HBzg : Hid (But rb W wH) := HBzus.out.trans hb
      have HRzg : Hid (SBL wH rb S lg fg) := hr
      clear HC HRzus HXzus HNzus HBzus hb hr
      have p0 := HNzg.out.1 3 _ rfl
      have p1 := HNzg.out.2 3
      go_upto_region 12 with fail
      have HRzgs : Hid (SBL (wH.setCell ⟨nb, 3, none⟩ (.int .i64 zg)) rb S lg fg) := HRzg.out.other (by omega) _
      have HXzgs : Hid (BX (wH.setCell ⟨nb, 3, none⟩ (.int .i64 zg)) W.heap.size [.int .i64 0, .int .i64 0, .int .i64 0, .int .i64 0, .bool false, .slice none 0 0, .string ⟨#[]⟩, .slice none 0 0]) := HXzg.out.other (by omega) _
      have HNzgs : Hid (BX (wH.setCell ⟨nb, 3, none⟩ (.int .i64 zg)) nb [.int .i64 kk, .int .i64 zm, .int .i64 zu, .int .i64 zg, .bool oo, .slice none 0 0, .string ⟨#[]⟩, .slice none 0 0]) := HNzg.out.set 3 (by simp) _
      have HBzgs : Hid (But rb W (wH.setCell ⟨nb, 3, none⟩ (.int .i64 zg))) := but_new HBzg.out hnb _ _
      clear p0 p1 HRzg HXzg HNzg HBzg
      generalize wH.setCell ⟨nb, 3, none⟩ (.int .i64 zg) = wHs at HRzgs HXzgs HNzgs HBzgs ⊢
      obtain ⟨ca, hca⟩ : ∃ z, nuV (tkR 1 lg fg).1 = z := ⟨_, rfl⟩
      obtain ⟨⟨lc, fc⟩, hlc⟩ : ∃ p, (tkR 1 lg fg).2 = p := ⟨_, rfl⟩
      have hlcl := (tkR_len 1 lg fg).2
      have hcab : ca ≤ 255 := by rw [← hca]; exact nuV_one (tkR_len 1 lg fg).1
      rw [hlc] at hlcl
      dsimp only at hlcl
      have HC : Hid (Calls Try.prog 101 #[.pointer (some ⟨rb, 0, none⟩), .int .i64 1] wHs fun e w' => e = .returned (.int .i64 ca) ∧ But rb wHs w' ∧ SBL w' rb S lc fc) := by
        have q := snumber_any HRzgs.out 1 (by omega) hS
        rw [hca, hlc] at q
        exact q
      have Hca : Hid (nuV (tkR 1 lg fg).1 = ca ∧ (tkR 1 lg fg).2 = (lc, fc)) := ⟨hca, hlc⟩
      clear hca hlc
      go_wp2_with fail
      refine Calls.mono HC.out ?_
      rintro e wJ ⟨rfl, hb, hr⟩
      have HAS : Hid (AS W wJ rb nb S kk zm zu zg oo ⟨#[]⟩ [] (.slice none 0 0) lc fc) := ⟨hr, HXzgs.out.but hb (by omega), HNzgs.out.but hb (by omega), World.ownsRow_nil _ _ _ _, HBzgs.out.trans hb, hnb, hrb⟩
      clear HC HRzgs HXzgs HNzgs HBzgs hb hr
      go_wp2
      go_loopw [6] (fun i wr => ∃ (j : Nat) (A : List Kv) (va : Value) (l2 : List UInt8) (f2 : Bool), j ≤ ca ∧ i = .int .i64 j ∧ l2.length ≤ lc.length ∧ Hid (A.length + j ≤ 255) ∧ Hid (AR ca lc fc j A l2 f2) ∧ Hid (AS W wr rb nb S kk zm zu zg oo ⟨#[]⟩ A va l2 f2)) (fun i _ => (intOf i).toNat)
      case atStart => exact ⟨ca, [], _, lc, fc, Nat.le_refl _, rfl, Nat.le_refl _, by show _ ≤ _; simp; omega, AR.start, HAS.out⟩
      case round =>
        obtain ⟨j, A, va, l2, f2, hj, rfl, hl2, HLJ, HAR, HA2⟩ := hrel
        clear HAS
        obtain ⟨s0, s1⟩ := HA2.out.r.cells
        obtain ⟨aa, cap5, e5, hcp1, hcp2, _⟩ := owns_cells HA2.out.row
        subst e5
        by_cases hj0 : j = 0
        · subst hj0
          obtain ⟨sd, hssd⟩ : ∃ s, ofB (txR l2 f2).1 = s := ⟨_, rfl⟩
          obtain ⟨⟨ld, fd⟩, htsd⟩ : ∃ p, (txR l2 f2).2 = p := ⟨_, rfl⟩
          have hlsd := txR_len l2 f2
          rw [htsd] at hlsd
          dsimp only at hlsd
          obtain ⟨uk, uhk⟩ : ∃ z, nuV (tkR 1 l2 f2).1 = z := ⟨_, rfl⟩
          obtain ⟨⟨ul, uf⟩, uhl⟩ : ∃ p, (tkR 1 l2 f2).2 = p := ⟨_, rfl⟩
          have ukb : uk ≤ 255 := by rw [← uhk]; exact nuV_one (tkR_len 1 l2 f2).1
          have ueq := txR_eq uhk uhl
          have uC1 : Hid (Calls Try.prog 101 #[.pointer (some ⟨rb, 0, none⟩), .int .i64 1] wr fun e w' => e = .returned (.int .i64 uk) ∧ But rb wr w' ∧ SBL w' rb S ul uf) := by
            have q := snumber_any HA2.out.r 1 (by omega) hS
            rw [uhk, uhl] at q
            exact q
          have uC2 : Hid (∀ w5 : World, SBL w5 rb S ul uf → Calls Try.prog 102 #[.pointer (some ⟨rb, 0, none⟩), .int .i64 uk] w5 fun e w' => e = .returned (.string sd) ∧ But rb w5 w' ∧ SBL w' rb S ld fd) := fun w5 h5 => by
            have q := stext_any h5 uk (by omega) hS
            rw [← ueq, hssd, htsd] at q
            exact q
          have HTsd : Hid (ofB (txR l2 f2).1 = sd ∧ (txR l2 f2).2 = (ld, fd)) := ⟨hssd, htsd⟩
          clear hssd htsd uhk uhl ueq
          go_wp2_with fail
          refine Calls.mono uC1.out ?_
          rintro e uw ⟨rfl, ub, ur⟩
          have uC3 : Hid _ := uC2.out uw ur
          clear uC1 uC2
          go_wp2_with fail
          refine Calls.mono uC3.out ?_
          rintro e w5 ⟨rfl, ub2, hrT⟩
          have hbT : But rb wr w5 := ub.trans ub2
          clear uC3 ub ub2 ur
          have HA5 : Hid (AS W w5 rb nb S kk zm zu zg oo ⟨#[]⟩ A (.slice aa A.length cap5) ld fd) := HA2.out.but' hbT hrT
          clear HA2 hbT hrT s0 s1
          have y5 := HA5.out.b.1 6 _ rfl
          have y6 := HA5.out.b.2 6
          go_upto_region 19 with fail
          have HK1 : Hid (KY W (w5.setCell ⟨nb, 6, none⟩ (.string sd)) rb nb kk zm zu zg oo A (.slice aa A.length cap5) sd [] (.slice none 0 0) ld S fd) := HA5.out.kids sd
          clear HA5 y5 y6
          generalize w5.setCell ⟨nb, 6, none⟩ (.string sd) = w7 at HK1 ⊢
          obtain ⟨ck, hck⟩ : ∃ z, nuV (tkR 1 ld fd).1 = z := ⟨_, rfl⟩
          obtain ⟨⟨lq, fq⟩, hlq⟩ : ∃ p, (tkR 1 ld fd).2 = p := ⟨_, rfl⟩
          have hlql := (tkR_len 1 ld fd).2
          have hckb : ck ≤ 255 := by rw [← hck]; exact nuV_one (tkR_len 1 ld fd).1
          rw [hlq] at hlql
          dsimp only at hlql
          have HC : Hid (Calls Try.prog 101 #[.pointer (some ⟨rb, 0, none⟩), .int .i64 1] w7 fun e w' => e = .returned (.int .i64 ck) ∧ But rb w7 w' ∧ SBL w' rb S lq fq) := by
            have q := snumber_any HK1.out.r 1 (by omega) hS
            rw [hck, hlq] at q
            exact q
          have Hck : Hid (nuV (tkR 1 ld fd).1 = ck ∧ (tkR 1 ld fd).2 = (lq, fq)) := ⟨hck, hlq⟩
          clear hck hlq
          go_wp2_with fail
          refine Calls.mono HC.out ?_
          rintro e w8 ⟨rfl, hb, hr⟩
          have HK2 : Hid (KY W w8 rb nb kk zm zu zg oo A (.slice aa A.length cap5) sd [] (.slice none 0 0) lq S fq) := HK1.out.but' hb hr
          have HHD : Hid (HdS l f kb zm zu zg A sd ck lq fq) := ⟨lb, fb, lm, fm, lu, fu_, lg, fg, ca, lc, fc, l2, f2, ld, fd, 0, Hkb.out, Hzm.out, Hzu.out, Hzg.out, Hca.out, ⟨HAR.out, (.inl rfl)⟩, HTsd.out, Hck.out⟩
          obtain ⟨fu', hfu'⟩ : ∃ q, fu = q + 1 := ⟨fu - 1, by omega⟩
          subst hfu'
          have hck := (HHD.out.says fu').2.2
          have hlq : lq.length ≤ l.length := by omega
          clear HC HK1 hb hr Hkb Hzm Hzu Hzg Hca HAR HTsd Hck
          go_wp2
          go_loopw [9] (fun i wr => ∃ (j : Nat) (L : Khs) (vk : Value) (lk : List UInt8) (fk : Bool), j ≤ ck ∧ i = .int .i64 j ∧ lk.length ≤ lq.length ∧ Hid (L.length + j ≤ 255) ∧ Hid (KQ (rNd dR fu') ck lq fq (deep + 1) j (bare L) lk fk) ∧ Hid (KY W wr rb nb kk zm zu zg oo A (.slice aa A.length cap5) sd L vk lk S fk)) (fun i _ => (intOf i).toNat)
          case atStart => exact ⟨ck, [], _, lq, fq, Nat.le_refl _, rfl, Nat.le_refl _, by show _ ≤ _; simp; omega, KQ.start (by omega), HK2.out⟩
          case round =>
            obtain ⟨j4, L, vk, lk, fk, hj4, rfl, hlk, HLK, HKQ, HKI⟩ := hrel
            clear HK2
            obtain ⟨ak, cap6, e6, _, _, _⟩ := owns_cells HKI.out.row
            subst e6
            obtain ⟨s0, s1⟩ := HKI.out.r.cells
            by_cases hj5 : j4 = 0
            · subst hj5
              obtain ⟨x0, x1, x2, x3, x4, x5, x6, x7⟩ := eightX HKI.out.x
              obtain ⟨b0, b1, b2, b3, b4, b5, b6, b7⟩ := eightX HKI.out.b
              have f0 := HKI.out.x.2 0
              have f1 := HKI.out.x.2 1
              have f2 := HKI.out.x.2 2
              have f3 := HKI.out.x.2 3
              have f4 := HKI.out.x.2 4
              have f5 := HKI.out.x.2 5
              have f6 := HKI.out.x.2 6
              have f7 := HKI.out.x.2 7
              go_wp2
              have HXF : Hid (BX ((((((((wr.setCell ⟨W.heap.size, 0, none⟩ (.int .i64 kk)).setCell ⟨W.heap.size, 1, none⟩ (.int .i64 zm)).setCell ⟨W.heap.size, 2, none⟩ (.int .i64 zu)).setCell ⟨W.heap.size, 3, none⟩ (.int .i64 zg)).setCell ⟨W.heap.size, 4, none⟩ (.bool oo)).setCell ⟨W.heap.size, 5, none⟩ (.slice aa A.length cap5)).setCell ⟨W.heap.size, 6, none⟩ (.string sd)).setCell ⟨W.heap.size, 7, none⟩ (.slice ak L.length cap6)) W.heap.size [.int .i64 kk, .int .i64 zm, .int .i64 zu, .int .i64 zg, .bool oo, .slice aa A.length cap5, .string sd, .slice ak L.length cap6]) := (((((((HKI.out.x.set 0 (by simp) _).set 1 (by simp) _).set 2 (by simp) _).set 3 (by simp) _).set 4 (by simp) _).set 5 (by simp) _).set 6 (by simp) _).set 7 (by simp) _
              have HBF : Hid (But W.heap.size wr ((((((((wr.setCell ⟨W.heap.size, 0, none⟩ (.int .i64 kk)).setCell ⟨W.heap.size, 1, none⟩ (.int .i64 zm)).setCell ⟨W.heap.size, 2, none⟩ (.int .i64 zu)).setCell ⟨W.heap.size, 3, none⟩ (.int .i64 zg)).setCell ⟨W.heap.size, 4, none⟩ (.bool oo)).setCell ⟨W.heap.size, 5, none⟩ (.slice aa A.length cap5)).setCell ⟨W.heap.size, 6, none⟩ (.string sd)).setCell ⟨W.heap.size, 7, none⟩ (.slice ak L.length cap6))) := ((((((((But.refl _ _).setCell _ _ _).setCell _ _ _).setCell _ _ _).setCell _ _ _).setCell _ _ _).setCell _ _ _).setCell _ _ _).setCell _ _ _
              generalize ((((((((wr.setCell ⟨W.heap.size, 0, none⟩ (.int .i64 kk)).setCell ⟨W.heap.size, 1, none⟩ (.int .i64 zm)).setCell ⟨W.heap.size, 2, none⟩ (.int .i64 zu)).setCell ⟨W.heap.size, 3, none⟩ (.int .i64 zg)).setCell ⟨W.heap.size, 4, none⟩ (.bool oo)).setCell ⟨W.heap.size, 5, none⟩ (.slice aa A.length cap5)).setCell ⟨W.heap.size, 6, none⟩ (.string sd)).setCell ⟨W.heap.size, 7, none⟩ (.slice ak L.length cap6)) = wF at HXF HBF ⊢
              have HRF : Hid (SBL wF rb S lk fk) := HKI.out.r.but HBF.out (by omega)
              have HNQ := NQ.of HHD.out HKQ.out (.inl rfl) (by omega) HKO.out
              have HNF := HKI.out.fin HBF.out
              have HBW := but_two HKI.out.but HBF.out
              obtain ⟨r0, r1, r2, r3, r4, r5, r6, r7⟩ := eightX HXF.out
              refine bodyPost_ret (v := ndV (.mk kk zm zu zg oo A sd (bare L)) ⟨aa, cap5, ak, cap6⟩) (by simp [results, Try.results66, go_sem, ndV, bare_len, r0, r1, r2, r3, r4, r5, r6, r7]) rfl ?_
              first | exact ⟨_, _, lk, fk, rfl, HRF.out, HBW, HNF, HNQ⟩ | exact ⟨_, _, rfl, lk, .inr ⟨HRF.out, HBW, HNF, HNQ⟩⟩
            · obtain ⟨j6, hj6⟩ : ∃ q, j4 = q + 1 := ⟨j4 - 1, by omega⟩
              subst hj6
              have hjq : decide ((0 : Int) < ((j6 + 1 : Nat) : Int)) = true := decide_eq_true (by omega)
              cases fk
              · have hp3 := tx_pos (l := lk) (f := false)
                have hn3 := txR_nil (l := lk) (f := false) (fun e => by cases e)
                have hpos := HHD.out.pos (HKQ.out.ok rfl).1
                obtain ⟨nm, hsnm⟩ : ∃ s, ofB (txR lk false).1 = s := ⟨_, rfl⟩
                obtain ⟨⟨l3, f3⟩, htnm⟩ : ∃ p, (txR lk false).2 = p := ⟨_, rfl⟩
                have hlnm := txR_len lk false
                rw [htnm] at hlnm
                dsimp only at hlnm
                obtain ⟨vk, vhk⟩ : ∃ z, nuV (tkR 1 lk false).1 = z := ⟨_, rfl⟩
                obtain ⟨⟨vl, vf⟩, vhl⟩ : ∃ p, (tkR 1 lk false).2 = p := ⟨_, rfl⟩
                have vkb : vk ≤ 255 := by rw [← vhk]; exact nuV_one (tkR_len 1 lk false).1
                have veq := txR_eq vhk vhl
                have vC1 : Hid (Calls Try.prog 101 #[.pointer (some ⟨rb, 0, none⟩), .int .i64 1] wr fun e w' => e = .returned (.int .i64 vk) ∧ But rb wr w' ∧ SBL w' rb S vl vf) := by
                  have q := snumber_any HKI.out.r 1 (by omega) hS
                  rw [vhk, vhl] at q
                  exact q
                have vC2 : Hid (∀ w5 : World, SBL w5 rb S vl vf → Calls Try.prog 102 #[.pointer (some ⟨rb, 0, none⟩), .int .i64 vk] w5 fun e w' => e = .returned (.string nm) ∧ But rb w5 w' ∧ SBL w' rb S l3 f3) := fun w5 h5 => by
                  have q := stext_any h5 vk (by omega) hS
                  rw [← veq, hsnm, htnm] at q
                  exact q
                have HTnm : Hid (ofB (txR lk false).1 = nm ∧ (txR lk false).2 = (l3, f3)) := ⟨hsnm, htnm⟩
                clear hsnm htnm vhk vhl veq
                go_wp2_with fail
                refine Calls.mono vC1.out ?_
                rintro e vw ⟨rfl, vb, vr⟩
                have vC3 : Hid _ := vC2.out vw vr
                clear vC1 vC2
                go_wp2_with fail
                refine Calls.mono vC3.out ?_
                rintro e w9 ⟨rfl, vb2, hrT⟩
                have hbT : But rb wr w9 := vb.trans vb2
                clear vC3 vb vb2 vr
                rw [HTnm.out.2] at hp3 hn3
                dsimp only at hp3 hn3
                have hmd : l.length < md := by
                  have := hmes
                  rw [hpos.1] at this
                  unfold mes at this
                  simp at this
                  omega
                have hms : mes l3 f3 < md := by
                  unfold mes
                  cases hf3 : f3 with
                  | true => simp; omega
                  | false => have := (hp3 hf3).2; simp; omega
                have hfu3 : l3.length < fu' := by
                  cases hf3 : f3 with
                  | true => rw [hn3 hf3]; simp; omega
                  | false => have := (hp3 hf3).2; omega
                have HK5 : Hid (KY W w9 rb nb kk zm zu zg oo A (.slice aa A.length cap5) sd L (.slice ak L.length cap6) l3 S f3) := HKI.out.but' hbT hrT
                have eD : ((deep + 1 : Nat) : Int) = (deep : Int) + 1 := by omega
                have HCN : Hid (Calls Try.prog 66 #[.pointer (some ⟨rb, 0, none⟩), .int .i64 ((deep : Int) + 1)] w9 fun e w' => ∃ k5 m5 u5 g5 o5 at5 d5 ks5 hx l' f', e = .returned (.agg #[.int .i64 k5, .int .i64 m5, .int .i64 u5, .int .i64 g5, .bool o5, .slice hx.aa at5.length hx.ca, .string d5, .slice hx.ak ks5.length hx.ck]) ∧ SBL w' rb S l' f' ∧ But rb w9 w' ∧ NdV (newM w9.heap.size w') (.mk k5 m5 u5 g5 o5 at5 d5 ks5) hx ∧ NQ fu' l3 f3 (deep + 1) (.mk k5 m5 u5 g5 o5 at5 d5 ks5) l' f') := by
                  rw [← eD]
                  refine Calls.mono (HIH.out w9 l3 f3 (deep + 1) hms HK5.out.r (by omega) fu' hfu3) ?_
                  rintro e w' ⟨⟨k5, m5, u5, g5, o5, at5, d5, ks5⟩, hx, l', f', e1, e2, e3, e4, e5⟩
                  exact ⟨k5, m5, u5, g5, o5, at5, d5, ks5, hx, l', f', e1, e2, e3, e4, e5⟩
                have HSZ : Hid (W.heap.size < w9.heap.size ∧ nb < w9.heap.size ∧ ∀ s, (Value.slice ak L.length cap6).ownBlock = some s → s < w9.heap.size) := ⟨by have := HK5.out.b.lt; omega, HK5.out.b.lt, fun s e => (HK5.out.row.lt s e).2⟩
                clear HKI hbT hrT s0 s1 hms hfu3 hmd hpos hp3 hn3 eD
                have hLL : L.length ≤ 255 := by have := HLK.out; omega
                go_wp2_with fail
                refine Calls.mono HCN.out ?_
                rintro e w10 ⟨k5, m5, u5, g5, o5, at5, d5, ks5, hx, l4, f4, rfl, hr6, hb6, hN6, hNQ6⟩
                have hal : Below w10.heap.size w10 (w10.alloc (.cells #[.int .i64 k5, .int .i64 m5, .int .i64 u5, .int .i64 g5, .bool o5, .slice hx.aa at5.length hx.ca, .string d5, .slice hx.ak ks5.length hx.ck] 25)) := (Below.refl _ _).alloc (Nat.le_refl _) _
                have hK6 := HK5.out.but' hb6 hr6
                have HK7 : Hid (KY W (w10.alloc (.cells #[.int .i64 k5, .int .i64 m5, .int .i64 u5, .int .i64 g5, .bool o5, .slice hx.aa at5.length hx.ca, .string d5, .slice hx.ak ks5.length hx.ck] 25)) rb nb kk zm zu zg oo A (.slice aa A.length cap5) sd L (.slice ak L.length cap6) l4 S f4) := hK6.but' (But.of_below hal) (hr6.below hal)
                have HN7 : Hid (NdV (newM w9.heap.size (w10.alloc (.cells #[.int .i64 k5, .int .i64 m5, .int .i64 u5, .int .i64 g5, .bool o5, .slice hx.aa at5.length hx.ca, .string d5, .slice hx.ak ks5.length hx.ck] 25))) (.mk k5 m5 u5 g5 o5 at5 d5 ks5) hx) := hN6.on (mle_S hal)
                have HNQ6 : Hid (NQ fu' l3 f3 (deep + 1) (.mk k5 m5 u5 g5 o5 at5 d5 ks5) l4 f4) := hNQ6
                have HZ7 : Hid (BX (w10.alloc (.cells #[.int .i64 k5, .int .i64 m5, .int .i64 u5, .int .i64 g5, .bool o5, .slice hx.aa at5.length hx.ca, .string d5, .slice hx.ak ks5.length hx.ck] 25)) w10.heap.size [.int .i64 k5, .int .i64 m5, .int .i64 u5, .int .i64 g5, .bool o5, .slice hx.aa at5.length hx.ca, .string d5, .slice hx.ak ks5.length hx.ck]) := BX.new w10 _ _
                clear HCN HK5 hr6 hb6 hN6 hNQ6 hK6 hal
                go_upto_region 24 with fail
                generalize w10.alloc (.cells #[.int .i64 k5, .int .i64 m5, .int .i64 u5, .int .i64 g5, .bool o5, .slice hx.aa at5.length hx.ca, .string d5, .slice hx.ak ks5.length hx.ck] 25) = w11 at HK7 HN7 HZ7 ⊢
                generalize w10.heap.size = zb at HZ7 ⊢
                have c5 := HK7.out.b.1 7 _ rfl
                have c6 := HK7.out.b.2 7
                obtain ⟨z0, z1, z2, z3, z4, z5, z6, z7⟩ := eightX HZ7.out
                go_wp2_with (at_builtin; refine wpList_append_src (w11.alloc (.cells #[.string nm, .int .i64 k5, .int .i64 m5, .int .i64 u5, .int .i64 g5, .bool o5, .slice hx.aa at5.length hx.ca, .string d5, .slice hx.ak ks5.length hx.ck] 102)) rfl (.tmp 94) (.tmp 98) 23 rfl (nb + 1) 102 i2 zK 9 120 Try.underlying23 HG0.out HG1.out HG2.out HG3.out rfl (by decide) (.slice ak L.length cap6) L.length (kfl L) rfl (HK7.out.row.alloc _) (some ⟨w11.heap.size, 0, none⟩) 1 1 (kfl [(nm, (.mk k5 m5 u5 g5 o5 at5 d5 ks5), hx)]) rfl rfl (.inr ⟨_, rfl, kid_newA w11 nm (.mk k5 m5 u5 g5 o5 at5 d5 ks5) hx _⟩) (kfl_one _) (by unfold maxLen; omega) (by omega) (Nat.le_trans HK7.out.b.lt (by rw [World.size_alloc]; omega)) ?_)
                intro v12 w12 hown7 hgr7 ho7
                obtain ⟨a7, cap7, e7, _, _, _⟩ := owns_cells hown7
                subst e7
                have HK8 : Hid (KY W (w12.setCell ⟨nb, 7, none⟩ (.slice a7 (L.length + 1) cap7)) rb nb kk zm zu zg oo A (.slice aa A.length cap5) sd (L ++ [(nm, (.mk k5 m5 u5 g5 o5 at5 d5 ks5), hx)]) (.slice a7 (L.length + 1) cap7) l4 S f4) := HK7.out.app _ hgr7 (nm, (.mk k5 m5 u5 g5 o5 at5 d5 ks5), hx) HN7.out HSZ.out.1 HSZ.out.2.1 HSZ.out.2.2 hown7 (by first | exact ho7 | (rw [World.size_alloc] at ho7; exact ho7))
                have hq7 : some nb ≠ (Value.slice ak L.length cap6).ownBlock := row_neA HK7.out.row
                have hbx := (HK7.out.b.below ((Below.refl _ w11).alloc (Nat.le_refl _) (.cells #[.string nm, .int .i64 k5, .int .i64 m5, .int .i64 u5, .int .i64 g5, .bool o5, .slice hx.aa at5.length hx.ca, .string d5, .slice hx.ak ks5.length hx.ck] 102))).grown hgr7 hq7
                have d5' := hbx.1 7 _ rfl
                have d6' := hbx.2 7
                have HKQ2 : Hid (KQ (rNd dR fu') ck lq fq (deep + 1) j6 (bare (L ++ [(nm, (.mk k5 m5 u5 g5 o5 at5 d5 ks5), hx)])) l4 f4) := by
                  have q := HKQ.out.next HTnm.out.1 HTnm.out.2 (fun e => HNQ6.out.ok e) (fun e e' => HNQ6.out.bad e e')
                  have eb : bare (L ++ [(nm, (.mk k5 m5 u5 g5 o5 at5 d5 ks5), hx)]) = bare L ++ [(nm, (.mk k5 m5 u5 g5 o5 at5 d5 ks5))] := by simp [bare]
                  show KQ _ _ _ _ _ _ _ _ _
                  rw [eb]
                  exact q
                have hl4 := HNQ6.out.len
                clear hown7 hgr7 ho7 hbx hq7 HK7 c5 c6 z0 z1 z2 z3 z4 z5 z6 z7 HZ7 HN7 HNQ6 HSZ HKQ HTnm
                go_wp2
                go_roundw
                case rel => exact ⟨j6, _, _, l4, f4, by omega, by go_num, by omega, by (have := HLK.out; show _ ≤ _; simp; omega), HKQ2.out, HK8.out⟩
                case measure => (simp [intOf]; try omega)
              · skip
                obtain ⟨x0, x1, x2, x3, x4, x5, x6, x7⟩ := eightX HKI.out.x
                obtain ⟨b0, b1, b2, b3, b4, b5, b6, b7⟩ := eightX HKI.out.b
                have f0 := HKI.out.x.2 0
                have f1 := HKI.out.x.2 1
                have f2 := HKI.out.x.2 2
                have f3 := HKI.out.x.2 3
                have f4 := HKI.out.x.2 4
                have f5 := HKI.out.x.2 5
                have f6 := HKI.out.x.2 6
                have f7 := HKI.out.x.2 7
                go_wp2
                have HXF : Hid (BX ((((((((wr.setCell ⟨W.heap.size, 0, none⟩ (.int .i64 kk)).setCell ⟨W.heap.size, 1, none⟩ (.int .i64 zm)).setCell ⟨W.heap.size, 2, none⟩ (.int .i64 zu)).setCell ⟨W.heap.size, 3, none⟩ (.int .i64 zg)).setCell ⟨W.heap.size, 4, none⟩ (.bool oo)).setCell ⟨W.heap.size, 5, none⟩ (.slice aa A.length cap5)).setCell ⟨W.heap.size, 6, none⟩ (.string sd)).setCell ⟨W.heap.size, 7, none⟩ (.slice ak L.length cap6)) W.heap.size [.int .i64 kk, .int .i64 zm, .int .i64 zu, .int .i64 zg, .bool oo, .slice aa A.length cap5, .string sd, .slice ak L.length cap6]) := (((((((HKI.out.x.set 0 (by simp) _).set 1 (by simp) _).set 2 (by simp) _).set 3 (by simp) _).set 4 (by simp) _).set 5 (by simp) _).set 6 (by simp) _).set 7 (by simp) _
                have HBF : Hid (But W.heap.size wr ((((((((wr.setCell ⟨W.heap.size, 0, none⟩ (.int .i64 kk)).setCell ⟨W.heap.size, 1, none⟩ (.int .i64 zm)).setCell ⟨W.heap.size, 2, none⟩ (.int .i64 zu)).setCell ⟨W.heap.size, 3, none⟩ (.int .i64 zg)).setCell ⟨W.heap.size, 4, none⟩ (.bool oo)).setCell ⟨W.heap.size, 5, none⟩ (.slice aa A.length cap5)).setCell ⟨W.heap.size, 6, none⟩ (.string sd)).setCell ⟨W.heap.size, 7, none⟩ (.slice ak L.length cap6))) := ((((((((But.refl _ _).setCell _ _ _).setCell _ _ _).setCell _ _ _).setCell _ _ _).setCell _ _ _).setCell _ _ _).setCell _ _ _).setCell _ _ _
                generalize ((((((((wr.setCell ⟨W.heap.size, 0, none⟩ (.int .i64 kk)).setCell ⟨W.heap.size, 1, none⟩ (.int .i64 zm)).setCell ⟨W.heap.size, 2, none⟩ (.int .i64 zu)).setCell ⟨W.heap.size, 3, none⟩ (.int .i64 zg)).setCell ⟨W.heap.size, 4, none⟩ (.bool oo)).setCell ⟨W.heap.size, 5, none⟩ (.slice aa A.length cap5)).setCell ⟨W.heap.size, 6, none⟩ (.string sd)).setCell ⟨W.heap.size, 7, none⟩ (.slice ak L.length cap6)) = wF at HXF HBF ⊢
                have HRF : Hid (SBL wF rb S lk true) := HKI.out.r.but HBF.out (by omega)
                have HNQ := NQ.of HHD.out HKQ.out (.inr rfl) (by omega) HKO.out
                have HNF := HKI.out.fin HBF.out
                have HBW := but_two HKI.out.but HBF.out
                obtain ⟨r0, r1, r2, r3, r4, r5, r6, r7⟩ := eightX HXF.out
                refine bodyPost_ret (v := ndV (.mk kk zm zu zg oo A sd (bare L)) ⟨aa, cap5, ak, cap6⟩) (by simp [results, Try.results66, go_sem, ndV, bare_len, r0, r1, r2, r3, r4, r5, r6, r7]) rfl ?_
                first | exact ⟨_, _, lk, true, rfl, HRF.out, HBW, HNF, HNQ⟩ | exact ⟨_, _, rfl, lk, .inr ⟨HRF.out, HBW, HNF, HNQ⟩⟩
        · obtain ⟨j2, hj2⟩ : ∃ q, j = q + 1 := ⟨j - 1, by omega⟩
          subst hj2
          have hjp : decide ((0 : Int) < ((j2 + 1 : Nat) : Int)) = true := decide_eq_true (by omega)
          cases f2
          · skip
            obtain ⟨st1, hsst1⟩ : ∃ s, ofB (txR l2 false).1 = s := ⟨_, rfl⟩
            obtain ⟨⟨l3, f3⟩, htst1⟩ : ∃ p, (txR l2 false).2 = p := ⟨_, rfl⟩
            have hlst1 := txR_len l2 false
            rw [htst1] at hlst1
            dsimp only at hlst1
            obtain ⟨uk, uhk⟩ : ∃ z, nuV (tkR 1 l2 false).1 = z := ⟨_, rfl⟩
            obtain ⟨⟨ul, uf⟩, uhl⟩ : ∃ p, (tkR 1 l2 false).2 = p := ⟨_, rfl⟩
            have ukb : uk ≤ 255 := by rw [← uhk]; exact nuV_one (tkR_len 1 l2 false).1
            have ueq := txR_eq uhk uhl
            have uC1 : Hid (Calls Try.prog 101 #[.pointer (some ⟨rb, 0, none⟩), .int .i64 1] wr fun e w' => e = .returned (.int .i64 uk) ∧ But rb wr w' ∧ SBL w' rb S ul uf) := by
              have q := snumber_any HA2.out.r 1 (by omega) hS
              rw [uhk, uhl] at q
              exact q
            have uC2 : Hid (∀ w5 : World, SBL w5 rb S ul uf → Calls Try.prog 102 #[.pointer (some ⟨rb, 0, none⟩), .int .i64 uk] w5 fun e w' => e = .returned (.string st1) ∧ But rb w5 w' ∧ SBL w' rb S l3 f3) := fun w5 h5 => by
              have q := stext_any h5 uk (by omega) hS
              rw [← ueq, hsst1, htst1] at q
              exact q
            have HTst1 : Hid (ofB (txR l2 false).1 = st1 ∧ (txR l2 false).2 = (l3, f3)) := ⟨hsst1, htst1⟩
            clear hsst1 htst1 uhk uhl ueq
            go_wp2_with fail
            refine Calls.mono uC1.out ?_
            rintro e uw ⟨rfl, ub, ur⟩
            have uC3 : Hid _ := uC2.out uw ur
            clear uC1 uC2
            go_wp2_with fail
            refine Calls.mono uC3.out ?_
            rintro e w5 ⟨rfl, ub2, hrT⟩
            have hbT : But rb wr w5 := ub.trans ub2
            clear uC3 ub ub2 ur
            have HA5 : Hid (AS W w5 rb nb S kk zm zu zg oo ⟨#[]⟩ A (.slice aa A.length cap5) l3 f3) := HA2.out.but' hbT hrT
            clear HA2 hbT hrT s0 s1
            obtain ⟨st2, hsst2⟩ : ∃ s, ofB (txR l3 f3).1 = s := ⟨_, rfl⟩
            obtain ⟨⟨l4, f4⟩, htst2⟩ : ∃ p, (txR l3 f3).2 = p := ⟨_, rfl⟩
            have hlst2 := txR_len l3 f3
            rw [htst2] at hlst2
            dsimp only at hlst2
            obtain ⟨vk, vhk⟩ : ∃ z, nuV (tkR 1 l3 f3).1 = z := ⟨_, rfl⟩
            obtain ⟨⟨vl, vf⟩, vhl⟩ : ∃ p, (tkR 1 l3 f3).2 = p := ⟨_, rfl⟩
            have vkb : vk ≤ 255 := by rw [← vhk]; exact nuV_one (tkR_len 1 l3 f3).1
            have veq := txR_eq vhk vhl
            have vC1 : Hid (Calls Try.prog 101 #[.pointer (some ⟨rb, 0, none⟩), .int .i64 1] w5 fun e w' => e = .returned (.int .i64 vk) ∧ But rb w5 w' ∧ SBL w' rb S vl vf) := by
              have q := snumber_any HA5.out.r 1 (by omega) hS
              rw [vhk, vhl] at q
              exact q
            have vC2 : Hid (∀ w5 : World, SBL w5 rb S vl vf → Calls Try.prog 102 #[.pointer (some ⟨rb, 0, none⟩), .int .i64 vk] w5 fun e w' => e = .returned (.string st2) ∧ But rb w5 w' ∧ SBL w' rb S l4 f4) := fun w5 h5 => by
              have q := stext_any h5 vk (by omega) hS
              rw [← veq, hsst2, htst2] at q
              exact q
            have HTst2 : Hid (ofB (txR l3 f3).1 = st2 ∧ (txR l3 f3).2 = (l4, f4)) := ⟨hsst2, htst2⟩
            clear hsst2 htst2 vhk vhl veq
            go_wp2_with fail
            refine Calls.mono vC1.out ?_
            rintro e vw ⟨rfl, vb, vr⟩
            have vC3 : Hid _ := vC2.out vw vr
            clear vC1 vC2
            go_wp2_with fail
            refine Calls.mono vC3.out ?_
            rintro e w6 ⟨rfl, vb2, hrT⟩
            have hbT : But rb w5 w6 := vb.trans vb2
            clear vC3 vb vb2 vr
            have HA6 : Hid (AS W w6 rb nb S kk zm zu zg oo ⟨#[]⟩ A (.slice aa A.length cap5) l4 f4) := HA5.out.but' hbT hrT
            clear HA5 hbT hrT
            have hA255 : A.length ≤ 255 := by have := HLJ.out; omega
            have c5 := HA6.out.b.1 5 _ rfl
            have c6 := HA6.out.b.2 5
            go_wp2_with (at_builtin; refine wpList_append_src (w6.alloc (.cells #[.string st1, .string st2] 146)) rfl (.tmp 60) (.tmp 64) 22 rfl (nb + 1) 146 i1 _ 2 32 Try.underlying22 HJ0.out HJ1.out HJ2.out HJ3.out rfl (by decide) (.slice aa A.length cap5) A.length (flat A) rfl (HA6.out.row.alloc _) (some ⟨w6.heap.size, 0, none⟩) 1 1 (flat [⟨st1, st2⟩]) rfl rfl (.inr ⟨_, rfl, kv_new w6 st1 st2 _⟩) (flat_one _) (by unfold maxLen; omega) (by omega) (Nat.le_trans HA6.out.b.lt (by rw [World.size_alloc]; omega)) ?_)
            intro v7 w7 hown7 hgr7 ho7
            obtain ⟨a7, cap7, e7, _, _, _⟩ := owns_cells hown7
            subst e7
            have HA7 : Hid (AS W (w7.setCell ⟨nb, 5, none⟩ (.slice a7 (A.length + 1) cap7)) rb nb S kk zm zu zg oo ⟨#[]⟩ (A ++ [⟨st1, st2⟩]) (.slice a7 (A.length + 1) cap7) l4 f4) := HA6.out.app _ hgr7 ⟨st1, st2⟩ hown7
            have hq7 : some nb ≠ (Value.slice aa A.length cap5).ownBlock := row_neA HA6.out.row
            have hbx := (HA6.out.b.below ((Below.refl _ w6).alloc (Nat.le_refl _) (.cells #[.string st1, .string st2] 146))).grown hgr7 hq7
            have d5 := hbx.1 5 _ rfl
            have d6 := hbx.2 5
            have HAR2 : Hid (AR ca lc fc j2 (A ++ [⟨st1, st2⟩]) l4 f4) := HAR.out.next HTst1.out.1 HTst1.out.2 HTst2.out.1 HTst2.out.2
            clear hown7 hgr7 ho7 hbx hq7 HA6 c5 c6 HAR HTst1 HTst2
            go_wp2
            go_roundw
            case rel => exact ⟨j2, _, _, l4, f4, by omega, by go_num, by omega, by (have := HLJ.out; show _ ≤ _; simp; omega), HAR2.out, HA7.out⟩
            case measure => (simp [intOf]; try omega)
          · skip
            obtain ⟨sd, hssd⟩ : ∃ s, ofB (txR l2 true).1 = s := ⟨_, rfl⟩
            obtain ⟨⟨ld, fd⟩, htsd⟩ : ∃ p, (txR l2 true).2 = p := ⟨_, rfl⟩
            have hlsd := txR_len l2 true
            rw [htsd] at hlsd
            dsimp only at hlsd
            obtain ⟨uk, uhk⟩ : ∃ z, nuV (tkR 1 l2 true).1 = z := ⟨_, rfl⟩
            obtain ⟨⟨ul, uf⟩, uhl⟩ : ∃ p, (tkR 1 l2 true).2 = p := ⟨_, rfl⟩
            have ukb : uk ≤ 255 := by rw [← uhk]; exact nuV_one (tkR_len 1 l2 true).1
            have ueq := txR_eq uhk uhl
            have uC1 : Hid (Calls Try.prog 101 #[.pointer (some ⟨rb, 0, none⟩), .int .i64 1] wr fun e w' => e = .returned (.int .i64 uk) ∧ But rb wr w' ∧ SBL w' rb S ul uf) := by
              have q := snumber_any HA2.out.r 1 (by omega) hS
              rw [uhk, uhl] at q
              exact q
            have uC2 : Hid (∀ w5 : World, SBL w5 rb S ul uf → Calls Try.prog 102 #[.pointer (some ⟨rb, 0, none⟩), .int .i64 uk] w5 fun e w' => e = .returned (.string sd) ∧ But rb w5 w' ∧ SBL w' rb S ld fd) := fun w5 h5 => by
              have q := stext_any h5 uk (by omega) hS
              rw [← ueq, hssd, htsd] at q
              exact q
            have HTsd : Hid (ofB (txR l2 true).1 = sd ∧ (txR l2 true).2 = (ld, fd)) := ⟨hssd, htsd⟩
            clear hssd htsd uhk uhl ueq
            go_wp2_with fail
            refine Calls.mono uC1.out ?_
            rintro e uw ⟨rfl, ub, ur⟩
            have uC3 : Hid _ := uC2.out uw ur
            clear uC1 uC2
            go_wp2_with fail
            refine Calls.mono uC3.out ?_
            rintro e w5 ⟨rfl, ub2, hrT⟩
            have hbT : But rb wr w5 := ub.trans ub2
            clear uC3 ub ub2 ur
            have HA5 : Hid (AS W w5 rb nb S kk zm zu zg oo ⟨#[]⟩ A (.slice aa A.length cap5) ld fd) := HA2.out.but' hbT hrT
            clear HA2 hbT hrT s0 s1
            have y5 := HA5.out.b.1 6 _ rfl
            have y6 := HA5.out.b.2 6
            go_upto_region 19 with fail
            have HK1 : Hid (KY W (w5.setCell ⟨nb, 6, none⟩ (.string sd)) rb nb kk zm zu zg oo A (.slice aa A.length cap5) sd [] (.slice none 0 0) ld S fd) := HA5.out.kids sd
            clear HA5 y5 y6
            generalize w5.setCell ⟨nb, 6, none⟩ (.string sd) = w7 at HK1 ⊢
            obtain ⟨ck, hck⟩ : ∃ z, nuV (tkR 1 ld fd).1 = z := ⟨_, rfl⟩
            obtain ⟨⟨lq, fq⟩, hlq⟩ : ∃ p, (tkR 1 ld fd).2 = p := ⟨_, rfl⟩
            have hlql := (tkR_len 1 ld fd).2
            have hckb : ck ≤ 255 := by rw [← hck]; exact nuV_one (tkR_len 1 ld fd).1
            rw [hlq] at hlql
            dsimp only at hlql
            have HC : Hid (Calls Try.prog 101 #[.pointer (some ⟨rb, 0, none⟩), .int .i64 1] w7 fun e w' => e = .returned (.int .i64 ck) ∧ But rb w7 w' ∧ SBL w' rb S lq fq) := by
              have q := snumber_any HK1.out.r 1 (by omega) hS
              rw [hck, hlq] at q
              exact q
            have Hck : Hid (nuV (tkR 1 ld fd).1 = ck ∧ (tkR 1 ld fd).2 = (lq, fq)) := ⟨hck, hlq⟩
            clear hck hlq
            go_wp2_with fail
            refine Calls.mono HC.out ?_
            rintro e w8 ⟨rfl, hb, hr⟩
            have HK2 : Hid (KY W w8 rb nb kk zm zu zg oo A (.slice aa A.length cap5) sd [] (.slice none 0 0) lq S fq) := HK1.out.but' hb hr
            have HHD : Hid (HdS l f kb zm zu zg A sd ck lq fq) := ⟨lb, fb, lm, fm, lu, fu_, lg, fg, ca, lc, fc, l2, true, ld, fd, (j2 + 1), Hkb.out, Hzm.out, Hzu.out, Hzg.out, Hca.out, ⟨HAR.out, (.inr rfl)⟩, HTsd.out, Hck.out⟩
            obtain ⟨fu', hfu'⟩ : ∃ q, fu = q + 1 := ⟨fu - 1, by omega⟩
            subst hfu'
            have hck := (HHD.out.says fu').2.2
            have hlq : lq.length ≤ l.length := by omega
            clear HC HK1 hb hr Hkb Hzm Hzu Hzg Hca HAR HTsd Hck
            go_wp2
            go_loopw [9] (fun i wr => ∃ (j : Nat) (L : Khs) (vk : Value) (lk : List UInt8) (fk : Bool), j ≤ ck ∧ i = .int .i64 j ∧ lk.length ≤ lq.length ∧ Hid (L.length + j ≤ 255) ∧ Hid (KQ (rNd dR fu') ck lq fq (deep + 1) j (bare L) lk fk) ∧ Hid (KY W wr rb nb kk zm zu zg oo A (.slice aa A.length cap5) sd L vk lk S fk)) (fun i _ => (intOf i).toNat)
            case atStart => exact ⟨ck, [], _, lq, fq, Nat.le_refl _, rfl, Nat.le_refl _, by show _ ≤ _; simp; omega, KQ.start (by omega), HK2.out⟩
            case round =>
              obtain ⟨j4, L, vk, lk, fk, hj4, rfl, hlk, HLK, HKQ, HKI⟩ := hrel
              clear HK2
              obtain ⟨ak, cap6, e6, _, _, _⟩ := owns_cells HKI.out.row
              subst e6
              obtain ⟨s0, s1⟩ := HKI.out.r.cells
              by_cases hj5 : j4 = 0
              · subst hj5
                obtain ⟨x0, x1, x2, x3, x4, x5, x6, x7⟩ := eightX HKI.out.x
                obtain ⟨b0, b1, b2, b3, b4, b5, b6, b7⟩ := eightX HKI.out.b
                have f0 := HKI.out.x.2 0
                have f1 := HKI.out.x.2 1
                have f2 := HKI.out.x.2 2
                have f3 := HKI.out.x.2 3
                have f4 := HKI.out.x.2 4
                have f5 := HKI.out.x.2 5
                have f6 := HKI.out.x.2 6
                have f7 := HKI.out.x.2 7
                go_wp2
                have HXF : Hid (BX ((((((((wr.setCell ⟨W.heap.size, 0, none⟩ (.int .i64 kk)).setCell ⟨W.heap.size, 1, none⟩ (.int .i64 zm)).setCell ⟨W.heap.size, 2, none⟩ (.int .i64 zu)).setCell ⟨W.heap.size, 3, none⟩ (.int .i64 zg)).setCell ⟨W.heap.size, 4, none⟩ (.bool oo)).setCell ⟨W.heap.size, 5, none⟩ (.slice aa A.length cap5)).setCell ⟨W.heap.size, 6, none⟩ (.string sd)).setCell ⟨W.heap.size, 7, none⟩ (.slice ak L.length cap6)) W.heap.size [.int .i64 kk, .int .i64 zm, .int .i64 zu, .int .i64 zg, .bool oo, .slice aa A.length cap5, .string sd, .slice ak L.length cap6]) := (((((((HKI.out.x.set 0 (by simp) _).set 1 (by simp) _).set 2 (by simp) _).set 3 (by simp) _).set 4 (by simp) _).set 5 (by simp) _).set 6 (by simp) _).set 7 (by simp) _
                have HBF : Hid (But W.heap.size wr ((((((((wr.setCell ⟨W.heap.size, 0, none⟩ (.int .i64 kk)).setCell ⟨W.heap.size, 1, none⟩ (.int .i64 zm)).setCell ⟨W.heap.size, 2, none⟩ (.int .i64 zu)).setCell ⟨W.heap.size, 3, none⟩ (.int .i64 zg)).setCell ⟨W.heap.size, 4, none⟩ (.bool oo)).setCell ⟨W.heap.size, 5, none⟩ (.slice aa A.length cap5)).setCell ⟨W.heap.size, 6, none⟩ (.string sd)).setCell ⟨W.heap.size, 7, none⟩ (.slice ak L.length cap6))) := ((((((((But.refl _ _).setCell _ _ _).setCell _ _ _).setCell _ _ _).setCell _ _ _).setCell _ _ _).setCell _ _ _).setCell _ _ _).setCell _ _ _
                generalize ((((((((wr.setCell ⟨W.heap.size, 0, none⟩ (.int .i64 kk)).setCell ⟨W.heap.size, 1, none⟩ (.int .i64 zm)).setCell ⟨W.heap.size, 2, none⟩ (.int .i64 zu)).setCell ⟨W.heap.size, 3, none⟩ (.int .i64 zg)).setCell ⟨W.heap.size, 4, none⟩ (.bool oo)).setCell ⟨W.heap.size, 5, none⟩ (.slice aa A.length cap5)).setCell ⟨W.heap.size, 6, none⟩ (.string sd)).setCell ⟨W.heap.size, 7, none⟩ (.slice ak L.length cap6)) = wF at HXF HBF ⊢
                have HRF : Hid (SBL wF rb S lk fk) := HKI.out.r.but HBF.out (by omega)
                have HNQ := NQ.of HHD.out HKQ.out (.inl rfl) (by omega) HKO.out
                have HNF := HKI.out.fin HBF.out
                have HBW := but_two HKI.out.but HBF.out
                obtain ⟨r0, r1, r2, r3, r4, r5, r6, r7⟩ := eightX HXF.out
                refine bodyPost_ret (v := ndV (.mk kk zm zu zg oo A sd (bare L)) ⟨aa, cap5, ak, cap6⟩) (by simp [results, Try.results66, go_sem, ndV, bare_len, r0, r1, r2, r3, r4, r5, r6, r7]) rfl ?_
                first | exact ⟨_, _, lk, fk, rfl, HRF.out, HBW, HNF, HNQ⟩ | exact ⟨_, _, rfl, lk, .inr ⟨HRF.out, HBW, HNF, HNQ⟩⟩
              · obtain ⟨j6, hj6⟩ : ∃ q, j4 = q + 1 := ⟨j4 - 1, by omega⟩
                subst hj6
                have hjq : decide ((0 : Int) < ((j6 + 1 : Nat) : Int)) = true := decide_eq_true (by omega)
                cases fk
                · have hp3 := tx_pos (l := lk) (f := false)
                  have hn3 := txR_nil (l := lk) (f := false) (fun e => by cases e)
                  have hpos := HHD.out.pos (HKQ.out.ok rfl).1
                  obtain ⟨nm, hsnm⟩ : ∃ s, ofB (txR lk false).1 = s := ⟨_, rfl⟩
                  obtain ⟨⟨l3, f3⟩, htnm⟩ : ∃ p, (txR lk false).2 = p := ⟨_, rfl⟩
                  have hlnm := txR_len lk false
                  rw [htnm] at hlnm
                  dsimp only at hlnm
                  obtain ⟨vk, vhk⟩ : ∃ z, nuV (tkR 1 lk false).1 = z := ⟨_, rfl⟩
                  obtain ⟨⟨vl, vf⟩, vhl⟩ : ∃ p, (tkR 1 lk false).2 = p := ⟨_, rfl⟩
                  have vkb : vk ≤ 255 := by rw [← vhk]; exact nuV_one (tkR_len 1 lk false).1
                  have veq := txR_eq vhk vhl
                  have vC1 : Hid (Calls Try.prog 101 #[.pointer (some ⟨rb, 0, none⟩), .int .i64 1] wr fun e w' => e = .returned (.int .i64 vk) ∧ But rb wr w' ∧ SBL w' rb S vl vf) := by
                    have q := snumber_any HKI.out.r 1 (by omega) hS
                    rw [vhk, vhl] at q
                    exact q
                  have vC2 : Hid (∀ w5 : World, SBL w5 rb S vl vf → Calls Try.prog 102 #[.pointer (some ⟨rb, 0, none⟩), .int .i64 vk] w5 fun e w' => e = .returned (.string nm) ∧ But rb w5 w' ∧ SBL w' rb S l3 f3) := fun w5 h5 => by
                    have q := stext_any h5 vk (by omega) hS
                    rw [← veq, hsnm, htnm] at q
                    exact q
                  have HTnm : Hid (ofB (txR lk false).1 = nm ∧ (txR lk false).2 = (l3, f3)) := ⟨hsnm, htnm⟩
                  clear hsnm htnm vhk vhl veq
                  go_wp2_with fail
                  refine Calls.mono vC1.out ?_
                  rintro e vw ⟨rfl, vb, vr⟩
                  have vC3 : Hid _ := vC2.out vw vr
                  clear vC1 vC2
                  go_wp2_with fail
                  refine Calls.mono vC3.out ?_
                  rintro e w9 ⟨rfl, vb2, hrT⟩
                  have hbT : But rb wr w9 := vb.trans vb2
                  clear vC3 vb vb2 vr
                  rw [HTnm.out.2] at hp3 hn3
                  dsimp only at hp3 hn3
                  have hmd : l.length < md := by
                    have := hmes
                    rw [hpos.1] at this
                    unfold mes at this
                    simp at this
                    omega
                  have hms : mes l3 f3 < md := by
                    unfold mes
                    cases hf3 : f3 with
                    | true => simp; omega
                    | false => have := (hp3 hf3).2; simp; omega
                  have hfu3 : l3.length < fu' := by
                    cases hf3 : f3 with
                    | true => rw [hn3 hf3]; simp; omega
                    | false => have := (hp3 hf3).2; omega
                  have HK5 : Hid (KY W w9 rb nb kk zm zu zg oo A (.slice aa A.length cap5) sd L (.slice ak L.length cap6) l3 S f3) := HKI.out.but' hbT hrT
                  have eD : ((deep + 1 : Nat) : Int) = (deep : Int) + 1 := by omega
                  have HCN : Hid (Calls Try.prog 66 #[.pointer (some ⟨rb, 0, none⟩), .int .i64 ((deep : Int) + 1)] w9 fun e w' => ∃ k5 m5 u5 g5 o5 at5 d5 ks5 hx l' f', e = .returned (.agg #[.int .i64 k5, .int .i64 m5, .int .i64 u5, .int .i64 g5, .bool o5, .slice hx.aa at5.length hx.ca, .string d5, .slice hx.ak ks5.length hx.ck]) ∧ SBL w' rb S l' f' ∧ But rb w9 w' ∧ NdV (newM w9.heap.size w') (.mk k5 m5 u5 g5 o5 at5 d5 ks5) hx ∧ NQ fu' l3 f3 (deep + 1) (.mk k5 m5 u5 g5 o5 at5 d5 ks5) l' f') := by
                    rw [← eD]
                    refine Calls.mono (HIH.out w9 l3 f3 (deep + 1) hms HK5.out.r (by omega) fu' hfu3) ?_
                    rintro e w' ⟨⟨k5, m5, u5, g5, o5, at5, d5, ks5⟩, hx, l', f', e1, e2, e3, e4, e5⟩
                    exact ⟨k5, m5, u5, g5, o5, at5, d5, ks5, hx, l', f', e1, e2, e3, e4, e5⟩
                  have HSZ : Hid (W.heap.size < w9.heap.size ∧ nb < w9.heap.size ∧ ∀ s, (Value.slice ak L.length cap6).ownBlock = some s → s < w9.heap.size) := ⟨by have := HK5.out.b.lt; omega, HK5.out.b.lt, fun s e => (HK5.out.row.lt s e).2⟩
                  clear HKI hbT hrT s0 s1 hms hfu3 hmd hpos hp3 hn3 eD
                  have hLL : L.length ≤ 255 := by have := HLK.out; omega
                  go_wp2_with fail
                  refine Calls.mono HCN.out ?_
                  rintro e w10 ⟨k5, m5, u5, g5, o5, at5, d5, ks5, hx, l4, f4, rfl, hr6, hb6, hN6, hNQ6⟩
                  have hal : Below w10.heap.size w10 (w10.alloc (.cells #[.int .i64 k5, .int .i64 m5, .int .i64 u5, .int .i64 g5, .bool o5, .slice hx.aa at5.length hx.ca, .string d5, .slice hx.ak ks5.length hx.ck] 25)) := (Below.refl _ _).alloc (Nat.le_refl _) _
                  have hK6 := HK5.out.but' hb6 hr6
                  have HK7 : Hid (KY W (w10.alloc (.cells #[.int .i64 k5, .int .i64 m5, .int .i64 u5, .int .i64 g5, .bool o5, .slice hx.aa at5.length hx.ca, .string d5, .slice hx.ak ks5.length hx.ck] 25)) rb nb kk zm zu zg oo A (.slice aa A.length cap5) sd L (.slice ak L.length cap6) l4 S f4) := hK6.but' (But.of_below hal) (hr6.below hal)
                  have HN7 : Hid (NdV (newM w9.heap.size (w10.alloc (.cells #[.int .i64 k5, .int .i64 m5, .int .i64 u5, .int .i64 g5, .bool o5, .slice hx.aa at5.length hx.ca, .string d5, .slice hx.ak ks5.length hx.ck] 25))) (.mk k5 m5 u5 g5 o5 at5 d5 ks5) hx) := hN6.on (mle_S hal)
                  have HNQ6 : Hid (NQ fu' l3 f3 (deep + 1) (.mk k5 m5 u5 g5 o5 at5 d5 ks5) l4 f4) := hNQ6
                  have HZ7 : Hid (BX (w10.alloc (.cells #[.int .i64 k5, .int .i64 m5, .int .i64 u5, .int .i64 g5, .bool o5, .slice hx.aa at5.length hx.ca, .string d5, .slice hx.ak ks5.length hx.ck] 25)) w10.heap.size [.int .i64 k5, .int .i64 m5, .int .i64 u5, .int .i64 g5, .bool o5, .slice hx.aa at5.length hx.ca, .string d5, .slice hx.ak ks5.length hx.ck]) := BX.new w10 _ _
                  clear HCN HK5 hr6 hb6 hN6 hNQ6 hK6 hal
                  go_upto_region 24 with fail
                  generalize w10.alloc (.cells #[.int .i64 k5, .int .i64 m5, .int .i64 u5, .int .i64 g5, .bool o5, .slice hx.aa at5.length hx.ca, .string d5, .slice hx.ak ks5.length hx.ck] 25) = w11 at HK7 HN7 HZ7 ⊢
                  generalize w10.heap.size = zb at HZ7 ⊢
                  have c5 := HK7.out.b.1 7 _ rfl
                  have c6 := HK7.out.b.2 7
                  obtain ⟨z0, z1, z2, z3, z4, z5, z6, z7⟩ := eightX HZ7.out
                  go_wp2_with (at_builtin; refine wpList_append_src (w11.alloc (.cells #[.string nm, .int .i64 k5, .int .i64 m5, .int .i64 u5, .int .i64 g5, .bool o5, .slice hx.aa at5.length hx.ca, .string d5, .slice hx.ak ks5.length hx.ck] 102)) rfl (.tmp 94) (.tmp 98) 23 rfl (nb + 1) 102 i2 zK 9 120 Try.underlying23 HG0.out HG1.out HG2.out HG3.out rfl (by decide) (.slice ak L.length cap6) L.length (kfl L) rfl (HK7.out.row.alloc _) (some ⟨w11.heap.size, 0, none⟩) 1 1 (kfl [(nm, (.mk k5 m5 u5 g5 o5 at5 d5 ks5), hx)]) rfl rfl (.inr ⟨_, rfl, kid_newA w11 nm (.mk k5 m5 u5 g5 o5 at5 d5 ks5) hx _⟩) (kfl_one _) (by unfold maxLen; omega) (by omega) (Nat.le_trans HK7.out.b.lt (by rw [World.size_alloc]; omega)) ?_)
                  intro v12 w12 hown7 hgr7 ho7
                  obtain ⟨a7, cap7, e7, _, _, _⟩ := owns_cells hown7
                  subst e7
                  have HK8 : Hid (KY W (w12.setCell ⟨nb, 7, none⟩ (.slice a7 (L.length + 1) cap7)) rb nb kk zm zu zg oo A (.slice aa A.length cap5) sd (L ++ [(nm, (.mk k5 m5 u5 g5 o5 at5 d5 ks5), hx)]) (.slice a7 (L.length + 1) cap7) l4 S f4) := HK7.out.app _ hgr7 (nm, (.mk k5 m5 u5 g5 o5 at5 d5 ks5), hx) HN7.out HSZ.out.1 HSZ.out.2.1 HSZ.out.2.2 hown7 (by first | exact ho7 | (rw [World.size_alloc] at ho7; exact ho7))
                  have hq7 : some nb ≠ (Value.slice ak L.length cap6).ownBlock := row_neA HK7.out.row
                  have hbx := (HK7.out.b.below ((Below.refl _ w11).alloc (Nat.le_refl _) (.cells #[.string nm, .int .i64 k5, .int .i64 m5, .int .i64 u5, .int .i64 g5, .bool o5, .slice hx.aa at5.length hx.ca, .string d5, .slice hx.ak ks5.length hx.ck] 102))).grown hgr7 hq7
                  have d5' := hbx.1 7 _ rfl
                  have d6' := hbx.2 7
                  have HKQ2 : Hid (KQ (rNd dR fu') ck lq fq (deep + 1) j6 (bare (L ++ [(nm, (.mk k5 m5 u5 g5 o5 at5 d5 ks5), hx)])) l4 f4) := by
                    have q := HKQ.out.next HTnm.out.1 HTnm.out.2 (fun e => HNQ6.out.ok e) (fun e e' => HNQ6.out.bad e e')
                    have eb : bare (L ++ [(nm, (.mk k5 m5 u5 g5 o5 at5 d5 ks5), hx)]) = bare L ++ [(nm, (.mk k5 m5 u5 g5 o5 at5 d5 ks5))] := by simp [bare]
                    show KQ _ _ _ _ _ _ _ _ _
                    rw [eb]
                    exact q
                  have hl4 := HNQ6.out.len
                  clear hown7 hgr7 ho7 hbx hq7 HK7 c5 c6 z0 z1 z2 z3 z4 z5 z6 z7 HZ7 HN7 HNQ6 HSZ HKQ HTnm
                  go_wp2
                  go_roundw
                  case rel => exact ⟨j6, _, _, l4, f4, by omega, by go_num, by omega, by (have := HLK.out; show _ ≤ _; simp; omega), HKQ2.out, HK8.out⟩
                  case measure => (simp [intOf]; try omega)
                · skip
                  obtain ⟨x0, x1, x2, x3, x4, x5, x6, x7⟩ := eightX HKI.out.x
                  obtain ⟨b0, b1, b2, b3, b4, b5, b6, b7⟩ := eightX HKI.out.b
                  have f0 := HKI.out.x.2 0
                  have f1 := HKI.out.x.2 1
                  have f2 := HKI.out.x.2 2
                  have f3 := HKI.out.x.2 3
                  have f4 := HKI.out.x.2 4
                  have f5 := HKI.out.x.2 5
                  have f6 := HKI.out.x.2 6
                  have f7 := HKI.out.x.2 7
                  go_wp2
                  have HXF : Hid (BX ((((((((wr.setCell ⟨W.heap.size, 0, none⟩ (.int .i64 kk)).setCell ⟨W.heap.size, 1, none⟩ (.int .i64 zm)).setCell ⟨W.heap.size, 2, none⟩ (.int .i64 zu)).setCell ⟨W.heap.size, 3, none⟩ (.int .i64 zg)).setCell ⟨W.heap.size, 4, none⟩ (.bool oo)).setCell ⟨W.heap.size, 5, none⟩ (.slice aa A.length cap5)).setCell ⟨W.heap.size, 6, none⟩ (.string sd)).setCell ⟨W.heap.size, 7, none⟩ (.slice ak L.length cap6)) W.heap.size [.int .i64 kk, .int .i64 zm, .int .i64 zu, .int .i64 zg, .bool oo, .slice aa A.length cap5, .string sd, .slice ak L.length cap6]) := (((((((HKI.out.x.set 0 (by simp) _).set 1 (by simp) _).set 2 (by simp) _).set 3 (by simp) _).set 4 (by simp) _).set 5 (by simp) _).set 6 (by simp) _).set 7 (by simp) _
                  have HBF : Hid (But W.heap.size wr ((((((((wr.setCell ⟨W.heap.size, 0, none⟩ (.int .i64 kk)).setCell ⟨W.heap.size, 1, none⟩ (.int .i64 zm)).setCell ⟨W.heap.size, 2, none⟩ (.int .i64 zu)).setCell ⟨W.heap.size, 3, none⟩ (.int .i64 zg)).setCell ⟨W.heap.size, 4, none⟩ (.bool oo)).setCell ⟨W.heap.size, 5, none⟩ (.slice aa A.length cap5)).setCell ⟨W.heap.size, 6, none⟩ (.string sd)).setCell ⟨W.heap.size, 7, none⟩ (.slice ak L.length cap6))) := ((((((((But.refl _ _).setCell _ _ _).setCell _ _ _).setCell _ _ _).setCell _ _ _).setCell _ _ _).setCell _ _ _).setCell _ _ _).setCell _ _ _
                  generalize ((((((((wr.setCell ⟨W.heap.size, 0, none⟩ (.int .i64 kk)).setCell ⟨W.heap.size, 1, none⟩ (.int .i64 zm)).setCell ⟨W.heap.size, 2, none⟩ (.int .i64 zu)).setCell ⟨W.heap.size, 3, none⟩ (.int .i64 zg)).setCell ⟨W.heap.size, 4, none⟩ (.bool oo)).setCell ⟨W.heap.size, 5, none⟩ (.slice aa A.length cap5)).setCell ⟨W.heap.size, 6, none⟩ (.string sd)).setCell ⟨W.heap.size, 7, none⟩ (.slice ak L.length cap6)) = wF at HXF HBF ⊢
                  have HRF : Hid (SBL wF rb S lk true) := HKI.out.r.but HBF.out (by omega)
                  have HNQ := NQ.of HHD.out HKQ.out (.inr rfl) (by omega) HKO.out
                  have HNF := HKI.out.fin HBF.out
                  have HBW := but_two HKI.out.but HBF.out
                  obtain ⟨r0, r1, r2, r3, r4, r5, r6, r7⟩ := eightX HXF.out
                  refine bodyPost_ret (v := ndV (.mk kk zm zu zg oo A sd (bare L)) ⟨aa, cap5, ak, cap6⟩) (by simp [results, Try.results66, go_sem, ndV, bare_len, r0, r1, r2, r3, r4, r5, r6, r7]) rfl ?_
                  first | exact ⟨_, _, lk, true, rfl, HRF.out, HBW, HNF, HNQ⟩ | exact ⟨_, _, rfl, lk, .inr ⟨HRF.out, HBW, HNF, HNQ⟩⟩
end Go.Proofs.Ytkkhfnkmfkdhiab
