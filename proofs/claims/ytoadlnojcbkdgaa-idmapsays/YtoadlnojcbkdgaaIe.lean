/-
  WHAT idmap.lay DOES: a range is laid into an owned row, ahead of the first one that is not below it: the walk.
-/
import Derived.Test.YtoadlnojcbkdgaaId
namespace Go.Proofs.Ytoadlnojcbkdgaa
open Go.RowKit

/-- A range laid into a list that rises. -/
def insR : List Rg → Rg → List Rg
  | [], r => [r]
  | p :: l, r => if p.i < r.i then p :: insR l r else r :: p :: l
theorem insR_at {L : List Rg} {r : Rg} : ∀ {k : Nat}, k ≤ L.length → (∀ j p, j < k → L[j]? = some p → p.i < r.i) → (∀ p, L[k]? = some p → ¬ p.i < r.i) → insR L r = L.take k ++ r :: L.drop k := by
  induction L with
  | nil => intro k hk _ _; simp at hk; subst hk; rfl
  | cons p l ih =>
    intro k hk h1 h2
    cases k with
    | zero => unfold insR; rw [if_neg (h2 p rfl)]; rfl
    | succ k =>
      unfold insR
      rw [if_pos (h1 0 p (by omega) rfl), ih (k := k) (by simpa using hk) (fun j q hj hq => h1 (j + 1) q (by omega) (by simpa using hq)) (fun q hq => h2 q (by simpa using hq))]
      rfl

theorem new3 (w : World) (i o n : Int) : ∀ j u, (flat [⟨i, o, n⟩])[j]? = some u → (w.alloc (.cells #[.int .i64 i, .int .i64 o, .int .i64 n] 53)).cell? ((⟨w.heap.size, 0, none⟩ : Addr).add j) = some u := by
  intro j u hj
  have hjl : j < 3 := by have := (List.getElem?_eq_some_iff.1 hj).1; simpa [flat] using this
  have e : (⟨w.heap.size, 0, none⟩ : Addr).add j = ⟨w.heap.size, j, none⟩ := by by_cases hj0 : j = 0 <;> simp [Addr.add, hj0]
  rw [e, World.cell?_alloc_at _ _ _ _ rfl, ← hj]
  have : j = 0 ∨ j = 1 ∨ j = 2 := by omega
  rcases this with rfl | rfl | rfl <;> rfl

theorem grown_of_below {w w' : World} {row : Option Nat} (h : Below w.heap.size w w') : w.grownBy w' row := ⟨h.os, h.tape, h.output, h.size, fun k hk _ => h.block k hk⟩
theorem grown_then {w w' w'' : World} {row : Option Nat} {g : Nat} (h : w.grownBy w' row) (h' : w'.grownBy w'' (some g)) (hg : row = some g ∨ w.heap.size ≤ g) : w.grownBy w'' row :=
  ⟨h'.os.trans h.os, h'.tape.trans h.tape, h'.output.trans h.output, Nat.le_trans h.size h'.size, fun k hk hne => by
    have hkg : some k ≠ some g := by
      intro e; cases e
      rcases hg with e | e
      · exact hne e.symm
      · omega
    exact (h'.block k (Nat.lt_of_lt_of_le hk h.size) hkg).trans (h.block k hk hne)⟩
theorem grown_same {w w' w'' : World} {row : Option Nat} (h : w.grownBy w' row) (h' : w'.grownBy w'' row) : w.grownBy w'' row :=
  ⟨h'.os.trans h.os, h'.tape.trans h.tape, h'.output.trans h.output, Nat.le_trans h.size h'.size, fun k hk hne => (h'.block k (Nat.lt_of_lt_of_le hk h.size) hne).trans (h.block k hk hne)⟩
theorem setCell_grown (w : World) (g o : Nat) (x : Value) : w.grownBy (w.setCell ⟨g, o, none⟩ x) (some g) :=
  ⟨rfl, rfl, rfl, by simp [World.setCell], fun k _ hne => Below.heap_setCell w ⟨g, o, none⟩ x k (fun e => hne (by rw [e]))⟩
theorem lay_mid {base n : Nat} {v v2 : Value} {L : List Rg} {ri ro rn : Int} {w w2 w4 : World} (hown : w.ownsRow base 53 3 v n (flat L)) (RB2 : RBox w2 w.heap.size ⟨ri, ro, rn⟩) (hBw : Below w.heap.size w w2) (hbase : base ≤ w.heap.size)
    (hown4 : w4.ownsRow base 53 3 v2 (n + 1) (flat L ++ flat [⟨ri, ro, rn⟩])) (hgrow : (w2.alloc (.cells #[.int .i64 ri, .int .i64 ro, .int .i64 rn] 53)).grownBy w4 v.ownBlock) (hat : v2.ownBlock = v.ownBlock ∨ v2.ownBlock = some (w2.heap.size + 1)) :
    ∃ g cap2 cur, v2 = .slice (some ⟨g, 0, none⟩) (n + 1) cap2 ∧ n + 1 ≤ cap2 ∧ cap2 ≤ maxLen ∧ base ≤ g ∧ w4.heap[g]? = some (.cells cur 53 (0, 0)) ∧ cur.size = cap2 * 3 ∧ cur.toList.take ((n + 1) * 3) = flat L ++ flat [⟨ri, ro, rn⟩] ∧ ¬ g = w.heap.size ∧ RBox w4 w.heap.size ⟨ri, ro, rn⟩ ∧ Below base w w4 ∧ w.grownBy w4 v.ownBlock ∧ (v.ownBlock = some g ∨ w.heap.size ≤ g) := by
  have l2 := RB2.lt
  have hB2 : Below base w w2 := hBw.mono hbase
  rcases hown4.2 with ⟨_, h0⟩ | ⟨g, cap2, cur, rfl, hb, hg, hle, hm, hs, hx⟩
  · omega
  have hvb : ∀ k, v.ownBlock = some k → base ≤ k ∧ k < w.heap.size := hown.lt
  have hne : ∀ k, v.ownBlock = some k → k ≠ w.heap.size := fun k e => by have := hvb k e; omega
  refine ⟨g, cap2, cur, rfl, hle, hm, hb, hg, hs, hx, ?_, ?_, ?_, ?_, ?_⟩
  · intro e
    rcases hat with e1 | e1
    · exact hne g e1.symm e
    · have : g = w2.heap.size + 1 := by simpa [Value.ownBlock] using e1
      omega
  · obtain ⟨h0, h1, h2, h3⟩ := RB2.alloc (.cells #[.int .i64 ri, .int .i64 ro, .int .i64 rn] 53)
    have hn : some w.heap.size ≠ v.ownBlock := fun e => hne _ e.symm rfl
    exact ⟨hgrow.cell h0 hn, hgrow.cell h1 hn, hgrow.cell h2 hn, fun o => (hgrow.frozen_far ⟨w.heap.size, o, none⟩ (by simp; omega) hn).trans (h3 o)⟩
  · exact (hB2.alloc (Nat.le_trans hbase (Nat.le_of_lt l2)) _).grown hgrow (by simp; omega) (fun k e => (hvb k e).1)
  · exact grown_same (grown_of_below (hBw.alloc (Nat.le_of_lt l2) _)) hgrow
  · rcases hat with e1 | e1
    · exact .inl e1.symm
    · have : g = w2.heap.size + 1 := by simpa [Value.ownBlock] using e1
      right; omega

theorem cell_flat {w : World} {g k n : Nat} {cur : Array Value} {L : List Rg} {rest : List Value} (hg : w.heap[g]? = some (.cells cur 53 (0, 0))) (htk : cur.toList.take n = flat L ++ rest) (_hk : k ≤ L.length) :
    ∀ j v, (flat (L.drop k))[j]? = some v → w.cell? ((⟨g, k * 3, none⟩ : Addr).add j) = some v := by
  intro j v hj
  have e : (⟨g, k * 3, none⟩ : Addr).add j = ⟨g, k * 3 + j, none⟩ := by by_cases hj0 : j = 0 <;> simp [Addr.add, hj0]
  rw [e]
  refine ownsRow_cell hg htk ?_
  rw [← flat_drop, List.getElem?_drop] at hj
  have hl := (List.getElem?_eq_some_iff.1 hj).1
  rw [List.getElem?_append_left hl]; exact hj
theorem set3 (a b c : Value) (X Y Z : Value) (P Q : List Value) (k : Nat) (hP : P.length = k) : ((((P ++ X :: Y :: Z :: Q).set k a).set (k + 1) b).set (k + 2) c) = P ++ a :: b :: c :: Q := by
  subst hP
  simp
theorem lay_end {w : World} {base g k n cap2 : Nat} {cur : Array Value} {A B : List Rg} {x r : Rg} (hb : base ≤ g) (hg : w.heap[g]? = some (.cells cur 53 (0, 0))) (hs : cur.size = cap2 * 3) (hn : n ≤ cap2) (hm : cap2 ≤ maxLen) (hA : A.length = k) (hl : (A ++ x :: B).length = n)
    (htk : cur.toList.take (n * 3) = flat (A ++ x :: B)) :
    (((w.setCell ⟨g, k * 3, none⟩ (.int .i64 r.i)).setCell ⟨g, k * 3 + 1, none⟩ (.int .i64 r.o)).setCell ⟨g, k * 3 + 2, none⟩ (.int .i64 r.n)).ownsRow base 53 3 (.slice (some ⟨g, 0, none⟩) n cap2) n (flat (A ++ r :: B)) := by
  refine ⟨by rw [flat_length]; simp at hl ⊢; omega, .inr ⟨g, cap2, ((cur.setIfInBounds (k * 3) (.int .i64 r.i)).setIfInBounds (k * 3 + 1) (.int .i64 r.o)).setIfInBounds (k * 3 + 2) (.int .i64 r.n), rfl, hb, ?_, hn, hm, by simp [hs], ?_⟩⟩
  · rw [setCell_eq_setRow w g (k * 3) cur 53 (0, 0) _ hg]
    have h1 := setRow_heap w g cur (cur.setIfInBounds (k * 3) (.int .i64 r.i)) 53 (0, 0) hg
    rw [setCell_eq_setRow _ g (k * 3 + 1) _ 53 (0, 0) _ h1]
    have h2 := setRow_heap _ g _ ((cur.setIfInBounds (k * 3) (.int .i64 r.i)).setIfInBounds (k * 3 + 1) (.int .i64 r.o)) 53 (0, 0) h1
    rw [setCell_eq_setRow _ g (k * 3 + 2) _ 53 (0, 0) _ h2]
    exact setRow_heap _ g _ _ 53 (0, 0) h2
  · have hl' : A.length + 1 + B.length = n := by simp at hl; omega
    simp only [Array.toList_setIfInBounds]
    have h0 : cur.toList = flat (A ++ x :: B) ++ cur.toList.drop (n * 3) := by rw [← htk, List.take_append_drop]
    rw [h0, flat_append]
    simp only [flat, List.append_assoc, List.cons_append]
    rw [set3 _ _ _ _ _ _ _ _ (k * 3) (by rw [flat_length, hA])]
    rw [show flat A ++ Value.int .i64 r.i :: Value.int .i64 r.o :: Value.int .i64 r.n :: (flat B ++ cur.toList.drop (n * 3)) = flat (A ++ r :: B) ++ cur.toList.drop (n * 3) from by rw [flat_append]; simp [flat]]
    rw [List.take_append_of_le_length (by rw [flat_length]; simp; omega), List.take_of_length_le (by rw [flat_length]; simp; omega)]
theorem take_splice {cur : List Value} {L : List Rg} {r : Rg} {k n : Nat} (hk : k < L.length) (hn : L.length = n) (htk : cur.take ((n + 1) * 3) = flat L ++ flat [r]) (_hc : (n + 1) * 3 ≤ cur.length) :
    (splice cur ((k + 1) * 3) (flat (L.drop k))).take ((n + 1) * 3) = flat (L.take k ++ L[k] :: L.drop k) := by
  have e1 : cur.take ((k + 1) * 3) = flat (L.take (k + 1)) := by
    have : cur.take ((k + 1) * 3) = (cur.take ((n + 1) * 3)).take ((k + 1) * 3) := by rw [List.take_take]; congr 1; omega
    rw [this, htk, List.take_append_of_le_length (by rw [flat_length]; omega), flat_take]
  unfold splice
  rw [e1, ← List.append_assoc, ← flat_append]
  have e2 : L.take k ++ L[k] :: L.drop k = L.take (k + 1) ++ L.drop k := by rw [List.take_succ_eq_append_getElem hk, List.append_assoc]; rfl
  rw [e2, List.take_append_of_le_length (by rw [flat_length]; simp; omega), List.take_of_length_le (by rw [flat_length]; simp; omega)]

theorem RBox.grown {w w' : World} {g b : Nat} {r : Rg} (h : RBox w b r) (hg : w.grownBy w' (some g)) (hne : ¬ g = b) : RBox w' b r := by
  have hl := h.lt
  obtain ⟨h0, h1, h2, h3⟩ := h
  have hn : some b ≠ some g := fun e => hne (by cases e; rfl)
  exact ⟨hg.cell h0 hn, hg.cell h1 hn, hg.cell h2 hn, fun o => (hg.frozen_far ⟨b, o, none⟩ hl hn).trans (h3 o)⟩
theorem three_cells {w : World} {g k : Nat} {cur : Array Value} (hg : w.heap[g]? = some (.cells cur 53 (0, 0))) (hk : k * 3 + 2 < cur.size) :
    ∃ a b c, w.cell? ⟨g, k * 3, none⟩ = some a ∧ w.cell? ⟨g, k * 3 + 1, none⟩ = some b ∧ w.cell? ⟨g, k * 3 + 2, none⟩ = some c ∧ ∀ o, w.frozen? ⟨g, o, none⟩ = false := by
  refine ⟨cur[k * 3]'(by omega), cur[k * 3 + 1]'(by omega), cur[k * 3 + 2]'hk, ?_, ?_, ?_, fun o => by simp [World.frozen?, hg]⟩ <;> simp [World.cell?, hg] <;> omega

theorem wrap_small {x : Int} (h0 : -1000000 ≤ x) (h1 : x ≤ 1000000) : IntKind.i64.wrap x = x := by rw [IntKind.wrap_i64]; omega

set_option maxRecDepth 100000 in
set_option maxHeartbeats 1000000 in
theorem lay_any (base : Nat) (v : Value) (L : List Rg) (r : Rg) (w : World) (hl : L.length ≤ 100) (hown : w.ownsRow base 53 3 v L.length (flat L)) (hbase : base ≤ w.heap.size) :
    Calls Try.prog 44 #[v, .agg #[.int .i64 r.i, .int .i64 r.o, .int .i64 r.n]] w fun e w' => ∃ v', e = .returned v' ∧ w'.ownsRow base 53 3 v' (L.length + 1) (flat (insR L r)) ∧ Below base w w' ∧ w.grownBy w' v.ownBlock ∧ ∀ q, v'.ownBlock = some q → v.ownBlock = some q ∨ w.heap.size ≤ q := by
  obtain ⟨a, cap, hv, hlc, hcm, hR⟩ := rgs_of_owns0 hown
  rw [hv] at hown ⊢
  clear hv
  obtain ⟨ri, ro, rn⟩ := r
  obtain ⟨i0, hi0, hz0, hz1, hz2⟩ := info_parts Try.info53
  unfold maxLen at hcm
  go_enter Try.func44, Try.ntmps44
  go_wp2
  have RB := RBox.new w ri ro rn
  have hown1 := hown.alloc (.cells #[.int .i64 ri, .int .i64 ro, .int .i64 rn] 53)
  have hB1 := (Below.refl base w).alloc hbase (.cells #[.int .i64 ri, .int .i64 ro, .int .i64 rn] 53)
  have hBw := (Below.refl w.heap.size w).alloc (Nat.le_refl _) (.cells #[.int .i64 ri, .int .i64 ro, .int .i64 rn] 53)
  have hsz : w.heap.size + 1 ≤ (w.alloc (.cells #[.int .i64 ri, .int .i64 ro, .int .i64 rn] 53)).heap.size := by simp
  generalize w.alloc (.cells #[.int .i64 ri, .int .i64 ro, .int .i64 rn] 53) = w1 at RB hown1 hB1 hBw hsz ⊢
  go_loopw [5] (fun i wr => ∃ k : Nat, k ≤ L.length ∧ i = .int .i64 k ∧ Hid (∀ j p, j < k → L[j]? = some p → p.i < ri) ∧ ∃ m, wr = w1.drewN m) (fun i _ => L.length - (intOf i).toNat)
  case atStart => exact ⟨0, Nat.zero_le _, rfl, fun j p hj => absurd hj (Nat.not_lt_zero _), 0, rfl⟩
  case round =>
    obtain ⟨k, hk, rfl, HL, m, rfl⟩ := hrel
    obtain ⟨x0, x1, x2, x3⟩ := id RB
    dsimp only at x0 x1 x2
    by_cases hlt : k < L.length
    · obtain ⟨p, hp⟩ : ∃ p, L[k]? = some p := ⟨L[k], by simp [hlt]⟩
      have hki : (k : Int) < (L.length : Int) := by omega
      rcases hR.below hBw with hn | ⟨b, off, rfl, hc⟩
      · rw [hn] at hlt; simp at hlt
      · obtain ⟨c0, c1, c2⟩ := hc k p hp
        obtain ⟨pi, po, pn⟩ := p
        dsimp only at c0 c1 c2
        by_cases hle : pi < ri
        · have HL2 : Hid (∀ j p, j < k + 1 → L[j]? = some p → p.i < ri) := by
            intro j q hj hq
            by_cases e : j = k
            · subst e; rw [hp] at hq; cases hq; exact hle
            · exact HL.out j q (by omega) hq
          clear hp hc
          go_wp2
          go_quiet (fail)
          go_wp2
          go_roundw
          case rel => exact ⟨k + 1, by omega, by go_num, HL2.out, _, rfl⟩
          case measure => simp [intOf]; omega
        · have hd : decide (pi < ri) = false := by simpa using hle
          have HI : Hid (insR L ⟨ri, ro, rn⟩ = L.take k ++ ⟨ri, ro, rn⟩ :: L.drop k) := insR_at hk HL.out (fun q hq => by rw [hp] at hq; cases hq; exact hle)
          clear hp hc
          go_wp2
          go_quiet (fail)
          have hown2 : ((w1.drewN m).drewN nq).ownsRow base 53 3 _ L.length (flat L) := hown1
          have RB2 : RBox ((w1.drewN m).drewN nq) w.heap.size ⟨ri, ro, rn⟩ := RB
          have hB2 : Below w.heap.size w ((w1.drewN m).drewN nq) := below_drewN (below_drewN hBw m) nq
          have hb2 : base ≤ ((w1.drewN m).drewN nq).heap.size := Nat.le_trans hbase hB1.size
          clear RB hown1 hB1 hBw hsz x0 x1 x2 x3
          generalize (w1.drewN m).drewN nq = w2 at hown2 RB2 hB2 hb2 ⊢
          obtain ⟨x0, x1, x2, x3⟩ := id RB2
          dsimp only at x0 x1 x2
          go_wp2_with (at_builtin; refine wpList_append_src _ rfl (.tmp 22) (.tmp 24) 22 rfl base 53 i0 (.agg #[.int .i64 0, .int .i64 0, .int .i64 0]) 3 24 Try.underlying22 hi0 hz0 hz1 hz2 rfl (by decide) _ L.length (flat L) rfl (hown2.alloc _) (some ⟨w2.heap.size, 0, none⟩) 1 1 (flat [⟨ri, ro, rn⟩]) rfl rfl (.inr ⟨_, rfl, new3 _ _ _ _⟩) (flat_one _) (by unfold maxLen; omega) (by omega) (Nat.le_trans hb2 (by simp)) ?_)
          intro v2 w4 hown4 hgrow4 hat4
          obtain ⟨g, cap2, cur, hv2, hn2, hm2, hbg, hg4, hcs, htk, hgr, RB4, hB4, hG4, hgg⟩ := lay_mid hown RB2 hB2 hbase hown4 hgrow4 hat4
          rw [hv2]
          clear hv2 hown4 hgrow4 hat4 hown2 RB2 hB2 hb2 x0 x1 x2 x3
          unfold maxLen at hm2
          obtain ⟨x0, x1, x2, x3⟩ := id RB4
          dsimp only at x0 x1 x2
          have i1 : (0 : Int) ≤ (k : Int) := by omega
          have i2 : (k : Int) + 1 ≤ (L.length : Int) + 1 := by omega
          have i3 : (L.length : Int) + 1 ≤ (cap2 : Int) := by omega
          have n1 : ¬ cap2 = k + 1 := by omega
          have n2 : ¬ cap2 = k := by omega
          have i4 : (k : Int) ≤ (L.length : Int) + 1 := by omega
          have i5 : (0 : Int) ≤ (k : Int) + 1 := by omega
          have e1 : IntKind.i64.wrap ((k : Int) + 1) = (k : Int) + 1 := wrap_small (by omega) (by omega)
          have e2 : ((k : Int) + 1).toNat = k + 1 := by omega
          go_wp2_with fail
          have hsrc := cell_flat (k := k) hg4 htk hk
          have hcl : (flat (L.drop k)).length = (L.length - k) * 3 := by rw [flat_length]; simp
          have hfit : (k + 1) * 3 + (flat (L.drop k)).length ≤ cur.size := by rw [hcl, hcs]; omega
          have HT := take_splice hlt rfl htk (by have e : cur.toList.length = cap2 * 3 := (by simpa using hcs); omega)
          have hspl : (splice cur.toList ((k + 1) * 3) (flat (L.drop k))).length = cap2 * 3 := by rw [length_splice _ _ _ (by rw [Array.length_toList]; exact hfit), Array.length_toList, hcs]
          have HH : Hid ((splice cur.toList ((k + 1) * 3) (flat (L.drop k))).take ((L.length + 1) * 3) = flat (L.take k ++ L[k] :: L.drop k) ∧ (splice cur.toList ((k + 1) * 3) (flat (L.drop k))).length = cap2 * 3) := ⟨HT, hspl⟩
          have HX : Hid (∀ j v, (flat (L.drop k))[j]? = some v → w4.cell? ((⟨g, k * 3, none⟩ : Addr).add j) = some v) := hsrc
          clear HT hspl hsrc htk
          go_region_held3 (fun _ => True) (trivial) (first | (refine step_copy_rowN (w := w4.drew) (by rfl) (.tmp 29) (.tmp 32) 22 22 (by rfl) 53 3 Try.underlying22 Try.size53 g ((k + 1) * 3) (L.length - k) (cap2 - (k + 1)) ⟨g, k * 3, none⟩ (L.length + 1 - k) (cap2 - k) (by rfl) (by rfl) cur 53 hg4 (L.length - k) (by exact Nat.min_eq_right (by omega)) (flat (L.drop k)) hcl HX.out hfit (flat_one _) ?_; intro w5 HG5 hgrow5))
          clear HX hfit hcl x0 x1 x2 x3 e1 e2 i4 i5
          obtain ⟨HT, hspl⟩ := HH.out
          have hg5 := HG5.out
          have RB5 : RBox w5 w.heap.size ⟨ri, ro, rn⟩ := RBox.grown (w := w4.drew) RB4 hgrow5 hgr
          have hG5 := grown_then (w' := w4.drew) ⟨hG4.os, hG4.tape, hG4.output, hG4.size, hG4.block⟩ hgrow5 hgg
          have hB5 : Below base w w5 := (hB4.drew).grown hgrow5 (Nat.le_trans hbase hB4.size) (fun q e => by cases e; exact hbg)
          have HE : Hid ((((w5.setCell ⟨g, k * 3, none⟩ (.int .i64 ri)).setCell ⟨g, k * 3 + 1, none⟩ (.int .i64 ro)).setCell ⟨g, k * 3 + 2, none⟩ (.int .i64 rn)).ownsRow base 53 3 (.slice (some ⟨g, 0, none⟩) (L.length + 1) cap2) (L.length + 1) (flat (L.take k ++ ⟨ri, ro, rn⟩ :: L.drop k))) :=
            lay_end (r := ⟨ri, ro, rn⟩) (k := k) (n := L.length + 1) hbg hg5 (by simpa using hspl) hn2 (by unfold maxLen; exact hm2) (by simp; omega) (by simp; omega) (by simpa using HT)
          obtain ⟨c0', c1', c2', d0, d1, d2, fz⟩ := three_cells (k := k) hg5 (by simp only [List.size_toArray]; omega)
          clear HT hspl hg5 HG5 HH hgrow5 hg4 RB4 hB4
          obtain ⟨x0, x1, x2, x3⟩ := id RB5
          dsimp only at x0 x1 x2
          have i6 : (k : Int) < (L.length : Int) + 1 := by omega
          have hgr' : ¬ w.heap.size = g := fun e => hgr e.symm
          go_wp2
          go_ret
          exact ⟨_, rfl, by rw [HI.out]; exact HE.out, ((hB5.setCell hbg _).setCell hbg _).setCell hbg _, grown_then (grown_then (grown_then hG5 (setCell_grown _ _ _ _) hgg) (setCell_grown _ _ _ _) hgg) (setCell_grown _ _ _ _) hgg, fun q e => by cases e; exact hgg⟩
    · have hkk : k = L.length := by omega
      subst hkk
      have HI : Hid (insR L ⟨ri, ro, rn⟩ = L.take L.length ++ ⟨ri, ro, rn⟩ :: L.drop L.length) := insR_at hk HL.out (fun q hq => by simp at hq)
      have hd : decide ((L.length : Int) < (L.length : Int)) = false := by simp
      go_wp2
      go_quiet (fail)
      have hown2 : ((w1.drewN m).drewN nq).ownsRow base 53 3 _ L.length (flat L) := hown1
      have RB2 : RBox ((w1.drewN m).drewN nq) w.heap.size ⟨ri, ro, rn⟩ := RB
      have hB2 : Below w.heap.size w ((w1.drewN m).drewN nq) := below_drewN (below_drewN hBw m) nq
      have hb2 : base ≤ ((w1.drewN m).drewN nq).heap.size := Nat.le_trans hbase hB1.size
      clear RB hown1 hB1 hBw hsz x0 x1 x2 x3
      generalize (w1.drewN m).drewN nq = w2 at hown2 RB2 hB2 hb2 ⊢
      obtain ⟨x0, x1, x2, x3⟩ := id RB2
      dsimp only at x0 x1 x2
      go_wp2_with (at_builtin; refine wpList_append_src _ rfl (.tmp 22) (.tmp 24) 22 rfl base 53 i0 (.agg #[.int .i64 0, .int .i64 0, .int .i64 0]) 3 24 Try.underlying22 hi0 hz0 hz1 hz2 rfl (by decide) _ L.length (flat L) rfl (hown2.alloc _) (some ⟨w2.heap.size, 0, none⟩) 1 1 (flat [⟨ri, ro, rn⟩]) rfl rfl (.inr ⟨_, rfl, new3 _ _ _ _⟩) (flat_one _) (by unfold maxLen; omega) (by omega) (Nat.le_trans hb2 (by simp)) ?_)
      intro v2 w4 hown4 hgrow4 hat4
      obtain ⟨g, cap2, cur, hv2, hn2, hm2, hbg, hg4, hcs, htk, hgr, RB4, hB4, hG4, hgg⟩ := lay_mid hown RB2 hB2 hbase hown4 hgrow4 hat4
      rw [hv2]
      clear hv2 hown4 hgrow4 hat4 hown2 RB2 hB2 hb2 x0 x1 x2 x3
      have HE : Hid ((((w4.drew.setCell ⟨g, L.length * 3, none⟩ (.int .i64 ri)).setCell ⟨g, L.length * 3 + 1, none⟩ (.int .i64 ro)).setCell ⟨g, L.length * 3 + 2, none⟩ (.int .i64 rn)).ownsRow base 53 3 (.slice (some ⟨g, 0, none⟩) (L.length + 1) cap2) (L.length + 1) (flat (L.take L.length ++ ⟨ri, ro, rn⟩ :: L.drop L.length))) :=
        lay_end (w := w4.drew) (x := ⟨ri, ro, rn⟩) (r := ⟨ri, ro, rn⟩) (k := L.length) (n := L.length + 1) hbg hg4 hcs hn2 hm2 (by simp) (by simp) (by rw [htk]; simp [flat_append, flat])
      unfold maxLen at hm2
      obtain ⟨c0', c1', c2', d0, d1, d2, fz⟩ := three_cells (k := L.length) hg4 (by omega)
      have RB5 : RBox w4.drew w.heap.size ⟨ri, ro, rn⟩ := RB4
      have hB5 : Below base w w4.drew := hB4.drew
      have hG5 : w.grownBy w4.drew (Value.slice a L.length cap).ownBlock := ⟨hG4.os, hG4.tape, hG4.output, hG4.size, hG4.block⟩
      have i1 : (0 : Int) ≤ (L.length : Int) := by omega
      have i3 : (L.length : Int) + 1 ≤ (cap2 : Int) := by omega
      have n2 : ¬ cap2 = L.length := by omega
      have i4 : (L.length : Int) ≤ (L.length : Int) + 1 := by omega
      have i5 : (0 : Int) ≤ (L.length : Int) + 1 := by omega
      have e1 : IntKind.i64.wrap ((L.length : Int) + 1) = (L.length : Int) + 1 := wrap_small (by omega) (by omega)
      have e2 : ((L.length : Int) + 1).toNat = L.length + 1 := by omega
      have i6 : (L.length : Int) < (L.length : Int) + 1 := by omega
      have hgr' : ¬ w.heap.size = g := fun e => hgr e.symm
      obtain ⟨x0, x1, x2, x3⟩ := id RB4
      dsimp only at x0 x1 x2
      clear hg4 hcs htk
      go_wp2_with fail
      by_cases hc2 : cap2 = L.length + 1
      · have hc3 : (cap2 == L.length + 1) = true := by simpa using hc2
        subst hc2
        go_region_held3 (fun _ => True) (trivial) (first | (refine step_copy_noneN (w := w4.drew) (by rfl) (.tmp 29) (.tmp 32) 22 22 (by rfl) 53 3 Try.underlying22 Try.size53 _ _ _ _ _ _ (by rfl) (by rfl) (by simp) ?_))
        go_wp2
        go_ret
        exact ⟨_, rfl, by rw [HI.out]; exact HE.out, ((hB5.setCell hbg _).setCell hbg _).setCell hbg _, grown_then (grown_then (grown_then hG5 (setCell_grown _ _ _ _) hgg) (setCell_grown _ _ _ _) hgg) (setCell_grown _ _ _ _) hgg, fun q e => by cases e; exact hgg⟩
      · go_region_held3 (fun _ => True) (trivial) (first | (refine step_copy_noneN (w := w4.drew) (by rfl) (.tmp 29) (.tmp 32) 22 22 (by rfl) 53 3 Try.underlying22 Try.size53 _ _ _ _ _ _ (by rfl) (by rfl) (by simp) ?_))
        go_wp2
        go_ret
        exact ⟨_, rfl, by rw [HI.out]; exact HE.out, ((hB5.setCell hbg _).setCell hbg _).setCell hbg _, grown_then (grown_then (grown_then hG5 (setCell_grown _ _ _ _) hgg) (setCell_grown _ _ _ _) hgg) (setCell_grown _ _ _ _) hgg, fun q e => by cases e; exact hgg⟩
end Go.Proofs.Ytoadlnojcbkdgaa
