/-
  walk, Look: the walks.
-/
import Derived.Test.YtkkhfnkmfkdhiabMeX
import Derived.Test.YtkkhfnkmfkdhiabWlY
namespace Go.Proofs.Ytkkhfnkmfkdhiab
open Go.RowKit Go.Shelf
attribute [local go_sem] Oper.semAt_some

def wkS (n₀ : Nat) (S : Nat → Bool) : Nat → Bool := fun k => (k == n₀ || k == n₀ + 1 + 1 + 1 + 1) || S k
theorem mle_putS {A : World} {l : Nat} {o : Obj} {S : Nat → Bool} (hl : A.heap[l]? = some o) (ho : o.isCells = false) (o' : Obj) : MLe (offS A.cell? S) (offS (A.putObj l o').cell? S) := fun q v h => by
  have hs := offS_off h
  rw [offS_ne hs] at h ⊢
  exact mle_put hl ho o' _ _ h
theorem mle_less {c : Mem} {S S' : Nat → Bool} (h : ∀ k, S k = false → S' k = false) : MLe (offS c S) (offS c S') := fun q v hq => by
  have hs := offS_off hq
  rw [offS_ne hs] at hq
  rw [offS_ne (h _ hs)]
  exact hq
/-- What stands between two steps of walk. -/
structure WkJ (S : Nat → Bool) (w A : World) (xs : List Nd) (names : List ByteArray) (st : Loop) (i : Nat) : Prop where
  low : Below w.heap.size w A
  eb : ∃ v, Boxed A w.heap.size 119 v ∧ (0 < i → SpL (offS A.cell? (wkS w.heap.size S)) v (stackP xs (names.take (i - 1))))
  dk : A.heap[w.heap.size + 1 + 1 + 1]? = some (.deferred (some []))
  lk : A.heap[w.heap.size + 1 + 1 + 1 + 1]? = some (.loop st)
theorem WkJ.keep {w A B : World} {xs : List Nd} {names : List ByteArray} {st : Loop} {i : Nat} {S : Nat → Bool} (h : WkJ S w A xs names st i) (hb : Below A.heap.size A B) : WkJ S w B xs names st i := by
  obtain ⟨v, h1, h2⟩ := h.eb
  refine ⟨h.low.trans (hb.mono h.low.size), ⟨v, boxed_bel h1 hb, fun hi => (h2 hi).on (mle_S hb)⟩, ?_, ?_⟩
  · exact (hb.block _ (Array.getElem?_eq_some_iff.1 h.dk).1).trans h.dk
  · exact (hb.block _ (Array.getElem?_eq_some_iff.1 h.lk).1).trans h.lk
theorem steps_any (w : World) (a an : Option Addr) (n cap m capn : Nat) :
    Calls Try.prog 112 #[.slice a n cap, .slice an m capn] w fun e w' => e = .returned (.func (.func 138) #[] #[.pointer (some ⟨w.heap.size, 0, none⟩), .pointer (some ⟨w.heap.size + 1, 0, none⟩)]) ∧ w' = (w.alloc (.cells #[.slice a n cap] 50)).alloc (.cells #[.slice an m capn] 43) := by
  go_enter Try.func112, Try.ntmps112
  go_wp2
  go_ret
  exact ⟨rfl, rfl⟩
set_option maxRecDepth 100000 in
set_option maxHeartbeats 4000000 in
theorem walk_any {w : World} {S : Nat → Bool} (hS0 : ∀ k, S k = true → k < w.heap.size) {a : Option Addr} {cap : Nat} {xs : List Nd} {an : Option Addr} {capn : Nat} {names : List ByteArray} (hx : NsV (offS w.cell? S) a xs) (hs : Strs (offS w.cell? S) an names) (hlx : xs.length ≤ 1000) (hln : names.length ≤ 1000) (hsm : SmallP (layP xs)) :
    Calls Try.prog 76 #[.slice a xs.length cap, .slice an names.length capn] w fun e w' => ∃ v, e = .returned v ∧ SpL (offS w'.cell? S) v (stackP xs names) ∧ Below w.heap.size w w' := by
  refine (callsIn_wide (n := 0)).1 ?_
  refine callsIn_of_wp_marks Try.func76 rfl trivial ?_ rfl
  simp only [Try.ntmps76, List.size_toArray, List.length_cons, List.length_nil, Nat.reduceAdd, Nat.reduceSub, Array.replicate_succ, Array.replicate_zero, List.push_toArray, List.append_toArray, List.nil_append, List.cons_append]
  gi_wp2_with fail
  refine ⟨trivial, rfl, CallsIn.mono (callsIn_wide.2 (steps_any _ a an xs.length cap names.length capn)) ?_⟩
  rintro e w1 ⟨rfl, hw1⟩
  rw [World.size_alloc]
  have hB0 : Below w.heap.size w w1 := by rw [hw1]; exact (((Below.refl _ w).alloc (Nat.le_refl _) _).alloc (by rw [World.size_alloc]; omega) _).alloc (by rw [World.size_alloc, World.size_alloc]; omega) _
  have hz : w1.heap.size = w.heap.size + 1 + 1 + 1 := by rw [hw1, World.size_alloc, World.size_alloc, World.size_alloc]
  have bx1 : Boxed w1 w.heap.size 119 (.slice none 0 0) := by rw [hw1]; exact ((Boxed.new w _ _).alloc _).alloc _
  have bx2 : Boxed w1 (w.heap.size + 1) 50 (.slice a xs.length cap) := by
    rw [hw1]
    have := (Boxed.new (w.alloc (.cells #[.slice none 0 0] 119)) 50 (.slice a xs.length cap)).alloc (.cells #[.slice an names.length capn] 43)
    rwa [World.size_alloc] at this
  have bx3 : Boxed w1 (w.heap.size + 1 + 1) 43 (.slice an names.length capn) := by
    rw [hw1]
    have := Boxed.new ((w.alloc (.cells #[.slice none 0 0] 119)).alloc (.cells #[.slice a xs.length cap] 50)) 43 (.slice an names.length capn)
    rwa [World.size_alloc, World.size_alloc] at this
  clear hw1
  gi_wp2_with fail
  refine range_at (gf := 138) (lb := #[.pointer (some ⟨w.heap.size + 1, 0, none⟩), .pointer (some ⟨w.heap.size + 1 + 1, 0, none⟩)]) rfl (enters_of Try.func138 (by kernel_rfl) rfl) ?_
  intro fn rec hrec W1 hB1 hs1 hl1 hd1
  rw [hz] at hB1 hs1 hl1 hd1 ⊢
  have hB1' : Below w1.heap.size w1 W1 := by rw [hz]; exact hB1
  have h0 : WkJ S w W1 xs names (rec .ready none) 0 := ⟨hB0.trans (hB1.mono (by omega)), ⟨_, boxed_bel bx1 hB1', fun h => by omega⟩, hd1, hl1⟩
  have hSf : ∀ k, w.heap.size ≤ k → S k = false := fun k hk => by
    cases hh : S k with
    | false => rfl
    | true => have := hS0 k hh; omega
  have hW : MLe (offS w.cell? S) (offS W1.cell? (wkS w.heap.size S)) := mle_step fun k hk hs => ⟨by simp [wkS, hs]; omega, h0.low.block k hk⟩
  have k2 : offS W1.cell? (wkS w.heap.size S) ⟨w.heap.size + 1, 0, none⟩ = some (.slice a xs.length cap) := by rw [offS_ne (by simp [wkS]; exact hSf _ (by show w.heap.size ≤ w.heap.size + 1; omega))]; exact (boxed_bel bx2 hB1').cell
  have k3 : offS W1.cell? (wkS w.heap.size S) ⟨w.heap.size + 1 + 1, 0, none⟩ = some (.slice an names.length capn) := by rw [offS_ne (by simp [wkS]; exact ⟨by omega, hSf _ (by omega)⟩)]; exact (boxed_bel bx3 hB1').cell
  clear hB0 hB1 hB1' hs1 hl1 hd1 bx1 bx2 bx3
  refine (steps1_any (w.heap.size + 1) (w.heap.size + 1 + 1) a cap xs an capn names (w.heap.size + 1 + 1 + 1 + 1) (fun i S' A => S' = wkS w.heap.size S ∧ WkJ S w A xs names (rec .ready none) i) (fun _ => False) W1 (wkS w.heap.size S) k2 k3 (hx.on hW) (hs.on hW) hlx hln hsm
    (fun i S' A h k hk => by
      rw [h.1] at hk
      simp [wkS] at hk
      obtain ⟨v, h1, _⟩ := h.2.eb
      rcases hk with (e | e) | e
      · rw [e]; exact h1.lt
      · rw [e]; exact (Array.getElem?_eq_some_iff.1 h.2.lk).1
      · exact Nat.lt_of_lt_of_le (hS0 k e) h.2.low.size)
    (fun i S' A B h hb => ⟨h.1, h.2.keep hb⟩) ?rounds ⟨rfl, h0⟩).mono ?after
  case rounds =>
    rintro i S' v A hi ⟨rfl, hA⟩ hv
    have HV : Hid _ := hv
    obtain ⟨va, vc, D, rfl, _⟩ := hv
    obtain ⟨v0, hb0, _⟩ := hA.eb
    have hb1 := boxed_putL hb0 hA.lk (.loop (rec .busy none))
    have hc1 := hb1.cell
    have hf1 := hb1.frozen
    refine round_at hrec hA.lk rfl ?_
    gi_wp2
    refine ⟨hA.lk, ?_⟩
    gi_wp2
    have hlt : w.heap.size + 1 + 1 + 1 + 1 < A.heap.size := (Array.getElem?_eq_some_iff.1 hA.lk).1
    have hlk : ((A.putObj (w.heap.size + 1 + 1 + 1 + 1) (.loop (rec .busy none))).setCell ⟨w.heap.size, 0, none⟩ (.slice va D.length vc)).heap[w.heap.size + 1 + 1 + 1 + 1]? = some (.loop (rec .busy none)) := by
      rw [Below.heap_setCell _ _ _ _ (by show w.heap.size + 1 + 1 + 1 + 1 ≠ w.heap.size; omega)]
      exact World.putObj_heap_same hlt
    have hsame : ∀ k, wkS w.heap.size S k = false → (((A.putObj (w.heap.size + 1 + 1 + 1 + 1) (.loop (rec .busy none))).setCell ⟨w.heap.size, 0, none⟩ (.slice va D.length vc)).putObj (w.heap.size + 1 + 1 + 1 + 1) (.loop (rec .ready none))).heap[k]? = A.heap[k]? := fun k hk => by
      simp [wkS] at hk
      rw [World.putObj_heap_other hk.1.2, Below.heap_setCell _ _ _ _ (by show k ≠ w.heap.size; exact hk.1.1), World.putObj_heap_other hk.1.2]
    have hm : MLe (offS A.cell? (wkS w.heap.size S)) (offS (((A.putObj (w.heap.size + 1 + 1 + 1 + 1) (.loop (rec .busy none))).setCell ⟨w.heap.size, 0, none⟩ (.slice va D.length vc)).putObj (w.heap.size + 1 + 1 + 1 + 1) (.loop (rec .ready none))).cell? (wkS w.heap.size S)) := mle_step fun k _ hs => ⟨hs, hsame k hs⟩
    have hbl : Below w.heap.size A (((A.putObj (w.heap.size + 1 + 1 + 1 + 1) (.loop (rec .busy none))).setCell ⟨w.heap.size, 0, none⟩ (.slice va D.length vc)).putObj (w.heap.size + 1 + 1 + 1 + 1) (.loop (rec .ready none))) := by
      have e1 := (below_put (l := w.heap.size + 1 + 1 + 1 + 1) hA.low.size (by omega) (.loop (rec .busy none))).setCell (p := ⟨w.heap.size, 0, none⟩) (Nat.le_refl _) (.slice va D.length vc)
      exact e1.trans (below_put (Nat.le_trans hA.low.size e1.size) (by omega) _)
    exact ⟨hlk, rfl, _, ⟨rfl, ⟨hA.low.trans hbl, ⟨_, boxed_putL (hb1.set _) hlk _, fun _ => SpL.on HV.out hm⟩, (hsame _ (by simp [wkS]; exact ⟨by omega, hSf _ (by omega)⟩)).trans hA.dk, World.putObj_heap_same (Array.getElem?_eq_some_iff.1 hlk).1⟩⟩, hm⟩
  case after =>
    rintro e W2 ⟨⟨v, rfl⟩, (⟨S', rfl, h⟩ | h)⟩
    rotate_left
    · exact h.elim
    refine ⟨⟨_, rfl⟩, .inl ⟨h.lk, ?_⟩⟩
    obtain ⟨v, hb, hv⟩ := h.eb
    have hv2 := hv (by omega)
    rw [Nat.add_sub_cancel, List.take_length] at hv2
    have hb2 := boxed_putL hb h.lk (.loop (rec .exhausted none))
    have hK : (W2.putObj (w.heap.size + 1 + 1 + 1 + 1) (.loop (rec .exhausted none))).heap[w.heap.size + 1 + 1 + 1]? = some (.deferred (some [])) := (World.putObj_heap_other (by omega)).trans h.dk
    have hm := mle_putS (S := S) h.lk rfl (.loop (rec .exhausted none))
    have hv3 := (hv2.on (mle_less (S' := S) fun k hk => by simp [wkS] at hk; exact hk.2)).on hm
    have hB3 := h.low.trans (below_put (l := w.heap.size + 1 + 1 + 1 + 1) h.low.size (by omega) (.loop (rec .exhausted none)))
    clear hm hv2 hv hb
    generalize W2.putObj (w.heap.size + 1 + 1 + 1 + 1) (.loop (rec .exhausted none)) = W3 at hb2 hK hv3 hB3 ⊢
    have HV : Hid _ := hv3
    obtain ⟨va, vc, D, rfl, _⟩ := hv3
    have hc := hb2.cell
    gi_wp2
    refine ⟨by simp, .inl ⟨_, _, rfl, run_takeDeferred hK, ?_⟩⟩
    have hv4 : SpL (offS (W3.putObj (w.heap.size + 1 + 1 + 1) (.deferred none)).cell? S) (.slice va D.length vc) (stackP xs names) := SpL.on (c := offS W3.cell? S) HV.out (mle_putS hK rfl _)
    exact ⟨_, results_tmp rfl _ _ _, .slice va D.length vc, rfl, hv4, hB3.trans (below_put (l := w.heap.size + 1 + 1 + 1) hB3.size (by omega) _)⟩
end Go.Proofs.Ytkkhfnkmfkdhiab
