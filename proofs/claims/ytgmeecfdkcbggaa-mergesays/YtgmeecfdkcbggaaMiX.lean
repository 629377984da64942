/-
  walk, Look: the walks.
  slices.Values OF SPOTS, cmp.Compare OF STRINGS, THE CLOSURES OF places: the walks.
  NAMES IN WHAT IS SEEN; ALL THAT IS SEEN, LAID FLAT: the facts of no program.
  PLACES, what is gathered of kids, name by name: the facts of no program.
  A POOL: who has how many; a map and two lists that say the same; a world that has moved but at some blocks: the facts of no program.
-/
import Derived.Test.YtgmeecfdkcbggaaMhX
import Derived.Test.YtgmeecfdkcbggaaWlY
import Derived.Below
import Derived.Maps.OwnSet
namespace Go.Proofs.Ytgmeecfdkcbggaa
open Go.RowKit Go.Shelf
attribute [local go_sem] Oper.semAt_some
def wkS (n₀ : Nat) (S : Nat → Bool) : Nat → Bool := fun k => (k == n₀ || k == n₀ + 1 + 1 + 1 + 1) || S k
theorem mle_putS {A : World} {l : Nat} {o : Obj} {S : Nat → Bool} (hl : A.heap[l]? = some o) (ho : o.isCells = false) (o' : Obj) : MLe (offS A.cell? S) (offS (A.putObj l o').cell? S) := fun q v h => by
  have hs := offS_off h
  rw [offS_ne hs] at h ⊢
  exact mle_put hl ho o' _ _ h
theorem mle_less {c : Mem} {S S' : Nat → Bool} (h : ∀ k, S k = false → S' k = false) : MLe (offS c S) (offS c S') := fun q v hq => by
  have hs := offS_off hq
  rw [offS_ne hs] at hq
  rw [offS_ne (h _ hs)]
  exact hq
/-- What stands between two steps of walk. -/
structure WkJ (S : Nat → Bool) (w A : World) (xs : List Nd) (names : List ByteArray) (st : Loop) (i : Nat) : Prop where
  low : Below w.heap.size w A
  eb : ∃ v, Boxed A w.heap.size 51 v ∧ (0 < i → SpL (offS A.cell? (wkS w.heap.size S)) v (stackP xs (names.take (i - 1))))
  dk : A.heap[w.heap.size + 1 + 1 + 1]? = some (.deferred (some []))
  lk : A.heap[w.heap.size + 1 + 1 + 1 + 1]? = some (.loop st)
theorem WkJ.keep {w A B : World} {xs : List Nd} {names : List ByteArray} {st : Loop} {i : Nat} {S : Nat → Bool} (h : WkJ S w A xs names st i) (hb : Below A.heap.size A B) : WkJ S w B xs names st i := by
  obtain ⟨v, h1, h2⟩ := h.eb
  refine ⟨h.low.trans (hb.mono h.low.size), ⟨v, boxed_bel h1 hb, fun hi => (h2 hi).on (mle_S hb)⟩, ?_, ?_⟩
  · exact (hb.block _ (Array.getElem?_eq_some_iff.1 h.dk).1).trans h.dk
  · exact (hb.block _ (Array.getElem?_eq_some_iff.1 h.lk).1).trans h.lk
theorem steps_any (w : World) (a an : Option Addr) (n cap m capn : Nat) :
    Calls Try.prog 35 #[.slice a n cap, .slice an m capn] w fun e w' => e = .returned (.func (.func 55) #[] #[.pointer (some ⟨w.heap.size, 0, none⟩), .pointer (some ⟨w.heap.size + 1, 0, none⟩)]) ∧ w' = (w.alloc (.cells #[.slice a n cap] 22)).alloc (.cells #[.slice an m capn] 23) := by
  go_enter Try.func35, Try.ntmps35
  go_wp2
  go_ret
  exact ⟨rfl, rfl⟩
set_option maxRecDepth 100000 in
set_option maxHeartbeats 4000000 in
theorem walk_any {w : World} {S : Nat → Bool} (hS0 : ∀ k, S k = true → k < w.heap.size) {a : Option Addr} {cap : Nat} {xs : List Nd} {an : Option Addr} {capn : Nat} {names : List ByteArray} (hx : NsV (offS w.cell? S) a xs) (hs : Strs (offS w.cell? S) an names) (hlx : xs.length ≤ 1000) (hln : names.length ≤ 1000) (hsm : SmallP (layP xs)) :
    Calls Try.prog 24 #[.slice a xs.length cap, .slice an names.length capn] w fun e w' => ∃ v, e = .returned v ∧ SpL (offS w'.cell? S) v (stackP xs names) ∧ Below w.heap.size w w' := by
  refine (callsIn_wide (n := 0)).1 ?_
  refine callsIn_of_wp_marks Try.func24 rfl trivial ?_ rfl
  simp only [Try.ntmps24, List.size_toArray, List.length_cons, List.length_nil, Nat.reduceAdd, Nat.reduceSub, Array.replicate_succ, Array.replicate_zero, List.push_toArray, List.append_toArray, List.nil_append, List.cons_append]
  gi_wp2_with fail
  refine ⟨trivial, rfl, CallsIn.mono (callsIn_wide.2 (steps_any _ a an xs.length cap names.length capn)) ?_⟩
  rintro e w1 ⟨rfl, hw1⟩
  rw [World.size_alloc]
  have hB0 : Below w.heap.size w w1 := by rw [hw1]; exact (((Below.refl _ w).alloc (Nat.le_refl _) _).alloc (by rw [World.size_alloc]; omega) _).alloc (by rw [World.size_alloc, World.size_alloc]; omega) _
  have hz : w1.heap.size = w.heap.size + 1 + 1 + 1 := by rw [hw1, World.size_alloc, World.size_alloc, World.size_alloc]
  have bx1 : Boxed w1 w.heap.size 51 (.slice none 0 0) := by rw [hw1]; exact ((Boxed.new w _ _).alloc _).alloc _
  have bx2 : Boxed w1 (w.heap.size + 1) 22 (.slice a xs.length cap) := by
    rw [hw1]
    have := (Boxed.new (w.alloc (.cells #[.slice none 0 0] 51)) 22 (.slice a xs.length cap)).alloc (.cells #[.slice an names.length capn] 23)
    rwa [World.size_alloc] at this
  have bx3 : Boxed w1 (w.heap.size + 1 + 1) 23 (.slice an names.length capn) := by
    rw [hw1]
    have := Boxed.new ((w.alloc (.cells #[.slice none 0 0] 51)).alloc (.cells #[.slice a xs.length cap] 22)) 23 (.slice an names.length capn)
    rwa [World.size_alloc, World.size_alloc] at this
  clear hw1
  gi_wp2_with fail
  refine range_at (gf := 55) (lb := #[.pointer (some ⟨w.heap.size + 1, 0, none⟩), .pointer (some ⟨w.heap.size + 1 + 1, 0, none⟩)]) rfl (enters_of Try.func55 (by kernel_rfl) rfl) ?_
  intro fn rec hrec W1 hB1 hs1 hl1 hd1
  rw [hz] at hB1 hs1 hl1 hd1 ⊢
  have hB1' : Below w1.heap.size w1 W1 := by rw [hz]; exact hB1
  have h0 : WkJ S w W1 xs names (rec .ready none) 0 := ⟨hB0.trans (hB1.mono (by omega)), ⟨_, boxed_bel bx1 hB1', fun h => by omega⟩, hd1, hl1⟩
  have hSf : ∀ k, w.heap.size ≤ k → S k = false := fun k hk => by
    cases hh : S k with
    | false => rfl
    | true => have := hS0 k hh; omega
  have hW : MLe (offS w.cell? S) (offS W1.cell? (wkS w.heap.size S)) := mle_step fun k hk hs => ⟨by simp [wkS, hs]; omega, h0.low.block k hk⟩
  have k2 : offS W1.cell? (wkS w.heap.size S) ⟨w.heap.size + 1, 0, none⟩ = some (.slice a xs.length cap) := by rw [offS_ne (by simp [wkS]; exact hSf _ (by show w.heap.size ≤ w.heap.size + 1; omega))]; exact (boxed_bel bx2 hB1').cell
  have k3 : offS W1.cell? (wkS w.heap.size S) ⟨w.heap.size + 1 + 1, 0, none⟩ = some (.slice an names.length capn) := by rw [offS_ne (by simp [wkS]; exact ⟨by omega, hSf _ (by omega)⟩)]; exact (boxed_bel bx3 hB1').cell
  clear hB0 hB1 hB1' hs1 hl1 hd1 bx1 bx2 bx3
  refine (steps1_any (w.heap.size + 1) (w.heap.size + 1 + 1) a cap xs an capn names (w.heap.size + 1 + 1 + 1 + 1) (fun i S' A => S' = wkS w.heap.size S ∧ WkJ S w A xs names (rec .ready none) i) (fun _ => False) W1 (wkS w.heap.size S) k2 k3 (hx.on hW) (hs.on hW) hlx hln hsm
    (fun i S' A h k hk => by
      rw [h.1] at hk
      simp [wkS] at hk
      obtain ⟨v, h1, _⟩ := h.2.eb
      rcases hk with (e | e) | e
      · rw [e]; exact h1.lt
      · rw [e]; exact (Array.getElem?_eq_some_iff.1 h.2.lk).1
      · exact Nat.lt_of_lt_of_le (hS0 k e) h.2.low.size)
    (fun i S' A B h hb => ⟨h.1, h.2.keep hb⟩) ?rounds ⟨rfl, h0⟩).mono ?after
  case rounds =>
    rintro i S' v A hi ⟨rfl, hA⟩ hv
    have HV : Hid _ := hv
    obtain ⟨va, vc, D, rfl, _⟩ := hv
    obtain ⟨v0, hb0, _⟩ := hA.eb
    have hb1 := boxed_putL hb0 hA.lk (.loop (rec .busy none))
    have hc1 := hb1.cell
    have hf1 := hb1.frozen
    refine round_at hrec hA.lk rfl ?_
    gi_wp2
    refine ⟨hA.lk, ?_⟩
    gi_wp2
    have hlt : w.heap.size + 1 + 1 + 1 + 1 < A.heap.size := (Array.getElem?_eq_some_iff.1 hA.lk).1
    have hlk : ((A.putObj (w.heap.size + 1 + 1 + 1 + 1) (.loop (rec .busy none))).setCell ⟨w.heap.size, 0, none⟩ (.slice va D.length vc)).heap[w.heap.size + 1 + 1 + 1 + 1]? = some (.loop (rec .busy none)) := by
      rw [Below.heap_setCell _ _ _ _ (by show w.heap.size + 1 + 1 + 1 + 1 ≠ w.heap.size; omega)]
      exact World.putObj_heap_same hlt
    have hsame : ∀ k, wkS w.heap.size S k = false → (((A.putObj (w.heap.size + 1 + 1 + 1 + 1) (.loop (rec .busy none))).setCell ⟨w.heap.size, 0, none⟩ (.slice va D.length vc)).putObj (w.heap.size + 1 + 1 + 1 + 1) (.loop (rec .ready none))).heap[k]? = A.heap[k]? := fun k hk => by
      simp [wkS] at hk
      rw [World.putObj_heap_other hk.1.2, Below.heap_setCell _ _ _ _ (by show k ≠ w.heap.size; exact hk.1.1), World.putObj_heap_other hk.1.2]
    have hm : MLe (offS A.cell? (wkS w.heap.size S)) (offS (((A.putObj (w.heap.size + 1 + 1 + 1 + 1) (.loop (rec .busy none))).setCell ⟨w.heap.size, 0, none⟩ (.slice va D.length vc)).putObj (w.heap.size + 1 + 1 + 1 + 1) (.loop (rec .ready none))).cell? (wkS w.heap.size S)) := mle_step fun k _ hs => ⟨hs, hsame k hs⟩
    have hbl : Below w.heap.size A (((A.putObj (w.heap.size + 1 + 1 + 1 + 1) (.loop (rec .busy none))).setCell ⟨w.heap.size, 0, none⟩ (.slice va D.length vc)).putObj (w.heap.size + 1 + 1 + 1 + 1) (.loop (rec .ready none))) := by
      have e1 := (below_put (l := w.heap.size + 1 + 1 + 1 + 1) hA.low.size (by omega) (.loop (rec .busy none))).setCell (p := ⟨w.heap.size, 0, none⟩) (Nat.le_refl _) (.slice va D.length vc)
      exact e1.trans (below_put (Nat.le_trans hA.low.size e1.size) (by omega) _)
    exact ⟨hlk, rfl, _, ⟨rfl, ⟨hA.low.trans hbl, ⟨_, boxed_putL (hb1.set _) hlk _, fun _ => SpL.on HV.out hm⟩, (hsame _ (by simp [wkS]; exact ⟨by omega, hSf _ (by omega)⟩)).trans hA.dk, World.putObj_heap_same (Array.getElem?_eq_some_iff.1 hlk).1⟩⟩, hm⟩
  case after =>
    rintro e W2 ⟨⟨v, rfl⟩, (⟨S', rfl, h⟩ | h)⟩
    rotate_left
    · exact h.elim
    refine ⟨⟨_, rfl⟩, .inl ⟨h.lk, ?_⟩⟩
    obtain ⟨v, hb, hv⟩ := h.eb
    have hv2 := hv (by omega)
    rw [Nat.add_sub_cancel, List.take_length] at hv2
    have hb2 := boxed_putL hb h.lk (.loop (rec .exhausted none))
    have hK : (W2.putObj (w.heap.size + 1 + 1 + 1 + 1) (.loop (rec .exhausted none))).heap[w.heap.size + 1 + 1 + 1]? = some (.deferred (some [])) := (World.putObj_heap_other (by omega)).trans h.dk
    have hm := mle_putS (S := S) h.lk rfl (.loop (rec .exhausted none))
    have hv3 := (hv2.on (mle_less (S' := S) fun k hk => by simp [wkS] at hk; exact hk.2)).on hm
    have hB3 := h.low.trans (below_put (l := w.heap.size + 1 + 1 + 1 + 1) h.low.size (by omega) (.loop (rec .exhausted none)))
    clear hm hv2 hv hb
    generalize W2.putObj (w.heap.size + 1 + 1 + 1 + 1) (.loop (rec .exhausted none)) = W3 at hb2 hK hv3 hB3 ⊢
    have HV : Hid _ := hv3
    obtain ⟨va, vc, D, rfl, _⟩ := hv3
    have hc := hb2.cell
    gi_wp2
    refine ⟨by simp, .inl ⟨_, _, rfl, run_takeDeferred hK, ?_⟩⟩
    have hv4 : SpL (offS (W3.putObj (w.heap.size + 1 + 1 + 1) (.deferred none)).cell? S) (.slice va D.length vc) (stackP xs names) := SpL.on (c := offS W3.cell? S) HV.out (mle_putS hK rfl _)
    exact ⟨_, results_tmp rfl _ _ _, .slice va D.length vc, rfl, hv4, hB3.trans (below_put (l := w.heap.size + 1 + 1 + 1) hB3.size (by omega) _)⟩
end Go.Proofs.Ytgmeecfdkcbggaa
namespace Go.Proofs.Ytgmeecfdkcbggaa
open Go.RowKit Go.Shelf
attribute [local go_sem] Oper.semAt_some
theorem values_any (w : World) (a : Option Addr) (n cap : Nat) :
    Calls Try.prog 42 #[.slice a n cap] w fun e w' => e = .returned (.func (.func 57) #[] #[.pointer (some ⟨w.heap.size, 0, none⟩)]) ∧ w' = w.alloc (.cells #[.slice a n cap] 51) := by
  go_enter Try.func42, Try.ntmps42
  go_wp2
  go_ret
  exact ⟨rfl, rfl⟩
set_option maxRecDepth 100000 in
set_option maxHeartbeats 2000000 in
theorem values1_any (bd n₀ : Nat) (a : Option Addr) (cap : Nat) (D : List Sp) (w : World) (hn : n₀ = w.heap.size) (hd : w.cell? ⟨bd, 0, none⟩ = some (.slice a D.length cap)) (hlen : D.length ≤ 1000) (hR : SpRow w.cell? a D) :
    Its 57 #[.pointer (some ⟨bd, 0, none⟩)] n₀ w D := by
  subst hn
  intro l J Jx W hW hJ hY h0
  have hbd : bd < w.heap.size := World.block_lt_of_cell? _ _ hd
  have hcW : W.cell? ⟨bd, 0, none⟩ = some (.slice a D.length cap) := (hW.cell (p := ⟨bd, 0, none⟩) hbd).trans hd
  show CallsIn Fence.wide 0 Try.prog 57 #[.func (.yield l) #[] #[], .pointer (some ⟨bd, 0, none⟩)] W _
  refine callsIn_of_wp Try.func57 rfl trivial ?_ rfl
  simp only [Try.ntmps57, List.size_toArray, List.length_cons, List.length_nil, Nat.reduceAdd, Nat.reduceSub, Array.replicate_succ, Array.replicate_zero, List.push_toArray, List.append_toArray, List.nil_append, List.cons_append]
  have HY : Hid _ := hY
  have HR : Hid _ := hR
  obtain ⟨N, HN⟩ : ∃ N, Hid (D.length = N) := ⟨_, rfl⟩
  rw [HN.out] at hcW hlen ⊢
  clear hY hR hd
  gi_wp2
  gi_loopw [4, 7] (fun _ i wr => ∃ j : Nat, j ≤ N ∧ i = .int .i64 j ∧ J j wr ∧ Below w.heap.size w wr) (fun _ i _ => N - (intOf i).toNat)
  case atStart => exact ⟨0, Nat.zero_le _, rfl, h0, hW⟩
  case round =>
    obtain ⟨j, hj, rfl, hJj, hBj⟩ := hrel
    by_cases hjl : j < N
    rotate_left
    · have hji : decide ((j : Int) < (N : Int)) = false := decide_eq_false (by omega)
      gi_wp2
      go_end0
      exact ⟨⟨_, rfl⟩, .inl (by rw [show N = j by omega]; exact hJj)⟩
    · have hji : decide ((j : Int) < (N : Int)) = true := decide_eq_true (by omega)
      obtain ⟨d, hd⟩ : ∃ d, D[j]? = some d := ⟨_, List.getElem?_eq_getElem (by rw [HN.out]; exact hjl)⟩
      obtain ⟨b, off, rfl, hrow⟩ : ∃ b off, a = some ⟨b, off, none⟩ ∧ ∀ i d, D[i]? = some d → w.cell? ⟨b, off + i * 2, none⟩ = some (.pointer (some ⟨d.b, d.p, none⟩)) ∧ w.cell? ⟨b, off + i * 2 + 1, none⟩ = some (.int .i64 d.ly) := by
        rcases HR.out with e | e
        · subst e; simp at hd
        · exact e
      obtain ⟨r0, r1⟩ := hrow j d hd
      have r0 := mle_below hBj _ _ r0
      have r1 := mle_below hBj _ _ r1
      have hal : Below wr.heap.size wr (wr.alloc (.cells #[.pointer (some ⟨d.b, d.p, none⟩), .int .i64 d.ly] 55)) := (Below.refl _ _).alloc (Nat.le_refl _) _
      obtain ⟨c0, c1⟩ := two_new wr (.pointer (some ⟨d.b, d.p, none⟩)) (.int .i64 d.ly) 55
      have hB2 := hBj.trans (hal.mono hBj.size)
      obtain ⟨fn, tmps, assign, body, hyy, hRR⟩ := HY.out j d _ hd (hJ _ _ _ hJj hal)
      rw [Sp.v] at hyy
      have HRR : Hid _ := hRR
      clear hRR hd hrow
      gi_wp2
      refine ⟨rfl, RoundIn.mono HRR.out ?_⟩
      rintro e W3 (⟨rfl, hJ3, hk3⟩ | ⟨rfl, hJx3⟩)
      · have hB3 := hB2.trans hk3
        gi_wp2
        go_roundw
        case rel => exact ⟨j + 1, by omega, by go_num, hJ3, hB3⟩
        case measure => (simp [intOf]; try omega)
      · gi_wp2
        refine bodyPost_ret (results_none rfl _ _ _) rfl ?_
        exact ⟨⟨_, rfl⟩, .inr hJx3⟩
theorem nan_any (a : ByteArray) (w : World) : Calls Try.prog 61 #[.string a] w fun e w' => e = .returned (.bool false) ∧ w' = w := by
  have h : (a.toList == a.toList) = true := by simp
  go_enter Try.func61, Try.ntmps61
  go_wp2
  go_ret
  exact ⟨rfl, rfl⟩
/-- How two strings lie. -/
def cmpB (a b : ByteArray) : Int := if ltB a b = true then -1 else if ltB b a = true then 1 else 0
set_option maxRecDepth 100000 in
set_option maxHeartbeats 1000000 in
theorem cmpS_any (a b : ByteArray) (w : World) : Calls Try.prog 47 #[.string a, .string b] w fun e w' => e = .returned (.int .i64 (cmpB a b)) ∧ w' = w := by
  have HN : Hid (∀ (x : ByteArray) (W : World), Calls Try.prog 61 #[.string x] W fun e w' => e = .returned (.bool false) ∧ w' = W) := nan_any
  cases h1 : ltB a b with
  | true =>
    have e : cmpB a b = -1 := by unfold cmpB; rw [if_pos h1]
    rw [e]
    have h1' : Op.bytesLess a.toList b.toList = true := h1
    clear h1 e
    go_enter Try.func47, Try.ntmps47
    go_wp2_with (go_at_call 61; refine (HN.out _ _).mono ?_; rintro e w' ⟨rfl, rfl⟩)
    go_ret
    exact ⟨rfl, rfl⟩
  | false =>
    have h1' : Op.bytesLess a.toList b.toList = false := h1
    cases h2 : ltB b a with
    | true =>
      have e : cmpB a b = 1 := by unfold cmpB; rw [if_neg (by rw [h1]; simp), if_pos h2]
      rw [e]
      have h3' : (a.toList == b.toList) = false := by
        rw [beq_eq_false_iff_ne]
        exact fun q => ltB_ne h2 (toList_inj q).symm
      clear h1 h2 e
      go_enter Try.func47, Try.ntmps47
      go_wp2_with (go_at_call 61; refine (HN.out _ _).mono ?_; rintro e w' ⟨rfl, rfl⟩)
      go_ret
      exact ⟨rfl, rfl⟩
    | false =>
      have e : cmpB a b = 0 := by unfold cmpB; rw [if_neg (by rw [h1]; simp), if_neg (by rw [h2]; simp)]
      rw [e]
      have h3' : (a.toList == b.toList) = true := by
        rw [beq_iff_eq]
        rcases ltB_total a b with q | q | q
        · rw [h1] at q; cases q
        · rw [q]
        · rw [h2] at q; cases q
      clear h1 h2 e
      go_enter Try.func47, Try.ntmps47
      go_wp2_with (go_at_call 61; refine (HN.out _ _).mono ?_; rintro e w' ⟨rfl, rfl⟩)
      go_ret
      exact ⟨rfl, rfl⟩
set_option maxRecDepth 100000 in
set_option maxHeartbeats 1000000 in
/-- Is nothing seen there? -/
theorem none_any (n : ByteArray) (a : Option Addr) (len cap : Nat) (w : World) (hl : len ≤ 1000) : Calls Try.prog 44 #[.agg #[.string n, .slice a len cap]] w fun e w' => e = .returned (.bool (decide (len = 0))) ∧ w' = w.alloc (.cells #[.string n, .slice a len cap] 67) := by
  obtain ⟨c0, c1⟩ := two_new w (.string n) (.slice a len cap) 67
  by_cases h : len = 0
  · subst h
    go_enter Try.func44, Try.ntmps44
    go_wp2
    go_ret
    exact ⟨rfl, rfl⟩
  · have e : decide (len = 0) = false := decide_eq_false h
    have e2 : ((len : Int) == 0) = false := by rw [beq_eq_false_iff_ne]; omega
    rw [e]
    go_enter Try.func44, Try.ntmps44
    go_wp2
    go_ret
    exact ⟨rfl, rfl⟩
set_option maxRecDepth 100000 in
set_option maxHeartbeats 1000000 in
theorem order_any (n n' : ByteArray) (a a' : Option Addr) (l c l' c' : Nat) (w : World) : Calls Try.prog 46 #[.agg #[.string n, .slice a l c], .agg #[.string n', .slice a' l' c']] w fun e w' => e = .returned (.int .i64 (cmpB n n')) ∧ w' = (w.alloc (.cells #[.string n, .slice a l c] 67)).alloc (.cells #[.string n', .slice a' l' c'] 67) := by
  have HC : Hid (∀ W : World, Calls Try.prog 47 #[.string n, .string n'] W fun e w' => e = .returned (.int .i64 (cmpB n n')) ∧ w' = W) := fun W => cmpS_any n n' W
  generalize cmpB n n' = r at HC ⊢
  go_enter Try.func46, Try.ntmps46
  go_wp2_with (go_at_call 47; refine (HC.out _).mono ?_; rintro e w' ⟨rfl, rfl⟩)
  go_ret
  exact ⟨rfl, rfl⟩
end Go.Proofs.Ytgmeecfdkcbggaa
namespace Go.Proofs.Ytgmeecfdkcbggaa
open Go.RowKit
abbrev Fls := List (Nd × Nat)
/-- The first kid of a name. -/
def fstK (nm : ByteArray) : Kds → Option Nd
  | [] => none
  | p :: l => if p.1 = nm then some p.2 else fstK nm l
theorem fstK_no {nm : ByteArray} : ∀ {ks : Kds}, (∀ p ∈ ks, p.1 ≠ nm) → fstK nm ks = none
  | [], _ => rfl
  | p :: l, h => by rw [fstK, if_neg (h p (List.mem_cons_self ..)), fstK_no fun q hq => h q (List.mem_cons_of_mem _ hq)]
theorem fstK_hit {nm : ByteArray} {x : Nd} : ∀ {ks : Kds} {j : Nat}, ks[j]? = some (nm, x) → (∀ q, q < j → ∀ p, ks[q]? = some p → p.1 ≠ nm) → fstK nm ks = some x
  | [], j, h, _ => by simp at h
  | p :: l, 0, h, _ => by simp at h; rw [fstK, if_pos (by rw [h])]; rw [h]
  | p :: l, j + 1, h, k => by
    rw [fstK, if_neg (k 0 (by omega) p rfl)]
    exact fstK_hit (j := j) (by simpa using h) fun q hq p' hp' => k (q + 1) (by omega) p' (by simpa using hp')
theorem kidO_eq (nm : ByteArray) (x : Nd) : kidO nm x = fstK nm x.dirKs := by
  obtain ⟨k, m, u, g, o, at_, d, ks⟩ := x
  unfold kidO kidF
  show (if (if k = 2 then kidI nm ks 0 else -1) < 0 then none else (ks[((if k = 2 then kidI nm ks 0 else -1) : Int).toNat]?).map (·.2)) = fstK nm (if k = 2 then ks else [])
  by_cases hk : k = 2
  · rw [if_pos hk, if_pos hk]
    rcases kidI_at nm ks 0 with ⟨h1, h2⟩ | ⟨j, y, h1, h2, h3⟩
    · rw [h1, fstK_no h2]; rfl
    · rw [h1, fstK_hit h2 h3, if_neg (by omega), Int.toNat_natCast, Nat.zero_add, h2]; rfl
  · rw [if_neg hk, if_neg hk]; rfl
theorem fstK_mem {nm : ByteArray} {y : Nd} : ∀ {ks : Kds}, fstK nm ks = some y → (nm, y) ∈ ks
  | [], h => by cases h
  | p :: l, h => by
    rw [fstK] at h
    split at h
    · rename_i e; cases h; rw [← e]; exact List.mem_cons_self ..
    · exact List.mem_cons_of_mem _ (fstK_mem h)
theorem dirKs_sub {x : Nd} {p : ByteArray × Nd} (h : p ∈ x.dirKs) : p ∈ x.kids := by
  unfold Nd.dirKs at h
  split at h
  · exact h
  · cases h
/-- Rising names. -/
def Rise (l : List ByteArray) : Prop := l.Pairwise (fun a b => ltB a b = true)
/-- A name put where it belongs. -/
def insU (nm : ByteArray) : List ByteArray → List ByteArray
  | [] => [nm]
  | x :: r => if ltB x nm = true then x :: insU nm r else if x = nm then x :: r else nm :: x :: r
theorem mem_insU (nm : ByteArray) : ∀ {l : List ByteArray} {x : ByteArray}, x ∈ insU nm l ↔ x = nm ∨ x ∈ l
  | [], x => by simp [insU]
  | y :: r, x => by
    rw [insU]
    split
    · rw [List.mem_cons, mem_insU nm, List.mem_cons]
      constructor
      · rintro (h | h | h)
        · exact .inr (.inl h)
        · exact .inl h
        · exact .inr (.inr h)
      · rintro (h | h | h)
        · exact .inr (.inl h)
        · exact .inl h
        · exact .inr (.inr h)
    · split
      · rename_i e
        subst e
        simp
      · simp
theorem rise_insU (nm : ByteArray) : ∀ {l : List ByteArray}, Rise l → Rise (insU nm l)
  | [], _ => by simp [insU, Rise]
  | y :: r, h => by
    obtain ⟨h1, h2⟩ := List.pairwise_cons.1 h
    rw [insU]
    split
    · rename_i hl
      refine List.pairwise_cons.2 ⟨fun z hz => ?_, rise_insU nm h2⟩
      rcases (mem_insU nm).1 hz with e | e
      · rw [e]; exact hl
      · exact h1 z e
    · rename_i hl
      split
      · exact h
      · rename_i hne
        have hlt : ltB nm y = true := by
          rcases ltB_total y nm with h | h | h
          · exact absurd h hl
          · exact absurd h hne
          · exact h
        refine List.pairwise_cons.2 ⟨fun z hz => ?_, h⟩
        rcases List.mem_cons.1 hz with e | e
        · rw [e]; exact hlt
        · exact ltB_trans hlt (h1 z e)
theorem rise_one : ∀ {a b : List ByteArray}, Rise a → Rise b → (∀ x, x ∈ a ↔ x ∈ b) → a = b
  | [], [], _, _, _ => rfl
  | [], y :: b, _, _, h => by have := (h y).2 (List.mem_cons_self ..); cases this
  | x :: a, [], _, _, h => by have := (h x).1 (List.mem_cons_self ..); cases this
  | x :: a, y :: b, ha, hb, h => by
    obtain ⟨a1, a2⟩ := List.pairwise_cons.1 ha
    obtain ⟨b1, b2⟩ := List.pairwise_cons.1 hb
    have exy : x = y := by
      rcases List.mem_cons.1 ((h x).1 (List.mem_cons_self ..)) with e | e
      · exact e
      · rcases List.mem_cons.1 ((h y).2 (List.mem_cons_self ..)) with e2 | e2
        · exact e2.symm
        · have h1 := b1 x e
          have h2 := a1 y e2
          rw [ltB_asymm h1] at h2; cases h2
    subst exy
    congr 1
    refine rise_one a2 b2 fun z => ?_
    constructor
    · intro hz
      rcases List.mem_cons.1 ((h z).1 (List.mem_cons_of_mem _ hz)) with e | e
      · subst e; have := a1 z hz; rw [ltB_irrefl] at this; cases this
      · exact e
    · intro hz
      rcases List.mem_cons.1 ((h z).2 (List.mem_cons_of_mem _ hz)) with e | e
      · subst e; have := b1 z hz; rw [ltB_irrefl] at this; cases this
      · exact e
theorem rise_nodup {l : List ByteArray} (h : Rise l) : l.Nodup := List.Pairwise.imp (fun h => ltB_ne h) h
/-- The names of all kids. -/
def kNms (l : Fls) : List ByteArray := l.flatMap fun q => q.1.kids.map (·.1)
/-- What is seen at a name in what is seen. -/
def nxt (l : Fls) (nm : ByteArray) : Fls := shP (kidsP nm l)
def lstF (l : Fls) (out : List ByteArray) (r : List ByteArray) : List ByteArray := r.foldl (fun out nm => if (nxt l nm).isEmpty = true then out else insU nm out) out
theorem mem_lstF (l : Fls) : ∀ (r out : List ByteArray) (x : ByteArray), x ∈ lstF l out r ↔ x ∈ out ∨ (x ∈ r ∧ nxt l x ≠ [])
  | [], out, x => by simp [lstF]
  | nm :: r, out, x => by
    unfold lstF
    rw [List.foldl_cons]
    show x ∈ lstF l _ r ↔ _
    rw [mem_lstF l r]
    by_cases h : (nxt l nm).isEmpty = true
    · rw [if_pos h]
      have h' : nxt l nm = [] := List.isEmpty_iff.1 h
      constructor
      · rintro (h1 | ⟨h1, h2⟩)
        · exact .inl h1
        · exact .inr ⟨List.mem_cons_of_mem _ h1, h2⟩
      · rintro (h1 | ⟨h1, h2⟩)
        · exact .inl h1
        · rcases List.mem_cons.1 h1 with e | e
          · rw [e] at h2; exact absurd h' h2
          · exact .inr ⟨e, h2⟩
    · rw [if_neg h, mem_insU]
      have h' : nxt l nm ≠ [] := fun e => h (List.isEmpty_iff.2 e)
      constructor
      · rintro ((h1 | h1) | ⟨h1, h2⟩)
        · exact .inr ⟨by rw [h1]; exact List.mem_cons_self .., by rw [h1]; exact h'⟩
        · exact .inl h1
        · exact .inr ⟨List.mem_cons_of_mem _ h1, h2⟩
      · rintro (h1 | ⟨h1, h2⟩)
        · exact .inl (.inr h1)
        · rcases List.mem_cons.1 h1 with e | e
          · exact .inl (.inl e)
          · exact .inr ⟨e, h2⟩
theorem rise_lstF (l : Fls) : ∀ (r out : List ByteArray), Rise out → Rise (lstF l out r)
  | [], out, h => h
  | nm :: r, out, h => by
    unfold lstF
    rw [List.foldl_cons]
    refine rise_lstF l r _ ?_
    split
    · exact h
    · exact rise_insU nm h
/-- The names at which something is seen, rising. -/
def listP (l : Fls) : List ByteArray := lstF l [] (kNms l)
theorem listP_rise (l : Fls) : Rise (listP l) := rise_lstF l _ _ List.Pairwise.nil
theorem nxt_name {l : Fls} {nm : ByteArray} (h : nxt l nm ≠ []) : nm ∈ kNms l := by
  cases hk : kidsP nm l with
  | nil => exact absurd (by unfold nxt; rw [hk]; rfl) h
  | cons q r =>
    have hq : q ∈ kidsP nm l := by rw [hk]; exact List.mem_cons_self ..
    obtain ⟨p, hp, e⟩ := List.mem_filterMap.1 hq
    obtain ⟨y, hy, _⟩ := Option.map_eq_some_iff.1 e
    rw [kidO_eq] at hy
    exact List.mem_flatMap.2 ⟨p, hp, List.mem_map.2 ⟨_, dirKs_sub (fstK_mem hy), rfl⟩⟩
theorem mem_listP {l : Fls} {nm : ByteArray} : nm ∈ listP l ↔ nxt l nm ≠ [] := by
  unfold listP
  rw [mem_lstF]
  constructor
  · rintro (h | h)
    · cases h
    · exact h.2
  · intro h; exact .inr ⟨nxt_name h, h⟩
/-- How many nodes there are in all. -/
def tot : Fls → Nat
  | [] => 0
  | q :: r => cnt q.1 + tot r
theorem tot_app : ∀ a b : Fls, tot (a ++ b) = tot a + tot b
  | [], b => by simp [tot]
  | q :: a, b => by simp [tot, tot_app a b]; omega
theorem cnt_posF (x : Nd) : 0 < cnt x := by obtain ⟨k, m, u, g, o, at_, d, ks⟩ := x; rw [cnt]; omega
theorem len_tot : ∀ l : Fls, l.length ≤ tot l
  | [] => Nat.le_refl _
  | q :: r => by have := len_tot r; have := cnt_posF q.1; simp [tot]; omega
theorem tot_dirP : ∀ l : Fls, tot (dirP l) ≤ tot l
  | [] => Nat.le_refl _
  | q :: r => by
    have ih := tot_dirP r
    rw [dirP]
    split
    · simp [tot]
    split
    · simp [tot]
    · simp [tot]; omega
theorem tot_shP : ∀ l : Fls, tot (shP l) ≤ tot l
  | [] => Nat.le_refl _
  | q :: r => by
    rw [shP]
    split
    · simp [tot]
    · exact tot_dirP _
def oc : Option Nd → Nat
  | none => 0
  | some y => cnt y
theorem sum_zero : ∀ N : List ByteArray, (N.map fun _ => 0).sum = 0
  | [] => rfl
  | n :: N => by simp only [List.map_cons, List.sum_cons]; rw [sum_zero N]
theorem sum_split (g h : ByteArray → Nat) : ∀ N : List ByteArray, (N.map fun n => g n + h n).sum = (N.map g).sum + (N.map h).sum
  | [] => rfl
  | n :: N => by simp only [List.map_cons, List.sum_cons]; rw [sum_split g h N]; omega
theorem sum_one (a : ByteArray) (c : Nat) (g : ByteArray → Nat) : ∀ N : List ByteArray, N.Nodup → (N.map fun n => if a = n then c else g n).sum ≤ c + ((N.filter fun n => decide (a ≠ n)).map g).sum
  | [], _ => by simp
  | n :: N, h => by
    obtain ⟨h1, h2⟩ := List.nodup_cons.1 h
    rw [List.map_cons, List.sum_cons]
    by_cases e : a = n
    · rw [if_pos e]
      have hN : ∀ m ∈ N, a ≠ m := fun m hm e2 => h1 (by rw [← e, e2]; exact hm)
      have e1 : (N.map fun n => if a = n then c else g n) = N.map g := List.map_congr_left fun m hm => if_neg (hN m hm)
      have e2 : (n :: N).filter (fun n => decide (a ≠ n)) = N := by
        rw [List.filter_cons, if_neg (by simp [e])]
        exact List.filter_eq_self.2 fun m hm => decide_eq_true (hN m hm)
      rw [e1, e2]
      omega
    · rw [if_neg e, List.filter_cons, if_pos (by simp [e]), List.map_cons, List.sum_cons]
      have := sum_one a c g N h2
      omega
theorem fst_sum : ∀ (ks : Kds) (N : List ByteArray), N.Nodup → (N.map fun nm => oc (fstK nm ks)).sum ≤ cntL ks
  | [], N, _ => by
    have : (N.map fun nm => oc (fstK nm [])) = N.map fun _ => 0 := rfl
    rw [this, sum_zero]
    exact Nat.zero_le _
  | (a, y) :: l, N, h => by
    have e : (N.map fun nm => oc (fstK nm ((a, y) :: l))) = N.map fun nm => if a = nm then cnt y else oc (fstK nm l) := by
      refine List.map_congr_left fun nm _ => ?_
      rw [fstK]
      split <;> rfl
    rw [e, cntL]
    have h1 := sum_one a (cnt y) (fun nm => oc (fstK nm l)) N h
    have h2 := fst_sum l (N.filter fun n => decide (a ≠ n)) (h.filter _)
    omega
theorem kidsP_cons (nm : ByteArray) (q : Nd × Nat) (l : Fls) : tot (kidsP nm (q :: l)) = oc (kidO nm q.1) + tot (kidsP nm l) := by
  unfold kidsP
  rw [List.filterMap_cons]
  cases h : kidO nm q.1 with
  | none => simp [oc]
  | some y => simp [oc, tot]
theorem cnt_kidsN (x : Nd) : cntL x.dirKs + 1 ≤ cnt x := by
  obtain ⟨k, m, u, g, o, at_, d, ks⟩ := x
  rw [cnt]
  show cntL (if k = 2 then ks else []) + 1 ≤ _
  split
  · omega
  · rw [cntL]; omega
theorem tot_kids : ∀ (l : Fls) (N : List ByteArray), N.Nodup → (N.map fun nm => tot (kidsP nm l)).sum + l.length ≤ tot l
  | [], N, _ => by
    have : (N.map fun nm => tot (kidsP nm [])) = N.map fun _ => 0 := rfl
    rw [this, sum_zero]
    simp [tot]
  | q :: l, N, h => by
    have e : (N.map fun nm => tot (kidsP nm (q :: l))) = N.map fun nm => oc (fstK nm q.1.dirKs) + tot (kidsP nm l) := List.map_congr_left fun nm _ => by rw [kidsP_cons, kidO_eq]
    rw [e, sum_split]
    have h1 := fst_sum q.1.dirKs N h
    have h2 := tot_kids l N h
    have h3 := cnt_kidsN q.1
    simp only [tot, List.length_cons]
    omega
theorem sum_le (g h : ByteArray → Nat) (hg : ∀ n, g n ≤ h n) : ∀ N : List ByteArray, (N.map g).sum ≤ (N.map h).sum
  | [] => Nat.le_refl _
  | n :: N => by have := sum_le g h hg N; have := hg n; simp only [List.map_cons, List.sum_cons]; omega
theorem tot_nxt (l : Fls) (N : List ByteArray) (h : N.Nodup) : (N.map fun nm => tot (nxt l nm)).sum + l.length ≤ tot l := by
  have h1 := tot_kids l N h
  have h2 := sum_le (fun nm => tot (nxt l nm)) (fun nm => tot (kidsP nm l)) (fun nm => tot_shP _) N
  omega
theorem tot_nxt1 (l : Fls) (nm : ByteArray) : tot (nxt l nm) + l.length ≤ tot l := by
  have := tot_nxt l [nm] (by simp)
  simpa using this
theorem listP_len (l : Fls) : (listP l).length ≤ tot l := by
  have h := tot_nxt l (listP l) (rise_nodup (listP_rise l))
  have h2 : ∀ N : List ByteArray, (∀ nm ∈ N, nxt l nm ≠ []) → N.length ≤ (N.map fun nm => tot (nxt l nm)).sum := by
    intro N
    induction N with
    | nil => intro _; exact Nat.le_refl _
    | cons n N ih =>
      intro hN
      have h3 := ih fun nm hm => hN nm (List.mem_cons_of_mem _ hm)
      have h4 : 0 < tot (nxt l n) := Nat.lt_of_lt_of_le (List.length_pos_iff.2 (hN n (List.mem_cons_self ..))) (len_tot _)
      simp only [List.map_cons, List.sum_cons, List.length_cons]
      omega
  have := h2 (listP l) fun nm hm => mem_listP.1 hm
  omega
/-- A node without Kids and Opaque. -/
def nakN : Nd → Nd
  | .mk k m u g _ at_ d _ => .mk k m u g false at_ d []
/-- All that is seen, as one tree. -/
def flatP (f : Nd → Nat → Nd) : Nat → Fls → Nd
  | 0, _ => zN
  | _ + 1, [] => zN
  | n + 1, q :: r => (f (nakN q.1) q.2).with ((f (nakN q.1) q.2).kids ++ (listP (q :: r)).map fun nm => (nm, flatP f n (nxt (q :: r) nm)))
theorem flatP_fuel (f : Nd → Nat → Nd) : ∀ (n m : Nat) (l : Fls), tot l ≤ n → tot l ≤ m → flatP f n l = flatP f m l
  | 0, m, [], _, _ => by cases m <;> rfl
  | 0, m, q :: r, h, _ => by have := cnt_posF q.1; simp [tot] at h; omega
  | n + 1, 0, [], _, _ => rfl
  | n + 1, 0, q :: r, _, h => by have := cnt_posF q.1; simp [tot] at h; omega
  | n + 1, m + 1, [], _, _ => rfl
  | n + 1, m + 1, q :: r, h1, h2 => by
    rw [flatP, flatP]
    congr 2
    refine List.map_congr_left fun nm _ => ?_
    have h3 := tot_nxt1 (q :: r) nm
    rw [List.length_cons] at h3
    rw [flatP_fuel f n m _ (by omega) (by omega)]
def flatD (f : Nd → Nat → Nd) (l : Fls) : Nd := flatP f (tot l) l
theorem flatD_cons (f : Nd → Nat → Nd) (q : Nd × Nat) (r : Fls) : flatD f (q :: r) = (f (nakN q.1) q.2).with ((f (nakN q.1) q.2).kids ++ (listP (q :: r)).map fun nm => (nm, flatD f (nxt (q :: r) nm))) := by
  unfold flatD
  rw [flatP_fuel f (tot (q :: r)) (tot (q :: r) + 1) _ (Nat.le_refl _) (by omega), flatP]
  congr 2
  refine List.map_congr_left fun nm _ => ?_
  have h3 := tot_nxt1 (q :: r) nm
  rw [flatP_fuel f _ (tot (nxt (q :: r) nm)) _ (by omega) (Nat.le_refl _)]
end Go.Proofs.Ytgmeecfdkcbggaa
namespace Go.Proofs.Ytgmeecfdkcbggaa
open Go.RowKit
abbrev KSf := ByteArray × Sp
abbrev Pls := List (ByteArray × List Sp)
def fstS (nm : ByteArray) : List KSf → Option Sp
  | [] => none
  | p :: l => if p.1 = nm then some p.2 else fstS nm l
theorem fstS_app (nm : ByteArray) : ∀ (c d : List KSf), fstS nm (c ++ d) = (fstS nm c).or (fstS nm d)
  | [], d => rfl
  | p :: c, d => by
    rw [List.cons_append, fstS, fstS]
    split
    · rfl
    · exact fstS_app nm c d
theorem fstS_mem {nm : ByteArray} {s : Sp} : ∀ {c : List KSf}, fstS nm c = some s → (nm, s) ∈ c
  | [], h => by cases h
  | p :: c, h => by
    rw [fstS] at h
    split at h
    · rename_i e; cases h; rw [← e]; exact List.mem_cons_self ..
    · exact List.mem_cons_of_mem _ (fstS_mem h)
/-- What is gathered of a name. -/
def wnt (nm : ByteArray) (P : List (List KSf)) (c : List KSf) : List Sp := P.filterMap (fstS nm) ++ (fstS nm c).toList
structure PlI (A : Pls) (P : List (List KSf)) (c : List KSf) : Prop where
  nd : (A.map (·.1)).Nodup
  eq : ∀ p ∈ A, p.2 = wnt p.1 P c ∧ p.2 ≠ []
  all : ∀ nm, wnt nm P c ≠ [] → nm ∈ A.map (·.1)
theorem PlI.start : PlI [] [] [] := ⟨List.nodup_nil, fun p hp => (by cases hp), fun nm h => absurd rfl h⟩
theorem wnt_other {nm nm' : ByteArray} (h : nm ≠ nm') (P : List (List KSf)) (c : List KSf) (s : Sp) : wnt nm' P (c ++ [(nm, s)]) = wnt nm' P c := by
  unfold wnt
  rw [fstS_app]
  have : fstS nm' [(nm, s)] = none := by rw [fstS, if_neg h]; rfl
  rw [this, Option.or_none]
theorem wnt_new {nm : ByteArray} {P : List (List KSf)} {c : List KSf} (h : fstS nm c = none) (s : Sp) : wnt nm P (c ++ [(nm, s)]) = wnt nm P c ++ [s] := by
  unfold wnt
  rw [fstS_app, h]
  simp [fstS]
theorem wnt_old {nm : ByteArray} {P : List (List KSf)} {c : List KSf} (h : fstS nm c ≠ none) (s : Sp) : wnt nm P (c ++ [(nm, s)]) = wnt nm P c := by
  unfold wnt
  rw [fstS_app]
  cases e : fstS nm c with
  | none => exact absurd e h
  | some t => rfl
theorem PlI.new {A : Pls} {P : List (List KSf)} {c : List KSf} (h : PlI A P c) {nm : ByteArray} {s : Sp} (hn : nm ∉ A.map (·.1)) : PlI (A ++ [(nm, [s])]) P (c ++ [(nm, s)]) := by
  have h0 : wnt nm P c = [] := by
    cases e : wnt nm P c with
    | nil => rfl
    | cons t r => exact absurd (h.all nm (by rw [e]; simp)) hn
  have hc : fstS nm c = none := by
    unfold wnt at h0
    have := (List.append_eq_nil_iff.1 h0).2
    cases e : fstS nm c with
    | none => rfl
    | some t => rw [e] at this; cases this
  refine ⟨?_, ?_, ?_⟩
  · rw [List.map_append, List.nodup_append]
    refine ⟨h.nd, by simp, fun a ha b hb => ?_⟩
    simp only [List.map_cons, List.map_nil, List.mem_singleton] at hb
    subst hb
    intro e; subst e; exact hn ha
  · intro p hp
    rcases List.mem_append.1 hp with hp | hp
    · have h1 := h.eq p hp
      have hne : nm ≠ p.1 := fun e => hn (by rw [e]; exact List.mem_map_of_mem hp)
      rw [wnt_other hne]; exact h1
    · rw [List.mem_singleton] at hp
      subst hp
      rw [wnt_new hc, h0]
      exact ⟨rfl, by simp⟩
  · intro nm' h'
    by_cases e : nm = nm'
    · subst e; simp
    · rw [wnt_other e] at h'
      rw [List.map_append]
      exact List.mem_append.2 (.inl (h.all nm' h'))
theorem set_names {A : Pls} {i : Nat} {nm : ByteArray} {L L' : List Sp} (hi : A[i]? = some (nm, L)) : (A.set i (nm, L')).map (·.1) = A.map (·.1) := by
  rw [List.map_set]
  obtain ⟨hlt, e⟩ := List.getElem?_eq_some_iff.1 hi
  apply List.ext_getElem?
  intro j
  rw [List.getElem?_set]
  split
  · rename_i e2
    subst e2
    simp [hlt, e]
  · rfl
theorem mem_set_other {A : Pls} {i : Nat} {q p : ByteArray × List Sp} (h : p ∈ A.set i q) : p = q ∨ ∃ j, j ≠ i ∧ A[j]? = some p := by
  obtain ⟨j, hj⟩ := List.getElem?_of_mem h
  rw [List.getElem?_set] at hj
  split at hj
  · split at hj
    · exact .inl (by cases hj; rfl)
    · cases hj
  · rename_i e
    exact .inr ⟨j, fun e2 => e e2.symm, hj⟩
theorem nodup_idx {A : Pls} (h : (A.map (·.1)).Nodup) {i j : Nat} {p q : ByteArray × List Sp} (hi : A[i]? = some p) (hj : A[j]? = some q) (e : p.1 = q.1) : i = j := by
  induction A generalizing i j with
  | nil => simp at hi
  | cons a A ih =>
    rw [List.map_cons, List.nodup_cons] at h
    cases i with
    | zero =>
      cases j with
      | zero => rfl
      | succ j =>
        simp at hi
        subst hi
        exact absurd (by rw [e]; exact List.mem_map_of_mem (List.mem_of_getElem? (i := j) (by simpa using hj))) h.1
    | succ i =>
      cases j with
      | zero =>
        simp at hj
        subst hj
        exact absurd (by rw [← e]; exact List.mem_map_of_mem (List.mem_of_getElem? (i := i) (by simpa using hi))) h.1
      | succ j => exact congrArg (· + 1) (ih (i := i) (j := j) h.2 (by simpa using hi) (by simpa using hj))
theorem PlI.add {A : Pls} {P : List (List KSf)} {c : List KSf} (h : PlI A P c) {i : Nat} {nm : ByteArray} {L : List Sp} {s : Sp} (hi : A[i]? = some (nm, L)) (hl : ∀ t, L.getLast? = some t → t.ly ≠ s.ly) (hc : ∀ q ∈ c, q.2.ly = s.ly) : PlI (A.set i (nm, L ++ [s])) P (c ++ [(nm, s)]) := by
  have h1 := h.eq _ (List.mem_of_getElem? hi)
  have hn : fstS nm c = none := by
    cases e : fstS nm c with
    | none => rfl
    | some t =>
      have h2 := h1.1
      simp only at h2
      unfold wnt at h2
      rw [e] at h2
      exact absurd (hc _ (fstS_mem e)) (hl t (by rw [h2]; simp))
  have hm := List.mem_of_getElem? hi
  refine ⟨by rw [set_names hi]; exact h.nd, ?_, ?_⟩
  · intro p hp
    rcases mem_set_other hp with rfl | ⟨j, hj, hpj⟩
    · simp only
      rw [wnt_new hn, ← h1.1]
      exact ⟨rfl, by simp⟩
    · have hne : nm ≠ p.1 := fun e => hj (nodup_idx h.nd hpj hi e.symm)
      rw [wnt_other hne]
      exact h.eq p (List.mem_of_getElem? hpj)
  · intro nm' h'
    rw [set_names hi]
    by_cases e : nm = nm'
    · subst e; exact List.mem_map_of_mem hm
    · rw [wnt_other e] at h'
      exact h.all nm' h'
theorem PlI.old {A : Pls} {P : List (List KSf)} {c : List KSf} (h : PlI A P c) {i : Nat} {nm : ByteArray} {L : List Sp} {s t : Sp} (hi : A[i]? = some (nm, L)) (ht : L.getLast? = some t) (hl : t.ly = s.ly) (hP : ∀ d ∈ P, ∀ q ∈ d, q.2.ly ≠ s.ly) : PlI A P (c ++ [(nm, s)]) := by
  have h1 := h.eq _ (List.mem_of_getElem? hi)
  have hn : fstS nm c ≠ none := fun e => by
    have h2 := h1.1
    simp only at h2
    unfold wnt at h2
    rw [e] at h2
    simp only [Option.toList_none, List.append_nil] at h2
    have : t ∈ L := List.mem_of_getLast? ht
    rw [h2] at this
    obtain ⟨d, hd, e2⟩ := List.mem_filterMap.1 this
    exact hP d hd _ (fstS_mem e2) hl
  refine ⟨h.nd, fun p hp => ?_, fun nm' h' => ?_⟩
  · by_cases e : nm = p.1
    · subst e; rw [wnt_old hn]; exact h.eq p hp
    · rw [wnt_other e]; exact h.eq p hp
  · by_cases e : nm = nm'
    · subst e; exact List.mem_map_of_mem (List.mem_of_getElem? hi)
    · rw [wnt_other e] at h'; exact h.all nm' h'
theorem wnt_dir (nm : ByteArray) (P : List (List KSf)) (c : List KSf) : wnt nm (P ++ [c]) [] = wnt nm P c := by
  unfold wnt
  rw [List.filterMap_append]
  show _ ++ _ ++ [] = _
  rw [List.append_nil]
  cases e : fstS nm c with
  | none => simp [e]
  | some t => simp [e]
theorem PlI.dir {A : Pls} {P : List (List KSf)} {c : List KSf} (h : PlI A P c) : PlI A (P ++ [c]) [] := ⟨h.nd, fun p hp => by rw [wnt_dir]; exact h.eq p hp, fun nm h' => h.all nm (by rw [wnt_dir] at h'; exact h')⟩
/-- What is left of places: those at which something is seen. -/
def lftP (A : Pls) : Pls := (A.map fun p => (p.1, shS p.2)).filter fun p => !p.2.isEmpty
def plP (p : ByteArray × List Sp) : ByteArray × Fls := (p.1, p.2.map Sp.pr)
/-- Sorted, they are the names of what is seen, each with what is seen there. -/
theorem places_end {A PL : Pls} {K : List (List KSf)} {l : Fls} (h : PlI A K []) (hw : ∀ nm, (wnt nm K []).map Sp.pr = kidsP nm l) (hp : PL.Perm (lftP A)) (hs : PL.Pairwise fun a b => ltB b.1 a.1 = false) :
    PL.map plP = (listP l).map fun nm => (nm, nxt l nm) := by
  have hnd : ((lftP A).map (·.1)).Nodup := by
    have h1 : ((A.map fun p => (p.1, shS p.2)).map (·.1)).Nodup := by
      rw [List.map_map]
      exact h.nd
    exact h1.sublist (List.Sublist.map _ List.filter_sublist)
  have hndP : (PL.map (·.1)).Nodup := (hp.map _).nodup_iff.2 hnd
  have hri : Rise (PL.map (·.1)) := by
    unfold Rise
    rw [List.pairwise_map]
    have h2 : PL.Pairwise fun a b => a.1 ≠ b.1 := by
      have := hndP
      unfold List.Nodup at this
      rwa [List.pairwise_map] at this
    refine (List.Pairwise.and hs h2).imp ?_
    rintro a b ⟨h3, h4⟩
    rcases ltB_total a.1 b.1 with e | e | e
    · exact e
    · exact absurd e h4
    · rw [e] at h3; cases h3
  have heq : ∀ p ∈ PL, p.2.map Sp.pr = nxt l p.1 ∧ nxt l p.1 ≠ [] := by
    intro p hpm
    have h1 := hp.mem_iff.1 hpm
    obtain ⟨h2, h3⟩ := List.mem_filter.1 h1
    obtain ⟨q, hq, rfl⟩ := List.mem_map.1 h2
    have h4 := (h.eq q hq).1
    have h5 : (shS q.2).map Sp.pr = nxt l q.1 := by
      rw [shS_pr, h4, hw]; rfl
    refine ⟨h5, fun e => ?_⟩
    rw [← h5] at e
    have e2 := List.map_eq_nil_iff.1 e
    simp [e2] at h3
  have hall : ∀ nm, nxt l nm ≠ [] → nm ∈ PL.map (·.1) := by
    intro nm hn
    have h1 : kidsP nm l ≠ [] := fun e => hn (by unfold nxt; rw [e]; rfl)
    have h2 : wnt nm K [] ≠ [] := fun e => h1 (by rw [← hw, e]; rfl)
    obtain ⟨q, hq, e⟩ := List.mem_map.1 (h.all nm h2)
    refine List.mem_map.2 ⟨(q.1, shS q.2), hp.mem_iff.2 (List.mem_filter.2 ⟨List.mem_map.2 ⟨q, hq, rfl⟩, ?_⟩), e⟩
    have h4 := (h.eq q hq).1
    have h5 : (shS q.2).map Sp.pr = nxt l q.1 := by rw [shS_pr, h4, hw]; rfl
    have h6 : shS q.2 ≠ [] := fun e2 => hn (by rw [← e]; show nxt l q.1 = []; rw [← h5, e2]; rfl)
    simp only [Bool.not_eq_true']
    cases e3 : (shS q.2) with
    | nil => exact absurd e3 h6
    | cons a b => rfl
  have hnames : PL.map (·.1) = listP l := rise_one hri (listP_rise l) fun nm => by
    rw [mem_listP]
    constructor
    · intro hm
      obtain ⟨p, hp2, rfl⟩ := List.mem_map.1 hm
      exact (heq p hp2).2
    · exact hall nm
  rw [← hnames, List.map_map]
  refine List.map_congr_left fun p hpm => ?_
  show (p.1, p.2.map Sp.pr) = (p.1, nxt l p.1)
  rw [(heq p hpm).1]
end Go.Proofs.Ytgmeecfdkcbggaa
namespace Go.Proofs.Ytgmeecfdkcbggaa
open Go.RowKit Go.Maps
/-- A world that has moved: of what was there just the blocks that are named may have turned. -/
structure Mv (S : Nat → Prop) (w w' : World) : Prop where
  os : w'.os = w.os
  tape : w'.tape = w.tape
  output : w'.output = w.output
  size : w.heap.size ≤ w'.heap.size
  block : ∀ k, k < w.heap.size → ¬ S k → w'.heap[k]? = w.heap[k]?
theorem Mv.refl (S : Nat → Prop) (w : World) : Mv S w w := ⟨rfl, rfl, rfl, Nat.le_refl _, fun _ _ _ => rfl⟩
theorem Mv.trans {S : Nat → Prop} {a b c : World} (h : Mv S a b) (k : Mv S b c) : Mv S a c :=
  ⟨k.os.trans h.os, k.tape.trans h.tape, k.output.trans h.output, Nat.le_trans h.size k.size, fun i hi hs => (k.block i (Nat.lt_of_lt_of_le hi h.size) hs).trans (h.block i hi hs)⟩
theorem Mv.of {S : Nat → Prop} {w w' : World} (h : Below w.heap.size w w') : Mv S w w' := ⟨h.os, h.tape, h.output, h.size, fun k hk _ => h.block k hk⟩
theorem Mv.drew {S : Nat → Prop} {w w' : World} (h : Mv S w w') : Mv S w w'.drew := ⟨h.os, h.tape, h.output, h.size, h.block⟩
theorem Mv.alloc {S : Nat → Prop} {w w' : World} (h : Mv S w w') (o : Obj) : Mv S w (w'.alloc o) := h.trans (Mv.of ((Below.refl _ _).alloc (Nat.le_refl _) o))
theorem Mv.setCell {S : Nat → Prop} {w w' : World} (h : Mv S w w') {p : Addr} (hp : S p.block) (u : Value) : Mv S w (w'.setCell p u) :=
  h.trans ⟨rfl, rfl, rfl, by simp [World.setCell], fun k _ hs => Below.heap_setCell _ _ _ _ (fun e => hs (e ▸ hp))⟩
theorem Mv.grown {S : Nat → Prop} {a w w' : World} {row : Option Nat} (h : Mv S a w) (hg : w.grownBy w' row) (hr : ∀ k, row = some k → S k) : Mv S a w' :=
  h.trans ⟨hg.os, hg.tape, hg.output, hg.size, fun k hk hs => hg.block k hk (fun e => hs (hr k e.symm))⟩
theorem Mv.below {S : Nat → Prop} {w w' : World} (h : Mv S w w') {B : Nat} (hB : B ≤ w.heap.size) (hS : ∀ k, S k → B ≤ k) : Below B w w' :=
  ⟨h.os, h.tape, h.output, h.size, fun k hk => h.block k (Nat.lt_of_lt_of_le hk hB) (fun hs => by have := hS k hs; omega)⟩
theorem Mv.mono {S T : Nat → Prop} {w w' : World} (h : Mv S w w') (hs : ∀ k, S k → T k) : Mv T w w' := ⟨h.os, h.tape, h.output, h.size, fun k hk ht => h.block k hk (fun e => ht (hs k e))⟩
theorem Mv.cell {S : Nat → Prop} {w w' : World} (h : Mv S w w') {p : Addr} (hp : p.block < w.heap.size) (hs : ¬ S p.block) : w'.cell? p = w.cell? p := World.cell?_of_block (w := w) (h.block _ hp hs)
theorem Mv.frozen {S : Nat → Prop} {w w' : World} (h : Mv S w w') {p : Addr} (hp : p.block < w.heap.size) (hs : ¬ S p.block) : w'.frozen? p = w.frozen? p := World.frozen?_of_block (w := w) (h.block _ hp hs)
end Go.Proofs.Ytgmeecfdkcbggaa
