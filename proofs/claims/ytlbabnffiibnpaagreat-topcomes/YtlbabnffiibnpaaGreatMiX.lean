/-
  walk, Look: the walks.
  Look: the walk.
  A NODE WITH ITS IDS ON THE OTHER SIDE: the walks of across, Inside, Outside, Moved.
  Inside, Outside, the document's Moved: the walks.
-/
import Derived.Test.YtlbabnffiibnpaaGreatWoX
import Derived.Test.YtlbabnffiibnpaaGreatWlY
import Derived.Deep.RegionHeld3
import Derived.Test.YtlbabnffiibnpaaGreatNcX
import Derived.Deep.QuietTactic
import Derived.BigQuiet
namespace Go.Proofs.YtlbabnffiibnpaaGreat
open Go.RowKit Go.Shelf
attribute [local go_sem] Oper.semAt_some
def wkS (n₀ : Nat) (S : Nat → Bool) : Nat → Bool := fun k => (k == n₀ || k == n₀ + 1 + 1 + 1 + 1) || S k
theorem mle_putS {A : World} {l : Nat} {o : Obj} {S : Nat → Bool} (hl : A.heap[l]? = some o) (ho : o.isCells = false) (o' : Obj) : MLe (offS A.cell? S) (offS (A.putObj l o').cell? S) := fun q v h => by
  have hs := offS_off h
  rw [offS_ne hs] at h ⊢
  exact mle_put hl ho o' _ _ h
theorem mle_less {c : Mem} {S S' : Nat → Bool} (h : ∀ k, S k = false → S' k = false) : MLe (offS c S) (offS c S') := fun q v hq => by
  have hs := offS_off hq
  rw [offS_ne hs] at hq
  rw [offS_ne (h _ hs)]
  exact hq
/-- What stands between two steps of walk. -/
structure WkJ (S : Nat → Bool) (w A : World) (xs : List Nd) (names : List ByteArray) (st : Loop) (i : Nat) : Prop where
  low : Below w.heap.size w A
  eb : ∃ v, Boxed A w.heap.size 55 v ∧ (0 < i → SpL (offS A.cell? (wkS w.heap.size S)) v (stackP xs (names.take (i - 1))))
  dk : A.heap[w.heap.size + 1 + 1 + 1]? = some (.deferred (some []))
  lk : A.heap[w.heap.size + 1 + 1 + 1 + 1]? = some (.loop st)
theorem WkJ.keep {w A B : World} {xs : List Nd} {names : List ByteArray} {st : Loop} {i : Nat} {S : Nat → Bool} (h : WkJ S w A xs names st i) (hb : Below A.heap.size A B) : WkJ S w B xs names st i := by
  obtain ⟨v, h1, h2⟩ := h.eb
  refine ⟨h.low.trans (hb.mono h.low.size), ⟨v, boxed_bel h1 hb, fun hi => (h2 hi).on (mle_S hb)⟩, ?_, ?_⟩
  · exact (hb.block _ (Array.getElem?_eq_some_iff.1 h.dk).1).trans h.dk
  · exact (hb.block _ (Array.getElem?_eq_some_iff.1 h.lk).1).trans h.lk
theorem steps_any (w : World) (a an : Option Addr) (n cap m capn : Nat) :
    Calls Tryz.prog 26 #[.slice a n cap, .slice an m capn] w fun e w' => e = .returned (.func (.func 44) #[] #[.pointer (some ⟨w.heap.size, 0, none⟩), .pointer (some ⟨w.heap.size + 1, 0, none⟩)]) ∧ w' = (w.alloc (.cells #[.slice a n cap] 22)).alloc (.cells #[.slice an m capn] 26) := by
  go_enter Tryz.func26, Tryz.ntmps26
  go_wp2
  go_ret
  exact ⟨rfl, rfl⟩
set_option maxRecDepth 100000 in
set_option maxHeartbeats 4000000 in
theorem walk_any {w : World} {S : Nat → Bool} (hS0 : ∀ k, S k = true → k < w.heap.size) {a : Option Addr} {cap : Nat} {xs : List Nd} {an : Option Addr} {capn : Nat} {names : List ByteArray} (hx : NsV (offS w.cell? S) a xs) (hs : Strs (offS w.cell? S) an names) (hlx : xs.length ≤ 1000) (hln : names.length ≤ 1000) (hsm : SmallP (layP xs)) :
    Calls Tryz.prog 17 #[.slice a xs.length cap, .slice an names.length capn] w fun e w' => ∃ v, e = .returned v ∧ SpL (offS w'.cell? S) v (stackP xs names) ∧ Below w.heap.size w w' := by
  refine (callsIn_wide (n := 0)).1 ?_
  refine callsIn_of_wp_marks Tryz.func17 rfl trivial ?_ rfl
  simp only [Tryz.ntmps17, List.size_toArray, List.length_cons, List.length_nil, Nat.reduceAdd, Nat.reduceSub, Array.replicate_succ, Array.replicate_zero, List.push_toArray, List.append_toArray, List.nil_append, List.cons_append]
  gi_wp2_with fail
  refine ⟨trivial, rfl, CallsIn.mono (callsIn_wide.2 (steps_any _ a an xs.length cap names.length capn)) ?_⟩
  rintro e w1 ⟨rfl, hw1⟩
  rw [World.size_alloc]
  have hB0 : Below w.heap.size w w1 := by rw [hw1]; exact (((Below.refl _ w).alloc (Nat.le_refl _) _).alloc (by rw [World.size_alloc]; omega) _).alloc (by rw [World.size_alloc, World.size_alloc]; omega) _
  have hz : w1.heap.size = w.heap.size + 1 + 1 + 1 := by rw [hw1, World.size_alloc, World.size_alloc, World.size_alloc]
  have bx1 : Boxed w1 w.heap.size 55 (.slice none 0 0) := by rw [hw1]; exact ((Boxed.new w _ _).alloc _).alloc _
  have bx2 : Boxed w1 (w.heap.size + 1) 22 (.slice a xs.length cap) := by
    rw [hw1]
    have := (Boxed.new (w.alloc (.cells #[.slice none 0 0] 55)) 22 (.slice a xs.length cap)).alloc (.cells #[.slice an names.length capn] 26)
    rwa [World.size_alloc] at this
  have bx3 : Boxed w1 (w.heap.size + 1 + 1) 26 (.slice an names.length capn) := by
    rw [hw1]
    have := Boxed.new ((w.alloc (.cells #[.slice none 0 0] 55)).alloc (.cells #[.slice a xs.length cap] 22)) 26 (.slice an names.length capn)
    rwa [World.size_alloc, World.size_alloc] at this
  clear hw1
  gi_wp2_with fail
  refine range_at (gf := 44) (lb := #[.pointer (some ⟨w.heap.size + 1, 0, none⟩), .pointer (some ⟨w.heap.size + 1 + 1, 0, none⟩)]) rfl (enters_of Tryz.func44 (by kernel_rfl) rfl) ?_
  intro fn rec hrec W1 hB1 hs1 hl1 hd1
  rw [hz] at hB1 hs1 hl1 hd1 ⊢
  have hB1' : Below w1.heap.size w1 W1 := by rw [hz]; exact hB1
  have h0 : WkJ S w W1 xs names (rec .ready none) 0 := ⟨hB0.trans (hB1.mono (by omega)), ⟨_, boxed_bel bx1 hB1', fun h => by omega⟩, hd1, hl1⟩
  have hSf : ∀ k, w.heap.size ≤ k → S k = false := fun k hk => by
    cases hh : S k with
    | false => rfl
    | true => have := hS0 k hh; omega
  have hW : MLe (offS w.cell? S) (offS W1.cell? (wkS w.heap.size S)) := mle_step fun k hk hs => ⟨by simp [wkS, hs]; omega, h0.low.block k hk⟩
  have k2 : offS W1.cell? (wkS w.heap.size S) ⟨w.heap.size + 1, 0, none⟩ = some (.slice a xs.length cap) := by rw [offS_ne (by simp [wkS]; exact hSf _ (by show w.heap.size ≤ w.heap.size + 1; omega))]; exact (boxed_bel bx2 hB1').cell
  have k3 : offS W1.cell? (wkS w.heap.size S) ⟨w.heap.size + 1 + 1, 0, none⟩ = some (.slice an names.length capn) := by rw [offS_ne (by simp [wkS]; exact ⟨by omega, hSf _ (by omega)⟩)]; exact (boxed_bel bx3 hB1').cell
  clear hB0 hB1 hB1' hs1 hl1 hd1 bx1 bx2 bx3
  refine (steps1_any (w.heap.size + 1) (w.heap.size + 1 + 1) a cap xs an capn names (w.heap.size + 1 + 1 + 1 + 1) (fun i S' A => S' = wkS w.heap.size S ∧ WkJ S w A xs names (rec .ready none) i) (fun _ => False) W1 (wkS w.heap.size S) k2 k3 (hx.on hW) (hs.on hW) hlx hln hsm
    (fun i S' A h k hk => by
      rw [h.1] at hk
      simp [wkS] at hk
      obtain ⟨v, h1, _⟩ := h.2.eb
      rcases hk with (e | e) | e
      · rw [e]; exact h1.lt
      · rw [e]; exact (Array.getElem?_eq_some_iff.1 h.2.lk).1
      · exact Nat.lt_of_lt_of_le (hS0 k e) h.2.low.size)
    (fun i S' A B h hb => ⟨h.1, h.2.keep hb⟩) ?rounds ⟨rfl, h0⟩).mono ?after
  case rounds =>
    rintro i S' v A hi ⟨rfl, hA⟩ hv
    have HV : Hid _ := hv
    obtain ⟨va, vc, D, rfl, _⟩ := hv
    obtain ⟨v0, hb0, _⟩ := hA.eb
    have hb1 := boxed_putL hb0 hA.lk (.loop (rec .busy none))
    have hc1 := hb1.cell
    have hf1 := hb1.frozen
    refine round_at hrec hA.lk rfl ?_
    gi_wp2
    refine ⟨hA.lk, ?_⟩
    gi_wp2
    have hlt : w.heap.size + 1 + 1 + 1 + 1 < A.heap.size := (Array.getElem?_eq_some_iff.1 hA.lk).1
    have hlk : ((A.putObj (w.heap.size + 1 + 1 + 1 + 1) (.loop (rec .busy none))).setCell ⟨w.heap.size, 0, none⟩ (.slice va D.length vc)).heap[w.heap.size + 1 + 1 + 1 + 1]? = some (.loop (rec .busy none)) := by
      rw [Below.heap_setCell _ _ _ _ (by show w.heap.size + 1 + 1 + 1 + 1 ≠ w.heap.size; omega)]
      exact World.putObj_heap_same hlt
    have hsame : ∀ k, wkS w.heap.size S k = false → (((A.putObj (w.heap.size + 1 + 1 + 1 + 1) (.loop (rec .busy none))).setCell ⟨w.heap.size, 0, none⟩ (.slice va D.length vc)).putObj (w.heap.size + 1 + 1 + 1 + 1) (.loop (rec .ready none))).heap[k]? = A.heap[k]? := fun k hk => by
      simp [wkS] at hk
      rw [World.putObj_heap_other hk.1.2, Below.heap_setCell _ _ _ _ (by show k ≠ w.heap.size; exact hk.1.1), World.putObj_heap_other hk.1.2]
    have hm : MLe (offS A.cell? (wkS w.heap.size S)) (offS (((A.putObj (w.heap.size + 1 + 1 + 1 + 1) (.loop (rec .busy none))).setCell ⟨w.heap.size, 0, none⟩ (.slice va D.length vc)).putObj (w.heap.size + 1 + 1 + 1 + 1) (.loop (rec .ready none))).cell? (wkS w.heap.size S)) := mle_step fun k _ hs => ⟨hs, hsame k hs⟩
    have hbl : Below w.heap.size A (((A.putObj (w.heap.size + 1 + 1 + 1 + 1) (.loop (rec .busy none))).setCell ⟨w.heap.size, 0, none⟩ (.slice va D.length vc)).putObj (w.heap.size + 1 + 1 + 1 + 1) (.loop (rec .ready none))) := by
      have e1 := (below_put (l := w.heap.size + 1 + 1 + 1 + 1) hA.low.size (by omega) (.loop (rec .busy none))).setCell (p := ⟨w.heap.size, 0, none⟩) (Nat.le_refl _) (.slice va D.length vc)
      exact e1.trans (below_put (Nat.le_trans hA.low.size e1.size) (by omega) _)
    exact ⟨hlk, rfl, _, ⟨rfl, ⟨hA.low.trans hbl, ⟨_, boxed_putL (hb1.set _) hlk _, fun _ => SpL.on HV.out hm⟩, (hsame _ (by simp [wkS]; exact ⟨by omega, hSf _ (by omega)⟩)).trans hA.dk, World.putObj_heap_same (Array.getElem?_eq_some_iff.1 hlk).1⟩⟩, hm⟩
  case after =>
    rintro e W2 ⟨⟨v, rfl⟩, (⟨S', rfl, h⟩ | h)⟩
    rotate_left
    · exact h.elim
    refine ⟨⟨_, rfl⟩, .inl ⟨h.lk, ?_⟩⟩
    obtain ⟨v, hb, hv⟩ := h.eb
    have hv2 := hv (by omega)
    rw [Nat.add_sub_cancel, List.take_length] at hv2
    have hb2 := boxed_putL hb h.lk (.loop (rec .exhausted none))
    have hK : (W2.putObj (w.heap.size + 1 + 1 + 1 + 1) (.loop (rec .exhausted none))).heap[w.heap.size + 1 + 1 + 1]? = some (.deferred (some [])) := (World.putObj_heap_other (by omega)).trans h.dk
    have hm := mle_putS (S := S) h.lk rfl (.loop (rec .exhausted none))
    have hv3 := (hv2.on (mle_less (S' := S) fun k hk => by simp [wkS] at hk; exact hk.2)).on hm
    have hB3 := h.low.trans (below_put (l := w.heap.size + 1 + 1 + 1 + 1) h.low.size (by omega) (.loop (rec .exhausted none)))
    clear hm hv2 hv hb
    generalize W2.putObj (w.heap.size + 1 + 1 + 1 + 1) (.loop (rec .exhausted none)) = W3 at hb2 hK hv3 hB3 ⊢
    have HV : Hid _ := hv3
    obtain ⟨va, vc, D, rfl, _⟩ := hv3
    have hc := hb2.cell
    gi_wp2
    refine ⟨by simp, .inl ⟨_, _, rfl, run_takeDeferred hK, ?_⟩⟩
    have hv4 : SpL (offS (W3.putObj (w.heap.size + 1 + 1 + 1) (.deferred none)).cell? S) (.slice va D.length vc) (stackP xs names) := SpL.on (c := offS W3.cell? S) HV.out (mle_putS hK rfl _)
    exact ⟨_, results_tmp rfl _ _ _, .slice va D.length vc, rfl, hv4, hB3.trans (below_put (l := w.heap.size + 1 + 1 + 1) hB3.size (by omega) _)⟩
end Go.Proofs.YtlbabnffiibnpaaGreat
namespace Go.Proofs.YtlbabnffiibnpaaGreat
open Go.RowKit
def LimP (l : List (Nd × Nat)) : Prop := ∀ q ∈ l, Lim q.1
theorem lim_kids {x : Nd} (h : Lim x) : LimL x.kids := by
  obtain ⟨k, m, u, g, o, at_, d, ks⟩ := x
  rw [Lim] at h
  exact h.2.2
theorem LimP.kid {l : List (Nd × Nat)} (h : LimP l) (nm : ByteArray) : LimP (kidsP nm l) := fun q hq => by
  obtain ⟨p, hp, e⟩ := List.mem_filterMap.1 hq
  obtain ⟨y, hy, rfl⟩ := Option.map_eq_some_iff.1 e
  have h1 := h p hp
  unfold kidO at hy
  split at hy
  · cases hy
  · obtain ⟨e2, h3, rfl⟩ := Option.map_eq_some_iff.1 hy
    obtain ⟨n, z⟩ := e2
    exact limL_get (lim_kids h1) h3
theorem LimP.sh {l : List (Nd × Nat)} (h : LimP l) : LimP (shP l) := fun q hq => h q (shP_sub l q hq)
theorem stackP_lim {xs : List Nd} (h : LimP (layP xs)) : ∀ names : List ByteArray, LimP (stackP xs names) := by
  intro names
  unfold stackP
  generalize hl : shP (layP xs) = l
  have h2 : LimP l := by rw [← hl]; exact h.sh
  clear hl
  induction names generalizing l with
  | nil => exact h2
  | cons n r ih => rw [List.foldl_cons]; exact ih _ (h2.kid n).sh
/-- What Look answers. -/
def LookR (c : Mem) (e : Ending) : List (Nd × Nat) → Prop
  | [] => e = .returned (.tuple #[ndV zN zH, .int .i64 0, .bool false])
  | q :: _ => ∃ h, e = .returned (.tuple #[ndV q.1 h, .int .i64 q.2, .bool true]) ∧ NdV c q.1 h
theorem set8_cell {w : World} {b c i : Nat} (hne : c ≠ b) (u0 u1 u2 u3 u4 u5 u6 u7 : Value) : ((((((((w.setCell ⟨b, 0, none⟩ u0).setCell ⟨b, 1, none⟩ u1).setCell ⟨b, 2, none⟩ u2).setCell ⟨b, 3, none⟩ u3).setCell ⟨b, 4, none⟩ u4).setCell ⟨b, 5, none⟩ u5).setCell ⟨b, 6, none⟩ u6).setCell ⟨b, 7, none⟩ u7).cell? ⟨c, i, none⟩ = w.cell? ⟨c, i, none⟩ := by
  have e : ∀ (v : World) (j : Nat) (u : Value), (v.setCell ⟨b, j, none⟩ u).cell? ⟨c, i, none⟩ = v.cell? ⟨c, i, none⟩ := fun v j u => World.cell?_setCell_other _ _ _ _ (fun e => hne (by cases e; rfl))
  rw [e, e, e, e, e, e, e, e]
set_option maxRecDepth 100000 in
set_option maxHeartbeats 4000000 in
theorem look_any {w : World} {S : Nat → Bool} (hS0 : ∀ k, S k = true → k < w.heap.size) {a : Option Addr} {cap : Nat} {xs : List Nd} {an : Option Addr} {capn : Nat} {names : List ByteArray} (hx : NsV (offS w.cell? S) a xs) (hs : Strs (offS w.cell? S) an names) (hlx : xs.length ≤ 1000) (hln : names.length ≤ 1000) (hsm : SmallP (layP xs)) (hlim : LimP (layP xs)) :
    Calls Tryz.prog 8 #[.slice a xs.length cap, .slice an names.length capn] w fun e w' => LookR (offS w'.cell? S) e (stackP xs names) ∧ Below w.heap.size w w' := by
  have hal : Below w.heap.size w (w.alloc (.cells #[.int .i64 0, .int .i64 0, .int .i64 0, .int .i64 0, .bool false, .slice none 0 0, .string ⟨#[]⟩, .slice none 0 0] 34)) := (Below.refl _ _).alloc (Nat.le_refl _) _
  have hU : ∀ k, (k == w.heap.size || S k) = true → k < (w.alloc (.cells #[.int .i64 0, .int .i64 0, .int .i64 0, .int .i64 0, .bool false, .slice none 0 0, .string ⟨#[]⟩, .slice none 0 0] 34)).heap.size := fun k hk => by
    rw [World.size_alloc]
    simp at hk
    rcases hk with e | e
    · omega
    · have := hS0 k e; omega
  have hm0 : MLe (offS w.cell? S) (offS (w.alloc (.cells #[.int .i64 0, .int .i64 0, .int .i64 0, .int .i64 0, .bool false, .slice none 0 0, .string ⟨#[]⟩, .slice none 0 0] 34)).cell? (fun k => k == w.heap.size || S k)) := mle_step fun k hk hs => ⟨by simp [hs]; omega, hal.block k hk⟩
  have HW : Hid _ := walk_any (cap := cap) (capn := capn) hU (hx.on hm0) (hs.on hm0) hlx hln hsm
  have hsmS := stackP_small hsm names
  have hliS := stackP_lim hlim names
  have R1 := NBw.zero w
  generalize hst : stackP xs names = L at *
  clear hx hs hm0
  go_enter Tryz.func8, Tryz.ntmps8
  go_wp2_with fail
  refine Calls.mono HW.out ?_
  rintro e w1 ⟨v, rfl, hv, hB1⟩
  have R2 := R1.below hB1
  have hB2 := hal.trans (hB1.mono hal.size)
  obtain ⟨va, vc, D, rfl, g1, g2, g3, g4, g5⟩ := hv
  clear HW hal R1
  cases D with
  | nil =>
    have HL : Hid (L = []) := by show L = []; rw [← g5]; rfl
    clear g3 g4 g5
    obtain ⟨⟨f0, f1, f2, f3, f4, f5, f6, f7⟩, ff⟩ := R2
    have z0 := ff 0
    have z1 := ff 1
    have z2 := ff 2
    have z3 := ff 3
    have z4 := ff 4
    have z5 := ff 5
    have z6 := ff 6
    have z7 := ff 7
    have R3 := NBw.store (w := w1) (b := w.heap.size) (y := zN) (h' := zH) ⟨⟨f0, f1, f2, f3, f4, f5, f6, f7⟩, ff⟩ zN zH
    have hB3 : Below w.heap.size w (stB w1 w.heap.size zN zH) := hB2.trans (stB_but.below (Nat.le_refl _) hB2.size)
    go_wp2
    obtain ⟨W6, HW6⟩ : ∃ W6, Hid (stB w1 w.heap.size zN zH = W6) := ⟨_, rfl⟩
    rw [HW6.out] at R3 hB3
    have hw6 := HW6.out
    simp only [stB, zN, zH] at hw6
    simp only [List.length_nil] at hw6
    rw [hw6]
    obtain ⟨r0, r1, r2, r3, r4, r5, r6, r7⟩ := R3.1
    refine bodyPost_ret (v := .tuple #[ndV zN zH, .int .i64 0, .bool false]) (by simp [results, Tryz.results8, go_sem, ndV, zN, zH, r0, r1, r2, r3, r4, r5, r6, r7]) rfl ⟨by rw [HL.out]; rfl, hB3⟩
  | cons s D =>
    obtain ⟨sb, sp, ly, ⟨k, m, u, g, o, at_, d, ks⟩, h⟩ := s
    have hsp := g4 _ (List.mem_cons_self ..)
    obtain ⟨vb, vo, rfl, hrow⟩ : ∃ b off, va = some ⟨b, off, none⟩ ∧ ∀ i d', ((⟨sb, sp, ly, (.mk k m u g o at_ d ks), h⟩ : Sp) :: D)[i]? = some d' → offS w1.cell? (fun k => k == w.heap.size || S k) ⟨b, off + i * 2, none⟩ = some (.pointer (some ⟨d'.b, d'.p, none⟩)) ∧ offS w1.cell? (fun k => k == w.heap.size || S k) ⟨b, off + i * 2 + 1, none⟩ = some (.int .i64 d'.ly) := by
      rcases g3 with e | e
      · cases e
      · exact e
    obtain ⟨r0, r1⟩ := hrow 0 _ rfl
    have HL : Hid (∃ r, L = ((.mk k m u g o at_ d ks), ly) :: r) := ⟨_, g5.symm⟩
    have hq : ((.mk k m u g o at_ d ks), ly) ∈ L := by obtain ⟨r, e⟩ := HL.out; rw [e]; exact List.mem_cons_self ..
    have HO : Hid (Calls Tryz.prog 14 #[.agg #[.int .i64 k, .int .i64 m, .int .i64 u, .int .i64 g, .bool o, .slice h.aa at_.length h.ca, .string d, .slice h.ak ks.length h.ck]] w1.drew fun e W' => (∃ h', e = .returned (.agg #[.int .i64 k, .int .i64 m, .int .i64 u, .int .i64 g, .bool o, .slice h'.aa at_.length h'.ca, .string d, .slice h'.ak ks.length h'.ck]) ∧ NdV (offS W'.cell? (fun k => k == w.heap.size || S k)) (.mk k m u g o at_ d ks) h') ∧ Below w1.heap.size w1 W') := own_any (W := w1.drew) (S := fun k => k == w.heap.size || S k) (fun k hk => Nat.lt_of_lt_of_le (hU k hk) hB1.size) (x := (.mk k m u g o at_ d ks)) (h := h) hsp.2 (hliS _ hq) (hsmS.2 _ hq) |>.mono fun e W' q => ⟨q.1, ((Below.refl _ w1).drew).trans q.2⟩
    have t0 := offS_le _ _ _ _ r0
    have t1 := offS_le _ _ _ _ r1
    have hnat := hsp.1.on (offS_le _ _)
    obtain ⟨n0, n1, n2, n3, n4, n5, n6, n7⟩ := hnat
    have T5 : w1.cell? ⟨vb, vo, none⟩ = some (.pointer (some ⟨sb, sp, none⟩)) ∧ w1.cell? ⟨vb, vo + 1, none⟩ = some (.int .i64 ly) ∧ w1.cell? ⟨sb, sp, none⟩ = some (.int .i64 k) ∧ w1.cell? ⟨sb, sp + 1, none⟩ = some (.int .i64 m) ∧ w1.cell? ⟨sb, sp + 2, none⟩ = some (.int .i64 u) ∧ w1.cell? ⟨sb, sp + 3, none⟩ = some (.int .i64 g) ∧ w1.cell? ⟨sb, sp + 4, none⟩ = some (.bool o) ∧ w1.cell? ⟨sb, sp + 5, none⟩ = some (.slice h.aa at_.length h.ca) ∧ w1.cell? ⟨sb, sp + 6, none⟩ = some (.string d) ∧ w1.cell? ⟨sb, sp + 7, none⟩ = some (.slice h.ak ks.length h.ck) := ⟨t0, t1, n0, n1, n2, n3, n4, n5, n6, n7⟩
    have T5 : w1.drew.cell? ⟨vb, vo, none⟩ = some (.pointer (some ⟨sb, sp, none⟩)) ∧ w1.drew.cell? ⟨vb, vo + 1, none⟩ = some (.int .i64 ly) ∧ w1.drew.cell? ⟨sb, sp, none⟩ = some (.int .i64 k) ∧ w1.drew.cell? ⟨sb, sp + 1, none⟩ = some (.int .i64 m) ∧ w1.drew.cell? ⟨sb, sp + 2, none⟩ = some (.int .i64 u) ∧ w1.drew.cell? ⟨sb, sp + 3, none⟩ = some (.int .i64 g) ∧ w1.drew.cell? ⟨sb, sp + 4, none⟩ = some (.bool o) ∧ w1.drew.cell? ⟨sb, sp + 5, none⟩ = some (.slice h.aa at_.length h.ca) ∧ w1.drew.cell? ⟨sb, sp + 6, none⟩ = some (.string d) ∧ w1.drew.cell? ⟨sb, sp + 7, none⟩ = some (.slice h.ak ks.length h.ck) := T5
    have hvn : vb ≠ w.heap.size := fun e => by have := offS_off r0; simp [e] at this
    have hsn : sb ≠ w.heap.size := fun e => by have := offS_off (c := w1.cell?) (q := ⟨sb, sp, none⟩) hsp.1.1; simp [e] at this
    have HR2 : Hid (NBw w1 w.heap.size zN zH) := R2
    have HB2 : Hid (Below w.heap.size w w1) := hB2
    clear R2 hB2 hB1 g3 g4 g5 hsp hrow r0 r1 t0 t1 n0 n1 n2 n3 n4 n5 n6 n7 hU hS0 hsmS hliS hq hlim hsm
    go_wp2_with fail
    go_region_held3 (fun w' => w'.cell? ⟨vb, vo, none⟩ = some (.pointer (some ⟨sb, sp, none⟩)) ∧ w'.cell? ⟨vb, vo + 1, none⟩ = some (.int .i64 ly) ∧ w'.cell? ⟨sb, sp, none⟩ = some (.int .i64 k) ∧ w'.cell? ⟨sb, sp + 1, none⟩ = some (.int .i64 m) ∧ w'.cell? ⟨sb, sp + 2, none⟩ = some (.int .i64 u) ∧ w'.cell? ⟨sb, sp + 3, none⟩ = some (.int .i64 g) ∧ w'.cell? ⟨sb, sp + 4, none⟩ = some (.bool o) ∧ w'.cell? ⟨sb, sp + 5, none⟩ = some (.slice h.aa at_.length h.ca) ∧ w'.cell? ⟨sb, sp + 6, none⟩ = some (.string d) ∧ w'.cell? ⟨sb, sp + 7, none⟩ = some (.slice h.ak ks.length h.ck)) (first | with_reducible exact T5 | with_reducible exact T6 | with_reducible exact T7) (first | (go_at_call 14; (with_reducible refine Calls.mono HO.out ?_); rintro e w6 ⟨⟨hx, rfl, hN6⟩, hB6⟩; have T6 : w6.cell? ⟨vb, vo, none⟩ = some (.pointer (some ⟨sb, sp, none⟩)) ∧ w6.cell? ⟨vb, vo + 1, none⟩ = some (.int .i64 ly) ∧ w6.cell? ⟨sb, sp, none⟩ = some (.int .i64 k) ∧ w6.cell? ⟨sb, sp + 1, none⟩ = some (.int .i64 m) ∧ w6.cell? ⟨sb, sp + 2, none⟩ = some (.int .i64 u) ∧ w6.cell? ⟨sb, sp + 3, none⟩ = some (.int .i64 g) ∧ w6.cell? ⟨sb, sp + 4, none⟩ = some (.bool o) ∧ w6.cell? ⟨sb, sp + 5, none⟩ = some (.slice h.aa at_.length h.ca) ∧ w6.cell? ⟨sb, sp + 6, none⟩ = some (.string d) ∧ w6.cell? ⟨sb, sp + 7, none⟩ = some (.slice h.ak ks.length h.ck) := ⟨mle_below hB6 _ _ T5.1, mle_below hB6 _ _ T5.2.1, mle_below hB6 _ _ T5.2.2.1, mle_below hB6 _ _ T5.2.2.2.1, mle_below hB6 _ _ T5.2.2.2.2.1, mle_below hB6 _ _ T5.2.2.2.2.2.1, mle_below hB6 _ _ T5.2.2.2.2.2.2.1, mle_below hB6 _ _ T5.2.2.2.2.2.2.2.1, mle_below hB6 _ _ T5.2.2.2.2.2.2.2.2.1, mle_below hB6 _ _ T5.2.2.2.2.2.2.2.2.2⟩; have T7 : ((((((((w6.setCell ⟨w.heap.size, 0, none⟩ (.int .i64 k)).setCell ⟨w.heap.size, 1, none⟩ (.int .i64 m)).setCell ⟨w.heap.size, 2, none⟩ (.int .i64 u)).setCell ⟨w.heap.size, 3, none⟩ (.int .i64 g)).setCell ⟨w.heap.size, 4, none⟩ (.bool o)).setCell ⟨w.heap.size, 5, none⟩ (.slice hx.aa at_.length hx.ca)).setCell ⟨w.heap.size, 6, none⟩ (.string d)).setCell ⟨w.heap.size, 7, none⟩ (.slice hx.ak ks.length hx.ck)).cell? ⟨vb, vo, none⟩ = some (.pointer (some ⟨sb, sp, none⟩)) ∧ ((((((((w6.setCell ⟨w.heap.size, 0, none⟩ (.int .i64 k)).setCell ⟨w.heap.size, 1, none⟩ (.int .i64 m)).setCell ⟨w.heap.size, 2, none⟩ (.int .i64 u)).setCell ⟨w.heap.size, 3, none⟩ (.int .i64 g)).setCell ⟨w.heap.size, 4, none⟩ (.bool o)).setCell ⟨w.heap.size, 5, none⟩ (.slice hx.aa at_.length hx.ca)).setCell ⟨w.heap.size, 6, none⟩ (.string d)).setCell ⟨w.heap.size, 7, none⟩ (.slice hx.ak ks.length hx.ck)).cell? ⟨vb, vo + 1, none⟩ = some (.int .i64 ly) ∧ ((((((((w6.setCell ⟨w.heap.size, 0, none⟩ (.int .i64 k)).setCell ⟨w.heap.size, 1, none⟩ (.int .i64 m)).setCell ⟨w.heap.size, 2, none⟩ (.int .i64 u)).setCell ⟨w.heap.size, 3, none⟩ (.int .i64 g)).setCell ⟨w.heap.size, 4, none⟩ (.bool o)).setCell ⟨w.heap.size, 5, none⟩ (.slice hx.aa at_.length hx.ca)).setCell ⟨w.heap.size, 6, none⟩ (.string d)).setCell ⟨w.heap.size, 7, none⟩ (.slice hx.ak ks.length hx.ck)).cell? ⟨sb, sp, none⟩ = some (.int .i64 k) ∧ ((((((((w6.setCell ⟨w.heap.size, 0, none⟩ (.int .i64 k)).setCell ⟨w.heap.size, 1, none⟩ (.int .i64 m)).setCell ⟨w.heap.size, 2, none⟩ (.int .i64 u)).setCell ⟨w.heap.size, 3, none⟩ (.int .i64 g)).setCell ⟨w.heap.size, 4, none⟩ (.bool o)).setCell ⟨w.heap.size, 5, none⟩ (.slice hx.aa at_.length hx.ca)).setCell ⟨w.heap.size, 6, none⟩ (.string d)).setCell ⟨w.heap.size, 7, none⟩ (.slice hx.ak ks.length hx.ck)).cell? ⟨sb, sp + 1, none⟩ = some (.int .i64 m) ∧ ((((((((w6.setCell ⟨w.heap.size, 0, none⟩ (.int .i64 k)).setCell ⟨w.heap.size, 1, none⟩ (.int .i64 m)).setCell ⟨w.heap.size, 2, none⟩ (.int .i64 u)).setCell ⟨w.heap.size, 3, none⟩ (.int .i64 g)).setCell ⟨w.heap.size, 4, none⟩ (.bool o)).setCell ⟨w.heap.size, 5, none⟩ (.slice hx.aa at_.length hx.ca)).setCell ⟨w.heap.size, 6, none⟩ (.string d)).setCell ⟨w.heap.size, 7, none⟩ (.slice hx.ak ks.length hx.ck)).cell? ⟨sb, sp + 2, none⟩ = some (.int .i64 u) ∧ ((((((((w6.setCell ⟨w.heap.size, 0, none⟩ (.int .i64 k)).setCell ⟨w.heap.size, 1, none⟩ (.int .i64 m)).setCell ⟨w.heap.size, 2, none⟩ (.int .i64 u)).setCell ⟨w.heap.size, 3, none⟩ (.int .i64 g)).setCell ⟨w.heap.size, 4, none⟩ (.bool o)).setCell ⟨w.heap.size, 5, none⟩ (.slice hx.aa at_.length hx.ca)).setCell ⟨w.heap.size, 6, none⟩ (.string d)).setCell ⟨w.heap.size, 7, none⟩ (.slice hx.ak ks.length hx.ck)).cell? ⟨sb, sp + 3, none⟩ = some (.int .i64 g) ∧ ((((((((w6.setCell ⟨w.heap.size, 0, none⟩ (.int .i64 k)).setCell ⟨w.heap.size, 1, none⟩ (.int .i64 m)).setCell ⟨w.heap.size, 2, none⟩ (.int .i64 u)).setCell ⟨w.heap.size, 3, none⟩ (.int .i64 g)).setCell ⟨w.heap.size, 4, none⟩ (.bool o)).setCell ⟨w.heap.size, 5, none⟩ (.slice hx.aa at_.length hx.ca)).setCell ⟨w.heap.size, 6, none⟩ (.string d)).setCell ⟨w.heap.size, 7, none⟩ (.slice hx.ak ks.length hx.ck)).cell? ⟨sb, sp + 4, none⟩ = some (.bool o) ∧ ((((((((w6.setCell ⟨w.heap.size, 0, none⟩ (.int .i64 k)).setCell ⟨w.heap.size, 1, none⟩ (.int .i64 m)).setCell ⟨w.heap.size, 2, none⟩ (.int .i64 u)).setCell ⟨w.heap.size, 3, none⟩ (.int .i64 g)).setCell ⟨w.heap.size, 4, none⟩ (.bool o)).setCell ⟨w.heap.size, 5, none⟩ (.slice hx.aa at_.length hx.ca)).setCell ⟨w.heap.size, 6, none⟩ (.string d)).setCell ⟨w.heap.size, 7, none⟩ (.slice hx.ak ks.length hx.ck)).cell? ⟨sb, sp + 5, none⟩ = some (.slice h.aa at_.length h.ca) ∧ ((((((((w6.setCell ⟨w.heap.size, 0, none⟩ (.int .i64 k)).setCell ⟨w.heap.size, 1, none⟩ (.int .i64 m)).setCell ⟨w.heap.size, 2, none⟩ (.int .i64 u)).setCell ⟨w.heap.size, 3, none⟩ (.int .i64 g)).setCell ⟨w.heap.size, 4, none⟩ (.bool o)).setCell ⟨w.heap.size, 5, none⟩ (.slice hx.aa at_.length hx.ca)).setCell ⟨w.heap.size, 6, none⟩ (.string d)).setCell ⟨w.heap.size, 7, none⟩ (.slice hx.ak ks.length hx.ck)).cell? ⟨sb, sp + 6, none⟩ = some (.string d) ∧ ((((((((w6.setCell ⟨w.heap.size, 0, none⟩ (.int .i64 k)).setCell ⟨w.heap.size, 1, none⟩ (.int .i64 m)).setCell ⟨w.heap.size, 2, none⟩ (.int .i64 u)).setCell ⟨w.heap.size, 3, none⟩ (.int .i64 g)).setCell ⟨w.heap.size, 4, none⟩ (.bool o)).setCell ⟨w.heap.size, 5, none⟩ (.slice hx.aa at_.length hx.ca)).setCell ⟨w.heap.size, 6, none⟩ (.string d)).setCell ⟨w.heap.size, 7, none⟩ (.slice hx.ak ks.length hx.ck)).cell? ⟨sb, sp + 7, none⟩ = some (.slice h.ak ks.length h.ck) := ⟨(set8_cell hvn _ _ _ _ _ _ _ _).trans T6.1, (set8_cell hvn _ _ _ _ _ _ _ _).trans T6.2.1, (set8_cell hsn _ _ _ _ _ _ _ _).trans T6.2.2.1, (set8_cell hsn _ _ _ _ _ _ _ _).trans T6.2.2.2.1, (set8_cell hsn _ _ _ _ _ _ _ _).trans T6.2.2.2.2.1, (set8_cell hsn _ _ _ _ _ _ _ _).trans T6.2.2.2.2.2.1, (set8_cell hsn _ _ _ _ _ _ _ _).trans T6.2.2.2.2.2.2.1, (set8_cell hsn _ _ _ _ _ _ _ _).trans T6.2.2.2.2.2.2.2.1, (set8_cell hsn _ _ _ _ _ _ _ _).trans T6.2.2.2.2.2.2.2.2.1, (set8_cell hsn _ _ _ _ _ _ _ _).trans T6.2.2.2.2.2.2.2.2.2⟩; have HN6 : Hid _ := hN6; have hR6 := HR2.out.below (w := w1) (w' := w6) hB6; have HB6 : Hid (Below w.heap.size w w6) := HB2.out.trans (hB6.mono HB2.out.size); have z0 := hR6.2 0; have z1 := hR6.2 1; have z2 := hR6.2 2; have z3 := hR6.2 3; have z4 := hR6.2 4; have z5 := hR6.2 5; have z6 := hR6.2 6; have z7 := hR6.2 7; obtain ⟨f0, f1, f2, f3, f4, f5, f6, f7⟩ := hR6.1; have HR6 : Hid _ := hR6; clear hN6 hB6 hR6 HO))
    have R7 := NBw.store HR6.out (.mk k m u g o at_ d ks) hx
    have hB7 : Below w.heap.size w (stB w6 w.heap.size (.mk k m u g o at_ d ks) hx) := HB6.out.trans (stB_but.below (Nat.le_refl _) HB6.out.size)
    have hN7 : NdV (offS (stB w6 w.heap.size (.mk k m u g o at_ d ks) hx).cell? S) (.mk k m u g o at_ d ks) hx := HN6.out.on (mle_step fun q hq hs => by
      simp at hs
      exact ⟨hs.2, stB_but.block q hq hs.1⟩)
    have HN7 : Hid _ := hN7
    clear hN7 T5 T6 T7 HR6 HN6
    go_wp2
    obtain ⟨W6, HW6⟩ : ∃ W6, Hid (stB w6 w.heap.size (.mk k m u g o at_ d ks) hx = W6) := ⟨_, rfl⟩
    rw [HW6.out] at R7 hB7 HN7
    have hw6 := HW6.out
    simp only [stB] at hw6
    rw [hw6]
    obtain ⟨r0, r1, r2, r3, r4, r5, r6, r7⟩ := R7.1
    refine bodyPost_ret (v := .tuple #[ndV (.mk k m u g o at_ d ks) hx, .int .i64 ly, .bool true]) (by simp [results, Tryz.results8, go_sem, ndV, r0, r1, r2, r3, r4, r5, r6, r7]) rfl ⟨?_, hB7⟩
    obtain ⟨r, e⟩ := HL.out
    rw [e]
    exact ⟨hx, rfl, HN7.out⟩
end Go.Proofs.YtlbabnffiibnpaaGreat
namespace Go.Proofs.YtlbabnffiibnpaaGreat
open Go.RowKit
/-- Maps as a value. -/
structure MapsV where
  ua : Option Addr
  ga : Option Addr
  uc : Nat
  gc : Nat
  us : List Rg
  gs : List Rg
def MapsV.v (M : MapsV) : Value := .agg #[.slice M.ua M.us.length M.uc, .slice M.ga M.gs.length M.gc]
structure MapsOk (W : World) (M : MapsV) : Prop where
  u : Rgs W M.ua M.us
  g : Rgs W M.ga M.gs
  ul : M.us.length ≤ 100
  gl : M.gs.length ≤ 100
  cu : M.us.length ≤ M.uc
  cg : M.gs.length ≤ M.gc
  ou : ∀ r ∈ M.us, r.ok
  og : ∀ r ∈ M.gs, r.ok
theorem MapsOk.below {W W' : World} {M : MapsV} (h : MapsOk W M) (hb : Below W.heap.size W W') : MapsOk W' M := ⟨h.u.below hb, h.g.below hb, h.ul, h.gl, h.cu, h.cg, h.ou, h.og⟩
def IdT : Nd → Prop
  | .mk _ _ u g _ _ _ _ => I64 u ∧ I64 g
theorem optV_some (v : Int) : optV (some v) = .tuple #[.int .i64 v, .bool true] := rfl
theorem optV_none : optV none = .tuple #[.int .i64 0, .bool false] := rfl
theorem nd_ids {c : Mem} {k m u g u' g' : Int} {o : Bool} {at_ : List Kv} {d : ByteArray} {ks : Kds} {h : Hd} (hN : NdV c (.mk k m u g o at_ d ks) h) : NdV c (.mk k m u' g' o at_ d ks) h := ndV_iff.2 (ndV_iff.1 hN)
theorem lim_ids {k m u g u' g' : Int} {o : Bool} {at_ : List Kv} {d : ByteArray} {ks : Kds} (h : Lim (.mk k m u g o at_ d ks)) : Lim (.mk k m u' g' o at_ d ks) := by rw [Lim] at h ⊢; exact h
theorem cnt_ids {k m u g u' g' : Int} {o : Bool} {at_ : List Kv} {d : ByteArray} {ks : Kds} : cnt (.mk k m u' g' o at_ d ks) = cnt (.mk k m u g o at_ d ks) := by rw [cnt, cnt]
theorem NBw.ids {w : World} {b : Nat} {k m u g : Int} {o : Bool} {at_ : List Kv} {d : ByteArray} {ks : Kds} {h : Hd} (hk : NBw w b (.mk k m u g o at_ d ks) h) (u' g' : Int) : NBw ((w.setCell ⟨b, 2, none⟩ (.int .i64 u')).setCell ⟨b, 3, none⟩ (.int .i64 g')) b (.mk k m u' g' o at_ d ks) h := by
  obtain ⟨⟨e0, e1, e2, e3, e4, e5, e6, e7⟩, ff⟩ := hk
  refine ⟨⟨?_, ?_, ?_, ?_, ?_, ?_, ?_, ?_⟩, fun j => ?_⟩
  all_goals first | (simp [go_sem, e0, e1, e2, e3, e4, e5, e6, e7]; done) | (simp [go_sem, ff j]; done)
theorem three_boxes (W A B C : World) (ua ga : Option Addr) (nu ng uc gc : Nat) (k m u g : Int) (o : Bool) (at_ : List Kv) (d : ByteArray) (ks : Kds) (h : Hd)
    (hA : A = W.alloc (.cells #[.slice ua nu uc, .slice ga ng gc] 25)) (hB : B = A.alloc (.cells #[.int .i64 k, .int .i64 m, .int .i64 u, .int .i64 g, .bool o, .slice h.aa at_.length h.ca, .string d, .slice h.ak ks.length h.ck] 34)) (hC : C = B.alloc (.cells #[.int .i64 0, .int .i64 0, .int .i64 0, .int .i64 0, .bool false, .slice none 0 0, .string ⟨#[]⟩, .slice none 0 0] 34)) :
    C.cell? ⟨W.heap.size, 0, none⟩ = some (.slice ua nu uc) ∧ C.cell? ⟨W.heap.size, 1, none⟩ = some (.slice ga ng gc) ∧ NBw C (W.heap.size + 1) (.mk k m u g o at_ d ks) h ∧ NBw C (W.heap.size + 1 + 1) zN zH ∧ Below W.heap.size W C ∧ C.heap.size = W.heap.size + 1 + 1 + 1 := by
  have s1 : A.heap.size = W.heap.size + 1 := by rw [hA, World.size_alloc]
  have s2 : B.heap.size = W.heap.size + 1 + 1 := by rw [hB, World.size_alloc, s1]
  have s3 : C.heap.size = W.heap.size + 1 + 1 + 1 := by rw [hC, World.size_alloc, s2]
  have bA : Below W.heap.size W A := by rw [hA]; exact (Below.refl _ _).alloc (Nat.le_refl _) _
  have bB : Below A.heap.size A B := by rw [hB]; exact (Below.refl _ _).alloc (Nat.le_refl _) _
  have bC : Below B.heap.size B C := by rw [hC]; exact (Below.refl _ _).alloc (Nat.le_refl _) _
  have c0 : A.cell? ⟨W.heap.size, 0, none⟩ = some (.slice ua nu uc) := by rw [hA]; exact World.cell?_alloc_at _ _ _ _ rfl
  have c1 : A.cell? ⟨W.heap.size, 1, none⟩ = some (.slice ga ng gc) := by rw [hA]; exact World.cell?_alloc_at _ _ _ _ rfl
  have m2 : MLe A.cell? C.cell? := (mle_below bB).trans (mle_below bC)
  have nB := NBw.new A k m u g o at_ d ks h
  rw [← hB, s1] at nB
  have nC := NBw.zero B
  rw [← hC, s2] at nC
  exact ⟨m2 _ _ c0, m2 _ _ c1, nB.below bC, nC, (bA.trans (bB.mono bA.size)).trans (bC.mono (by omega)), s3⟩
def mvO (OU OG : Option Int) (k m : Int) (o : Bool) (at_ : List Kv) (d : ByteArray) (ks : Kds) : Option Nd := match OU, OG with
  | some u', some g' => some (.mk k m u' g' o at_ d ks)
  | _, _ => none
def MvE (W W' : World) (S : Nat → Bool) (e : Ending) : Option Nd → Prop
  | none => e = .returned (.tuple #[ndV zN zH, .iface 44 (.int .i64 11)]) ∧ Below W.heap.size W W'
  | some y => (∃ h', e = .returned (.tuple #[ndV y h', .nilIface]) ∧ NdV (offS W'.cell? S) y h') ∧ Below W.heap.size W W'
set_option maxRecDepth 100000 in
set_option maxHeartbeats 2000000 in
theorem cacrossTo {W : World} {S : Nat → Bool} (hS0 : ∀ k, S k = true → k < W.heap.size) {x : Nd} {h : Hd} (hN : NdV (offS W.cell? S) x h) (hlim : Lim x) (hcnt : cnt x ≤ 1000) (hid : IdT x) {M : MapsV} (hM : MapsOk W M) :
    Calls Tryz.prog 39 #[M.v, ndV x h, .func (.func 50) #[] #[]] W fun e W' => MvE W W' S e (mvF true M.us M.gs x) := by
  obtain ⟨k, m, u, g, o, at_, d, ks⟩ := x
  obtain ⟨ua, ga, uc, gc, us, gs⟩ := M
  obtain ⟨hu, hg, ul, gl, cu, cg, ou, og⟩ := hM
  dsimp only at hu hg ul gl cu cg ou og
  obtain ⟨hid1, hid2⟩ := hid
  obtain ⟨OU, HOU⟩ : ∃ OU, Hid (toM us u = OU) := ⟨_, rfl⟩
  obtain ⟨OG, HOG⟩ : ∃ OG, Hid (toM gs g = OG) := ⟨_, rfl⟩
  have HMV : Hid (mvF true us gs (.mk k m u g o at_ d ks) = mvO OU OG k m o at_ d ks) := by show _ = _; rw [← HOU.out, ← HOG.out]; rfl
  rw [HMV.out]
  clear HMV
  obtain ⟨c0, c1, NB, RB, hB3, hz3⟩ := three_boxes W _ _ _ ua ga us.length gs.length uc gc k m u g o at_ d ks h rfl rfl rfl
  have HC1 : Hid _ := toHost_any ua uc us u (((W.alloc (.cells #[.slice ua us.length uc, .slice ga gs.length gc] 25)).alloc (.cells #[.int .i64 k, .int .i64 m, .int .i64 u, .int .i64 g, .bool o, .slice h.aa at_.length h.ca, .string d, .slice h.ak ks.length h.ck] 34)).alloc (.cells #[.int .i64 0, .int .i64 0, .int .i64 0, .int .i64 0, .bool false, .slice none 0 0, .string ⟨#[]⟩, .slice none 0 0] 34)) ul cu ou hid1 (hu.below hB3)
  rw [HOU.out] at HC1
  obtain ⟨f0, f1, f2, f3, f4, f5, f6, f7⟩ := NB.1
  show Calls Tryz.prog 39 #[.agg #[.slice ua us.length uc, .slice ga gs.length gc], .agg #[.int .i64 k, .int .i64 m, .int .i64 u, .int .i64 g, .bool o, .slice h.aa at_.length h.ca, .string d, .slice h.ak ks.length h.ck], .func (.func 50) #[] #[]] W _
  go_enter Tryz.func39, Tryz.ntmps39
  go_wp2_with fail
  refine Calls.mono HC1.out ?_
  rintro e w4 ⟨rfl, hB4⟩
  have hB04 := hB3.trans (hB4.mono hB3.size)
  have NB := NB.below hB4
  have RB := RB.below hB4
  have c1 := mle_below hB4 _ _ c1
  have HC2 : Hid _ := toHost_any ga gc gs g w4 gl cg og hid2 (hg.below hB04)
  rw [HOG.out] at HC2
  have hz4 : W.heap.size + 1 + 1 + 1 ≤ w4.heap.size := by have := hB4.size; omega
  clear f0 f1 f2 f3 f4 f5 f6 f7 c0 HC1 hB3 hB4 hu hg ul gl cu cg ou og hz3
  obtain ⟨f0, f1, f2, f3, f4, f5, f6, f7⟩ := NB.1
  cases OU with
  | none =>
    rw [optV_none]
    go_wp2_with fail
    refine Calls.mono HC2.out ?_
    rintro e w5 ⟨rfl, hB5⟩
    have hB05 := hB04.trans (hB5.mono hB04.size)
    have NB := NB.below hB5
    have RB := RB.below hB5
    clear f0 f1 f2 f3 f4 f5 f6 f7 c1 HC2 hB04
    cases OG with
    | none =>
      rw [optV_none]
      obtain ⟨⟨f0, f1, f2, f3, f4, f5, f6, f7⟩, ff⟩ := RB
      have z0 := ff 0
      have z1 := ff 1
      have z2 := ff 2
      have z3 := ff 3
      have z4 := ff 4
      have z5 := ff 5
      have z6 := ff 6
      have z7 := ff 7
      have R3 := NBw.store (w := w5) (b := (W.heap.size + 1 + 1)) (y := zN) (h' := zH) ⟨⟨f0, f1, f2, f3, f4, f5, f6, f7⟩, ff⟩ zN zH
      have hB3 : Below W.heap.size W (stB w5 (W.heap.size + 1 + 1) zN zH) := hB05.trans (stB_but.below (by omega) hB05.size)
      go_wp2
      obtain ⟨W6, HW6⟩ : ∃ W6, Hid (stB w5 (W.heap.size + 1 + 1) zN zH = W6) := ⟨_, rfl⟩
      rw [HW6.out] at R3 hB3
      have hw6 := HW6.out
      simp only [stB, zN, zH] at hw6
      simp only [List.length_nil] at hw6
      rw [hw6]
      obtain ⟨r0, r1, r2, r3, r4, r5, r6, r7⟩ := R3.1
      refine bodyPost_ret (v := .tuple #[ndV zN zH, .iface 44 (.int .i64 11)]) (by simp [results, Tryz.results39, go_sem, ndV, zN, zH, r0, r1, r2, r3, r4, r5, r6, r7]) rfl ⟨rfl, hB3⟩
    | some g' =>
      rw [optV_some]
      obtain ⟨⟨f0, f1, f2, f3, f4, f5, f6, f7⟩, ff⟩ := RB
      have z0 := ff 0
      have z1 := ff 1
      have z2 := ff 2
      have z3 := ff 3
      have z4 := ff 4
      have z5 := ff 5
      have z6 := ff 6
      have z7 := ff 7
      have R3 := NBw.store (w := w5) (b := (W.heap.size + 1 + 1)) (y := zN) (h' := zH) ⟨⟨f0, f1, f2, f3, f4, f5, f6, f7⟩, ff⟩ zN zH
      have hB3 : Below W.heap.size W (stB w5 (W.heap.size + 1 + 1) zN zH) := hB05.trans (stB_but.below (by omega) hB05.size)
      go_wp2
      obtain ⟨W6, HW6⟩ : ∃ W6, Hid (stB w5 (W.heap.size + 1 + 1) zN zH = W6) := ⟨_, rfl⟩
      rw [HW6.out] at R3 hB3
      have hw6 := HW6.out
      simp only [stB, zN, zH] at hw6
      simp only [List.length_nil] at hw6
      rw [hw6]
      obtain ⟨r0, r1, r2, r3, r4, r5, r6, r7⟩ := R3.1
      refine bodyPost_ret (v := .tuple #[ndV zN zH, .iface 44 (.int .i64 11)]) (by simp [results, Tryz.results39, go_sem, ndV, zN, zH, r0, r1, r2, r3, r4, r5, r6, r7]) rfl ⟨rfl, hB3⟩
  
  | some u' =>
    rw [optV_some]
    go_wp2_with fail
    refine Calls.mono HC2.out ?_
    rintro e w5 ⟨rfl, hB5⟩
    have hB05 := hB04.trans (hB5.mono hB04.size)
    have NB := NB.below hB5
    have RB := RB.below hB5
    clear f0 f1 f2 f3 f4 f5 f6 f7 c1 HC2 hB04
    cases OG with
    | none =>
      rw [optV_none]
      obtain ⟨⟨f0, f1, f2, f3, f4, f5, f6, f7⟩, ff⟩ := RB
      have z0 := ff 0
      have z1 := ff 1
      have z2 := ff 2
      have z3 := ff 3
      have z4 := ff 4
      have z5 := ff 5
      have z6 := ff 6
      have z7 := ff 7
      have R3 := NBw.store (w := w5) (b := (W.heap.size + 1 + 1)) (y := zN) (h' := zH) ⟨⟨f0, f1, f2, f3, f4, f5, f6, f7⟩, ff⟩ zN zH
      have hB3 : Below W.heap.size W (stB w5 (W.heap.size + 1 + 1) zN zH) := hB05.trans (stB_but.below (by omega) hB05.size)
      go_wp2
      obtain ⟨W6, HW6⟩ : ∃ W6, Hid (stB w5 (W.heap.size + 1 + 1) zN zH = W6) := ⟨_, rfl⟩
      rw [HW6.out] at R3 hB3
      have hw6 := HW6.out
      simp only [stB, zN, zH] at hw6
      simp only [List.length_nil] at hw6
      rw [hw6]
      obtain ⟨r0, r1, r2, r3, r4, r5, r6, r7⟩ := R3.1
      refine bodyPost_ret (v := .tuple #[ndV zN zH, .iface 44 (.int .i64 11)]) (by simp [results, Tryz.results39, go_sem, ndV, zN, zH, r0, r1, r2, r3, r4, r5, r6, r7]) rfl ⟨rfl, hB3⟩
    | some g' =>
      rw [optV_some]
      have hB6 : Below W.heap.size W ((w5.setCell ⟨(W.heap.size + 1), 2, none⟩ (.int .i64 u')).setCell ⟨(W.heap.size + 1), 3, none⟩ (.int .i64 g')) := (hB05.setCell (p := ⟨(W.heap.size + 1), 2, none⟩) (by show W.heap.size ≤ W.heap.size + 1; omega) _).setCell (p := ⟨(W.heap.size + 1), 3, none⟩) (by show W.heap.size ≤ W.heap.size + 1; omega) _
      have NB6 := NB.ids u' g'
      have RB6 : NBw ((w5.setCell ⟨(W.heap.size + 1), 2, none⟩ (.int .i64 u')).setCell ⟨(W.heap.size + 1), 3, none⟩ (.int .i64 g')) (W.heap.size + 1 + 1) zN zH := (RB.other (by show W.heap.size + 1 ≠ W.heap.size + 1 + 1; omega) _).other (by show W.heap.size + 1 ≠ W.heap.size + 1 + 1; omega) _
      have hsz6 : ((w5.setCell ⟨(W.heap.size + 1), 2, none⟩ (.int .i64 u')).setCell ⟨(W.heap.size + 1), 3, none⟩ (.int .i64 g')).heap.size = w5.heap.size := by simp
      have HO : Hid _ := own_any (W := ((w5.setCell ⟨(W.heap.size + 1), 2, none⟩ (.int .i64 u')).setCell ⟨(W.heap.size + 1), 3, none⟩ (.int .i64 g'))) (S := (fun k => k == W.heap.size || k == W.heap.size + 1 || k == W.heap.size + 1 + 1 || S k)) (x := (.mk k m u' g' o at_ d ks)) (h := h) (fun q hq => by
        rw [hsz6]
        have e5 := hB5.size
        simp at hq
        rcases hq with ((e | e) | e) | e
        · omega
        · omega
        · omega
        · have := hS0 q e; omega) ((nd_ids hN).on (mle_step fun q hq hs => ⟨by simp [hs]; omega, hB6.block q hq⟩)) (lim_ids hlim) (by rw [cnt_ids (u := u) (g := g)]; exact hcnt)
      have g0 := NB.2 2
      have g1 := NB.2 3
      obtain ⟨f0, f1, f2, f3, f4, f5, f6, f7⟩ := NB.1
      go_wp2_with fail
      refine Calls.mono HO.out ?_
      rintro e w7 ⟨⟨hx, rfl, hN7⟩, hB7⟩
      have RB7 := RB6.below hB7
      have hB07 := hB6.trans (hB7.mono hB6.size)
      have R8 := RB7.store (.mk k m u' g' o at_ d ks) hx
      have hB8 : Below W.heap.size W (stB w7 (W.heap.size + 1 + 1) (.mk k m u' g' o at_ d ks) hx) := hB07.trans (stB_but.below (by omega) hB07.size)
      have HN8 : Hid (NdV (offS (stB w7 (W.heap.size + 1 + 1) (.mk k m u' g' o at_ d ks) hx).cell? S) (.mk k m u' g' o at_ d ks) hx) := hN7.on (mle_step fun q hq hs => by
        simp at hs
        exact ⟨hs.2, stB_but.block q hq hs.1.2⟩)
      clear f0 f1 f2 f3 f4 f5 f6 f7 g0 g1 HO NB NB6 RB RB6 hN7 hB7 hB6 hB5 hB05 hsz6
      have z0 := RB7.2 0
      have z1 := RB7.2 1
      have z2 := RB7.2 2
      have z3 := RB7.2 3
      have z4 := RB7.2 4
      have z5 := RB7.2 5
      have z6 := RB7.2 6
      have z7 := RB7.2 7
      obtain ⟨f0, f1, f2, f3, f4, f5, f6, f7⟩ := RB7.1
      rw [show ndV (.mk k m u' g' o at_ d ks) hx = .agg #[.int .i64 k, .int .i64 m, .int .i64 u', .int .i64 g', .bool o, .slice hx.aa at_.length hx.ca, .string d, .slice hx.ak ks.length hx.ck] from rfl]
      go_wp2
      obtain ⟨W9, HW9⟩ : ∃ W9, Hid (stB w7 (W.heap.size + 1 + 1) (.mk k m u' g' o at_ d ks) hx = W9) := ⟨_, rfl⟩
      rw [HW9.out] at R8 hB8 HN8
      have hw9 := HW9.out
      simp only [stB] at hw9
      rw [hw9]
      obtain ⟨r0, r1, r2, r3, r4, r5, r6, r7⟩ := R8.1
      refine bodyPost_ret (v := .tuple #[ndV (.mk k m u' g' o at_ d ks) hx, .nilIface]) (by simp [results, Tryz.results39, go_sem, ndV, r0, r1, r2, r3, r4, r5, r6, r7]) rfl ⟨⟨hx, rfl, HN8.out⟩, hB8⟩
end Go.Proofs.YtlbabnffiibnpaaGreat
namespace Go.Proofs.YtlbabnffiibnpaaGreat
open Go.RowKit
set_option maxRecDepth 100000 in
set_option maxHeartbeats 2000000 in
theorem outside_co {W : World} {S : Nat → Bool} (hS0 : ∀ k, S k = true → k < W.heap.size) {x : Nd} {h : Hd} (hN : NdV (offS W.cell? S) x h) (hlim : Lim x) (hcnt : cnt x ≤ 1000) (hid : IdT x) {M : MapsV} (hM : MapsOk W M) :
    Calls Tryz.prog 28 #[M.v, ndV x h] W fun e W' => MvE W W' S e (mvF true M.us M.gs x) := by
  obtain ⟨OX, HOX⟩ : ∃ OX, Hid (mvF true M.us M.gs x = OX) := ⟨_, rfl⟩
  rw [HOX.out]
  obtain ⟨k, m, u, g, o, at_, d, ks⟩ := x
  obtain ⟨ua, ga, uc, gc, us, gs⟩ := M
  obtain ⟨c0, c1, NB, RB, hB3, hz3⟩ := three_boxes W _ _ _ ua ga us.length gs.length uc gc k m u g o at_ d ks h rfl rfl rfl
  have HC1 : Hid (Calls Tryz.prog 39 #[.agg #[.slice ua us.length uc, .slice ga gs.length gc], .agg #[.int .i64 k, .int .i64 m, .int .i64 u, .int .i64 g, .bool o, .slice h.aa at_.length h.ca, .string d, .slice h.ak ks.length h.ck], .func (.func 50) #[] #[]] (((W.alloc (.cells #[.slice ua us.length uc, .slice ga gs.length gc] 25)).alloc (.cells #[.int .i64 k, .int .i64 m, .int .i64 u, .int .i64 g, .bool o, .slice h.aa at_.length h.ca, .string d, .slice h.ak ks.length h.ck] 34)).alloc (.cells #[.int .i64 0, .int .i64 0, .int .i64 0, .int .i64 0, .bool false, .slice none 0 0, .string ⟨#[]⟩, .slice none 0 0] 34)) fun e W' => MvE (((W.alloc (.cells #[.slice ua us.length uc, .slice ga gs.length gc] 25)).alloc (.cells #[.int .i64 k, .int .i64 m, .int .i64 u, .int .i64 g, .bool o, .slice h.aa at_.length h.ca, .string d, .slice h.ak ks.length h.ck] 34)).alloc (.cells #[.int .i64 0, .int .i64 0, .int .i64 0, .int .i64 0, .bool false, .slice none 0 0, .string ⟨#[]⟩, .slice none 0 0] 34)) W' (fun k => k == W.heap.size + 1 + 1 || S k) e OX) := by
    have := cacrossTo (W := (((W.alloc (.cells #[.slice ua us.length uc, .slice ga gs.length gc] 25)).alloc (.cells #[.int .i64 k, .int .i64 m, .int .i64 u, .int .i64 g, .bool o, .slice h.aa at_.length h.ca, .string d, .slice h.ak ks.length h.ck] 34)).alloc (.cells #[.int .i64 0, .int .i64 0, .int .i64 0, .int .i64 0, .bool false, .slice none 0 0, .string ⟨#[]⟩, .slice none 0 0] 34))) (S := fun k => k == W.heap.size + 1 + 1 || S k) (M := ⟨ua, ga, uc, gc, us, gs⟩) (h := h) (fun q hq => by
      rw [hz3]
      simp at hq
      rcases hq with e | e
      · omega
      · have := hS0 q e; omega) (hN.on (mle_step fun q hq hs => ⟨by simp [hs]; omega, hB3.block q hq⟩)) hlim hcnt hid (hM.below hB3)
    rw [HOX.out] at this
    exact this
  obtain ⟨f0, f1, f2, f3, f4, f5, f6, f7⟩ := NB.1
  show Calls Tryz.prog 28 #[.agg #[.slice ua us.length uc, .slice ga gs.length gc], .agg #[.int .i64 k, .int .i64 m, .int .i64 u, .int .i64 g, .bool o, .slice h.aa at_.length h.ca, .string d, .slice h.ak ks.length h.ck]] W _
  clear hM HOX hN hlim hcnt hid
  go_enter Tryz.func28, Tryz.ntmps28
  go_wp2_with fail
  refine Calls.mono HC1.out ?_
  intro e w4 hE
  clear f0 f1 f2 f3 f4 f5 f6 f7 c0 c1 HC1 NB
  cases OX with
  | none =>
    obtain ⟨rfl, hB4⟩ := hE
    have RB := RB.below hB4
    have hB04 := hB3.trans (hB4.mono hB3.size)
    rw [show ndV zN zH = .agg #[.int .i64 0, .int .i64 0, .int .i64 0, .int .i64 0, .bool false, .slice none 0 0, .string ⟨#[]⟩, .slice none 0 0] from rfl]
    clear hB4 hB3
    obtain ⟨⟨f0, f1, f2, f3, f4, f5, f6, f7⟩, ff⟩ := RB
    have z0 := ff 0
    have z1 := ff 1
    have z2 := ff 2
    have z3 := ff 3
    have z4 := ff 4
    have z5 := ff 5
    have z6 := ff 6
    have z7 := ff 7
    have R3 := NBw.store (w := w4) (b := (W.heap.size + 1 + 1)) (y := zN) (h' := zH) ⟨⟨f0, f1, f2, f3, f4, f5, f6, f7⟩, ff⟩ zN zH
    have hB3 : Below W.heap.size W (stB w4 (W.heap.size + 1 + 1) zN zH) := hB04.trans (stB_but.below (by omega) hB04.size)
    go_wp2
    obtain ⟨W6, HW6⟩ : ∃ W6, Hid (stB w4 (W.heap.size + 1 + 1) zN zH = W6) := ⟨_, rfl⟩
    rw [HW6.out] at R3 hB3
    have hw6 := HW6.out
    simp only [stB, zN, zH] at hw6
    simp only [List.length_nil] at hw6
    rw [hw6]
    obtain ⟨r0, r1, r2, r3, r4, r5, r6, r7⟩ := R3.1
    refine bodyPost_ret (v := .tuple #[ndV zN zH, .iface 44 (.int .i64 11)]) (by simp [results, Tryz.results28, go_sem, ndV, zN, zH, r0, r1, r2, r3, r4, r5, r6, r7]) rfl ⟨rfl, hB3⟩
  | some y =>
    obtain ⟨⟨hx, rfl, hN4⟩, hB4⟩ := hE
    obtain ⟨k, m, u, g, o, at_, d, ks⟩ := y
    have RB := RB.below hB4
    have hB04 := hB3.trans (hB4.mono hB3.size)
    have R8 := RB.store (.mk k m u g o at_ d ks) hx
    have hB8 : Below W.heap.size W (stB w4 (W.heap.size + 1 + 1) (.mk k m u g o at_ d ks) hx) := hB04.trans (stB_but.below (by omega) hB04.size)
    have HN8 : Hid (NdV (offS (stB w4 (W.heap.size + 1 + 1) (.mk k m u g o at_ d ks) hx).cell? S) (.mk k m u g o at_ d ks) hx) := hN4.on (mle_step fun q hq hs => by
      simp at hs
      exact ⟨hs.2, stB_but.block q hq hs.1⟩)
    clear hN4 hB4 hB3 hB04
    have z0 := RB.2 0
    have z1 := RB.2 1
    have z2 := RB.2 2
    have z3 := RB.2 3
    have z4 := RB.2 4
    have z5 := RB.2 5
    have z6 := RB.2 6
    have z7 := RB.2 7
    obtain ⟨f0, f1, f2, f3, f4, f5, f6, f7⟩ := RB.1
    rw [show ndV (.mk k m u g o at_ d ks) hx = .agg #[.int .i64 k, .int .i64 m, .int .i64 u, .int .i64 g, .bool o, .slice hx.aa at_.length hx.ca, .string d, .slice hx.ak ks.length hx.ck] from rfl]
    go_wp2
    obtain ⟨W9, HW9⟩ : ∃ W9, Hid (stB w4 (W.heap.size + 1 + 1) (.mk k m u g o at_ d ks) hx = W9) := ⟨_, rfl⟩
    rw [HW9.out] at R8 hB8 HN8
    have hw9 := HW9.out
    simp only [stB] at hw9
    rw [hw9]
    obtain ⟨r0, r1, r2, r3, r4, r5, r6, r7⟩ := R8.1
    refine bodyPost_ret (v := .tuple #[ndV (.mk k m u g o at_ d ks) hx, .nilIface]) (by simp [results, Tryz.results28, go_sem, ndV, r0, r1, r2, r3, r4, r5, r6, r7]) rfl ⟨⟨hx, rfl, HN8.out⟩, hB8⟩
end Go.Proofs.YtlbabnffiibnpaaGreat
