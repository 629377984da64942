/-
  WHAT idmap.join DOES: ranges that go on from one another become one: the walk.
-/
import Derived.Test.YtoadlnojcbkdgaaIe
namespace Go.Proofs.Ytoadlnojcbkdgaa
open Go.RowKit

/-- One range more, behind those that are joined. -/
def stepJ (out : List Rg) (r : Rg) : List Rg := match out.getLast? with
  | none => [r]
  | some p => if onB p r = true then out.dropLast ++ [⟨p.i, p.o, p.n + r.n⟩] else out ++ [r]
def joinL (L : List Rg) : List Rg := L.foldl stepJ []
theorem joinL_snoc (L : List Rg) (r : Rg) : joinL (L ++ [r]) = stepJ (joinL L) r := by simp [joinL]
theorem stepJ_nil (r : Rg) : stepJ [] r = [r] := rfl
theorem stepJ_on {P : List Rg} {p r : Rg} (h : onB p r = true) : stepJ (P ++ [p]) r = P ++ [⟨p.i, p.o, p.n + r.n⟩] := by simp [stepJ, h]
theorem stepJ_off {P : List Rg} {p r : Rg} (h : onB p r = false) : stepJ (P ++ [p]) r = (P ++ [p]) ++ [r] := by simp [stepJ, h]
theorem stepJ_bd {out : List Rg} {r : Rg} (ho : ∀ p ∈ out, p.bd) (hr : r.bd) : ∀ p ∈ stepJ out r, p.bd := by
  intro q hq
  rcases List.eq_nil_or_concat out with rfl | ⟨P, p, rfl⟩
  · simp [stepJ_nil] at hq; subst hq; exact hr
  · rw [List.concat_eq_append] at *
    have hp := ho p (by simp)
    by_cases h : onB p r = true
    · rw [stepJ_on h] at hq
      simp at hq
      rcases hq with hq | rfl
      · exact ho q (by simp [hq])
      · simp [onB] at h
        unfold Rg.bd at *
        dsimp only
        omega
    · rw [stepJ_off (by simpa using h)] at hq
      simp at hq
      rcases hq with hq | rfl | rfl
      · exact ho q (by simp [hq])
      · exact hp
      · exact hr
theorem joinL_bd : ∀ {L : List Rg}, (∀ p ∈ L, p.bd) → ∀ p ∈ joinL L, p.bd := by
  intro L h
  have key : ∀ (M out : List Rg), (∀ p ∈ out, p.bd) → (∀ p ∈ M, p.bd) → ∀ p ∈ M.foldl stepJ out, p.bd := by
    intro M
    induction M with
    | nil => intro out ho _; exact ho
    | cons r l ih => intro out ho hM; exact ih _ (stepJ_bd ho (hM r (by simp))) (fun p hp => hM p (by simp [hp]))
  exact key L [] (by simp) h
theorem stepJ_length (out : List Rg) (r : Rg) : (stepJ out r).length ≤ out.length + 1 := by
  rcases List.eq_nil_or_concat out with rfl | ⟨P, p, rfl⟩
  · simp [stepJ_nil]
  · rw [List.concat_eq_append]
    by_cases h : onB p r = true
    · rw [stepJ_on h]; simp
    · rw [stepJ_off (by simpa using h)]; simp
theorem joinL_length (L : List Rg) : (joinL L).length ≤ L.length := by
  have key : ∀ (M out : List Rg), (M.foldl stepJ out).length ≤ out.length + M.length := by
    intro M
    induction M with
    | nil => intro out; simp
    | cons r l ih => intro out; have := ih (stepJ out r); have := stepJ_length out r; simp at *; omega
  simpa [joinL] using key L []

/-- The last range's count is turned in place. -/
theorem count_set {w : World} {base g k n cap2 : Nat} {cur : Array Value} {A : List Rg} {x : Rg} {c : Int} (hb : base ≤ g) (hg : w.heap[g]? = some (.cells cur 53 (0, 0))) (hs : cur.size = cap2 * 3) (hn : n ≤ cap2) (hm : cap2 ≤ maxLen) (hA : A.length = k) (hl : (A ++ [x]).length = n)
    (htk : cur.toList.take (n * 3) = flat (A ++ [x])) :
    (w.setCell ⟨g, k * 3 + 2, none⟩ (.int .i64 c)).ownsRow base 53 3 (.slice (some ⟨g, 0, none⟩) n cap2) n (flat (A ++ [⟨x.i, x.o, c⟩])) := by
  refine ⟨by rw [flat_length]; simp at hl ⊢; omega, .inr ⟨g, cap2, cur.setIfInBounds (k * 3 + 2) (.int .i64 c), rfl, hb, ?_, hn, hm, by simp [hs], ?_⟩⟩
  · rw [setCell_eq_setRow w g (k * 3 + 2) cur 53 (0, 0) _ hg]
    exact setRow_heap w g cur _ 53 (0, 0) hg
  · have hl' : A.length + 1 = n := by simpa using hl
    simp only [Array.toList_setIfInBounds]
    have h0 : cur.toList = flat (A ++ [x]) ++ cur.toList.drop (n * 3) := by rw [← htk, List.take_append_drop]
    rw [h0, flat_append]
    have e : ((flat A ++ flat [x] ++ cur.toList.drop (n * 3)).set (k * 3 + 2) (.int .i64 c)) = flat (A ++ [⟨x.i, x.o, c⟩]) ++ cur.toList.drop (n * 3) := by
      have hk : (flat A).length = k * 3 := by rw [flat_length, hA]
      rw [← hk, flat_append]
      simp [flat]
    rw [e, List.take_append_of_le_length (by rw [flat_length]; simp; omega), List.take_of_length_le (by rw [flat_length]; simp; omega)]

/-- A range at place n of block g, which may be written. -/
def RRow (w : World) (g n : Nat) (r : Rg) : Prop :=
  w.cell? ⟨g, n * 3, none⟩ = some (.int .i64 r.i) ∧ w.cell? ⟨g, n * 3 + 1, none⟩ = some (.int .i64 r.o) ∧ w.cell? ⟨g, n * 3 + 2, none⟩ = some (.int .i64 r.n) ∧ ∀ o, w.frozen? ⟨g, o, none⟩ = false
theorem RRow.below {w w' : World} {g n : Nat} {r : Rg} (h : RRow w g n r) (hb : Below w.heap.size w w') : RRow w' g n r := by
  have hl : g < w.heap.size := World.block_lt_of_cell? _ _ h.1
  obtain ⟨h0, h1, h2, h4⟩ := h
  exact ⟨(hb.cell (p := ⟨g, n * 3, none⟩) hl).trans h0, (hb.cell (p := ⟨g, n * 3 + 1, none⟩) hl).trans h1, (hb.cell (p := ⟨g, n * 3 + 2, none⟩) hl).trans h2, fun o => (hb.frozen (p := ⟨g, o, none⟩) hl).trans (h4 o)⟩
theorem RRow.cells {w : World} {g n : Nat} {r : Rg} (h : RRow w g n r) : w.cell? ⟨g, n * 3, none⟩ = some (.int .i64 r.i) ∧ w.cell? ⟨g, n * 3 + 1, none⟩ = some (.int .i64 r.o) ∧ w.cell? ⟨g, n * 3 + 2, none⟩ = some (.int .i64 r.n) := ⟨h.1, h.2.1, h.2.2.1⟩
theorem RBox.cells {w : World} {b : Nat} {r : Rg} (h : RBox w b r) : w.cell? ⟨b, 0, none⟩ = some (.int .i64 r.i) ∧ w.cell? ⟨b, 1, none⟩ = some (.int .i64 r.o) ∧ w.cell? ⟨b, 2, none⟩ = some (.int .i64 r.n) := ⟨h.1, h.2.1, h.2.2.1⟩
theorem rrow_of {w : World} {g m : Nat} {cur : Array Value} {P : List Rg} {p : Rg} (hg : w.heap[g]? = some (.cells cur 53 (0, 0))) (htk : cur.toList.take m = flat (P ++ [p])) : RRow w g P.length p := by
  obtain ⟨f0, f1, f2⟩ := flat_get (P ++ [p]) P.length p (by simp)
  exact ⟨ownsRow_cell hg htk f0, ownsRow_cell hg htk f1, ownsRow_cell hg htk f2, fun o => by simp [World.frozen?, hg]⟩
theorem below_undrew {B : Nat} {w w' : World} (h : Below B w.drew w') : Below B w w' := ⟨h.os, h.tape, h.output, h.size, h.block⟩
theorem heap_below {w w' : World} {g : Nat} {o : Obj} (hg : w.heap[g]? = some o) (hb : Below w.heap.size w w') : w'.heap[g]? = some o := (hb.block g (Array.getElem?_eq_some_iff.1 hg).1).trans hg
theorem owns_below {w w' : World} {base : Nat} {e : TypeId} {size : Nat} {v : Value} {n : Nat} {xs : List Value} (h : w.ownsRow base e size v n xs) (hb : Below w.heap.size w w') : w'.ownsRow base e size v n xs := by
  refine ⟨h.1, ?_⟩
  rcases h.2 with h2 | ⟨g, cap, cur, hv, hg, hh, r⟩
  · exact .inl h2
  · exact .inr ⟨g, cap, cur, hv, hg, heap_below hh hb, r⟩

set_option maxRecDepth 100000 in
set_option maxHeartbeats 2000000 in
theorem join_any (a : Option Addr) (cap : Nat) (L : List Rg) (w : World) (hl : L.length ≤ 100) (hbd : ∀ r ∈ L, r.bd) (h : Rgs w a L) :
    Calls Try.prog 45 #[.slice a L.length cap] w fun e w' => ∃ v', e = .returned v' ∧ w'.ownsRow w.heap.size 53 3 v' (joinL L).length (flat (joinL L)) ∧ Below w.heap.size w w' := by
  obtain ⟨i0, hi0, hz0, hz1, hz2⟩ := info_parts Try.info53
  go_enter Try.func45, Try.ntmps45
  go_wp2
  go_loopw [3, 9] (fun v i wr => ∃ k : Nat, k ≤ L.length ∧ i = .int .i64 k ∧ wr.ownsRow w.heap.size 53 3 v (joinL (L.take k)).length (flat (joinL (L.take k))) ∧ Below w.heap.size w wr) (fun _ i _ => L.length - (intOf i).toNat)
  case atStart => exact ⟨0, Nat.zero_le _, rfl, World.ownsRow_nil _ _ _ _, Below.refl _ _⟩
  case round =>
    obtain ⟨k, hk, rfl, hown, hB⟩ := hrel
    by_cases hlt : k < L.length
    · rcases h with rfl | ⟨b, off, rfl, hc⟩
      · simp at hlt
      · obtain ⟨r, hr⟩ : ∃ r, L[k]? = some r := ⟨L[k], by simp [hlt]⟩
        obtain ⟨hc0, hc1, hc2⟩ := hc k r hr
        have hbl : b < w.heap.size := World.block_lt_of_cell? _ _ hc0
        have hblr : b < wr.heap.size := Nat.lt_of_lt_of_le hbl hB.size
        have hrb : r.bd := hbd r (List.mem_of_getElem? hr)
        have hJb : ∀ p ∈ joinL (L.take k), p.bd := joinL_bd (fun p hp => hbd p (List.mem_of_mem_take hp))
        have hJl : (joinL (L.take k)).length ≤ 100 := Nat.le_trans (joinL_length _) (Nat.le_trans (List.length_take_le _ _) (by omega))
        have HJ : Hid (joinL (L.take (k + 1)) = stepJ (joinL (L.take k)) r) := by show _ = _; rw [take_snoc_get hr, joinL_snoc]
        have hki : (k : Int) < (L.length : Int) := by omega
        obtain ⟨ri, ro, rn⟩ := r
        dsimp only at hc0 hc1 hc2
        have q0 : wr.cell? ⟨b, off + k * 3, none⟩ = some (.int .i64 ri) := (hB.cell (p := ⟨b, off + k * 3, none⟩) hbl).trans hc0
        have q1 : wr.cell? ⟨b, off + k * 3 + 1, none⟩ = some (.int .i64 ro) := (hB.cell (p := ⟨b, off + k * 3 + 1, none⟩) hbl).trans hc1
        have q2 : wr.cell? ⟨b, off + k * 3 + 2, none⟩ = some (.int .i64 rn) := (hB.cell (p := ⟨b, off + k * 3 + 2, none⟩) hbl).trans hc2
        clear hc0 hc1 hc2 hr hc
        generalize joinL (L.take k) = J at hown HJ hJb hJl
        obtain ⟨a0, cap0, hv, hnc, hcm, hform⟩ := ownsRow_form hown
        subst hv
        unfold maxLen at hcm
        rcases List.eq_nil_or_concat J with rfl | ⟨P, p, rfl⟩
        · have hRB := RBox.new wr ri ro rn
          have hown1 := hown.alloc (.cells #[.int .i64 ri, .int .i64 ro, .int .i64 rn] 53)
          have hB1 := hB.alloc hB.size (.cells #[.int .i64 ri, .int .i64 ro, .int .i64 rn] 53)
          have HJ2 : Hid (joinL (L.take (k + 1)) = [⟨ri, ro, rn⟩]) := HJ.out
          clear hform hJb HJ
          go_wp2
          go_quiet (fail)
          have hown2 : ((wr.alloc (.cells #[.int .i64 ri, .int .i64 ro, .int .i64 rn] 53)).drewN nq).ownsRow w.heap.size 53 3 (.slice a0 0 cap0) 0 (flat []) := hown1
          have RB2 : RBox ((wr.alloc (.cells #[.int .i64 ri, .int .i64 ro, .int .i64 rn] 53)).drewN nq) wr.heap.size ⟨ri, ro, rn⟩ := hRB
          have hB2 : Below w.heap.size w ((wr.alloc (.cells #[.int .i64 ri, .int .i64 ro, .int .i64 rn] 53)).drewN nq) := below_drewN hB1 nq
          have hb2 := hB2.size
          clear hRB hown1 hB1 q0 q1 q2 hblr hown hB
          generalize (wr.alloc (.cells #[.int .i64 ri, .int .i64 ro, .int .i64 rn] 53)).drewN nq = w2 at hown2 RB2 hB2 hb2 ⊢
          obtain ⟨x0, x1, x2, x3⟩ := id RB2
          dsimp only at x0 x1 x2
          go_wp2_with (at_builtin; refine wpList_append_src _ rfl (.tmp 36) (.tmp 38) 22 rfl w.heap.size 53 i0 (.agg #[.int .i64 0, .int .i64 0, .int .i64 0]) 3 24 Try.underlying22 hi0 hz0 hz1 hz2 rfl (by decide) _ 0 (flat []) rfl (hown2.alloc _) (some ⟨w2.heap.size, 0, none⟩) 1 1 (flat [⟨ri, ro, rn⟩]) rfl rfl (.inr ⟨_, rfl, new3 _ _ _ _⟩) (flat_one _) (by unfold maxLen; omega) (by omega) (Nat.le_trans hb2 (by simp)) ?_)
          intro v2 w4 hown4 hgrow4 _
          have hB4 := (hB2.alloc hb2 (.cells #[.int .i64 ri, .int .i64 ro, .int .i64 rn] 53)).grown hgrow4 (Nat.le_trans hb2 (by simp)) (fun q e => (hown2.lt q e).1)
          clear hgrow4 x0 x1 x2 x3 RB2 hown2 hB2 hb2
          go_wp2
          go_roundw
          case rel => exact ⟨k + 1, by omega, by go_num, by rw [HJ2.out]; simpa [flat] using hown4, hB4⟩
          case measure => simp [intOf]; omega
        · rw [List.concat_eq_append] at *
          have hpb : p.bd := hJb p (by simp)
          have hlen : (P ++ [p]).length = P.length + 1 := by simp
          rw [hlen] at hown hnc hJl hform ⊢
          rcases hform with ⟨_, h0, _⟩ | ⟨g, cur, rfl, hgb, hg, hcs, htk⟩
          · omega
          have hgl : g < wr.heap.size := (Array.getElem?_eq_some_iff.1 hg).1
          obtain ⟨f0, f1, f2⟩ := flat_get (P ++ [p]) P.length p (by simp)
          have y0 := ownsRow_cell hg htk f0
          have y1 := ownsRow_cell hg htk f1
          have y2 := ownsRow_cell hg htk f2
          have yf : ∀ o, wr.frozen? ⟨g, o, none⟩ = false := fun o => by simp [World.frozen?, hg]
          obtain ⟨pi, po, pn⟩ := p
          dsimp only at y0 y1 y2
          have HON : Hid (onB ⟨pi, po, pn⟩ ⟨ri, ro, rn⟩ = true ∧ joinL (L.take (k + 1)) = P ++ [⟨pi, po, pn + rn⟩] ∨ onB ⟨pi, po, pn⟩ ⟨ri, ro, rn⟩ = false ∧ joinL (L.take (k + 1)) = (P ++ [⟨pi, po, pn⟩]) ++ [⟨ri, ro, rn⟩]) := by
            by_cases hon : onB ⟨pi, po, pn⟩ ⟨ri, ro, rn⟩ = true
            · exact .inl ⟨hon, HJ.out.trans (stepJ_on hon)⟩
            · exact .inr ⟨by simpa using hon, HJ.out.trans (stepJ_off (by simpa using hon))⟩
          have hRB := RBox.new wr ri ro rn
          have hown1 := hown.alloc (.cells #[.int .i64 ri, .int .i64 ro, .int .i64 rn] 53)
          have hB1 := hB.alloc hB.size (.cells #[.int .i64 ri, .int .i64 ro, .int .i64 rn] 53)
          have hG1 : (wr.alloc (.cells #[.int .i64 ri, .int .i64 ro, .int .i64 rn] 53)).heap[g]? = some (.cells cur 53 (0, 0)) := (Below.heap_alloc wr _ g hgl).trans hg
          have ip : (0 : Int) ≤ (P.length : Int) := by omega
          have ip2 : (P.length : Int) < (P.length : Int) + 1 := by omega
          clear f0 f1 f2 HJ hJb hlen
          rcases HON.out with ⟨hon, HJ2⟩ | ⟨hon, HJ2⟩
          · have HJ3 : Hid (joinL (L.take (k + 1)) = P ++ [⟨pi, po, pn + rn⟩]) := HJ2
            clear HJ2 HON
            go_wp2_with fail
            clear q0 q1 q2 y0 y1 y2 yf hg hown hB
            have HG1 : Hid ((wr.alloc (.cells #[.int .i64 ri, .int .i64 ro, .int .i64 rn] 53)).heap[g]? = some (.cells cur 53 (0, 0))) := hG1
            clear hG1
            generalize wr.alloc (.cells #[.int .i64 ri, .int .i64 ro, .int .i64 rn] 53) = w1 at HG1 hRB hown1 hB1 ⊢
            have hgr : ¬ g = wr.heap.size := by omega
            generalize wr.heap.size = rb at hRB hgr ⊢
            have LB : RRow w1 g P.length ⟨pi, po, pn⟩ := rrow_of HG1.out htk
            have hS := And.intro LB.cells hRB.cells
            dsimp only at hS
            go_region_held3 (fun w' => (w'.cell? ⟨g, P.length * 3, none⟩ = some (.int .i64 pi) ∧ w'.cell? ⟨g, P.length * 3 + 1, none⟩ = some (.int .i64 po) ∧ w'.cell? ⟨g, P.length * 3 + 2, none⟩ = some (.int .i64 pn)) ∧ (w'.cell? ⟨rb, 0, none⟩ = some (.int .i64 ri) ∧ w'.cell? ⟨rb, 1, none⟩ = some (.int .i64 ro) ∧ w'.cell? ⟨rb, 2, none⟩ = some (.int .i64 rn))) (first | exact hS | exact hS2)
              (first | (go_at_call 52; refine (goesOn_any ⟨pi, po, pn⟩ ⟨ri, ro, rn⟩ hpb hrb _).mono ?_; rintro e w2 ⟨rfl, hb2⟩; have LB2 := LB.below (below_undrew hb2); have RB2 := hRB.below (below_undrew hb2); have hS2 := And.intro LB2.cells RB2.cells; dsimp only at hS2; rw [hon]))
            have hown2 := owns_below hown1 (below_undrew hb2)
            have hG2 := heap_below HG1.out (below_undrew hb2)
            have hB2 := hB1.trans (Below.mono (below_undrew hb2) hB1.size)
            clear hS hS2 hown1 HG1 hB1 LB hRB hb2
            obtain ⟨x0, x1, x2, x3⟩ := id RB2
            obtain ⟨z0, z1, z2, z3⟩ := id LB2
            dsimp only at x0 x1 x2 z0 z1 z2
            obtain ⟨p1, p2, p3, p4, p5, p6, p7, p8⟩ := hpb
            obtain ⟨r1, r2, r3, r4, r5, r6, r7, r8⟩ := hrb
            dsimp only at p1 p2 p3 p4 p5 p6 p7 p8 r1 r2 r3 r4 r5 r6 r7 r8
            have e1 : IntKind.i64.wrap (pn + rn) = pn + rn := wrap_small (by omega) (by omega)
            have hgr' : ¬ rb = g := fun e => hgr e.symm
            have HE : Hid ((w2.setCell ⟨g, P.length * 3 + 2, none⟩ (.int .i64 (pn + rn))).ownsRow w.heap.size 53 3 (.slice (some ⟨g, 0, none⟩) (P.length + 1) cap0) (P.length + 1) (flat (P ++ [⟨pi, po, pn + rn⟩]))) :=
              count_set (x := ⟨pi, po, pn⟩) hgb hG2 hcs hnc (by unfold maxLen; exact hcm) rfl (by simp) htk
            have hB3 := hB2.setCell (p := ⟨g, P.length * 3 + 2, none⟩) hgb (.int .i64 (pn + rn))
            clear hG2 hown2 htk hcs
            go_wp2_with fail
            go_region
            all_goals
              go_wp2
              go_roundw
              case rel => exact ⟨k + 1, by omega, by go_num, by rw [HJ3.out, show (P ++ [(⟨pi, po, pn + rn⟩ : Rg)]).length = P.length + 1 from by simp]; exact HE.out, ⟨hB3.os, hB3.tape, hB3.output, hB3.size, hB3.block⟩⟩
              case measure => simp [intOf]; omega
          · have HJ3 : Hid (joinL (L.take (k + 1)) = (P ++ [⟨pi, po, pn⟩]) ++ [⟨ri, ro, rn⟩]) := HJ2
            clear HJ2 HON
            go_wp2_with fail
            clear q0 q1 q2 y0 y1 y2 yf hg hown hB
            have HG1 : Hid ((wr.alloc (.cells #[.int .i64 ri, .int .i64 ro, .int .i64 rn] 53)).heap[g]? = some (.cells cur 53 (0, 0))) := hG1
            clear hG1
            generalize wr.alloc (.cells #[.int .i64 ri, .int .i64 ro, .int .i64 rn] 53) = w1 at HG1 hRB hown1 hB1 ⊢
            have hgr : ¬ g = wr.heap.size := by omega
            generalize wr.heap.size = rb at hRB hgr ⊢
            have LB : RRow w1 g P.length ⟨pi, po, pn⟩ := rrow_of HG1.out htk
            have hS := And.intro LB.cells hRB.cells
            dsimp only at hS
            go_region_held3 (fun w' => (w'.cell? ⟨g, P.length * 3, none⟩ = some (.int .i64 pi) ∧ w'.cell? ⟨g, P.length * 3 + 1, none⟩ = some (.int .i64 po) ∧ w'.cell? ⟨g, P.length * 3 + 2, none⟩ = some (.int .i64 pn)) ∧ (w'.cell? ⟨rb, 0, none⟩ = some (.int .i64 ri) ∧ w'.cell? ⟨rb, 1, none⟩ = some (.int .i64 ro) ∧ w'.cell? ⟨rb, 2, none⟩ = some (.int .i64 rn))) (first | exact hS | exact hS2)
              (first | (go_at_call 52; refine (goesOn_any ⟨pi, po, pn⟩ ⟨ri, ro, rn⟩ hpb hrb _).mono ?_; rintro e w2 ⟨rfl, hb2⟩; have LB2 := LB.below (below_undrew hb2); have RB2 := hRB.below (below_undrew hb2); have hS2 := And.intro LB2.cells RB2.cells; dsimp only at hS2; rw [hon]))
            have hown2 := owns_below hown1 (below_undrew hb2)
            have hB2 := hB1.trans (Below.mono (below_undrew hb2) hB1.size)
            clear hS hS2 hown1 HG1 hB1 LB hRB LB2
            have hb3 := hB2.size
            clear hb2
            obtain ⟨x0, x1, x2, x3⟩ := id RB2
            dsimp only at x0 x1 x2
            go_wp2_with (at_builtin; refine wpList_append_src _ rfl (.tmp 36) (.tmp 38) 22 rfl w.heap.size 53 i0 (.agg #[.int .i64 0, .int .i64 0, .int .i64 0]) 3 24 Try.underlying22 hi0 hz0 hz1 hz2 rfl (by decide) _ (P.length + 1) (flat (P ++ [⟨pi, po, pn⟩])) rfl (hown2.alloc _) (some ⟨w2.heap.size, 0, none⟩) 1 1 (flat [⟨ri, ro, rn⟩]) rfl rfl (.inr ⟨_, rfl, new3 _ _ _ _⟩) (flat_one _) (by unfold maxLen; omega) (by omega) (Nat.le_trans hb3 (by simp)) ?_)
            intro v2 w4 hown4 hgrow4 _
            have hB4 := (hB2.alloc hb3 (.cells #[.int .i64 ri, .int .i64 ro, .int .i64 rn] 53)).grown hgrow4 (Nat.le_trans hb3 (by simp)) (fun q e => (hown2.lt q e).1)
            clear hgrow4 x0 x1 x2 x3 RB2 hown2 hB2 hb3
            go_wp2
            go_roundw
            case rel => exact ⟨k + 1, by omega, by go_num, by rw [HJ3.out, flat_append, show ((P ++ [(⟨pi, po, pn⟩ : Rg)]) ++ [(⟨ri, ro, rn⟩ : Rg)]).length = P.length + 1 + 1 from by simp]; exact hown4, hB4⟩
            case measure => simp [intOf]; omega
    · rw [List.take_of_length_le (by omega)] at hown
      go_wp2
      go_ret
      exact ⟨_, rfl, hown, hB⟩
end Go.Proofs.Ytoadlnojcbkdgaa
