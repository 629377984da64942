/-
  Flat: the walk.
-/
import Derived.Test.YtlbabnffiibnpaaGreatFvY
import Derived.Test.YtlbabnffiibnpaaGreatFyY
import Derived.Deep.RegionHeld3
import Derived.Deep.RegionLaw
import Derived.Deep.Cut
import Derived.Deep.LoopGhost
namespace Go.Proofs.YtlbabnffiibnpaaGreat
open Go.RowKit Go.Shelf
def RowZ (W : World) (base : Nat) (v : Value) : Prop := W.ownsRow base 61 9 v 0 (kfl [])
theorem zks_next {G : List Pe} {j : Nat} {e : Pe} (h : G[j]? = some e) : zks (G.take (j + 1)) = zks (G.take j) ++ [(e.n, zN, zH)] := by
  unfold zks
  rw [List.take_add_one, h, List.map_append]
  rfl
/-- The nine cells of a kid with nothing in it. -/
def st9 (w : World) (b p : Nat) (nm : ByteArray) : World := ((((((((w.setCell ⟨b, p, none⟩ (.string nm)).setCell ⟨b, p + 1, none⟩ (.int .i64 0)).setCell ⟨b, p + 2, none⟩ (.int .i64 0)).setCell ⟨b, p + 3, none⟩ (.int .i64 0)).setCell ⟨b, p + 4, none⟩ (.int .i64 0)).setCell ⟨b, p + 5, none⟩ (.bool false)).setCell ⟨b, p + 6, none⟩ (.slice none 0 0)).setCell ⟨b, p + 7, none⟩ (.string ⟨#[]⟩)).setCell ⟨b, p + 8, none⟩ (.slice none 0 0)
theorem st9_row {w : World} {base g n cap : Nat} {L : Khs} (h : w.ownsRow base 61 9 (.slice (some ⟨g, 0, none⟩) (n + 1) cap) (n + 1) (kfl L ++ kfl [(⟨#[]⟩, zN, zH)])) (hl : L.length = n) (nm : ByteArray) : (st9 w g (n * 9) nm).ownsRow base 61 9 (.slice (some ⟨g, 0, none⟩) (n + 1) cap) (n + 1) (kfl (L ++ [(nm, zN, zH)])) := by
  have hk : (kfl L).length = n * 9 := by rw [kfl_length, hl]
  have h9 := row_setCell (row_setCell (row_setCell (row_setCell (row_setCell (row_setCell (row_setCell (row_setCell (row_setCell h (n * 9) (.string nm)) (n * 9 + 1) (.int .i64 0)) (n * 9 + 2) (.int .i64 0)) (n * 9 + 3) (.int .i64 0)) (n * 9 + 4) (.int .i64 0)) (n * 9 + 5) (.bool false)) (n * 9 + 6) (.slice none 0 0)) (n * 9 + 7) (.string ⟨#[]⟩)) (n * 9 + 8) (.slice none 0 0)
  rw [kfl_append]
  have e : (((((((((kfl L ++ kfl [((⟨#[]⟩ : ByteArray), zN, zH)]).set (n * 9) (.string nm)).set (n * 9 + 1) (.int .i64 0)).set (n * 9 + 2) (.int .i64 0)).set (n * 9 + 3) (.int .i64 0)).set (n * 9 + 4) (.int .i64 0)).set (n * 9 + 5) (.bool false)).set (n * 9 + 6) (.slice none 0 0)).set (n * 9 + 7) (.string ⟨#[]⟩)).set (n * 9 + 8) (.slice none 0 0) = kfl L ++ kfl [(nm, zN, zH)] := by
    generalize kfl L = M at hk
    simp [hk, kfl, ndL, zN, zH]
  rw [e] at h9
  exact h9
theorem st9_cells {w : World} {base g n cap : Nat} {L : Khs} (h : w.ownsRow base 61 9 (.slice (some ⟨g, 0, none⟩) (n + 1) cap) (n + 1) (kfl L ++ kfl [(⟨#[]⟩, zN, zH)])) (hl : L.length = n) : KdAt w.cell? g (n * 9) ⟨#[]⟩ zN zH ∧ ∀ j, w.frozen? ⟨g, j, none⟩ = false := by
  obtain ⟨a, c, e, _, _, hc⟩ := owns_cells h
  simp only [Value.slice.injEq, true_and] at e
  rcases hc with ⟨q, _⟩ | ⟨g', q, _, _, hcell, hfr⟩
  · rw [q] at e; cases e.1
  · rw [q] at e
    simp only [Option.some.injEq, Addr.mk.injEq] at e
    obtain ⟨⟨rfl, _⟩, _⟩ := e
    refine ⟨kdAt_iff.2 fun j u hj => ?_, hfr⟩
    refine hcell _ _ ?_
    rw [List.getElem?_append_right (by rw [kfl_length, hl]; omega), kfl_length, hl, Nat.add_sub_cancel_left]
    have hj9 := (List.getElem?_eq_some_iff.1 hj).1
    simp [ndL_length] at hj9
    show (Value.string ⟨#[]⟩ :: (ndL zN zH ++ []))[j]? = some u
    rw [List.append_nil]
    exact hj
/-- Nothing panics. -/
def noPan (Q : Exit → Act → World → Prop) : Exit → Act → World → Prop
  | .normal, a, w => Q .normal a w
  | .ret, a, w => Q .ret a w
  | .exit i, a, w => Q (.exit i) a w
  | .goto i, a, w => Q (.goto i) a w
  | .panic _, _, _ => False
  | .outgrown, _, _ => False
theorem noPan_ret {Q : Exit → Act → World → Prop} {a : Act} {w : World} (h : Q .ret a w) : noPan Q .ret a w := h
theorem noPan_le {Q : Exit → Act → World → Prop} (e : Exit) (a : Act) (w : World) (h : noPan Q e a w) : Q e a w := by
  cases e with
  | panic c => exact h.elim
  | outgrown => exact h.elim
  | normal => exact h
  | ret => exact h
  | exit i => exact h
  | goto i => exact h
theorem st9_but {w : World} {b p : Nat} {nm : ByteArray} : But b w (st9 w b p nm) := by
  unfold st9
  exact (((((((((But.refl b w).setCell _ _ _).setCell _ _ _).setCell _ _ _).setCell _ _ _).setCell _ _ _).setCell _ _ _).setCell _ _ _).setCell _ _ _).setCell _ _ _
/-- A kid more, whichever is stored first. -/
theorem k16 {w5 w9 : World} {cb g9 j c9 : Nat} {vo : Value} {L : Khs} {nm : ByteArray} (bx : Boxed w9 cb 32 vo) (hown : w9.ownsRow w5.heap.size 61 9 (.slice (some ⟨g9, 0, none⟩) (j + 1) c9) (j + 1) (kfl L ++ kfl [(⟨#[]⟩, zN, zH)])) (hl : L.length = j) (hB : Below w5.heap.size w5 w9) (hcg : cb ≠ g9) (hcb : w5.heap.size ≤ cb) (hg : w5.heap.size ≤ g9) :
    (Boxed ((st9 w9 g9 (j * 9) nm).setCell ⟨cb, 0, none⟩ (.slice (some ⟨g9, 0, none⟩) (j + 1) c9)) cb 32 (.slice (some ⟨g9, 0, none⟩) (j + 1) c9) ∧ ((st9 w9 g9 (j * 9) nm).setCell ⟨cb, 0, none⟩ (.slice (some ⟨g9, 0, none⟩) (j + 1) c9)).ownsRow w5.heap.size 61 9 (.slice (some ⟨g9, 0, none⟩) (j + 1) c9) (j + 1) (kfl (L ++ [(nm, zN, zH)])) ∧ Below w5.heap.size w5 ((st9 w9 g9 (j * 9) nm).setCell ⟨cb, 0, none⟩ (.slice (some ⟨g9, 0, none⟩) (j + 1) c9))) ∧
    (Boxed (st9 (w9.setCell ⟨cb, 0, none⟩ (.slice (some ⟨g9, 0, none⟩) (j + 1) c9)) g9 (j * 9) nm) cb 32 (.slice (some ⟨g9, 0, none⟩) (j + 1) c9) ∧ (st9 (w9.setCell ⟨cb, 0, none⟩ (.slice (some ⟨g9, 0, none⟩) (j + 1) c9)) g9 (j * 9) nm).ownsRow w5.heap.size 61 9 (.slice (some ⟨g9, 0, none⟩) (j + 1) c9) (j + 1) (kfl (L ++ [(nm, zN, zH)])) ∧ Below w5.heap.size w5 (st9 (w9.setCell ⟨cb, 0, none⟩ (.slice (some ⟨g9, 0, none⟩) (j + 1) c9)) g9 (j * 9) nm)) := by
  have b1 : But g9 w9 (st9 w9 g9 (j * 9) nm) := st9_but
  have b2 : But g9 (w9.setCell ⟨cb, 0, none⟩ (.slice (some ⟨g9, 0, none⟩) (j + 1) c9)) (st9 (w9.setCell ⟨cb, 0, none⟩ (.slice (some ⟨g9, 0, none⟩) (j + 1) c9)) g9 (j * 9) nm) := st9_but
  have hb1 : Boxed (st9 w9 g9 (j * 9) nm) cb 32 vo := (b1.block cb bx.lt hcg).trans bx
  have hb2 := bx.set (.slice (some ⟨g9, 0, none⟩) (j + 1) c9)
  have ho2 : (w9.setCell ⟨cb, 0, none⟩ (.slice (some ⟨g9, 0, none⟩) (j + 1) c9)).ownsRow w5.heap.size 61 9 (.slice (some ⟨g9, 0, none⟩) (j + 1) c9) (j + 1) (kfl L ++ kfl [(⟨#[]⟩, zN, zH)]) := owns_keep hown fun k hk => by
    simp [Value.ownBlock] at hk
    subst hk
    exact Below.heap_setCell _ _ _ _ (fun e => hcg (Eq.symm e))
  refine ⟨⟨hb1.set _, ?_, ?_⟩, ⟨(b2.block cb hb2.lt hcg).trans hb2, st9_row ho2 hl nm, ?_⟩⟩
  · exact owns_keep (st9_row hown hl nm) fun k hk => by
      simp [Value.ownBlock] at hk
      subst hk
      exact Below.heap_setCell _ _ _ _ (fun e => hcg (Eq.symm e))
  · exact (hB.trans (b1.below hg hB.size)).setCell (p := ⟨cb, 0, none⟩) hcb _
  · have h1 := hB.setCell (p := ⟨cb, 0, none⟩) hcb (.slice (some ⟨g9, 0, none⟩) (j + 1) c9)
    exact h1.trans (b2.below hg h1.size)
/-- Kids laid so far. -/
def KRel (w5 : World) (cb NG : Nat) (G : List Pe) (i : Value) (wr : World) : Prop := ∃ (j : Nat) (va : Option Addr) (vcap : Nat), j ≤ NG ∧ i = .int .i64 j ∧ Boxed wr cb 32 (.slice va j vcap) ∧ Hid (wr.ownsRow w5.heap.size 61 9 (.slice va j vcap) j (kfl (zks (G.take j)))) ∧ Below w5.heap.size w5 wr
theorem KRel.next {w5 wr : World} {cb NG g9 c9 j : Nat} {G : List Pe} (hj : j < NG) (h1 : Boxed wr cb 32 (.slice (some ⟨g9, 0, none⟩) (j + 1) c9)) (h2 : wr.ownsRow w5.heap.size 61 9 (.slice (some ⟨g9, 0, none⟩) (j + 1) c9) (j + 1) (kfl (zks (G.take (j + 1))))) (h3 : Below w5.heap.size w5 wr) : KRel w5 cb NG G (.int .i64 ((j : Int) + 1)) wr := ⟨j + 1, _, _, by omega, by simp, h1, h2, h3⟩
attribute [local go_sem] Oper.semAt_some
set_option maxRecDepth 100000 in
set_option maxHeartbeats 4000000 in
theorem flat_any {w : World} {S : Nat → Bool} (hS0 : ∀ k, S k = true → k < w.heap.size) {a : Option Addr} {cap : Nat} {xs : List Nd} (hx : NsV (offS w.cell? S) a xs) (hlx : xs.length ≤ 1000) (hsm : SmallP (layP xs)) (hok : shP (layP xs) ≠ [] → SeenOk (shP (layP xs))) {fv : Value} {F : Nd → Nat → Nd} (hF : FnOk w fv F) :
    Calls Tryz.prog 19 #[.slice a xs.length cap, fv] w fun e w' => ((shP (layP xs) = [] ∧ e = .returned (.tuple #[ndV zN zH, .bool false])) ∨ (shP (layP xs) ≠ [] ∧ ∃ h, e = .returned (.tuple #[ndV (flatD F (shP (layP xs))) h, .bool true]) ∧ NdV (offS w'.cell? S) (flatD F (shP (layP xs))) h)) ∧ Below w.heap.size w w' := by
  have hal : Below w.heap.size w (w.alloc (.cells #[.int .i64 0, .int .i64 0, .int .i64 0, .int .i64 0, .bool false, .slice none 0 0, .string ⟨#[]⟩, .slice none 0 0] 34)) := (Below.refl _ _).alloc (Nat.le_refl _) _
  have hU : ∀ k, (k == w.heap.size || S k) = true → k < (w.alloc (.cells #[.int .i64 0, .int .i64 0, .int .i64 0, .int .i64 0, .bool false, .slice none 0 0, .string ⟨#[]⟩, .slice none 0 0] 34)).heap.size := fun k hk => by
    rw [World.size_alloc]
    simp at hk
    rcases hk with e | e
    · omega
    · have := hS0 k e; omega
  have hm0 : MLe (offS w.cell? S) (offS (w.alloc (.cells #[.int .i64 0, .int .i64 0, .int .i64 0, .int .i64 0, .bool false, .slice none 0 0, .string ⟨#[]⟩, .slice none 0 0] 34)).cell? (fun k => k == w.heap.size || S k)) := mle_step fun k hk hs => ⟨by simp [hs]; omega, hal.block k hk⟩
  have HW : Hid _ := walk_any (cap := cap) (capn := 0) (an := none) (names := []) hU (hx.on hm0) (.inl rfl) hlx (by simp) hsm
  have R1 := NBw.zero w
  have hty : (w.alloc (.cells #[.int .i64 0, .int .i64 0, .int .i64 0, .int .i64 0, .bool false, .slice none 0 0, .string ⟨#[]⟩, .slice none 0 0] 34)).heap[w.heap.size]? = some (.cells #[.int .i64 0, .int .i64 0, .int .i64 0, .int .i64 0, .bool false, .slice none 0 0, .string ⟨#[]⟩, .slice none 0 0] 34 (0, 0)) := heap_alloc_new w _
  rw [show stackP xs [] = shP (layP xs) from rfl] at HW
  generalize shP (layP xs) = top at HW hok ⊢
  have HOK : Hid _ := hok
  have HF : Hid _ := hF
  have HS0 : Hid _ := hS0
  clear hx hm0 hU hok hF hS0 hsm
  refine (callsIn_wide (n := 0)).1 ?_
  refine callsIn_of_wp_marks Tryz.func19 rfl trivial ?_ rfl
  refine wpIn_wide.2 ?_
  refine wp_mono (Q := noPan _) ?_ noPan_le
  simp only [Tryz.ntmps19, List.size_toArray, List.length_cons, List.length_nil, Nat.reduceAdd, Nat.reduceSub, Array.replicate_succ, Array.replicate_zero, List.push_toArray, List.append_toArray, List.nil_append, List.cons_append]
  go_wp2_with fail
  refine Calls.mono HW.out ?_
  rintro e w1 ⟨v, rfl, hv, hB1⟩
  have R2 := R1.below hB1
  have hty1 := (hB1.block w.heap.size (by rw [World.size_alloc]; omega)).trans hty
  have hB2 := hal.trans (hB1.mono hal.size)
  obtain ⟨va, vc, D, rfl, g1, g2, g3, g4, g5⟩ := hv
  clear HW hal R1 hty
  cases D with
  | nil =>
    have HL : Hid (top = []) := g5.symm
    clear g1 g2 g3 g4 g5
    obtain ⟨⟨f0, f1, f2, f3, f4, f5, f6, f7⟩, ff⟩ := id R2
    have z0 := ff 0
    have z1 := ff 1
    have z2 := ff 2
    have z3 := ff 3
    have z4 := ff 4
    have z5 := ff 5
    have z6 := ff 6
    have z7 := ff 7
    have R3 := R2.store zN zH
    have hB3 : Below w.heap.size w (stB w1 w.heap.size zN zH) := hB2.trans (stB_but.below (Nat.le_refl _) hB2.size)
    go_wp2
    obtain ⟨W6, HW6⟩ : ∃ W6, Hid (stB w1 w.heap.size zN zH = W6) := ⟨_, rfl⟩
    rw [HW6.out] at R3 hB3
    have hw6 := HW6.out
    simp only [stB, zN, zH] at hw6
    simp only [List.length_nil] at hw6
    rw [hw6]
    obtain ⟨r0, r1, r2, r3, r4, r5, r6, r7⟩ := R3.1
    refine noPan_ret ?_
    show LeavesInM Fence.wide 0 Tryz.prog Tryz.f19 _ _ [] .returning W6
    exact ⟨.tuple #[ndV zN zH, .bool false], by simp [results, Tryz.results19, go_sem, ndV, zN, zH, r0, r1, r2, r3, r4, r5, r6, r7], .inl ⟨HL.out, rfl⟩, hB3⟩
  | cons s D =>
    have HL : Hid ((s :: D).map Sp.pr = top) := g5
    have HG : Hid _ := g3
    have HG4 : Hid _ := g4
    obtain ⟨ND, HND⟩ : ∃ ND, Hid (D.length = ND) := ⟨_, rfl⟩
    simp only [List.length_cons] at g1 ⊢
    rw [HND.out] at g1 ⊢
    have HMK : Hid (∀ W : World, Calls Tryz.prog 35 #[fv] W fun e w' => e = .returned (.func (.func 55) #[] #[.pointer (some ⟨W.heap.size, 0, none⟩)]) ∧ w' = W.alloc (.cells #[fv] 66)) := fun W => maker_any W fv (by rcases HF.out with ⟨q, _⟩ | ⟨gf, lb, q, _⟩ <;> rw [q] <;> rfl)
    clear g3 g4 g5
    go_wp2_with fail
    refine Calls.mono (HMK.out _) ?_
    rintro e w2 ⟨rfl, rfl⟩
    go_wp2
    have hok := HOK.out (by rw [← HL.out]; simp)
    have hlen : top.length = ND + 1 := by rw [← HL.out]; simp [HND.out]
    have hnb1 : w.heap.size < w1.heap.size := R2.1.lt
    have hJ0 := FJ.start (F := F) (fv := fv) (va := va) (vc := vc) HS0.out hB2 hnb1 R2 ⟨_, hty1⟩ hok hlen ⟨va, vc, s :: D, by simp [HND.out], by simp [HND.out]; exact g1, g2, HG.out, HG4.out, HL.out⟩
    have htot := hok.tot
    have HTN : Hid (top ≠ []) := hok.ne
    clear HG HG4 HMK HL HND HOK hlen R2 hty1 hB2 hB1 hok g1 g2
    generalize hfb : w1.heap.size = fb at hJ0 hnb1 ⊢
    generalize ((((w1.alloc (.cells #[fv] 66)).alloc (.cells #[.int .i64 0, .int .i64 0, .int .i64 0, .int .i64 0, .bool false, .slice none 0 0, .string ⟨#[]⟩, .slice none 0 0] 34)).alloc (.cells #[.pointer (some ⟨fb + 1, 0, none⟩), .slice va (ND + 1) vc] 86)).alloc (.cells #[.slice (some ⟨fb + 1 + 1, 0, none⟩) 1 1] 87)) = W0 at hJ0 ⊢
    clear hfb
    refine wp_loop_ghost_k (fun gk act W => ∃ (X : Nat → Value) (wb : Nat) (ks : List Nat) (vw : Value) (T : List Ft), act = { tmps := frm X, defers := mks ks } ∧ X 4 = .pointer (some ⟨w.heap.size, 0, none⟩) ∧ X 7 = .func (.func 55) #[] #[.pointer (some ⟨fb, 0, none⟩)] ∧ X 8 = .pointer (some ⟨fb + 1, 0, none⟩) ∧ X 9 = .pointer (some ⟨wb, 0, none⟩) ∧ Hid (FJ F S w W fb (fb + 1) wb fv vw T top) ∧ Hid (Mks w W ks) ∧ Hid (wt T ≤ gk) ∧ gk ≤ 1000) (tot top) ⟨_, _, [], _, _, frame_at rfl, rfl, rfl, rfl, rfl, hJ0, ⟨List.nodup_nil, fun k hk => (by cases hk)⟩, by show _ ≤ _; simp [wt], htot⟩ ?_
    clear hJ0 htot
    rintro gk act W ⟨X, wb, ks, vw, T, rfl, e4, e7, e8, e9, HJ, HM, HWT, hgk⟩ J K hIJ hJK
    simp only [frm, e4, e7, e8, e9]
    clear e4 e7 e8 e9
    have HIJ : Hid _ := hIJ
    clear hIJ
    obtain ⟨wa, wc, hvw, hw1, hw2, hcase⟩ := owns_cells HJ.out.row
    subst hvw
    rcases List.eq_nil_or_concat T with rfl | ⟨T', t, hT⟩
    · have hc9 := HJ.out.wbx.cell
      simp only [List.length_nil] at hc9
      obtain ⟨hd, hN, hNV⟩ := HJ.out.prt.done
      have R6 := HJ.out.res
      clear hcase hw1 hw2
      have htn : top ≠ [] := HTN.out
      generalize hx : flatD F top = x at hN hNV ⊢
      obtain ⟨k, m, u, g, o, at_, d, kk⟩ := x
      obtain ⟨q0, q1, q2, q3, q4, q5, q6, q7⟩ := hN.on (offT_le _ _ _)
      obtain ⟨⟨f0, f1, f2, f3, f4, f5, f6, f7⟩, ff⟩ := id R6
      have z0 := ff 0
      have z1 := ff 1
      have z2 := ff 2
      have z3 := ff 3
      have z4 := ff 4
      have z5 := ff 5
      have z6 := ff 6
      have z7 := ff 7
      have R7 := R6.store (.mk k m u g o at_ d kk) hd
      have b7 : But w.heap.size W (stB W w.heap.size (.mk k m u g o at_ d kk) hd) := stB_but
      have hB7 : Below w.heap.size w (stB W w.heap.size (.mk k m u g o at_ d kk) hd) := HJ.out.low.trans (b7.below (Nat.le_refl _) HJ.out.low.size)
      have hM7 : Mks w (stB W w.heap.size (.mk k m u g o at_ d kk) hd) ks := ⟨HM.out.nd, fun j hj => by
        obtain ⟨j1, j2⟩ := HM.out.at_ j hj
        exact ⟨j1, (b7.block j (Array.getElem?_eq_some_iff.1 j2).1 (by omega)).trans j2⟩⟩
      have hNV2 : NdV (offS W.cell? (flS w.heap.size wb (.slice wa 0 wc) S)) (.mk k m u g o at_ d kk) hd := hNV.on (offT_nil _ _)
      have hNV3 : ∀ W' : World, (∀ q v, (stB W w.heap.size (.mk k m u g o at_ d kk) hd).cell? q = some v → W'.cell? q = some v) → NdV (offS W'.cell? S) (.mk k m u g o at_ d kk) hd := fun W' hc => hNV2.on fun q v hq => by
        have hs := flS_no.1 (offS_off hq)
        rw [offS_ne (offS_off hq)] at hq
        rw [offS_ne hs.2.2.2]
        exact hc q v ((butc b7 q (World.block_lt_of_cell? _ _ hq) hs.1).trans hq)
      have HNV3 : Hid _ := hNV3
      have HB7 : Hid _ := hB7
      have HM7 : Hid _ := hM7
      have HR7 : Hid _ := R7
      obtain ⟨W6, HW6⟩ : ∃ W6, Hid (stB W w.heap.size (.mk k m u g o at_ d kk) hd = W6) := ⟨_, rfl⟩
      rw [HW6.out] at HNV3 HB7 HM7 HR7
      have HX0 : Hid (flatD F top = .mk k m u g o at_ d kk) := hx
      clear hN hNV hNV2 hNV3 hB7 hM7 R7 b7 R6 hx HJ HM HWT HIJ hJK ff
      go_wp2
      have hw6 := HW6.out
      simp only [stB] at hw6
      rw [hw6]
      refine noPan_ret ?_
      show LeavesInM Fence.wide 0 Tryz.prog Tryz.f19 _ _ (mks ks) .returning W6
      refine leaves_marks ks W6 HM7.out (fun W' hc hb => ?_) HB7.out
      obtain ⟨r0, r1, r2, r3, r4, r5, r6, r7⟩ := HR7.out.1
      have r0 := hc _ _ r0
      have r1 := hc _ _ r1
      have r2 := hc _ _ r2
      have r3 := hc _ _ r3
      have r4 := hc _ _ r4
      have r5 := hc _ _ r5
      have r6 := hc _ _ r6
      have r7 := hc _ _ r7
      exact ⟨.tuple #[ndV (.mk k m u g o at_ d kk) hd, .bool true], by simp [results, Tryz.results19, go_sem, ndV, r0, r1, r2, r3, r4, r5, r6, r7], .inr ⟨htn, hd, by rw [HX0.out], by rw [HX0.out]; exact HNV3.out W' hc⟩, HB7.out.trans hb⟩
    · rw [List.concat_eq_append] at hT
      subst hT
      have hlenT : (T' ++ [t]).length = T'.length + 1 := by simp
      have htm : t ∈ T' ++ [t] := by simp
      obtain ⟨t1, t2, t3, t4⟩ := HJ.out.tb (fun _ => trivial) HS0.out htm
      have hplc := HJ.out.plc t htm
      obtain ⟨hseeo, hsee⟩ := HJ.out.see t htm
      have hwt : wt T' + tot t.l ≤ gk := by have h1 := HWT.out; rw [wt_app] at h1; simp [wt] at h1; omega
      have hnl : T'.length ≤ 1000 := by
        have h1 := wt_len (T := T') fun s hs => (HJ.out.see s (by simp [hs])).1.ne
        omega
      rcases hcase with ⟨_, h0, _⟩ | ⟨tb, hwa, htb1, htb2, hrc, _⟩
      · rw [hlenT] at h0; omega
      subst hwa
      have p0 := hrc _ _ (flT_last T' t).1
      have p1 := hrc _ _ (flT_last T' t).2
      have hc9 := HJ.out.wbx.cell
      have hf9 := HJ.out.wbx.frozen
      rw [hlenT] at hc9 hw1
      have hpop : W.ownsRow w.heap.size 86 2 (.slice (some ⟨tb, 0, none⟩) T'.length wc) T'.length (flT T') := by
        have h1 := HJ.out.row
        rw [hlenT, flT_app] at h1
        exact ownsRow_pop (flT_len T') h1
      have htbw : tb ≠ wb := fun q => by
        rcases HJ.out.row.2 with ⟨e1, _⟩ | ⟨g, cap, cur, e1, _, hg, _⟩
        · cases e1
        · simp only [Value.slice.injEq, Option.some.injEq, Addr.mk.injEq] at e1
          have h1 := HJ.out.wbx
          unfold Boxed at h1
          rw [← e1.1.1, q, h1] at hg
          simp at hg
      have hwbn : w.heap.size < wb := by
        have h1 := HJ.out.wbl
        have h2 : wb ≠ w.heap.size := fun q => by
          obtain ⟨cs, hh⟩ := HJ.out.rty
          have h1 := HJ.out.wbx
          unfold Boxed at h1
          rw [q, hh] at h1
          simp at h1
        omega
      have hwbl := HJ.out.wbx.lt
      have hHwb : flS w.heap.size wb (.slice (some ⟨tb, 0, none⟩) (T' ++ [t]).length wc) S wb = true := by simp [flS]
      -- what hides all that waits
      obtain ⟨H, HH⟩ : ∃ H, Hid (flS w.heap.size wb (.slice (some ⟨tb, 0, none⟩) (T' ++ [t]).length wc) S = H) := ⟨_, rfl⟩
      obtain ⟨SB, HSB⟩ : ∃ SB, Hid (blkT (flS w.heap.size wb (.slice (some ⟨tb, 0, none⟩) (T' ++ [t]).length wc) S) (tks F (T' ++ [t])) = SB) := ⟨_, rfl⟩
      have hSBl : ∀ k, SB k = true → k < W.heap.size := fun k hk => by
        rw [← HSB.out] at hk
        simp only [blkT, Bool.or_eq_true, List.any_eq_true] at hk
        rcases hk with q | ⟨s, hs, q⟩
        · simp [flS, Value.ownBlock] at q
          rcases q with ((q | q) | q) | q
          · omega
          · omega
          · omega
          · have := HS0.out k q; omega
        · obtain ⟨s0, hs0, rfl⟩ := List.mem_map.1 hs
          have h1 := (HJ.out.tb (fun _ => trivial) HS0.out hs0).2.1
          simp [Ft.tk] at q
          omega
      have hSBw : SB wb = true := by rw [← HSB.out]; simp [blkT, flS]
      have hSBt : SB t.b = true := by rw [← HSB.out]; simp [blkT, Ft.tk]
      rw [HSB.out] at hsee
      rw [HH.out] at t3 hHwb
      have hbase1 : W.heap.size ≤ (W.setCell ⟨wb, 0, none⟩ (.slice (some ⟨tb, 0, none⟩) T'.length wc)).heap.size := by rw [World.size_setCell]; exact Nat.le_refl _
      have hal : Below W.heap.size (W.setCell ⟨wb, 0, none⟩ (.slice (some ⟨tb, 0, none⟩) T'.length wc)) ((W.setCell ⟨wb, 0, none⟩ (.slice (some ⟨tb, 0, none⟩) T'.length wc)).alloc (.cells #[.pointer (some ⟨t.b, t.p, none⟩), .slice t.a t.l.length t.c] 86)) := (Below.refl _ _).alloc hbase1 _
      have hal' : Below (W.setCell ⟨wb, 0, none⟩ (.slice (some ⟨tb, 0, none⟩) T'.length wc)).heap.size (W.setCell ⟨wb, 0, none⟩ (.slice (some ⟨tb, 0, none⟩) T'.length wc)) ((W.setCell ⟨wb, 0, none⟩ (.slice (some ⟨tb, 0, none⟩) T'.length wc)).alloc (.cells #[.pointer (some ⟨t.b, t.p, none⟩), .slice t.a t.l.length t.c] 86)) := (Below.refl _ _).alloc (Nat.le_refl _) _
      have r2 : RR w W ((W.setCell ⟨wb, 0, none⟩ (.slice (some ⟨tb, 0, none⟩) T'.length wc)).alloc (.cells #[.pointer (some ⟨t.b, t.p, none⟩), .slice t.a t.l.length t.c] 86)) H (t.tk F) := ((RR.start HJ.out.low hplc.typ).set ⟨t2, t3⟩ (by omega) (p := ⟨wb, 0, none⟩) hwbn (.inr hHwb) _).below ⟨t2, t3⟩ (by omega) hal'
      have wb2 : Boxed ((W.setCell ⟨wb, 0, none⟩ (.slice (some ⟨tb, 0, none⟩) T'.length wc)).alloc (.cells #[.pointer (some ⟨t.b, t.p, none⟩), .slice t.a t.l.length t.c] 86)) wb 87 (.slice (some ⟨tb, 0, none⟩) T'.length wc) := (HJ.out.wbx.set _).alloc _
      have row2 : ((W.setCell ⟨wb, 0, none⟩ (.slice (some ⟨tb, 0, none⟩) T'.length wc)).alloc (.cells #[.pointer (some ⟨t.b, t.p, none⟩), .slice t.a t.l.length t.c] 86)).ownsRow w.heap.size 86 2 (.slice (some ⟨tb, 0, none⟩) T'.length wc) T'.length (flT T') := (owns_keep hpop fun g hg => by
        simp [Value.ownBlock] at hg
        subst hg
        exact Below.heap_setCell _ _ _ _ (by exact htbw)).alloc _
      have mk2 : Mks w ((W.setCell ⟨wb, 0, none⟩ (.slice (some ⟨tb, 0, none⟩) T'.length wc)).alloc (.cells #[.pointer (some ⟨t.b, t.p, none⟩), .slice t.a t.l.length t.c] 86)) ks := ⟨HM.out.nd, fun j hj => by
        obtain ⟨j1, j2⟩ := HM.out.at_ j hj
        refine ⟨j1, (hal.block j (Array.getElem?_eq_some_iff.1 j2).1).trans ((Below.heap_setCell _ _ _ _ fun q => ?_).trans j2)⟩
        have h1 := HJ.out.wbx
        unfold Boxed at h1
        rw [show j = wb from q, h1] at j2
        cases j2⟩
      have see2 := hsee.on (mle_step (w := W) (w' := (W.setCell ⟨wb, 0, none⟩ (.slice (some ⟨tb, 0, none⟩) T'.length wc)).alloc (.cells #[.pointer (some ⟨t.b, t.p, none⟩), .slice t.a t.l.length t.c] 86)) (S' := SB) fun k hk hs => ⟨hs, (hal.block k hk).trans (Below.heap_setCell _ _ _ _ fun q => by rw [show k = wb from q, hSBw] at hs; cases hs)⟩)
      have now0 := two_new (W.setCell ⟨wb, 0, none⟩ (.slice (some ⟨tb, 0, none⟩) T'.length wc)) (.pointer (some ⟨t.b, t.p, none⟩)) (.slice t.a t.l.length t.c) 86
      rw [World.size_setCell] at now0
      have plc2 : NAt ((W.setCell ⟨wb, 0, none⟩ (.slice (some ⟨tb, 0, none⟩) T'.length wc)).alloc (.cells #[.pointer (some ⟨t.b, t.p, none⟩), .slice t.a t.l.length t.c] 86)).cell? t.b t.p zN zH := nat_other hplc.cell fun j _ => World.cell?_of_block (w := W) ((hal.block t.b t2).trans (Below.heap_setCell _ _ _ _ fun q => by rw [show t.b = wb from q, hHwb] at t3; cases t3))
      have fb2 : ((W.setCell ⟨wb, 0, none⟩ (.slice (some ⟨tb, 0, none⟩) T'.length wc)).alloc (.cells #[.pointer (some ⟨t.b, t.p, none⟩), .slice t.a t.l.length t.c] 86)).cell? ⟨fb, 0, none⟩ = some fv := by
        have h1 := HJ.out.fbx
        have h2 : ((W.setCell ⟨wb, 0, none⟩ (.slice (some ⟨tb, 0, none⟩) T'.length wc)).alloc (.cells #[.pointer (some ⟨t.b, t.p, none⟩), .slice t.a t.l.length t.c] 86)).heap[fb]? = some (.cells #[fv] 66 (0, 0)) := (hal.block fb (Array.getElem?_eq_some_iff.1 h1).1).trans ((Below.heap_setCell _ _ _ _ fun q => by
          have h3 := HJ.out.wbx
          unfold Boxed at h3
          rw [show fb = wb from q, h3] at h1
          simp at h1).trans h1)
        simp [World.cell?, h2]
      have i1 : IntKind.i64.wrap ((T'.length : Int) + 1 - 1) = (T'.length : Int) := (wrap_small (by omega) (by omega)).trans (by omega)
      have hgt : decide ((T'.length : Int) + 1 > 0) = true := decide_eq_true (by omega)
      clear hrc hpop hsee hplc
      go_upto_region 10 with fail
      -- the call
      clear hal hal' hbase1 p0 p1 hc9 hf9 i1 hgt
      generalize hw2 : (W.setCell ⟨wb, 0, none⟩ (.slice (some ⟨tb, 0, none⟩) T'.length wc)).alloc (.cells #[.pointer (some ⟨t.b, t.p, none⟩), .slice t.a t.l.length t.c] 86) = w2 at r2 wb2 row2 mk2 see2 now0 plc2 fb2 ⊢
      clear hw2
      obtain ⟨n0, n1⟩ := now0
      obtain ⟨kb, HKB⟩ : ∃ kb, Hid (W.heap.size = kb) := ⟨_, rfl⟩
      have hkb2 : W.heap.size ≤ w2.heap.size := r2.siz
      rw [HKB.out] at n0 n1
      rw [HKB.out]
      obtain ⟨sa, sc, D2, hsv, d1, d2, d3, d4, d5⟩ := see2
      simp only [Value.slice.injEq] at hsv
      obtain ⟨rfl, hD2l, rfl⟩ := hsv
      cases D2 with
      | nil => exact absurd d5.symm hseeo.ne
      | cons sp D2 =>
        obtain ⟨vb, vo, hva, hrow⟩ : ∃ b off, t.a = some ⟨b, off, none⟩ ∧ ∀ i d', (sp :: D2)[i]? = some d' → offS w2.cell? SB ⟨b, off + i * 2, none⟩ = some (.pointer (some ⟨d'.b, d'.p, none⟩)) ∧ offS w2.cell? SB ⟨b, off + i * 2 + 1, none⟩ = some (.int .i64 d'.ly) := by
          rcases d3 with e | e
          · cases e
          · exact e
        obtain ⟨v0, v1⟩ := hrow 0 _ rfl
        have v0 := offS_le _ _ _ _ v0
        have v1 := offS_le _ _ _ _ v1
        rw [Nat.zero_mul, Nat.add_zero] at v0 v1
        have hspl := d4 sp (List.mem_cons_self ..)
        have hspm : sp.pr ∈ t.l := by rw [← d5]; exact List.mem_cons_self ..
        have HMD : Hid (Calls Tryz.prog 55 #[.agg #[.pointer (some ⟨sp.b, sp.p, none⟩), .int .i64 sp.ly], .pointer (some ⟨fb, 0, none⟩)] w2.drew (MadeR (F (nakN sp.x) sp.ly) SB w2.drew)) := made_any (w0 := w) (W := w2.drew) (fun k hk => Nat.lt_of_lt_of_le (hSBl k hk) r2.siz) r2.low.drew fb2 HF.out hspl (hseeo.lim _ hspm) (hseeo.ids _ hspm)
        obtain ⟨zz0, zz1, zz2, zz3, zz4, zz5, zz6, zz7⟩ := plc2
        have T0 : w2.drew.cell? ⟨kb, 0, none⟩ = some (.pointer (some ⟨t.b, t.p, none⟩)) ∧ w2.drew.cell? ⟨kb, 1, none⟩ = some (.slice (some ⟨vb, vo, none⟩) t.l.length t.c) ∧ w2.drew.cell? ⟨vb, vo, none⟩ = some (.pointer (some ⟨sp.b, sp.p, none⟩)) ∧ w2.drew.cell? ⟨vb, vo + 1, none⟩ = some (.int .i64 sp.ly) := by rw [← hva]; exact ⟨n0, n1, v0, v1⟩
        have hvt : vb ≠ t.b := fun q => by have h1 := offS_off (hrow 0 _ rfl).1; rw [show (⟨vb, vo + 0 * 2, none⟩ : Addr).block = t.b from q, hSBt] at h1; cases h1
        have hkt : kb ≠ t.b := by have h1 := HKB.out; omega
        obtain ⟨ml, hml⟩ : ∃ ml, t.l.length = ml := ⟨_, rfl⟩
        have hmp : 0 < ml := by rw [← hml]; exact List.length_pos_iff.2 hseeo.ne
        have hmp2 : (0 : Int) < (ml : Int) := by omega
        rw [hml] at T0
        rw [hva, hml]
        have tf0 := fro_cells r2.typ.choose_spec.choose_spec.1
        have HTY : Hid _ := r2.typ
        have HR2 : Hid _ := r2
        have HML : Hid _ := hml
        have HD5 : Hid ((sp :: D2).map Sp.pr = t.l) := d5
        have HD3 : Hid (SpRow (offS w2.cell? SB) t.a (sp :: D2)) := d3
        have HD4 : Hid (∀ s ∈ sp :: D2, SpAt (offS w2.cell? SB) s) := d4
        have HWB2 : Hid _ := wb2
        have HROW2 : Hid _ := row2
        have HMK2 : Hid _ := mk2
        have HZ2 : Hid (NAt w2.cell? t.b t.p zN zH) := ⟨zz0, zz1, zz2, zz3, zz4, zz5, zz6, zz7⟩
        clear r2 n0 n1 v0 v1 hrow d3 d4 d5 d1 d2 wb2 row2 mk2 hml hD2l hspl zz0 zz1 zz2 zz3 zz4 zz5 zz6 zz7 tf0 fb2
        go_region_held3 (fun w' => w'.cell? ⟨kb, 0, none⟩ = some (.pointer (some ⟨t.b, t.p, none⟩)) ∧ w'.cell? ⟨kb, 1, none⟩ = some (.slice (some ⟨vb, vo, none⟩) ml t.c) ∧ w'.cell? ⟨vb, vo, none⟩ = some (.pointer (some ⟨sp.b, sp.p, none⟩)) ∧ w'.cell? ⟨vb, vo + 1, none⟩ = some (.int .i64 sp.ly)) (first | with_reducible exact T0 | with_reducible exact T6 | with_reducible exact T7) (first | (go_at_call 55; (with_reducible refine Calls.mono HMD.out ?_); rintro e w3 ⟨k, m, u, g, o, at_, d, aa, ca, hFx, rfl, hm1, hm2, hm3, hk3, hB3⟩; have T6 : w3.cell? ⟨kb, 0, none⟩ = some (.pointer (some ⟨t.b, t.p, none⟩)) ∧ w3.cell? ⟨kb, 1, none⟩ = some (.slice (some ⟨vb, vo, none⟩) ml t.c) ∧ w3.cell? ⟨vb, vo, none⟩ = some (.pointer (some ⟨sp.b, sp.p, none⟩)) ∧ w3.cell? ⟨vb, vo + 1, none⟩ = some (.int .i64 sp.ly) := ⟨mle_below hB3 _ _ T0.1, mle_below hB3 _ _ T0.2.1, mle_below hB3 _ _ T0.2.2.1, mle_below hB3 _ _ T0.2.2.2⟩; have T7 : (st8 w3 t.b t.p (.mk k m u g o at_ d []) ⟨aa, ca, none, 0⟩).cell? ⟨kb, 0, none⟩ = some (.pointer (some ⟨t.b, t.p, none⟩)) ∧ (st8 w3 t.b t.p (.mk k m u g o at_ d []) ⟨aa, ca, none, 0⟩).cell? ⟨kb, 1, none⟩ = some (.slice (some ⟨vb, vo, none⟩) ml t.c) ∧ (st8 w3 t.b t.p (.mk k m u g o at_ d []) ⟨aa, ca, none, 0⟩).cell? ⟨vb, vo, none⟩ = some (.pointer (some ⟨sp.b, sp.p, none⟩)) ∧ (st8 w3 t.b t.p (.mk k m u g o at_ d []) ⟨aa, ca, none, 0⟩).cell? ⟨vb, vo + 1, none⟩ = some (.int .i64 sp.ly) := ⟨(st8_far fun j _ q => hkt (Addr.mk.inj q).1).trans T6.1, (st8_far fun j _ q => hkt (Addr.mk.inj q).1).trans T6.2.1, (st8_far fun j _ q => hvt (Addr.mk.inj q).1).trans T6.2.2.1, (st8_far fun j _ q => hvt (Addr.mk.inj q).1).trans T6.2.2.2⟩; simp only [st8, List.length_nil] at T7; have hb3 : Below w2.heap.size w2 w3 := ((Below.refl _ w2).drew).trans hB3; obtain ⟨zz0, zz1, zz2, zz3, zz4, zz5, zz6, zz7⟩ := HZ2.out.below hb3; have hr3 := HR2.out.below ⟨t2, t3⟩ (by omega) hb3; have fz0 := fro_cells hr3.typ.choose_spec.choose_spec.1 t.p; have fz1 := fro_cells hr3.typ.choose_spec.choose_spec.1 (t.p + 1); have fz2 := fro_cells hr3.typ.choose_spec.choose_spec.1 (t.p + 2); have fz3 := fro_cells hr3.typ.choose_spec.choose_spec.1 (t.p + 3); have fz4 := fro_cells hr3.typ.choose_spec.choose_spec.1 (t.p + 4); have fz5 := fro_cells hr3.typ.choose_spec.choose_spec.1 (t.p + 5); have fz6 := fro_cells hr3.typ.choose_spec.choose_spec.1 (t.p + 6); have fz7 := fro_cells hr3.typ.choose_spec.choose_spec.1 (t.p + 7); have HR3 : Hid _ := hr3; have HK3 : Hid _ := hk3; have HB3 : Hid (Below w2.heap.size w2 w3) := hb3; have HFX : Hid _ := hFx; have HZ3 : Hid (NAt w3.cell? t.b t.p zN zH) := ⟨zz0, zz1, zz2, zz3, zz4, zz5, zz6, zz7⟩; simp only [Ft.tk] at fz0 fz1 fz2 fz3 fz4 fz5 fz6 fz7; clear HMD hr3 hk3 hB3 hb3 hFx))
        have r4 : RR w W (st8 w3 t.b t.p (.mk k m u g o at_ d []) ⟨aa, ca, none, 0⟩) H (t.tk F) := HR3.out.st8 (t := t.tk F) t1 (.mk k m u g o at_ d []) ⟨aa, ca, none, 0⟩
        have b4 : But t.b w3 (st8 w3 t.b t.p (.mk k m u g o at_ d []) ⟨aa, ca, none, 0⟩) := st8_but
        have hN4 : NAt (st8 w3 t.b t.p (.mk k m u g o at_ d []) ⟨aa, ca, none, 0⟩).cell? t.b t.p (.mk k m u g o at_ d []) ⟨aa, ca, none, 0⟩ := st8_at HZ3.out
        have hms : MLe (offS w2.cell? SB) (offS (st8 w3 t.b t.p (.mk k m u g o at_ d []) ⟨aa, ca, none, 0⟩).cell? SB) := mle_step fun q hq hs => ⟨hs, (b4.block q (Nat.lt_of_lt_of_le hq HB3.out.size) (fun e => by rw [e, hSBt] at hs; cases hs)).trans (HB3.out.block q hq)⟩
        have hk4 : Kvm (offS (st8 w3 t.b t.p (.mk k m u g o at_ d []) ⟨aa, ca, none, 0⟩).cell? SB) aa at_ := Kvm.on HK3.out (mle_step (w := w3) (w' := st8 w3 t.b t.p (.mk k m u g o at_ d []) ⟨aa, ca, none, 0⟩) (S' := SB) fun q hq hs => ⟨hs, b4.block q hq (fun e => by rw [e, hSBt] at hs; cases hs)⟩)
        have hd3 : SpRow (offS (st8 w3 t.b t.p (.mk k m u g o at_ d []) ⟨aa, ca, none, 0⟩).cell? SB) t.a (sp :: D2) := SpRow.on HD3.out hms
        have hd4 : ∀ s ∈ sp :: D2, SpAt (offS (st8 w3 t.b t.p (.mk k m u g o at_ d []) ⟨aa, ca, none, 0⟩).cell? SB) s := fun s hs => (HD4.out s hs).on hms
        have hkeep : ∀ q, q ≠ t.b → q < w2.heap.size → (st8 w3 t.b t.p (.mk k m u g o at_ d []) ⟨aa, ca, none, 0⟩).heap[q]? = w2.heap[q]? := fun q h1 h2 => (b4.block q (Nat.lt_of_lt_of_le h2 HB3.out.size) h1).trans (HB3.out.block q h2)
        have hwt2 : wb ≠ t.b := fun e => by rw [e, t3] at hHwb; cases hHwb
        have htt : tb ≠ t.b := fun e => by
          obtain ⟨cs, ty, hh, hty⟩ := HTY.out
          rcases HROW2.out.2 with ⟨e1, _⟩ | ⟨g', cap', cur, e1, _, hg, _⟩
          · cases e1
          · simp only [Value.slice.injEq, Option.some.injEq, Addr.mk.injEq] at e1
            rw [← e1.1.1, e] at hg
            simp only [Ft.tk] at hh
            rw [hh] at hg
            simp at hg
            rcases hty with q | q
            · rw [q] at hg; exact absurd hg.2 (by decide)
            · rw [q] at hg; exact absurd hg.2 (by decide)
        have wb4 : Boxed (st8 w3 t.b t.p (.mk k m u g o at_ d []) ⟨aa, ca, none, 0⟩) wb 87 (.slice (some ⟨tb, 0, none⟩) T'.length wc) := (hkeep wb hwt2 (Boxed.lt HWB2.out)).trans HWB2.out
        have row4 : (st8 w3 t.b t.p (.mk k m u g o at_ d []) ⟨aa, ca, none, 0⟩).ownsRow w.heap.size 86 2 (.slice (some ⟨tb, 0, none⟩) T'.length wc) T'.length (flT T') := owns_keep HROW2.out fun g' hg => by
          simp [Value.ownBlock] at hg
          subst hg
          exact hkeep _ htt (World.ownsRow.lt HROW2.out _ rfl).2
        have mk4 : Mks w (st8 w3 t.b t.p (.mk k m u g o at_ d []) ⟨aa, ca, none, 0⟩) ks := ⟨HMK2.out.nd, fun j hj => by
          obtain ⟨j1, j2⟩ := HMK2.out.at_ j hj
          refine ⟨j1, (hkeep j (fun e => ?_) (Array.getElem?_eq_some_iff.1 j2).1).trans j2⟩
          obtain ⟨cs, ty, hh, _⟩ := HTY.out
          simp only [Ft.tk] at hh
          rw [e, hh] at j2
          cases j2⟩
        have HPL : Hid _ := places_any (w := st8 w3 t.b t.p (.mk k m u g o at_ d []) ⟨aa, ca, none, 0⟩) (S := SB) (vc := t.c) (fun q hq => Nat.lt_of_lt_of_le (hSBl q hq) r4.siz) hd3 hd4 (ly_of HD5.out hseeo.ly) (fun s hs => hseeo.lil s.pr (by rw [← HD5.out]; exact List.mem_map_of_mem hs)) (by rw [HD5.out]; exact hseeo.tot)
        rw [HD5.out] at HPL
        have hDl : (sp :: D2).length = ml := by rw [← HML.out, ← HD5.out, List.length_map]
        rw [hDl, hva] at HPL
        obtain ⟨w4, hw4⟩ : ∃ w4, st8 w3 t.b t.p (.mk k m u g o at_ d []) ⟨aa, ca, none, 0⟩ = w4 := ⟨_, rfl⟩
        have T8 : w4.cell? ⟨kb, 0, none⟩ = some (.pointer (some ⟨t.b, t.p, none⟩)) ∧ w4.cell? ⟨kb, 1, none⟩ = some (.slice (some ⟨vb, vo, none⟩) ml t.c) ∧ w4.cell? ⟨vb, vo, none⟩ = some (.pointer (some ⟨sp.b, sp.p, none⟩)) ∧ w4.cell? ⟨vb, vo + 1, none⟩ = some (.int .i64 sp.ly) := by rw [← hw4]; simp only [st8, List.length_nil]; exact T7
        rw [hw4] at r4 hN4 hk4 wb4 row4 mk4 HPL
        simp only [st8, List.length_nil] at hw4
        rw [hw4]
        obtain ⟨m0, m1, _, _⟩ := T8
        have HR4 : Hid _ := r4
        have HK4 : Hid _ := hk4
        have HWB4 : Hid _ := wb4
        have HROW4 : Hid _ := row4
        have HMK4 : Hid _ := mk4
        have HN4 : Hid _ := hN4
        clear T0 T6 T7 zz0 zz1 zz2 zz3 zz4 zz5 zz6 zz7 fz0 fz1 fz2 fz3 fz4 fz5 fz6 fz7 hw4 HR3 HK3 HB3 HZ3 HD3 HD4 HWB2 HROW2 HMK2 HZ2 hms hk4 hd3 hd4 hkeep wb4 row4 mk4 b4 r4 hN4 HR2 HTY
        go_wp2_with fail
        refine Calls.mono HPL.out ?_
        rintro e w5 ⟨v5, rfl, hv5, hB5⟩
        obtain ⟨pa, pc, G, rfl, pl1, pl2, pl3, pl4, pl5⟩ := hv5
        obtain ⟨NG, HNG⟩ : ∃ NG, Hid (G.length = NG) := ⟨_, rfl⟩
        have hNG : NG ≤ 1000 := by
          have h1 := congrArg List.length pl5
          rw [List.length_map, List.length_map, show (pls G).length = G.length by unfold pls; rw [List.length_map], HNG.out] at h1
          have h2 := listP_len t.l
          have h3 := hseeo.tot
          omega
        have n5 := mle_below hB5 _ _ m0
        have n5' := mle_below hB5 _ _ m1
        have hN5 : NAt w5.cell? t.b t.p (.mk k m u g o at_ d []) ⟨aa, ca, none, 0⟩ := (show NAt w4.cell? t.b t.p (.mk k m u g o at_ d []) ⟨aa, ca, none, 0⟩ from HN4.out).below hB5
        have HN5 : Hid (NAt w5.cell? t.b t.p (.mk k m u g o at_ d []) ⟨aa, ca, none, 0⟩) := hN5
        obtain ⟨_, _, _, _, _, _, _, y7⟩ := hN5
        simp only [List.length_nil] at y7
        have HR5 : Hid _ := HR4.out.below ⟨t2, t3⟩ (by omega) hB5
        have HWB5 : Hid (Boxed w5 wb 87 (.slice (some ⟨tb, 0, none⟩) T'.length wc)) := boxed_bel HWB4.out hB5
        have HROW5 : Hid (w5.ownsRow w.heap.size 86 2 (.slice (some ⟨tb, 0, none⟩) T'.length wc) T'.length (flT T')) := ownsRow_bel HROW4.out hB5
        have HMK5 : Hid (Mks w w5 ks) := ⟨HMK4.out.nd, fun j hj => ⟨(HMK4.out.at_ j hj).1, (hB5.block j (Array.getElem?_eq_some_iff.1 (HMK4.out.at_ j hj).2).1).trans (HMK4.out.at_ j hj).2⟩⟩
        have HK5 : Hid (Kvm (offS w5.cell? SB) aa at_) := Kvm.on HK4.out (mle_S hB5)
        have HPL3 : Hid _ := pl3
        have HPL4 : Hid _ := pl4
        have HPL5 : Hid _ := pl5
        have HGR : Hid _ := growK_any NG w5 hNG
        have hkb5 : kb < w5.heap.size := World.block_lt_of_cell? _ _ n5
        rw [HNG.out] at pl1
        rw [HNG.out]
        clear HPL HR4 HWB4 HROW4 HMK4 HN4 HK4 m0 m1 pl3 pl4 pl5 hB5
        go_wp2_with fail
        refine Calls.mono HGR.out ?_
        rintro e w6 ⟨⟨v6, rfl, hv6⟩, hB6⟩
        obtain ⟨a6, c6, hv6s, _, _, _⟩ := owns_cells hv6
        subst hv6s
        have hB7 := hB6.alloc hB6.size (.cells #[.slice a6 0 c6] 32)
        have bx7 : Boxed (w6.alloc (.cells #[.slice a6 0 c6] 32)) w6.heap.size 32 (.slice a6 0 c6) := Boxed.new w6 _ _
        have row7 := hv6.alloc (.cells #[.slice a6 0 c6] 32)
        have hcb : w5.heap.size ≤ w6.heap.size := hB6.size
        have HROW7 : RowZ (w6.alloc (.cells #[.slice a6 0 c6] 32)) w5.heap.size (.slice a6 0 c6) := row7
        obtain ⟨i0, hi0, hz0, hz1, hz2⟩ := info_three Tryz.infoK
        have HI0 : Hid _ := hi0
        have HI1 : Hid _ := hz0
        have HI2 : Hid _ := hz1
        have HI3 : Hid _ := hz2
        clear hv6 hB6 HGR hi0 hz0 hz1 hz2 row7
        go_wp2
        generalize w6.alloc (.cells #[.slice a6 0 c6] 32) = w7 at hB7 bx7 HROW7 ⊢
        generalize w6.heap.size = cb at bx7 hcb ⊢
        go_loopw [65] (fun i wr => KRel w5 cb NG G i wr) (fun i _ => NG - (intOf i).toNat)
        case atStart => exact ⟨0, _, _, Nat.zero_le _, rfl, bx7, HROW7, hB7⟩
        case round =>
          clear bx7 HROW7 hB7
          obtain ⟨j, ja, jc, hj, rfl, bx, HROW, hB⟩ := hrel
          by_cases hjl : j < NG
          rotate_left
          · obtain rfl : j = NG := by omega
            have hji : decide ((j : Int) < (j : Int)) = false := decide_eq_false (by omega)
            have htk : G.take j = G := List.take_of_length_le (by rw [HNG.out]; omega)
            rw [htk] at HROW
            have r6 := HR5.out.below ⟨t2, t3⟩ (by omega) hB
            have tf7 : wr.frozen? ⟨t.b, t.p + 7, none⟩ = false := fro_cells r6.typ.choose_spec.choose_spec.1 (t.p + 7)
            have c0 := mle_below hB _ _ n5
            have c7 := mle_below hB _ _ y7
            have cc := bx.cell
            have hcbt : cb ≠ t.b := by have := HR5.out.siz; omega
            have hkbt : kb ≠ t.b := hkt
            have cc2 : (wr.setCell ⟨t.b, t.p + 7, none⟩ (.slice ja j jc)).cell? ⟨cb, 0, none⟩ = some (.slice ja j jc) := (World.cell?_setCell_far _ _ _ _ (fun e => hcbt (Eq.symm e))).trans cc
            have iw0 : IntKind.i64.wrap ((j : Int) - (j : Int)) = 0 := (wrap_small (by omega) (by omega)).trans (by omega)
            have HR6 : Hid _ := r6
            have HBX : Hid _ := bx
            have HB : Hid _ := hB
            obtain ⟨gk9, HG9⟩ : ∃ g, Hid (G = [] ∨ ja = some ⟨g, 0, none⟩) := by
              obtain ⟨a9, c9, hv9, _, _, hc9⟩ := owns_cells HROW.out
              simp only [Value.slice.injEq, true_and] at hv9
              rcases hc9 with ⟨_, h0, _⟩ | ⟨g, hg, _⟩
              · exact ⟨0, .inl (List.eq_nil_of_length_eq_zero (by rw [HNG.out]; exact h0))⟩
              · exact ⟨g, .inr (hv9.1.trans hg)⟩
            clear htk r6 bx hB hj hjl n5 n5' y7
            go_wp2_with fail
            obtain ⟨WS, HWS⟩ : ∃ WS, Hid (wr.setCell ⟨t.b, t.p + 7, none⟩ (.slice ja j jc) = WS) := ⟨_, rfl⟩
            rw [HWS.out]
            have hzs : WS.heap.size = wr.heap.size := by rw [← HWS.out, World.size_setCell]
            refine Calls.mono (back_any _ pa j pc) ?_
            rintro e wC ⟨rfl, hwC⟩
            rw [World.size_alloc, hzs]
            have hC : Below WS.heap.size WS wC := by rw [hwC]; exact ((Below.refl _ WS).alloc (Nat.le_refl _) _).alloc (by rw [World.size_alloc]; omega) _
            have hzC : wC.heap.size = wr.heap.size + 1 + 1 := by rw [hwC, World.size_alloc, World.size_alloc, hzs]
            have cF : wC.cell? ⟨wr.heap.size, 0, none⟩ = some (.int .i64 0) := by
              rw [hwC]
              refine mle_below ((Below.refl _ _).alloc (Nat.le_refl _) _) _ _ ?_
              rw [← hzs]
              exact World.cell?_alloc_at _ _ _ _ rfl
            have cD : wC.cell? ⟨wr.heap.size + 1, 0, none⟩ = some (.slice pa j pc) := by
              rw [hwC, ← hzs]
              exact World.cell?_alloc_at _ _ _ _ (by rw [World.size_alloc])
            have rs : RR w W WS H (t.tk F) := by rw [← HWS.out]; exact HR6.out.own (t := t.tk F) t1 7 (by omega) _
            have hWwr : W.heap.size ≤ wr.heap.size := HR6.out.siz
            have h5wr : w5.heap.size ≤ wr.heap.size := Below.size HB.out
            have hSBtb : SB tb = true := by rw [← HSB.out]; simp [blkT, flS, Value.ownBlock]
            have htbt : tb ≠ t.b := fun e => by rw [← HH.out, ← e] at t3; simp [flS, Value.ownBlock] at t3
            have hwbt : wb ≠ t.b := fun e => by rw [e, t3] at hHwb; cases hHwb
            have htbl : tb < W.heap.size := htb2
            have bWS : ∀ q, q ≠ t.b → WS.heap[q]? = wr.heap[q]? := fun q hq => by rw [← HWS.out]; exact Below.heap_setCell _ _ _ _ hq
            have bC : ∀ q, q < wr.heap.size → q ≠ t.b → wC.heap[q]? = wr.heap[q]? := fun q h1 h2 => (hC.block q (by omega)).trans (bWS q h2)
            have hwbC : Boxed wC wb 87 (.slice (some ⟨tb, 0, none⟩) T'.length wc) := (bC wb (by omega) hwbt).trans (boxed_bel HWB5.out HB.out)
            have hrwC : wC.ownsRow w.heap.size 86 2 (.slice (some ⟨tb, 0, none⟩) T'.length wc) T'.length (flT T') := owns_keep (ownsRow_bel HROW5.out HB.out) fun q hq => by
              simp [Value.ownBlock] at hq
              subst hq
              exact bC _ (by omega) htbt
            have hlowC : Below w.heap.size w wC := rs.low.trans (hC.mono rs.low.size)
            have hmkC : Mks w wC ks := ⟨HMK5.out.nd, fun q hq => by
              obtain ⟨j1, j2⟩ := HMK5.out.at_ q hq
              have hql := (Array.getElem?_eq_some_iff.1 j2).1
              refine ⟨j1, (bC q (by omega) fun e => ?_).trans ((Below.block HB.out q hql).trans j2)⟩
              obtain ⟨cs, ty, hh, _⟩ := HR5.out.typ
              simp only [Ft.tk] at hh
              rw [e, hh] at j2
              cases j2⟩
            have hcbC : wC.cell? ⟨cb, 0, none⟩ = some (.slice ja j jc) := (World.cell?_of_block (w := wr) (bC cb (Boxed.lt HBX.out) hcbt)).trans (Boxed.cell HBX.out)
            have hcbl : cb < wr.heap.size := Boxed.lt HBX.out
            have hcbw : w5.heap.size ≤ cb := hcb
            have hW5 : W.heap.size ≤ w5.heap.size := HR5.out.siz
            have HPRC : Hid (G = [] ∨ ∃ b, pa = some ⟨b, 0, none⟩ ∧ b < wr.heap.size ∧ b ≠ wb ∧ b ≠ tb ∧ ∀ (i : Nat) e, G[i]? = some e → wC.cell? ⟨b, i * 2, none⟩ = some (.string e.n) ∧ wC.cell? ⟨b, i * 2 + 1, none⟩ = some (.slice e.a e.L.length e.c)) := by
              rcases HPL3.out with q | ⟨b, q, hr⟩
              · exact .inl q
              · by_cases hG : G = []
                · exact .inl hG
                obtain ⟨e0, G0, hG0⟩ := List.exists_cons_of_ne_nil hG
                have hb0 := (hr 0 e0 (by rw [hG0]; rfl)).1
                have hsb : SB b = false := offS_off hb0
                have hbl : b < w5.heap.size := World.block_lt_of_cell? _ _ (offS_le _ _ _ _ hb0)
                have hbt : b ≠ t.b := fun e => by rw [e, hSBt] at hsb; cases hsb
                refine .inr ⟨b, q, by omega, fun e => (by rw [e, hSBw] at hsb; cases hsb), fun e => (by rw [e, hSBtb] at hsb; cases hsb), fun i e he => ?_⟩
                have hc : ∀ o, wC.cell? ⟨b, o, none⟩ = wr.cell? ⟨b, o, none⟩ := fun o => World.cell?_of_block (w := wr) (bC b (by omega) hbt)
                rw [hc, hc]
                exact ⟨mle_below HB.out _ _ (offS_le _ _ _ _ (hr i e he).1), mle_below HB.out _ _ (offS_le _ _ _ _ (hr i e he).2)⟩
            obtain ⟨kf, HKF⟩ : ∃ kf, Hid (wr.heap.size = kf) := ⟨_, rfl⟩
            rw [HKF.out] at cF cD hzC hcbl hWwr h5wr
            rw [HKF.out]
            have HZC : Hid (wC.heap.size = kf + 1 + 1) := hzC
            clear hzC
            clear hwC bWS c0 c7 cc cc2 iw0 tf7 hkbt hji
            go_wp2_with fail
            refine (wpIn_wide (n := 0)).1 ?_
            refine range_at (gf := 63) (lb := #[.pointer (some ⟨kf + 1, 0, none⟩)]) rfl (enters_of Tryz.func63 (by kernel_rfl) rfl) ?_
            intro fn rec hrec W1 hB1 hs1 hl1 hd1
            have h0 : BJ w wC W1 wb tb (T' ++ bts gk9 G j) (rec .ready none) := by
              rw [← HNG.out, bts_end, List.append_nil]
              exact ⟨hlowC.trans (hB1.mono hlowC.size), by (have := HZC.out; omega), fun q hq _ _ => hB1.block q hq, ⟨_, boxed_bel hwbC hB1, ownsRow_bel hrwC hB1, .inl rfl⟩, hd1, hl1⟩
            have hJC : ∀ A T st, BJ w wC A wb tb T st → ∀ q o, q < wC.heap.size → q ≠ wb → q ≠ tb → A.cell? ⟨q, o, none⟩ = wC.cell? ⟨q, o, none⟩ := fun A T st h q o h1 h2 h3 => World.cell?_of_block (w := wC) (h.blk q h1 h2 h3)
            have HQ9 : Hid (CallsIn Fence.wide 0 Tryz.prog 63 #[.func (.yield (wC.heap.size + 1)) #[] #[], .pointer (some ⟨kf + 1, 0, none⟩)] W1 fun e B => (∃ v, e = .returned v) ∧ BJ w wC B wb tb (T' ++ bts gk9 G 0) (rec .ready none)) := back1_any (kf + 1) pa pc G (by rw [HNG.out]; exact hNG) (wC.heap.size + 1) (fun i A => BJ w wC A wb tb (T' ++ bts gk9 G i) (rec .ready none)) W1
              (fun i A h => ⟨by rw [hJC A _ _ h _ _ (by have := HZC.out; omega) (by omega) (by omega), HNG.out]; exact cD, by
                rcases HPRC.out with q | ⟨b, q, hb1, hb2, hb3, hr⟩
                · exact .inl q
                · refine .inr ⟨b, q, fun i e he => ?_⟩
                  rw [hJC A _ _ h _ _ (by have := HKF.out; have := HZC.out; omega) hb2 hb3, hJC A _ _ h _ _ (by have := HKF.out; have := HZC.out; omega) hb2 hb3]
                  exact hr i e he⟩)
              (fun i e A he hA => by
                have hil : i < j := by have h1 := (List.getElem?_eq_some_iff.1 he).1; rw [HNG.out] at h1; exact h1
                have hja : ja = some ⟨gk9, 0, none⟩ := HG9.out.resolve_left (fun q => by rw [q] at he; simp at he)
                have hA2 := hA.keep ((Below.refl _ A).alloc (Nat.le_refl _) (.cells #[.string e.n, .slice e.a e.L.length e.c] 92))
                have hA3 := hA2.put hlowC.size (rec .busy none)
                have hA4 := hA3.keep (Below.refl _ _).drew
                obtain ⟨vw9, bx9, rw9, ow9⟩ := hA4.wbx
                have s1 := mle_put hA2.lk rfl (.loop (rec .busy none)) _ _ (two_new A (.string e.n) (.slice e.a e.L.length e.c) 92).2
                have hm9 : (T' ++ bts gk9 G (i + 1)).length ≤ 2000 := by rw [List.length_append, bts_len, HNG.out]; omega
                have k12 := hJC _ _ _ hA4 cb 0 (by have := HZC.out; omega) (by omega) (by omega)
                have k15 := hJC _ _ _ hA4 kf 0 (by have := HZC.out; omega) (by omega) (by omega)
                rw [hcbC, hja] at k12
                rw [cF] at k15
                refine round_at hrec hA.lk rfl ?_
                gi_wp2
                refine ⟨hA2.lk, ?_⟩
                refine wpIn_block ?_
                refine fl23 (base := w.heap.size) (wb := wb) (g := gk9) (n := j) (c := jc) (i := i) (pb := A.heap.size) (el := e.L.length) (ec := e.c) (m := (T' ++ bts gk9 G (i + 1)).length) (ea := e.a) (vw := vw9) (fl := flT (T' ++ bts gk9 G (i + 1))) (V := ((A.alloc (.cells #[.string e.n, .slice e.a e.L.length e.c] 92)).putObj (wC.heap.size + 1) (.loop (rec .busy none))).drew) (cb := cb) (ib := kf) rfl (frame_at rfl) ?_ ?_ ?_ ?_ ?_ bx9 rw9 hm9 hA4.low.size k12 k15 s1 hil hNG ?_
                · rfl
                · rfl
                · rfl
                · rfl
                · rfl
                intro a9 v9 W9 hap
                have hps := hA4.push (t := bt gk9 G i) (by omega) bx9 rw9 ow9 (by rw [bt_at he]; simpa [flT] using hap.own) hap.gro hap.blk
                refine ⟨hps.lk, rfl, ?_⟩
                have hfin := hps.put hlowC.size (rec .ready none)
                rw [List.append_assoc, ← bts_next (by rw [HNG.out]; exact hil)] at hfin
                exact hfin)
              (by rw [HNG.out]; exact h0)
            refine CallsIn.mono HQ9.out ?_
            rintro e W2 ⟨⟨v, rfl⟩, hJ2⟩
            refine ⟨⟨_, rfl⟩, .inl ⟨hJ2.lk, ?_⟩⟩
            have hJ3 := hJ2.put hlowC.size (rec .exhausted none)
            have hmk3 : Mks w (W2.putObj (wC.heap.size + 1) (.loop (rec .exhausted none))) (wC.heap.size :: ks) := by
              refine ⟨List.nodup_cons.2 ⟨fun hk => ?_, hmkC.nd⟩, fun q hq => ?_⟩
              · have h1 := (Array.getElem?_eq_some_iff.1 (hmkC.at_ _ hk).2).1
                omega
              · rcases List.mem_cons.1 hq with e | e
                · rw [e]
                  have := hlowC.size
                  have := HZC.out
                  exact ⟨by omega, hJ3.dk⟩
                · obtain ⟨j1, j2⟩ := hmkC.at_ q e
                  have hql := (Array.getElem?_eq_some_iff.1 j2).1
                  refine ⟨j1, (hJ3.blk q hql (fun e2 => ?_) (fun e2 => ?_)).trans j2⟩
                  · have h1 := hwbC
                    unfold Boxed at h1
                    rw [e2, h1] at j2
                    cases j2
                  · rcases hrwC.2 with ⟨e1, _⟩ | ⟨g', cap', cur, e1, _, hg, _⟩
                    · cases e1
                    · simp only [Value.slice.injEq, Option.some.injEq, Addr.mk.injEq] at e1
                      rw [← e1.1.1, ← e2, j2] at hg
                      cases hg
            generalize W2.putObj (wC.heap.size + 1) (.loop (rec .exhausted none)) = W3 at hJ3 hmk3 ⊢
            obtain ⟨vw3, bx3, rw3, ow3⟩ := hJ3.wbx
            have HFJ : Hid _ := FJ.done (g := gk9) HJ.out HS0.out (by rw [HH.out]; exact HR5.out) HN5.out (by rw [HSB.out]; exact HK5.out) ⟨hm1, hm2⟩ HD5.out.symm HFX.out (by rw [HSB.out]; exact HPL4.out) HPL5.out HB.out HROW.out HNG.out (by rw [HWS.out]; exact hC) HG9.out hJ3 bx3 rw3 ow3
            have hseel : 1 ≤ t.l.length := List.length_pos_iff.2 hseeo.ne
            have HWN : Hid (wt (T' ++ bts gk9 G 0) ≤ gk - 1) := by
              have h1 := wt_bts0 (g := gk9) HPL5.out
              show _ ≤ _
              rw [wt_app]
              omega
            have hgk1 : gk - 1 < gk := by have := len_tot t.l; omega
            have hmk4 : Mks w (W3.alloc (.cells #[vw3] 87)) (wC.heap.size :: ks) := ⟨hmk3.nd, fun q hq => ⟨(hmk3.at_ q hq).1, (Below.heap_alloc _ _ _ (Array.getElem?_eq_some_iff.1 (hmk3.at_ q hq).2).1).trans (hmk3.at_ q hq).2⟩⟩
            have HMK4 : Hid _ := hmk4
            obtain ⟨a3, c3, hv3, _, _, _⟩ := owns_cells rw3
            subst hv3
            have hc3 := bx3.cell
            clear hmk3 hmk4 hJ3 bx3 rw3 ow3 h0 hB1 hs1 hl1 hd1 HQ9 hJC hJ2
            dsimp only
            go_wp2
            rw [← List.length_append]
            exact ⟨gk - 1, hgk1, HIJ.out _ _ _ ⟨_, _, wC.heap.size :: ks, _, _, frame_at rfl, rfl, rfl, rfl, rfl, HFJ.out, HMK4.out, HWN.out, by omega⟩⟩
          have hji : decide ((j : Int) < (NG : Int)) = true := decide_eq_true (by omega)
          have hji2 : (j : Int) < (NG : Int) := by omega
          obtain ⟨e, he⟩ : ∃ e, G[j]? = some e := ⟨_, List.getElem?_eq_getElem (by rw [HNG.out]; exact hjl)⟩
          obtain ⟨pb, hpa, hprow⟩ : ∃ b, pa = some ⟨b, 0, none⟩ ∧ ∀ (i : Nat) e, G[i]? = some e → offS w5.cell? SB ⟨b, i * 2, none⟩ = some (.string e.n) ∧ offS w5.cell? SB ⟨b, i * 2 + 1, none⟩ = some (.slice e.a e.L.length e.c) := by
            rcases HPL3.out with q | q
            · rw [q] at he; simp at he
            · exact q
          subst hpa
          obtain ⟨x0, x1⟩ := hprow j e he
          have x0 := mle_below hB _ _ (offS_le _ _ _ _ x0)
          have x1 := mle_below hB _ _ (offS_le _ _ _ _ x1)
          have HE : Hid (G[j]? = some e) := he
          obtain ⟨s0, s1⟩ := two_new wr (.string e.n) (.slice e.a e.L.length e.c) 92
          have hal := (Below.refl _ wr).alloc (Nat.le_refl _) (.cells #[.string e.n, .slice e.a e.L.length e.c] 92)
          have bx2 := boxed_bel bx hal
          have HROW2 : Hid _ := ownsRow_bel HROW.out hal
          have hB2 := hB.trans (hal.mono hB.size)
          have c12 := bx2.cell
          have f12 := bx2.frozen
          have hcbl := bx.lt
          clear he hprow HROW
          go_upto_region 16 with fail
          have hwr8 : wr.heap.size < (wr.alloc (.cells #[.string e.n, .slice e.a e.L.length e.c] 92)).heap.size := by rw [World.size_alloc]; omega
          obtain ⟨pb2, HPB2⟩ : ∃ pb2, Hid (wr.heap.size = pb2) := ⟨_, rfl⟩
          have hcbp : cb ≠ pb2 := by have h1 := HPB2.out; omega
          rw [HPB2.out] at s0 s1 hwr8
          rw [HPB2.out]
          have hcb8 := bx2.lt
          generalize wr.alloc (.cells #[.string e.n, .slice e.a e.L.length e.c] 92) = w8 at s0 s1 bx2 HROW2 hB2 c12 f12 hwr8 hcb8 ⊢
          clear bx hal hB x0 x1 hcbl
          have hz8 : ∀ o : Obj, Below w8.heap.size w8 (w8.alloc o).drew := fun o => ((Below.refl _ w8).alloc (Nat.le_refl _) o).drew
          have HROW3 : Hid ((w8.alloc (.cells #[.string ⟨#[]⟩, .int .i64 0, .int .i64 0, .int .i64 0, .int .i64 0, .bool false, .slice none 0 0, .string ⟨#[]⟩, .slice none 0 0] 61)).drew.ownsRow w5.heap.size 61 9 (.slice ja j jc) j (kfl (zks (G.take j)))) := ownsRow_bel HROW2.out (hz8 _)
          have HSRC : Hid (∀ q u, (kfl [((⟨#[]⟩ : ByteArray), zN, zH)])[q]? = some u → (w8.alloc (.cells #[.string ⟨#[]⟩, .int .i64 0, .int .i64 0, .int .i64 0, .int .i64 0, .bool false, .slice none 0 0, .string ⟨#[]⟩, .slice none 0 0] 61)).drew.cell? ((⟨w8.heap.size, 0, none⟩ : Addr).add q) = some u) := fun q u hq => by
            rw [addr_add, Nat.zero_add]
            refine (World.cell?_alloc_at _ _ _ _ rfl).trans ?_
            simpa [kfl, ndL, zN, zH] using hq
          have hbase : w5.heap.size ≤ (w8.alloc (.cells #[.string ⟨#[]⟩, .int .i64 0, .int .i64 0, .int .i64 0, .int .i64 0, .bool false, .slice none 0 0, .string ⟨#[]⟩, .slice none 0 0] 61)).drew.heap.size := by have h1 := (hz8 (.cells #[.string ⟨#[]⟩, .int .i64 0, .int .i64 0, .int .i64 0, .int .i64 0, .bool false, .slice none 0 0, .string ⟨#[]⟩, .slice none 0 0] 61)).size; have h2 := hB2.size; omega
          have c12d : w8.drew.cell? ⟨cb, 0, none⟩ = some (.slice ja j jc) := c12
          have s0d : w8.drew.cell? ⟨pb2, 0, none⟩ = some (.string e.n) := s0
          have c12e := mle_below (hz8 (.cells #[.string ⟨#[]⟩, .int .i64 0, .int .i64 0, .int .i64 0, .int .i64 0, .bool false, .slice none 0 0, .string ⟨#[]⟩, .slice none 0 0] 61)) _ _ c12
          have s0e := mle_below (hz8 (.cells #[.string ⟨#[]⟩, .int .i64 0, .int .i64 0, .int .i64 0, .int .i64 0, .bool false, .slice none 0 0, .string ⟨#[]⟩, .slice none 0 0] 61)) _ _ s0
          have HBX2 : Hid _ := bx2
          have HB2 : Hid _ := hB2
          have HLN : Hid ((zks (G.take j)).length = j) := by show _ = _; rw [zks_len, List.length_take, HNG.out]; omega
          have hjj : (j : Int) < (j : Int) + 1 := by omega
          have hjj2 : j < j + 1 := by omega
          have HBX3 : Hid (Boxed (w8.alloc (.cells #[.string ⟨#[]⟩, .int .i64 0, .int .i64 0, .int .i64 0, .int .i64 0, .bool false, .slice none 0 0, .string ⟨#[]⟩, .slice none 0 0] 61)).drew cb 32 (.slice ja j jc)) := boxed_bel bx2 (hz8 _)
          have hne9 : some cb ≠ (Value.slice ja j jc).ownBlock := bx2.not_row (by decide) HROW2.out
          have hsz9 : cb < (w8.alloc (.cells #[.string ⟨#[]⟩, .int .i64 0, .int .i64 0, .int .i64 0, .int .i64 0, .bool false, .slice none 0 0, .string ⟨#[]⟩, .slice none 0 0] 61)).drew.heap.size := Boxed.lt HBX3.out
          clear bx2
          go_region_law (first | (refine step_append_src _ (by rfl) (.tmp 69) (.tmp 74) 32 (by rfl) w5.heap.size 61 i0 zK 9 120 Tryz.underlying32 HI0.out HI1.out HI2.out HI3.out rfl (by decide) (.slice ja j jc) j (kfl (zks (G.take j))) (by rfl) HROW3.out (some ⟨w8.heap.size, 0, none⟩) 1 1 (kfl [(⟨#[]⟩, zN, zH)]) (by rfl) (by rfl) (.inr ⟨_, rfl, HSRC.out⟩) (kfl_one _) (by unfold maxLen; omega) (by omega) hbase ?_; intro v9 w9 hown9 hg9 ho9; obtain ⟨a9, c9', rfl, _, _, _⟩ := owns_cells hown9; obtain ⟨g9, rfl, hg9a, hg9b⟩ := own_some hown9 (by omega); obtain ⟨hkd9, hfr9⟩ := st9_cells hown9 HLN.out; obtain ⟨k0, k1, k2, k3, k4, k5, k6, k7, k8⟩ := hkd9.nine; have fr0 := hfr9 (j * 9); have fr1 := hfr9 (j * 9 + 1); have fr2 := hfr9 (j * 9 + 2); have fr3 := hfr9 (j * 9 + 3); have fr4 := hfr9 (j * 9 + 4); have fr5 := hfr9 (j * 9 + 5); have fr6 := hfr9 (j * 9 + 6); have fr7 := hfr9 (j * 9 + 7); have fr8 := hfr9 (j * 9 + 8); have bx9 : Boxed w9 cb 32 (.slice ja j jc) := (hg9.block cb hsz9 hne9).trans HBX3.out; have hcg : cb ≠ g9 := fun q => bx9.not_row (by decide) hown9 (by rw [q]; rfl); have hcg' : g9 ≠ cb := fun q => hcg q.symm; have cc9 := bx9.cell; have ff9 := bx9.frozen; have hB9 : Below w5.heap.size w5 w9 := (HB2.out.trans ((hz8 _).mono HB2.out.size)).grown hg9 (by have h1 := HB2.out.size; have h2 := (hz8 (.cells #[.string ⟨#[]⟩, .int .i64 0, .int .i64 0, .int .i64 0, .int .i64 0, .bool false, .slice none 0 0, .string ⟨#[]⟩, .slice none 0 0] 61)).size; omega) (fun q hq => (World.ownsRow.lt HROW3.out q hq).1); have hk16 := k16 (nm := e.n) bx9 hown9 HLN.out hB9 hcg hcb hg9a; rw [← zks_next HE.out] at hk16; simp only [st9] at hk16; obtain ⟨ka, kb'⟩ := hk16; have HA : Hid (KRel w5 cb NG G (.int .i64 ((j : Int) + 1)) _) := KRel.next hjl ka.1 ka.2.1 ka.2.2; have HB : Hid (KRel w5 cb NG G (.int .i64 ((j : Int) + 1)) _) := KRel.next hjl kb'.1 kb'.2.1 kb'.2.2; clear ka kb' hown9 hg9 ho9 hB9 hkd9 hfr9))
          all_goals
            go_wp2
            go_roundw
            case rel =>
              first | with_reducible exact HA.out | with_reducible exact HB.out
            case measure => (simp [intOf]; try omega)
end Go.Proofs.YtlbabnffiibnpaaGreat
