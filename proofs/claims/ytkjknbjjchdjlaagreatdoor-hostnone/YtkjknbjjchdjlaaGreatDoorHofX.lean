/-
  A HOST's HEAD: head, become: the walks.
  A HOST BECOMES ANOTHER ONE: become: the walk.
  A HOST IS MADE: Format, Fresh: the walks.
  WHICH BLOCKS ARE USED: used, reserve, Left: the walks.
  WHICH BLOCKS ARE USED: used, reserve, Left: the walks.
  BLOCKS ARE RESERVED: reserve: the walk.
-/
import Derived.Test.YtkjknbjjchdjlaaGreatDoorHocX
import Derived.Deep.Heap
import Derived.Maps.OwnSet
namespace Go.Proofs.YtkjknbjjchdjlaaGreatDoor
open Go.RowKit
theorem two_ints (w : World) (x y : Int) (t : TypeId) : ∀ j u, (inL [x, y])[j]? = some u → (w.alloc (.cells #[.int .i64 x, .int .i64 y] t)).cell? ((⟨w.heap.size, 0, none⟩ : Addr).add j) = some u := by
  intro j u hj
  rw [addr_add, Nat.zero_add]
  refine (World.cell?_alloc_at _ _ _ _ rfl).trans ?_
  match j with
  | 0 => simpa [inL] using hj
  | 1 => simpa [inL] using hj
  | j + 2 => simp [inL] at hj
theorem ownsRow_set {w : World} {base : Nat} {e : TypeId} {size : Nat} {v : Value} {n : Nat} {xs : List Value} (h : w.ownsRow base e size v n xs) {b o : Nat} (hb : v.ownBlock ≠ some b) (u : Value) : (w.setCell ⟨b, o, none⟩ u).ownsRow base e size v n xs := by
  refine ⟨h.1, ?_⟩
  rcases h.2 with q | ⟨g, cap, cur, rfl, h1, h2, h3⟩
  · exact .inl q
  · refine .inr ⟨g, cap, cur, rfl, h1, ?_, h3⟩
    rw [Deep.blk_setCell_other _ _ _ _ (show g ≠ b from fun e => hb (by rw [← e]; rfl))]
    exact h2
set_option maxRecDepth 100000 in
set_option maxHeartbeats 2000000 in
theorem head1_any {W : World} {lb base : Nat} {v pv : Value} {L : List Int} {fr sz : Int} (hb : W.heap[lb]? = some (.cells #[v] 80 (0, 0))) (hv : NR base W v L) (hl : lb < base) (hs : base ≤ W.heap.size) (hn : L.length ≤ 1000) :
    Calls Tryz.prog 86 #[.agg #[pv, .int .i64 fr, .int .i64 sz], .pointer (some ⟨lb, 0, none⟩)] W fun e W' => e = .returned (.tuple #[]) ∧ (∃ v', W'.heap[lb]? = some (.cells #[v'] 80 (0, 0)) ∧ NR base W' v' (L ++ [fr, sz])) ∧ Below lb W W' := by
  obtain ⟨i0, hi0, hz0, hz1, hz2⟩ := kinfo_three Tryz.infoIn
  have c0 : W.cell? ⟨lb, 0, none⟩ = some v := cell_of_heap hb rfl
  have f0 : W.frozen? ⟨lb, 0, none⟩ = false := frozen_of_heap hb 0
  have HBX : Hid (W.heap[lb]? = some (.cells #[v] 80 (0, 0))) := hb
  have hlt := lt_of_heap hb
  clear hb
  have p1 : (W.alloc (.cells #[pv, .int .i64 fr, .int .i64 sz] 75)).cell? ⟨W.heap.size, 1, none⟩ = some (.int .i64 fr) := World.cell?_alloc_at _ _ _ _ rfl
  have p2 : (W.alloc (.cells #[pv, .int .i64 fr, .int .i64 sz] 75)).cell? ⟨W.heap.size, 2, none⟩ = some (.int .i64 sz) := World.cell?_alloc_at _ _ _ _ rfl
  have hb1 : Below W.heap.size W (W.alloc (.cells #[pv, .int .i64 fr, .int .i64 sz] 75)) := (Below.refl _ _).alloc (Nat.le_refl _) _
  have c0 := (hb1.cell (p := ⟨lb, 0, none⟩) hlt).trans c0
  have HBX := (hb1.block lb hlt).trans HBX.out
  have HV : Hid ((W.alloc (.cells #[pv, .int .i64 fr, .int .i64 sz] 75)).ownsRow base 3 1 v L.length (inL L)) := World.ownsRow.alloc hv _
  go_enter Tryz.func86, Tryz.ntmps86
  go_upto_region 1 with fail
  generalize W.alloc (.cells #[pv, .int .i64 fr, .int .i64 sz] 75) = w1 at p1 p2 hb1 c0 HBX HV ⊢
  have hs1 := hb1.size
  have HBX : Hid (w1.heap[lb]? = some (.cells #[v] 80 (0, 0))) := HBX
  clear hv
  go_wp2_with (at_builtin; refine wpList_append_src (w1.alloc (.cells #[.int .i64 fr, .int .i64 sz] 3)) rfl (.tmp 3) (.tmp 8) 80 rfl base 3 i0 (.int .i64 0) 1 8 Tryz.underlying80 hi0 hz0 hz1 hz2 rfl (by decide) v L.length (inL L) rfl (World.ownsRow.alloc HV.out _) (some ⟨w1.heap.size, 0, none⟩) 2 2 (inL [fr, sz]) rfl rfl (.inr ⟨_, rfl, two_ints _ _ _ _⟩) (inL_one _) (by unfold maxLen; omega) (by omega) (by rw [World.size_alloc]; omega) ?_)
  intro v7 w7 hown7 hgr7 ho7
  have hne : v.ownBlock ≠ some lb := fun e => by have := (World.ownsRow.lt HV.out lb e).1; omega
  have HB7 : Hid (w7.heap[lb]? = some (.cells #[v] 80 (0, 0))) := (hgr7.block lb (by rw [World.size_alloc]; omega) (fun e => hne e.symm)).trans ((heap_alloc_old w1 _ (by omega)).trans HBX.out)
  have HL7 : Hid (Below lb W w7) := ((hb1.mono (Nat.le_of_lt hlt)).alloc (by omega) _).grown hgr7 (by rw [World.size_alloc]; omega) (fun g e => by have := (World.ownsRow.lt HV.out g e).1; omega)
  have c7 : w7.cell? ⟨lb, 0, none⟩ = some v := cell_of_heap HB7.out rfl
  have f7 : w7.frozen? ⟨lb, 0, none⟩ = false := frozen_of_heap HB7.out 0
  clear hgr7 ho7 p1 p2 c0 f0
  obtain ⟨a7, cp7, rfl, _, _, hf7⟩ := ownsRow_form hown7
  go_wp2
  go_end0
  refine ⟨rfl, ⟨_, Lib.heap_setCell_same (i := 0) HB7.out _, ?_⟩, HL7.out.setCell (Nat.le_refl _) _⟩
  unfold NR
  rw [inL_append, List.length_append]
  refine ownsRow_set hown7 ?_ _
  intro e
  have := (World.ownsRow.lt hown7 lb e).1
  omega
theorem nr_ints {base : Nat} {w : World} {v : Value} {L : List Int} (h : NR base w v L) : ∃ a cap, v = .slice a L.length cap ∧ Ints w a L := by
  obtain ⟨a, cap, rfl, _, _, hf⟩ := ownsRow_form h
  refine ⟨a, cap, rfl, ?_⟩
  rcases hf with ⟨_, _, e, _⟩ | ⟨g, cur, rfl, hb, hg, hs, hx⟩
  · exact .inl (by simpa [inL] using e)
  · refine .inr ⟨g, 0, rfl, fun i hi => ?_⟩
    rw [Nat.zero_add]
    refine ownsRow_cell hg hx (i := i) ?_
    rw [inL, List.getElem?_map, List.getD_eq_getElem?_getD, List.getElem?_eq_getElem hi]
    rfl
/-- What head holds behind so many places. -/
def HdJ (w : World) (k : Nat) (W : World) : Prop := Below w.heap.size w W ∧ w.heap.size < W.heap.size ∧ ∃ L v, L.length = 2 * k ∧ W.heap[w.heap.size]? = some (.cells #[v] 80 (0, 0)) ∧ NR (w.heap.size + 1) W v L
set_option maxRecDepth 100000 in
set_option maxHeartbeats 2000000 in
theorem head0_any {w : World} {hb db side : Nat} (hbox : w.heap[hb]? = some (.cells (hoC db side (.pointer none)) 60 (0, 0))) :
    Calls Tryz.prog 66 #[.pointer (some ⟨hb, 0, none⟩)] w fun e w' => (∃ s, e = .returned (.string s) ∧ s.size = 60) ∧ Below w.heap.size w w' := by
  have hlt := lt_of_heap hbox
  have hb1 : Below w.heap.size w (w.alloc (.cells #[.slice none 0 0] 80)) := (Below.refl _ _).alloc (Nat.le_refl _) _
  have hz1 : (w.alloc (.cells #[.slice none 0 0] 80)).heap.size = w.heap.size + 1 := World.size_alloc _ _
  have hnew : (w.alloc (.cells #[.slice none 0 0] 80)).heap[w.heap.size]? = some (.cells #[.slice none 0 0] 80 (0, 0)) := heap_alloc_new w _
  have C1 : Hid (Calls Tryz.prog 54 #[.pointer (some ⟨hb, 0, none⟩), .func (.func 86) #[] #[.pointer (some ⟨w.heap.size, 0, none⟩)]] (w.alloc (.cells #[.slice none 0 0] 80)) fun e w' => e = .returned (.tuple #[]) ∧ HdJ w 10 w') := by
    refine each_head0 (J := HdJ w) ((hb1.block hb hlt).trans hbox) ?_ ?_ ?_ ?_
    · exact ⟨hb1, by omega, [], _, rfl, hnew, World.ownsRow_nil _ _ _ _⟩
    · rintro k W hk ⟨q1, q2, L, v, q3, q4, q5⟩
      have C := head1_any (pv := .slice none 0 0) (fr := 0) (sz := 0) q4 q5 (by omega) (by omega) (by omega)
      exact Calls.mono C fun e W' ⟨e1, ⟨v', e2, e3⟩, e4⟩ => ⟨e1, q1.trans e4, Nat.lt_of_lt_of_le q2 e4.size, _, v', by simp; omega, e2, e3⟩
    · rintro k W o ⟨q1, q2, L, v, q3, q4, q5⟩
      exact ⟨q1.alloc (Nat.le_of_lt q2) _, by rw [World.size_alloc]; omega, L, v, q3, (heap_alloc_old W _ (lt_of_heap q4)).trans q4, World.ownsRow.alloc q5 _⟩
    · rintro k W ⟨q1, _⟩
      exact (q1.block hb hlt).trans (hb1.block hb hlt).symm
  clear hnew
  go_enter Tryz.func66, Tryz.ntmps66
  go_wp2_with fail
  refine Calls.mono C1.out ?_
  rintro e w2 ⟨rfl, q1, q2, L, v, q3, q4, q5⟩
  obtain ⟨a, cap, rfl, hin⟩ := nr_ints q5
  have c0 : w2.cell? ⟨w.heap.size, 0, none⟩ = some (.slice a L.length cap) := cell_of_heap q4 rfl
  have C2 := htext_any (cap := cap) hin (by omega) (by omega)
  rw [q3] at C2 c0
  clear q4 q5 hin
  go_wp2_with fail
  refine Calls.mono C2 ?_
  rintro e w3 ⟨⟨s, rfl, hs⟩, hb3⟩
  go_wp2
  go_ret
  exact ⟨⟨s, rfl, hs⟩, q1.trans (hb3.mono q1.size)⟩
set_option maxRecDepth 100000 in
set_option maxHeartbeats 2000000 in
theorem head2_any {w : World} {hb db side : Nat} {gb : Nat} {pv : Value} {fr sz : Int} (g0 : w.cell? ⟨gb, 0, none⟩ = some pv) (g1 : w.cell? ⟨gb, 1, none⟩ = some (.int .i64 fr)) (g2 : w.cell? ⟨gb, 2, none⟩ = some (.int .i64 sz)) (hbox : w.heap[hb]? = some (.cells (hoC db side (.pointer (some ⟨gb, 0, none⟩))) 60 (0, 0))) :
    Calls Tryz.prog 66 #[.pointer (some ⟨hb, 0, none⟩)] w fun e w' => (∃ s, e = .returned (.string s) ∧ s.size = 60) ∧ Below w.heap.size w w' := by
  have hlt := lt_of_heap hbox
  have hgl : gb < w.heap.size := World.block_lt_of_cell? w ⟨gb, 0, none⟩ g0
  have hb1 : Below w.heap.size w (w.alloc (.cells #[.slice none 0 0] 80)) := (Below.refl _ _).alloc (Nat.le_refl _) _
  have hz1 : (w.alloc (.cells #[.slice none 0 0] 80)).heap.size = w.heap.size + 1 := World.size_alloc _ _
  have hnew : (w.alloc (.cells #[.slice none 0 0] 80)).heap[w.heap.size]? = some (.cells #[.slice none 0 0] 80 (0, 0)) := heap_alloc_new w _
  have C1 : Hid (Calls Tryz.prog 54 #[.pointer (some ⟨hb, 0, none⟩), .func (.func 86) #[] #[.pointer (some ⟨w.heap.size, 0, none⟩)]] (w.alloc (.cells #[.slice none 0 0] 80)) fun e w' => e = .returned (.tuple #[]) ∧ HdJ w 10 w') := by
    refine each_head1 (J := HdJ w) ((hb1.cell (p := ⟨gb, 0, none⟩) hgl).trans g0) ((hb1.cell (p := ⟨gb, 1, none⟩) hgl).trans g1) ((hb1.cell (p := ⟨gb, 2, none⟩) hgl).trans g2) ((hb1.block hb hlt).trans hbox) ?_ ?_ ?_ ?_
    · exact ⟨hb1, by omega, [], _, rfl, hnew, World.ownsRow_nil _ _ _ _⟩
    · rintro k W hk ⟨q1, q2, L, v, q3, q4, q5⟩
      split
      · have C := head1_any (pv := pv) (fr := fr) (sz := sz) q4 q5 (by omega) (by omega) (by omega)
        exact Calls.mono C fun e W' ⟨e1, ⟨v', e2, e3⟩, e4⟩ => ⟨e1, q1.trans e4, Nat.lt_of_lt_of_le q2 e4.size, _, v', by simp; omega, e2, e3⟩
      · have C := head1_any (pv := .slice none 0 0) (fr := 0) (sz := 0) q4 q5 (by omega) (by omega) (by omega)
        exact Calls.mono C fun e W' ⟨e1, ⟨v', e2, e3⟩, e4⟩ => ⟨e1, q1.trans e4, Nat.lt_of_lt_of_le q2 e4.size, _, v', by simp; omega, e2, e3⟩
    · rintro k W o ⟨q1, q2, L, v, q3, q4, q5⟩
      exact ⟨q1.alloc (Nat.le_of_lt q2) _, by rw [World.size_alloc]; omega, L, v, q3, (heap_alloc_old W _ (lt_of_heap q4)).trans q4, World.ownsRow.alloc q5 _⟩
    · rintro k W ⟨q1, _⟩
      exact ⟨(q1.block hb hlt).trans (hb1.block hb hlt).symm, (q1.block gb hgl).trans (hb1.block gb hgl).symm⟩
  clear hnew
  go_enter Tryz.func66, Tryz.ntmps66
  go_wp2_with fail
  refine Calls.mono C1.out ?_
  rintro e w2 ⟨rfl, q1, q2, L, v, q3, q4, q5⟩
  obtain ⟨a, cap, rfl, hin⟩ := nr_ints q5
  have c0 : w2.cell? ⟨w.heap.size, 0, none⟩ = some (.slice a L.length cap) := cell_of_heap q4 rfl
  have C2 := htext_any (cap := cap) hin (by omega) (by omega)
  rw [q3] at C2 c0
  clear q4 q5 hin
  go_wp2_with fail
  refine Calls.mono C2 ?_
  rintro e w3 ⟨⟨s, rfl, hs⟩, hb3⟩
  go_wp2
  go_ret
  exact ⟨⟨s, rfl, hs⟩, q1.trans (hb3.mono q1.size)⟩
end Go.Proofs.YtkjknbjjchdjlaaGreatDoor
namespace Go.Proofs.YtkjknbjjchdjlaaGreatDoor
open Go.RowKit
theorem ho_cells {w : World} {b db sd : Nat} {g : Value} (h : w.heap[b]? = some (.cells (hoC db sd g) 60 (0, 0))) : w.cell? ⟨b, 0, none⟩ = some (.pointer (some ⟨db, 0, none⟩)) ∧ w.cell? ⟨b, 1, none⟩ = some (.bool false) ∧ w.cell? ⟨b, 2, none⟩ = some (.int .i64 sd) ∧ w.cell? ⟨b, 3, none⟩ = some (.pointer none) ∧ w.cell? ⟨b, 4, none⟩ = some (.pointer none) ∧ w.cell? ⟨b, 5, none⟩ = some (.pointer none) ∧ w.cell? ⟨b, 6, none⟩ = some (.pointer none) ∧ w.cell? ⟨b, 7, none⟩ = some (.pointer none) ∧ w.cell? ⟨b, 8, none⟩ = some g ∧ w.cell? ⟨b, 9, none⟩ = some (.pointer none) ∧ w.cell? ⟨b, 10, none⟩ = some (.pointer none) ∧ w.cell? ⟨b, 11, none⟩ = some (.pointer none) ∧ w.cell? ⟨b, 12, none⟩ = some (.pointer none) :=
  ⟨cell_of_heap h rfl, cell_of_heap h rfl, cell_of_heap h rfl, cell_of_heap h rfl, cell_of_heap h rfl, cell_of_heap h rfl, cell_of_heap h rfl, cell_of_heap h rfl, cell_of_heap h rfl, cell_of_heap h rfl, cell_of_heap h rfl, cell_of_heap h rfl, cell_of_heap h rfl⟩
/-- Thirteen cells are stored. -/
abbrev st13 (w : World) (b : Nat) (v : Array Value) : World := ((((((((((((w.setCell ⟨b, 0, none⟩ (v.getD 0 undef)).setCell ⟨b, 1, none⟩ (v.getD 1 undef)).setCell ⟨b, 2, none⟩ (v.getD 2 undef)).setCell ⟨b, 3, none⟩ (v.getD 3 undef)).setCell ⟨b, 4, none⟩ (v.getD 4 undef)).setCell ⟨b, 5, none⟩ (v.getD 5 undef)).setCell ⟨b, 6, none⟩ (v.getD 6 undef)).setCell ⟨b, 7, none⟩ (v.getD 7 undef)).setCell ⟨b, 8, none⟩ (v.getD 8 undef)).setCell ⟨b, 9, none⟩ (v.getD 9 undef)).setCell ⟨b, 10, none⟩ (v.getD 10 undef)).setCell ⟨b, 11, none⟩ (v.getD 11 undef)).setCell ⟨b, 12, none⟩ (v.getD 12 undef)
theorem st13_mv (w : World) (b : Nat) (v : Array Value) : Mv (fun k => k = b) w (st13 w b v) :=
  ((((((((((((((Mv.refl (fun k => k = b) w).setCell (p := ⟨b, 0, none⟩) rfl _).setCell (p := ⟨b, 1, none⟩) rfl _).setCell (p := ⟨b, 2, none⟩) rfl _).setCell (p := ⟨b, 3, none⟩) rfl _).setCell (p := ⟨b, 4, none⟩) rfl _).setCell (p := ⟨b, 5, none⟩) rfl _).setCell (p := ⟨b, 6, none⟩) rfl _).setCell (p := ⟨b, 7, none⟩) rfl _).setCell (p := ⟨b, 8, none⟩) rfl _).setCell (p := ⟨b, 9, none⟩) rfl _).setCell (p := ⟨b, 10, none⟩) rfl _).setCell (p := ⟨b, 11, none⟩) rfl _).setCell (p := ⟨b, 12, none⟩) rfl _)
theorem st13_box {w : World} {b db sd sd' : Nat} {g g' : Value} (h : w.heap[b]? = some (.cells (hoC db sd g) 60 (0, 0))) : (st13 w b (hoC db sd' g')).heap[b]? = some (.cells (hoC db sd' g') 60 (0, 0)) := by
  have h := Lib.heap_setCell_same (i := 0) h (.pointer (some ⟨db, 0, none⟩))
  have h := Lib.heap_setCell_same (i := 1) h (.bool false)
  have h := Lib.heap_setCell_same (i := 2) h (.int .i64 sd')
  have h := Lib.heap_setCell_same (i := 3) h (.pointer none)
  have h := Lib.heap_setCell_same (i := 4) h (.pointer none)
  have h := Lib.heap_setCell_same (i := 5) h (.pointer none)
  have h := Lib.heap_setCell_same (i := 6) h (.pointer none)
  have h := Lib.heap_setCell_same (i := 7) h (.pointer none)
  have h := Lib.heap_setCell_same (i := 8) h g'
  have h := Lib.heap_setCell_same (i := 9) h (.pointer none)
  have h := Lib.heap_setCell_same (i := 10) h (.pointer none)
  have h := Lib.heap_setCell_same (i := 11) h (.pointer none)
  have h := Lib.heap_setCell_same (i := 12) h (.pointer none)
  refine Eq.trans h ?_
  simp
/-- Head's contract, as become asks for it. -/
def HdOk (w : World) (nb : Nat) : Prop := Calls Tryz.prog 66 #[.pointer (some ⟨nb, 0, none⟩)] w fun e w' => (∃ s, e = .returned (.string s) ∧ s.size = 60) ∧ Below w.heap.size w w'
set_option maxRecDepth 100000 in
set_option maxHeartbeats 4000000 in
theorem become_any {w : World} {hb db rb cap n side m : Nat} {g : Value} (h : HK w hb db rb cap n side m g) (g' : Option Addr) (h2 : 200 ≤ n) (hm : m ≤ 50000)
    (hd : ∀ W sd, Mv (fun _ => False) w W → W.heap[w.heap.size]? = some (.cells (hoC db sd (.pointer g')) 60 (0, 0)) → HdOk W w.heap.size) :
    Calls Tryz.prog 40 #[.pointer (some ⟨hb, 0, none⟩), .agg (hoC db side (.pointer g'))] w fun e w' => e = .returned .nilIface ∧ HK w' hb db rb cap n (1 - side) (m + 68) (.pointer g') ∧ Mv (fun b => b = hb ∨ b = db ∨ b = rb) w w' := by
  have HH : Hid (HK w hb db rb cap n side m g) := h
  have hsd := h.sd
  obtain ⟨sd, hs1, hs2⟩ : ∃ sd : Nat, sd = 1 - side ∧ (1 : Int) - side = sd := ⟨1 - side, rfl, by omega⟩
  have hs3 : sd < 2 := by omega
  rw [← hs1]
  have HD : Hid (∀ W sd, Mv (fun _ => False) w W → W.heap[w.heap.size]? = some (.cells (hoC db sd (.pointer g')) 60 (0, 0)) → HdOk W w.heap.size) := hd
  have c2 : w.cell? ⟨hb, 2, none⟩ = some (.int .i64 side) := cell_of_heap h.box rfl
  have hlt := h.lt
  clear hd h hs1
  go_enter Tryz.func40, Tryz.ntmps40
  go_upto_region 2 with fail
  have hnb : (w.alloc (.cells (hoC db sd (.pointer g')) 60)).heap[w.heap.size]? = some (.cells (hoC db sd (.pointer g')) 60 (0, 0)) := heap_alloc_new w _
  have M1 : Mv (fun _ => False) w (w.alloc (.cells (hoC db sd (.pointer g')) 60)) := (Mv.refl _ _).alloc _
  have hz1 : (w.alloc (.cells (hoC db sd (.pointer g')) 60)).heap.size = w.heap.size + 1 := World.size_alloc _ _
  show Code.wp _ _ _ _ (w.alloc (.cells (hoC db sd (.pointer g')) 60))
  generalize w.alloc (.cells (hoC db sd (.pointer g')) 60) = w1 at hnb M1 hz1 ⊢
  have HZ1 : Hid (w1.heap.size = w.heap.size + 1) := hz1
  have HNB : Hid (w1.heap[w.heap.size]? = some (.cells (hoC db sd (.pointer g')) 60 (0, 0))) := hnb
  have HK1 : Hid (HK w1 hb db rb cap n side m g) := HH.out.mv M1 id id id
  have n2 : w1.cell? ⟨w.heap.size, 2, none⟩ = some (.int .i64 sd) := cell_of_heap hnb rfl
  have C1 := headAt_any sd hs3 w1
  have C2 : Hid (HdOk w1 w.heap.size) := HD.out w1 sd M1 hnb
  obtain ⟨nb, hnbe⟩ : ∃ nb, w.heap.size = nb := ⟨_, rfl⟩
  have HNE : Hid (w.heap.size = nb) := hnbe
  rw [hnbe] at n2 C2 HNB HZ1 ⊢
  clear hnbe hz1 hnb c2
  unfold HdOk at C2
  go_wp2_with fail
  refine Calls.mono C1 ?_
  rintro e w' ⟨rfl, rfl⟩
  go_wp2_with fail
  refine Calls.mono C2.out ?_
  rintro e w2 ⟨⟨s, rfl, hs⟩, hb2⟩
  have C3 := hwrite_any (HK1.out.below hb2) (64 + sd * 64) s (by omega) (by omega) (by omega)
  have HNB2 : Hid (w2.heap[nb]? = some (.cells (hoC db sd (.pointer g')) 60 (0, 0))) := (hb2.block nb (by have := HZ1.out; omega)).trans HNB.out
  have e64 : ((64 + sd * 64 : Nat) : Int) = 64 + (sd : Int) * 64 := by omega
  rw [e64, hs] at C3
  have HB2 : Hid (Below w1.heap.size w1 w2) := hb2
  clear hb2 n2
  go_wp2_with fail
  refine Calls.mono C3 ?_
  rintro e w3 ⟨rfl, M3, K3⟩
  have hne : nb ≠ hb ∧ nb ≠ db ∧ nb ≠ rb := by have := HNE.out; omega
  have HNB3 : Hid (w3.heap[nb]? = some (.cells (hoC db sd (.pointer g')) 60 (0, 0))) := (M3.block nb (lt_of_heap HNB2.out) (by omega)).trans HNB2.out
  have n2 : w3.cell? ⟨nb, 2, none⟩ = some (.int .i64 sd) := cell_of_heap HNB3.out rfl
  have hsz : (sgS sd).size = 8 := by
    have : sd = 0 ∨ sd = 1 := by omega
    rcases this with rfl | rfl <;> rfl
  have C4 := signOf_any sd hs3 w3
  have C5 := hwrite_any K3 0 (sgS sd) (by omega) (by omega) (by omega)
  rw [hsz] at C5
  have HM3 : Hid (Mv (fun b => b = db ∨ b = rb) w2 w3) := M3
  clear M3 K3
  go_wp2_with fail
  refine Calls.mono C4 ?_
  rintro e w' ⟨rfl, rfl⟩
  go_wp2_with fail
  refine Calls.mono C5 ?_
  rintro e w4 ⟨rfl, M4, K4⟩
  have HNB4 : Hid (w4.heap[nb]? = some (.cells (hoC db sd (.pointer g')) 60 (0, 0))) := (M4.block nb (lt_of_heap HNB3.out) (by omega)).trans HNB3.out
  have HM4 : Hid (Mv (fun b => b = db ∨ b = rb) w3 w4) := M4
  have HK4 : Hid (HK w4 hb db rb cap n side (m + 60 + 8) g) := K4
  clear M4 K4 n2
  obtain ⟨q0, q1, q2, q3, q4, q5, q6, q7, q8, q9, q10, q11, q12⟩ := ho_cells HNB4.out
  obtain ⟨r0, r1, r2, r3, r4, r5, r6, r7, r8, r9, r10, r11, r12⟩ := ho_cells HK4.out.box
  have ff : ∀ i, w4.frozen? ⟨hb, i, none⟩ = false := fun i => frozen_of_heap HK4.out.box i
  have f0 := ff 0
  have f1 := ff 1
  have f2 := ff 2
  have f3 := ff 3
  have f4 := ff 4
  have f5 := ff 5
  have f6 := ff 6
  have f7 := ff 7
  have f8 := ff 8
  have f9 := ff 9
  have f10 := ff 10
  have f11 := ff 11
  have f12 := ff 12
  clear ff
  go_wp2
  go_ret
  have HB : Hid (Below w1.heap.size w1 w2) := HB2.out
  have MW : Mv (fun b => b = hb ∨ b = db ∨ b = rb) w w4 := (((M1.mono (fun _ e => e.elim)).trans (Mv.of HB.out)).trans (HM3.out.mono (fun _ e => .inr e))).trans (HM4.out.mono (fun _ e => .inr e))
  obtain ⟨c, hc, hq⟩ := HK4.out.disk
  have MX : Mv (fun b => b = hb) w4 _ := st13_mv w4 hb #[.pointer (some ⟨db, 0, none⟩), .bool false, .int .i64 sd, .pointer none, .pointer none, .pointer none, .pointer none, .pointer none, .pointer g', .pointer none, .pointer none, .pointer none, .pointer none]
  refine ⟨rfl, ⟨st13_box HK4.out.box, ⟨c, hc.mv MX (fun e => HK4.out.ne.1 e.symm) (fun e => HK4.out.ne.2 e.symm), ?_⟩, HK4.out.ne, hs3, HK4.out.nn⟩, MW.trans (MX.mono (fun _ e => .inl e))⟩
  obtain ⟨e1, e2, e3, e4, e5⟩ := hq
  exact ⟨e1, e2, e3, e4, by omega⟩
end Go.Proofs.YtkjknbjjchdjlaaGreatDoor
namespace Go.Proofs.YtkjknbjjchdjlaaGreatDoor
open Go.RowKit
set_option maxRecDepth 100000 in
set_option maxHeartbeats 4000000 in
theorem format_any {w : World} {db rb cap : Nat} (h : KB w db rb cap ⟨zeroS (64 * 300), -1, 0, false⟩) :
    Calls Tryz.prog 17 #[.pointer (some ⟨db, 0, none⟩)] w fun e w' => (∃ hb, e = .returned (.tuple #[.pointer (some ⟨hb, 0, none⟩), .nilIface]) ∧ w.heap.size ≤ hb ∧ HK w' hb db rb cap 300 1 69 (.pointer none)) ∧ Mv (fun b => b = db ∨ b = rb) w w' := by
  have hsz : (zeroS (64 * 300)).size = 64 * 300 := zeroS_size _
  have C1 := usable_any (n := 300) h hsz rfl (by omega)
  have C2 := kbytes_any h
  have C3 := standing_zero (64 * 300) (by omega) (by omega) w
  have HKB : Hid (KB w db rb cap ⟨zeroS (64 * 300), -1, 0, false⟩) := h
  have hlt := h.lt
  clear h
  go_enter Tryz.func17, Tryz.ntmps17
  go_wp2_with fail
  refine Calls.mono C1 ?_
  rintro e w' ⟨rfl, rfl⟩
  go_wp2_with fail
  refine Calls.mono C2 ?_
  rintro e w' ⟨rfl, rfl⟩
  go_wp2_with fail
  refine Calls.mono C3 ?_
  rintro e w' ⟨rfl, rfl⟩
  go_upto_region 6 with fail
  have M1 : Mv (fun _ => False) w (w.alloc (.cells (hoC db 0 (.pointer none)) 60)) := (Mv.refl _ _).alloc _
  have K1 : HK (w.alloc (.cells (hoC db 0 (.pointer none)) 60)) w.heap.size db rb cap 300 0 0 (.pointer none) :=
    ⟨heap_alloc_new w _, ⟨_, HKB.out.mv M1 id id, hsz, rfl, rfl, by decide, by decide⟩, by omega, by decide, by decide⟩
  show Code.wp _ _ _ _ (w.alloc (.cells (hoC db 0 (.pointer none)) 60))
  generalize w.alloc (.cells (hoC db 0 (.pointer none)) 60) = w1 at M1 K1 ⊢
  obtain ⟨hb, hbe⟩ : ∃ hb, w.heap.size = hb := ⟨_, rfl⟩
  have HBE : Hid (w.heap.size = hb) := hbe
  rw [hbe] at K1 ⊢
  clear hbe
  have C4 := hwrite_any K1 7 ⟨#[0]⟩ (by decide) (by decide) (by decide)
  have HM1 : Hid (Mv (fun _ => False) w w1) := M1
  clear M1 K1
  go_wp2_with fail
  refine Calls.mono C4 ?_
  rintro e w2 ⟨rfl, M2, K2⟩
  have C5 := become_any K2 none (by decide) (by decide) (fun W sd hm hx => head0_any hx)
  obtain ⟨q0, q1, q2, q3, q4, q5, q6, q7, q8, q9, q10, q11, q12⟩ := ho_cells K2.box
  have HM2 : Hid (Mv (fun b => b = db ∨ b = rb) w1 w2) := M2
  clear M2 K2
  go_wp2_with fail
  refine Calls.mono C5 ?_
  rintro e w3 ⟨rfl, K3, M3⟩
  clear q0 q1 q2 q3 q4 q5 q6 q7 q8 q9 q10 q11 q12
  go_wp2
  go_ret2
  refine ⟨⟨hb, rfl, Nat.le_of_eq HBE.out, K3⟩, ?_⟩
  have MA : Mv (fun b => b = db ∨ b = rb) w w2 := (HM1.out.mono (fun _ e => e.elim)).trans HM2.out
  refine ⟨M3.os.trans MA.os, M3.tape.trans MA.tape, M3.output.trans MA.output, Nat.le_trans MA.size M3.size, fun k hk hn => ?_⟩
  exact (M3.block k (Nat.lt_of_lt_of_le hk MA.size) (by have := HBE.out; omega)).trans (MA.block k hk hn)
set_option maxRecDepth 100000 in
set_option maxHeartbeats 4000000 in
theorem fresh_any (w : World) :
    Calls Tryz.prog 9 #[.int .i64 300] w fun e w' => (∃ hb db rb cap, e = .returned (.tuple #[.pointer (some ⟨db, 0, none⟩), .pointer (some ⟨hb, 0, none⟩), .bool true]) ∧ HK w' hb db rb cap 300 1 69 (.pointer none) ∧ w.heap.size ≤ hb ∧ w.heap.size ≤ db ∧ w.heap.size ≤ rb) ∧ Below w.heap.size w w' := by
  have C1 := knew_any 300 w (by decide)
  go_enter Tryz.func9, Tryz.ntmps9
  go_wp2_with fail
  refine Calls.mono C1 ?_
  rintro e w2 ⟨db, rb, cap, rfl, K, hd, hr, hb⟩
  have C2 := format_any K
  clear K
  go_wp2_with fail
  refine Calls.mono C2 ?_
  rintro e w3 ⟨⟨hb', rfl, h1, K3⟩, M3⟩
  go_wp2
  go_ret3
  exact ⟨⟨_, _, _, _, rfl, K3, Nat.le_trans hb.size h1, hd, hr⟩, hb.trans (M3.below hb.size (fun k e => by omega))⟩
end Go.Proofs.YtkjknbjjchdjlaaGreatDoor
namespace Go.Proofs.YtkjknbjjchdjlaaGreatDoor
open Go.RowKit Go.Maps
theorem keyN : Keyed Tryz.prog 3 := int_keyed Tryz.underlying3
theorem zeroN (w : World) : (zeroValue 89).run Tryz.prog w = .ok (.agg #[]) w := by kernel_rfl
/-- Numbers that are put into a set. -/
def putL (D : DataW Unit) (zs : List Int) : DataW Unit := zs.foldl (fun m x => m.put (.int .i64 x) (.agg [])) D
theorem putL_take {D : DataW Unit} {zs : List Int} {k : Nat} (h : k < zs.length) : putL D (zs.take (k + 1)) = (putL D (zs.take k)).put (.int .i64 (zs.getD k 0)) (.agg []) := by
  unfold putL
  rw [List.take_add_one, List.foldl_append, List.getD_eq_getElem?_getD, List.getElem?_eq_getElem h]
  rfl
theorem ownsMap_grown {w w' : World} {b n : Nat} {D : DataW Unit} (h : w.ownsMap Tryz.prog 3 unitElem b n D) (hb : w'.heap[b]? = w.heap[b]?) : w'.ownsMap Tryz.prog 3 unitElem b n D := by
  obtain ⟨es, clock, q, r⟩ := h
  exact ⟨es, clock, hb.trans q, r⟩
theorem ownsMap_lt {w : World} {b n : Nat} {D : DataW Unit} (h : w.ownsMap Tryz.prog 3 unitElem b n D) : b < w.heap.size := by
  obtain ⟨es, clock, q, r⟩ := h
  exact lt_of_heap q
set_option maxRecDepth 100000 in
set_option maxHeartbeats 4000000 in
theorem used1_any {W : World} {lb mb n : Nat} {D : DataW Unit} {a : Option Addr} {zs : List Int} {cap : Nat} {fr sz : Int} (hb : W.heap[lb]? = some (.cells #[.map (some mb)] 84 (0, 0))) (hm : W.ownsMap Tryz.prog 3 unitElem mb n D) (hI : Ints W a zs) (hlm : mb < lb) (hab : ∀ p, a = some p → zs ≠ [] → p.block < mb) (hn : n ≤ 1000) (hz : zs.length ≤ 1000) (hw : ∀ z ∈ zs, 0 ≤ z ∧ z ≤ 1000000) :
    Calls Tryz.prog 55 #[.agg #[.slice a zs.length cap, .int .i64 fr, .int .i64 sz], .pointer (some ⟨lb, 0, none⟩)] W fun e W' => e = .returned (.tuple #[]) ∧ (W'.heap[lb]? = some (.cells #[.map (some mb)] 84 (0, 0)) ∧ W'.ownsMap Tryz.prog 3 unitElem mb (n + zs.length) (putL D zs)) ∧ Below mb W W' := by
  obtain ⟨N, hN⟩ : ∃ N, zs.length = N := ⟨_, rfl⟩
  have HN : Hid (zs.length = N) := hN
  have HBX : Hid (W.heap[lb]? = some (.cells #[.map (some mb)] 84 (0, 0))) := hb
  have hlt := lt_of_heap hb
  have hml := ownsMap_lt hm
  have p0 : (W.alloc (.cells #[.slice a N cap, .int .i64 fr, .int .i64 sz] 75)).cell? ⟨W.heap.size, 0, none⟩ = some (.slice a N cap) := World.cell?_alloc_at _ _ _ _ rfl
  have hb1 : Below W.heap.size W (W.alloc (.cells #[.slice a N cap, .int .i64 fr, .int .i64 sz] 75)) := (Below.refl _ _).alloc (Nat.le_refl _) _
  have HM1 : Hid ((W.alloc (.cells #[.slice a N cap, .int .i64 fr, .int .i64 sz] 75)).ownsMap Tryz.prog 3 unitElem mb n D) := ownsMap_grown hm (hb1.block mb hml)
  have HBX1 : Hid ((W.alloc (.cells #[.slice a N cap, .int .i64 fr, .int .i64 sz] 75)).heap[lb]? = some (.cells #[.map (some mb)] 84 (0, 0))) := (hb1.block lb hlt).trans hb
  have HI1 : Hid (Ints (W.alloc (.cells #[.slice a N cap, .int .i64 fr, .int .i64 sz] 75)) a zs) := hI.below hb1
  have HL0 : Hid (Below mb W (W.alloc (.cells #[.slice a N cap, .int .i64 fr, .int .i64 sz] 75))) := hb1.mono (Nat.le_of_lt hml)
  have HAB : Hid (∀ p, a = some p → zs ≠ [] → p.block < mb) := hab
  have HW : Hid (∀ z ∈ zs, 0 ≤ z ∧ z ≤ 1000000) := hw
  rw [hN] at hz ⊢
  clear hb hm hI hab hw hN
  go_enter Tryz.func55, Tryz.ntmps55
  go_upto_region 1 with fail
  generalize W.alloc (.cells #[.slice a N cap, .int .i64 fr, .int .i64 sz] 75) = w1 at p0 hb1 HM1 HBX1 HI1 HL0 ⊢
  go_wp2
  go_loopw [4, 8, 9, 10, 11, 12, 13, 14, 15] (fun _ u8 _ _ _ _ _ _ _ wr => ∃ k : Nat, k ≤ N ∧ u8 = .int .i64 k ∧ Hid (wr.ownsMap Tryz.prog 3 unitElem mb (n + k) (putL D (zs.take k))) ∧ Hid (Mv (fun b => b = mb) w1 wr)) (fun _ u8 _ _ _ _ _ _ _ _ => N - (intOf u8).toNat)
  case atStart => exact ⟨0, Nat.zero_le _, rfl, HM1.out, Mv.refl _ _⟩
  case round =>
    obtain ⟨k, hk, rfl, HM, HV⟩ := hrel
    by_cases hkl : k < N
    · have d1 : decide ((k : Int) < (N : Int)) = true := decide_eq_true (by omega)
      have d2 : (k : Int) < (N : Int) := by omega
      have hne : zs ≠ [] := fun e => by have := HN.out; rw [e] at this; simp at this; omega
      obtain ⟨b, off, ha, hc⟩ : ∃ b off, a = some ⟨b, off, none⟩ ∧ ∀ i, i < zs.length → w1.cell? ⟨b, off + i, none⟩ = some (.int .i64 (zs.getD i 0)) := by
        rcases HI1.out with h | h
        · exact absurd h hne
        · exact h
      have hbm : b ≠ mb := by have := HAB.out _ ha hne; simp at this; omega
      subst ha
      have hck := hc k (by rw [HN.out]; exact hkl)
      have hck := (HV.out.cell (p := ⟨b, off + k, none⟩) (World.block_lt_of_cell? w1 ⟨b, off + k, none⟩ hck) hbm).trans hck
      have HPT : Hid (putL D (zs.take (k + 1)) = (putL D (zs.take k)).put (.int .i64 (zs.getD k 0)) (.agg [])) := putL_take (by rw [HN.out]; exact hkl)
      have hzk : 0 ≤ zs.getD k 0 ∧ zs.getD k 0 ≤ 1000000 := HW.out _ (by
        rw [List.getD_eq_getElem?_getD, List.getElem?_eq_getElem (by rw [HN.out]; exact hkl)]
        exact List.getElem_mem _)
      have hlbn : lb ≠ mb := by omega
      have HLB : Hid (wr.heap[lb]? = some (.cells #[.map (some mb)] 84 (0, 0))) := (HV.out.block lb (lt_of_heap HBX1.out) hlbn).trans HBX1.out
      have cl : wr.cell? ⟨lb, 0, none⟩ = some (.map (some mb)) := cell_of_heap HLB.out rfl
      obtain ⟨z, hz⟩ : ∃ z, zs.getD k 0 = z := ⟨_, rfl⟩
      rw [hz] at hck HPT hzk
      clear hc hz
      go_wp2_with (at_mapUpdate; refine wpList_mapUpdate_in _ rfl _ _ _ 84 rfl 3 89 keyN Tryz.underlying84 unitElem mb (n + k) _ rfl HM.out (by unfold maxLen; omega) _ _ _ rfl rfl (keyOf_int_mk Tryz.underlying3 (WalkArith.wf_i64 (by omega))) _ [] unitElem_mk ?_)
      intro w2 hown2 ht2
      have HM2 : Hid (w2.ownsMap Tryz.prog 3 unitElem mb (n + (k + 1)) (putL D (zs.take (k + 1)))) := by
        show World.ownsMap ..
        rw [HPT.out]; exact hown2
      have HV2 : Hid (Mv (fun b => b = mb) w1 w2) := HV.out.grown ht2.grown (fun j e => by cases e; rfl)
      clear hown2 ht2 hck cl
      go_wp2
      go_roundw
      case rel => exact ⟨k + 1, by omega, by go_num, HM2.out, HV2.out⟩
      case measure => (simp [intOf]; try omega)
    · have d1 : decide ((k : Int) < (N : Int)) = false := decide_eq_false (by omega)
      go_wp2
      go_end0
      have hkN : k = N := by omega
      subst hkN
      have q := HM.out
      rw [List.take_of_length_le (by rw [HN.out]; exact Nat.le_refl _)] at q
      exact ⟨rfl, ⟨(HV.out.block lb (lt_of_heap HBX1.out) (by omega)).trans HBX1.out, q⟩, HL0.out.trans (HV.out.below (by have := hb1.size; omega) (fun k e => by omega))⟩
end Go.Proofs.YtkjknbjjchdjlaaGreatDoor
namespace Go.Proofs.YtkjknbjjchdjlaaGreatDoor
open Go.RowKit Go.Maps
/-- What used holds behind so many places. -/
def UsJ (w : World) (D : DataW Unit) (k : Nat) (W : World) : Prop := Below w.heap.size w W ∧ W.heap[w.heap.size + 1]? = some (.cells #[.map (some w.heap.size)] 84 (0, 0)) ∧ ∃ n, n ≤ 50 * k ∧ W.ownsMap Tryz.prog 3 unitElem w.heap.size n (if k ≤ 5 then .map [] else D)
theorem UsJ.alloc {w W : World} {D : DataW Unit} {k : Nat} (h : UsJ w D k W) (o : Obj) : UsJ w D k (W.alloc o) := by
  obtain ⟨q1, q2, n, q3, q4⟩ := h
  exact ⟨q1.alloc q1.size _, (heap_alloc_old W _ (lt_of_heap q2)).trans q2, n, q3, q4.alloc _⟩
theorem UsJ.start (w : World) (D : DataW Unit) : UsJ w D 0 ((w.alloc (.map #[] 0)).alloc (.cells #[.map (some w.heap.size)] 84)) := by
  have s1 : (w.alloc (.map #[] 0)).heap.size = w.heap.size + 1 := World.size_alloc _ _
  refine ⟨((Below.refl _ _).alloc (Nat.le_refl _) _).alloc (by omega) _, ?_, 0, Nat.le_refl _, (World.ownsMap_made w _ _ _).alloc _⟩
  rw [← s1]
  exact heap_alloc_new _ _
theorem UsJ.step {w W : World} {D : DataW Unit} {k : Nat} (h : UsJ w D k W) (hk : k < 10) (hd : k ≠ 5 ∨ D = .map []) : Calls Tryz.prog 55 #[zpV, .pointer (some ⟨w.heap.size + 1, 0, none⟩)] W fun e W' => e = .returned (.tuple #[]) ∧ UsJ w D (k + 1) W' := by
  obtain ⟨q1, q2, n, q3, q4⟩ := h
  have C := used1_any (a := none) (zs := []) (cap := 0) (fr := 0) (sz := 0) q2 q4 (.inl rfl) (by omega) (fun p e => by cases e) (by omega) (by simp) (fun z hz => by simp at hz)
  refine Calls.mono C fun e W' ⟨e1, ⟨e2, e3⟩, e4⟩ => ⟨e1, q1.trans e4, e2, n, by omega, ?_⟩
  by_cases h5 : k = 5
  · have hD : D = .map [] := by rcases hd with h | h; exact absurd h5 h; exact h
    subst hD
    simpa [putL] using e3
  · have : (k + 1 ≤ 5) = (k ≤ 5) := by apply propext; omega
    rw [show (if k + 1 ≤ 5 then DataW.map [] else D) = (if k ≤ 5 then .map [] else D) by simp only [this]]
    exact e3
set_option maxRecDepth 100000 in
set_option maxHeartbeats 2000000 in
theorem used0_any {w : World} {hb db side : Nat} (hbox : w.heap[hb]? = some (.cells (hoC db side (.pointer none)) 60 (0, 0))) :
    Calls Tryz.prog 30 #[.pointer (some ⟨hb, 0, none⟩)] w fun e w' => e = .returned (.map (some w.heap.size)) ∧ UsJ w (.map []) 10 w' := by
  have hlt := lt_of_heap hbox
  have J0 := UsJ.start w (.map [])
  have C1 : Hid (Calls Tryz.prog 54 #[.pointer (some ⟨hb, 0, none⟩), .func (.func 55) #[] #[.pointer (some ⟨w.heap.size + 1, 0, none⟩)]] ((w.alloc (.map #[] 0)).alloc (.cells #[.map (some w.heap.size)] 84)) fun e w' => e = .returned (.tuple #[]) ∧ UsJ w (.map []) 10 w') := by
    refine each_used0 (J := UsJ w (.map [])) ((J0.1.block hb hlt).trans hbox) J0 (fun k W hk h => h.step hk (.inr rfl)) (fun k W o h => h.alloc o) (fun k W h => (h.1.block hb hlt).trans (J0.1.block hb hlt).symm)
  clear J0
  have hmk := run_makeMap (P := Tryz.prog) 84 w
  go_enter Tryz.func30, Tryz.ntmps30
  go_wp2_with fail
  refine Calls.mono C1.out ?_
  rintro e w2 ⟨rfl, q⟩
  have c0 : w2.cell? ⟨w.heap.size + 1, 0, none⟩ = some (.map (some w.heap.size)) := cell_of_heap q.2.1 rfl
  have Q : Hid (UsJ w (.map []) 10 w2) := q
  clear q
  go_wp2
  go_ret
  exact ⟨rfl, Q.out⟩
set_option maxRecDepth 100000 in
set_option maxHeartbeats 2000000 in
theorem used2_any {w : World} {hb db side gb : Nat} {a : Option Addr} {zs : List Int} {cap : Nat} {fr sz : Int} (g0 : w.cell? ⟨gb, 0, none⟩ = some (.slice a zs.length cap)) (g1 : w.cell? ⟨gb, 1, none⟩ = some (.int .i64 fr)) (g2 : w.cell? ⟨gb, 2, none⟩ = some (.int .i64 sz)) (hI : Ints w a zs) (hz : zs.length ≤ 40) (hw : ∀ z ∈ zs, 0 ≤ z ∧ z ≤ 1000000) (hbox : w.heap[hb]? = some (.cells (hoC db side (.pointer (some ⟨gb, 0, none⟩))) 60 (0, 0))) :
    Calls Tryz.prog 30 #[.pointer (some ⟨hb, 0, none⟩)] w fun e w' => e = .returned (.map (some w.heap.size)) ∧ UsJ w (putL (.map []) zs) 10 w' := by
  have hlt := lt_of_heap hbox
  have hgl : gb < w.heap.size := World.block_lt_of_cell? w ⟨gb, 0, none⟩ g0
  have J0 := UsJ.start w (putL (.map []) zs)
  have C1 : Hid (Calls Tryz.prog 54 #[.pointer (some ⟨hb, 0, none⟩), .func (.func 55) #[] #[.pointer (some ⟨w.heap.size + 1, 0, none⟩)]] ((w.alloc (.map #[] 0)).alloc (.cells #[.map (some w.heap.size)] 84)) fun e w' => e = .returned (.tuple #[]) ∧ UsJ w (putL (.map []) zs) 10 w') := by
    refine each_used1 (J := UsJ w (putL (.map []) zs)) ((J0.1.cell (p := ⟨gb, 0, none⟩) hgl).trans g0) ((J0.1.cell (p := ⟨gb, 1, none⟩) hgl).trans g1) ((J0.1.cell (p := ⟨gb, 2, none⟩) hgl).trans g2) ((J0.1.block hb hlt).trans hbox) J0 ?_ (fun k W o h => h.alloc o) (fun k W h => ⟨(h.1.block hb hlt).trans (J0.1.block hb hlt).symm, (h.1.block gb hgl).trans (J0.1.block gb hgl).symm⟩)
    intro k W hk h
    by_cases h5 : k = 5
    · rw [if_pos h5]
      subst h5
      obtain ⟨q1, q2, n, q3, q4⟩ := h
      have C := used1_any (cap := cap) (fr := fr) (sz := sz) q2 q4 (hI.below q1) (by omega) (fun p e h0 => by subst e; obtain ⟨b, off, pt⟩ := p; rcases hI with h | ⟨b', off', e, hc⟩; exact absurd h h0; cases e; exact World.block_lt_of_cell? _ _ (hc 0 (List.length_pos_iff.2 h0))) (by omega) (by omega) hw
      refine Calls.mono C fun e W' ⟨e1, ⟨e2, e3⟩, e4⟩ => ⟨e1, q1.trans e4, e2, n + zs.length, by omega, ?_⟩
      exact e3
    · rw [if_neg h5]
      exact h.step hk (.inl h5)
  clear J0
  have hmk := run_makeMap (P := Tryz.prog) 84 w
  go_enter Tryz.func30, Tryz.ntmps30
  go_wp2_with fail
  refine Calls.mono C1.out ?_
  rintro e w2 ⟨rfl, q⟩
  have c0 : w2.cell? ⟨w.heap.size + 1, 0, none⟩ = some (.map (some w.heap.size)) := cell_of_heap q.2.1 rfl
  have Q : Hid (UsJ w (putL (.map []) zs) 10 w2) := q
  clear q
  go_wp2
  go_ret
  exact ⟨rfl, Q.out⟩
/-- The numbers from 200 on. -/
def upL (k : Nat) : List Int := (List.range k).map fun i : Nat => (200 : Int) + (i : Int)
theorem upL_len (k : Nat) : (upL k).length = k := by simp [upL]
theorem upL_next (k : Nat) : upL (k + 1) = upL k ++ [200 + (k : Int)] := by unfold upL; rw [List.range_succ]; simp
theorem one_int (w : World) (x : Int) (t : TypeId) : ∀ j u, (inL [x])[j]? = some u → (w.alloc (.cells #[.int .i64 x] t)).cell? ((⟨w.heap.size, 0, none⟩ : Addr).add j) = some u := by
  intro j u hj
  rw [addr_add, Nat.zero_add]
  refine (World.cell?_alloc_at _ _ _ _ rfl).trans ?_
  match j with
  | 0 => simpa [inL] using hj
  | j + 1 => simp [inL] at hj
set_option maxRecDepth 100000 in
set_option maxHeartbeats 2000000 in
theorem left_any {w : World} {hb db rb cp n side m gb : Nat} {a : Option Addr} {zs : List Int} {cap : Nat} {fr sz : Int} (h : HK w hb db rb cp n side m (.pointer (some ⟨gb, 0, none⟩))) (g0 : w.cell? ⟨gb, 0, none⟩ = some (.slice a zs.length cap)) (g1 : w.cell? ⟨gb, 1, none⟩ = some (.int .i64 fr)) (g2 : w.cell? ⟨gb, 2, none⟩ = some (.int .i64 sz)) (hI : Ints w a zs) (hz : zs.length ≤ 40) (hw : ∀ z ∈ zs, 0 ≤ z ∧ z ≤ 1000000) (hs : size (putL (.map []) zs) ≤ 100) :
    Calls Tryz.prog 12 #[.pointer (some ⟨hb, 0, none⟩)] w fun e w' => e = .returned (.int .i64 ((n : Int) - 200 - (size (putL (.map []) zs) : Nat))) ∧ Below w.heap.size w w' := by
  obtain ⟨c, hc, q1, _, _, _⟩ := h.disk
  have C1 := kblocks_any hc n q1
  have C2 := used2_any g0 g1 g2 hI hz hw h.box
  have c0 := cell_of_heap (i := 0) h.box rfl
  have hnn := h.nn
  obtain ⟨D, HD⟩ : ∃ D, Hid (putL (.map []) zs = D) := ⟨_, rfl⟩
  rw [HD.out] at C2 hs ⊢
  clear h hc q1 hw hI g0 g1 g2
  go_enter Tryz.func12, Tryz.ntmps12
  go_wp2_with fail
  refine Calls.mono C1 ?_
  rintro e w' ⟨rfl, rfl⟩
  go_wp2_with fail
  refine Calls.mono C2 ?_
  rintro e w2 ⟨rfl, q1, q2, k, q3, q4⟩
  have Q1 : Hid (Below w.heap.size w w2) := q1
  rw [if_neg (by decide)] at q4
  clear q1 q2
  go_wp2_with (at_len; refine wpList_len_own _ rfl _ 84 rfl 3 89 Tryz.underlying84 _ _ k D rfl q4 ?_)
  go_wp2
  go_ret
  exact ⟨rfl, Q1.out⟩
end Go.Proofs.YtkjknbjjchdjlaaGreatDoor
namespace Go.Proofs.YtkjknbjjchdjlaaGreatDoor
open Go.RowKit Go.Maps
theorem nr_cap {base : Nat} {w : World} {a : Option Addr} {n cap : Nat} {L : List Int} (h : NR base w (.slice a n cap) L) (hL : L.length ≠ 0) : L.length ≤ cap := by
  rcases h.2 with ⟨_, h0⟩ | ⟨g, c, cur, e, _, _, hle, _⟩
  · exact absurd h0 hL
  · cases e; exact hle
set_option maxRecDepth 100000 in
set_option maxHeartbeats 4000000 in
theorem reserve_any {w : World} {hb db rb cp side m : Nat} (h : HK w hb db rb cp 300 side m (.pointer none)) :
    Calls Tryz.prog 22 #[.pointer (some ⟨hb, 0, none⟩), .int .i64 10] w fun e w' => (∃ a cap, e = .returned (.tuple #[.slice a 10 cap, .nilIface]) ∧ 10 ≤ cap ∧ Ints w' a (upL 10) ∧ ∀ p, a = some p → w.heap.size ≤ p.block) ∧ Below w.heap.size w w' := by
  obtain ⟨i0, hi0, hz0, hz1, hz2⟩ := kinfo_three Tryz.infoIn
  have C1 := used0_any h.box
  have HH : Hid (HK w hb db rb cp 300 side m (.pointer none)) := h
  clear h
  go_enter Tryz.func22, Tryz.ntmps22
  go_wp2_with fail
  refine Calls.mono C1 ?_
  rintro e w2 ⟨rfl, q1, q2, n, q3, q4⟩
  rw [if_neg (by decide)] at q4
  have HB : Hid (Below w.heap.size w w2) := q1
  have HM : Hid (w2.ownsMap Tryz.prog 3 unitElem w.heap.size n (.map [])) := q4
  have HLT : Hid (w.heap.size < w2.heap.size) := ownsMap_lt q4
  obtain ⟨mb, HMB⟩ : ∃ mb, Hid (w.heap.size = mb) := ⟨_, rfl⟩
  obtain ⟨B, HBB⟩ : ∃ B, Hid (w2.heap.size = B) := ⟨_, rfl⟩
  rw [HMB.out] at HM ⊢
  clear q1 q2 q4
  go_wp2
  go_loopw [7, 8, 9, 10, 13, 14, 15, 16, 17, 18, 19, 20, 21, 22, 23, 24, 25, 26, 27, 28, 29, 30, 31, 32, 33, 34, 35, 36, 37, 38, 39] (fun u7 u8 _ _ _ _ _ _ _ _ _ _ _ _ _ _ _ _ _ _ _ _ _ _ _ _ _ _ _ _ _ wr => ∃ k : Nat, k ≤ 10 ∧ u8 = .int .i64 (200 + (k : Int)) ∧ Hid (NR B wr u7 (upL k)) ∧ Hid (Below B w2 wr)) (fun _ u8 _ _ _ _ _ _ _ _ _ _ _ _ _ _ _ _ _ _ _ _ _ _ _ _ _ _ _ _ _ _ => 10 - (intOf u8 - 200).toNat)
  case atStart => exact ⟨0, Nat.zero_le _, rfl, World.ownsRow_nil _ _ _ _, Below.refl _ _⟩
  case round =>
    obtain ⟨k, hk, rfl, HR, HW⟩ := hrel
    have HK2 : Hid (HK wr hb db rb cp 300 side m (.pointer none)) := (HH.out.below HB.out).mv (S := fun _ => False) (Mv.of (by rw [HBB.out]; exact HW.out)) id id id
    have c0 := cell_of_heap (i := 0) HK2.out.box rfl
    obtain ⟨c, hc, hsz, _⟩ := HK2.out.disk
    have C2 := kblocks_any hc 300 hsz
    clear hc hsz
    have hrl := HR.out.1
    obtain ⟨a, cap, rfl, hin⟩ := nr_ints HR.out
    rw [upL_len] at HR
    rw [upL_len]
    by_cases hlt : k < 10
    · have d1 : decide ((200 : Int) + (k : Int) < 300) = true := decide_eq_true (by omega)
      have d2 : decide ((k : Int) < 10) = true := decide_eq_true (by omega)
      have HMR : Hid (wr.ownsMap Tryz.prog 3 unitElem mb n (.map [])) := ownsMap_grown HM.out (HW.out.block mb (by have := HLT.out; have := HMB.out; have := HBB.out; omega))
      go_wp2_with fail
      refine Calls.mono C2 ?_
      rintro e w' ⟨rfl, rfl⟩
      have hh : ∀ kl, Maps.has (DataW.map [] : DataW Unit) kl = false := fun _ => rfl
      have hwf : (Lit.int .i64 (200 + (k : Int))).wf = true := WalkArith.wf_i64 (by omega)
      clear C2 c0 hin
      have s1 : (wr.alloc (.cells #[] 89)).heap.size = wr.heap.size + 1 := World.size_alloc _ _
      have hone : ∀ j u, (inL [200 + (k : Int)])[j]? = some u → ((wr.alloc (.cells #[] 89)).alloc (.cells #[.int .i64 (200 + (k : Int))] 3)).cell? ((⟨wr.heap.size + 1, 0, none⟩ : Addr).add j) = some u := by rw [← s1]; exact one_int _ _ _
      have hrow : wr.ownsRow B 3 1 (.slice a k cap) k (inL (upL k)) := by
        have q := HR.out
        unfold NR at q
        rw [upL_len] at q
        exact q
      have hsB := HW.out.size
      rw [HBB.out] at hsB
      go_wp2_with first
        | (at_lookup; refine wpList_lookup_own_unit _ rfl _ _ 84 rfl 3 89 keyN Tryz.underlying84 (zeroN _) mb n _ rfl HMR.out _ _ rfl (keyOf_int_mk Tryz.underlying3 hwf) ?_)
        | (at_builtin; refine wpList_append_src ((wr.alloc (.cells #[] 89)).alloc (.cells #[.int .i64 (200 + (k : Int))] 3)) rfl (.tmp 36) (.tmp 38) 41 rfl B 3 i0 (.int .i64 0) 1 8 Tryz.underlying41 hi0 hz0 hz1 hz2 rfl (by decide) _ k (inL (upL k)) rfl (World.ownsRow.alloc (World.ownsRow.alloc hrow _) _) (some ⟨wr.heap.size + 1, 0, none⟩) 1 1 (inL [200 + (k : Int)]) rfl rfl (.inr ⟨_, rfl, hone⟩) (inL_one _) (by unfold maxLen; omega) (by omega) (by rw [World.size_alloc, World.size_alloc]; omega) ?_)
      intro v7 w7 hown7 hgr7 ho7
      have HR7 : Hid (NR B w7 v7 (upL (k + 1))) := by
        show World.ownsRow ..
        rw [upL_len, upL_next, inL_append]
        exact hown7
      have HW7 : Hid (Below B w2 w7) := ((HW.out.alloc hsB (.cells #[] 89)).alloc (by rw [s1]; omega) _).grown hgr7 (by rw [World.size_alloc, World.size_alloc]; omega) (fun g e => ((World.ownsRow.lt hrow) g e).1)
      clear hown7 hgr7 ho7 hrow hone HR
      go_wp2
      go_roundw
      case rel => exact ⟨k + 1, by omega, by go_num, HR7.out, HW7.out⟩
      case measure => (simp [intOf]; try omega)
    · have hk10 : k = 10 := by omega
      subst hk10
      have d1 : decide ((200 : Int) + ((10 : Nat) : Int) < 300) = true := by decide
      have hrow : ∀ p, a = some p → B ≤ p.block := fun p e => by
        have q := World.ownsRow.lt HR.out p.block (by rw [e]; rfl)
        exact q.1
      have HI : Hid (Ints wr a (upL 10)) := hin
      have HCP : Hid (10 ≤ cap) := nr_cap HR.out (by decide)
      clear hin
      go_wp2_with fail
      refine Calls.mono C2 ?_
      rintro e w' ⟨rfl, rfl⟩
      go_wp2
      go_ret2
      exact ⟨⟨a, cap, rfl, HCP.out, HI.out, fun p e => by have := hrow p e; have := HBB.out; have := HLT.out; omega⟩, HB.out.trans (HW.out.mono (by have := HBB.out; have := HLT.out; omega))⟩
end Go.Proofs.YtkjknbjjchdjlaaGreatDoor
