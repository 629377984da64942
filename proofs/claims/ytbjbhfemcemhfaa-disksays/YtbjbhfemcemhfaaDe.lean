/-
  THE PROGRAM's DISK: New, Copy; the closed fact: the walks.
-/
import Derived.Test.YtbjbhfemcemhfaaDd
import Derived.Lib.SliceRun
import Derived.OwnWalk
namespace Go.Proofs.Ytbjbhfemcemhfaa
open Go.RowKit

theorem Try.infoU : (Try.prog.info? 5).map (fun i => (i.zero, i.size, i.bytes)) = some (some (.int .u8 0), 1, 1) := by kernel_rfl
theorem kinfo_three {P : Program} {t : TypeId} {z : Value} {n m : Nat} (h : (P.info? t).map (fun i => (i.zero, i.size, i.bytes)) = some (some z, n, m)) : ∃ i, P.info? t = some i ∧ i.zero = some z ∧ i.size = n ∧ i.bytes = m := by
  cases hi : P.info? t with
  | none => rw [hi] at h; cases h
  | some i => rw [hi] at h; simp at h; exact ⟨i, rfl, h.1, h.2.1, h.2.2⟩
/-- So many noughts. -/
def zeroS (n : Nat) : ByteArray := ⟨(List.replicate n (0 : UInt8)).toArray⟩
theorem zeroS_size (n : Nat) : (zeroS n).size = n := by simp [zeroS, ByteArray.size]
theorem zeroS_cells (n : Nat) : (madeCells #[.int .u8 0] n).toList = Lib.byteCells (zeroS n).data.toList := by
  apply List.ext_getElem
  · simp [madeCells, Lib.byteCells, zeroS]
  · intro i h1 h2
    simp [madeCells, Lib.byteCells, zeroS, Nat.mod_one]
/-- A disk of a box and a row. -/
theorem KB.mk' {w : World} {db base cap n : Nat} {v : Value} {c : Dk} (hrow : w.ownsRow base 5 1 v n (Lib.byteCells c.s.data.toList)) (rb : Nat) (hv : v = .slice (some ⟨rb, 0, none⟩) n cap) (hn : n = c.s.size)
    (hbox : w.heap[db]? = some (.cells #[v, .int .i64 c.cut, .int .i64 c.wr, .bool c.off] 49 (0, 0))) (hne : db ≠ rb) : KB w db rb cap c := by
  subst hv hn
  obtain ⟨h1, h2⟩ := hrow
  rcases h2 with ⟨e, _⟩ | ⟨g, cap', cur, e, hb, hg, hle, hm, hs, htk⟩
  · cases e
  · cases e
    exact ⟨hbox, ⟨cur, hg, by simpa using hs, by simpa using htk⟩, hle, hm, hne⟩
theorem src_bytes {w : World} {db rb cap : Nat} {c : Dk} (h : KB w db rb cap c) : ∀ (j : Nat) u, (Lib.byteCells c.s.data.toList)[j]? = some u → w.cell? ((⟨rb, 0, none⟩ : Addr).add j) = some u := by
  intro j u hu
  have hb := h.bytes
  have hlt : j < c.s.size := by
    have := (List.getElem?_eq_some_iff.1 hu).1
    simpa [Lib.byteCells] using this
  have e : (⟨rb, 0, none⟩ : Addr).add j = ⟨rb, 0 + j, none⟩ := by by_cases h0 : j = 0 <;> simp [Addr.add, h0]
  rw [e, hb j hlt]
  rw [← hu, Lib.byteCells, List.getElem?_map, List.getElem?_eq_getElem (by simpa using hlt)]
  rfl
theorem own_at {w : World} {base n : Nat} {v : Value} {xs : List Value} (h : w.ownsRow base 5 1 v n xs) (h0 : v.ownBlock ≠ none) : ∃ g cap, v = .slice (some ⟨g, 0, none⟩) n cap ∧ base ≤ g ∧ g < w.heap.size := by
  have hl := h.lt
  rcases h.2 with ⟨rfl, _⟩ | ⟨g, cap, cur, rfl, hb, hg, _⟩
  · exact absurd rfl h0
  · exact ⟨g, cap, rfl, hb, lt_of_heap hg⟩

set_option maxRecDepth 100000 in
set_option maxHeartbeats 1000000 in
theorem cloneB_any {w : World} {db rb cap : Nat} {c : Dk} (h : KB w db rb cap c) (hs : c.s.size ≤ 100000000) :
    Calls Try.prog 21 #[.slice (some ⟨rb, 0, none⟩) c.s.size cap] w fun e w' => (∃ g cap', e = .returned (.slice (some ⟨g, 0, none⟩) c.s.size cap') ∧ w.heap.size ≤ g ∧ g < w'.heap.size ∧ w'.ownsRow w.heap.size 5 1 (.slice (some ⟨g, 0, none⟩) c.s.size cap') c.s.size (Lib.byteCells c.s.data.toList)) ∧ Below w.heap.size w w' := by
  have hnil := fun (W : World) (n c : Nat) => Lib.run_eql_slice_nil (P := Try.prog) W 31 5 (some ⟨rb, 0, none⟩) n c 0 0 Try.underlying31
  obtain ⟨i0, hi0, hz0, hz1, hz2⟩ := kinfo_three Try.infoU
  have hB : Below w.heap.size w (w.alloc (.cells #[] 5)) := (Below.refl _ _).alloc (Nat.le_refl _) _
  have hrow : (w.alloc (.cells #[] 5)).ownsRow w.heap.size 5 1 (.slice (some ⟨w.heap.size, 0, none⟩) 0 0) 0 [] := World.ownsRow_made w #[] 0 (Nat.le_refl _) (by decide) rfl
  have hK : KB (w.alloc (.cells #[] 5)) db rb cap c := h.mv (S := fun _ => False) ((Mv.refl _ _).alloc _) id id
  have hsrc := src_bytes hK
  have hsz : w.heap.size ≤ (w.alloc (.cells #[] 5)).heap.size := hB.size
  generalize c.s = s at *
  have hl : (Lib.byteCells s.data.toList).length = s.size * 1 := by simp [Lib.byteCells]
  have h1 := Lib.byteCells_one s.data.toList
  generalize hbb : Lib.byteCells s.data.toList = bb at *
  clear hK h hbb
  have HS : Hid (∀ (j : Nat) u, bb[j]? = some u → (w.alloc (.cells #[] 5)).cell? ((⟨rb, 0, none⟩ : Addr).add j) = some u) := hsrc
  have HL : Hid (bb.length = s.size * 1) := hl
  have HO : Hid (∀ v ∈ bb, v.oneCell' = true) := h1
  clear hsrc hl h1
  go_enter Try.func21, Try.ntmps21
  go_wp2_with (at_builtin; refine wpList_append_src _ rfl (.tmp 5) (.tmp 6) 31 rfl w.heap.size 5 i0 (.int .u8 0) 1 1 Try.underlying31 hi0 hz0 hz1 hz2 rfl (by decide) _ 0 [] rfl hrow (some ⟨rb, 0, none⟩) s.size cap bb rfl HL.out (.inr ⟨_, rfl, HS.out⟩) HO.out (by unfold maxLen; omega) (by omega) hsz ?_)
  intro v2 w4 hown4 hgrow4 ho4
  have hB4 := hB.grown hgrow4 hsz (fun q e => (hrow.lt q e).1)
  have hown4 : w4.ownsRow w.heap.size 5 1 v2 s.size bb := by simpa using hown4
  obtain ⟨g, cap', rfl, hg, hg2⟩ := own_at hown4 (by rcases ho4 with e | e <;> rw [e] <;> simp [Value.ownBlock])
  clear hgrow4 hrow hB HS hsz ho4
  go_wp2
  go_ret
  exact ⟨⟨g, cap', rfl, hg, hg2, hown4⟩, hB4⟩

set_option maxRecDepth 100000 in
set_option maxHeartbeats 1000000 in
theorem kcopy_any {W : World} {db rb cap : Nat} {c : Dk} (h : KB W db rb cap c) (hs : c.s.size ≤ 100000000) :
    Calls Try.prog 14 #[.pointer (some ⟨db, 0, none⟩)] W fun e w' => ∃ db' rb' cap', e = .returned (.pointer (some ⟨db', 0, none⟩)) ∧ KB w' db' rb' cap' c ∧ W.heap.size ≤ db' ∧ W.heap.size ≤ rb' ∧ Below W.heap.size W w' := by
  have HK : Hid (KB W db rb cap c) := h
  obtain ⟨y0, y1, y2, y3, z0, z1, z2, z3⟩ := h.cells
  have hdl := h.lt.1
  have C1 : Hid (Calls Try.prog 21 #[.slice (some ⟨rb, 0, none⟩) c.s.size cap] (W.alloc (.cells #[.slice (some ⟨rb, 0, none⟩) c.s.size cap, .int .i64 c.cut, .int .i64 c.wr, .bool c.off] 49)) fun e w' => (∃ g cap', e = .returned (.slice (some ⟨g, 0, none⟩) c.s.size cap') ∧ (W.alloc (.cells #[.slice (some ⟨rb, 0, none⟩) c.s.size cap, .int .i64 c.cut, .int .i64 c.wr, .bool c.off] 49)).heap.size ≤ g ∧ g < w'.heap.size ∧ w'.ownsRow (W.alloc (.cells #[.slice (some ⟨rb, 0, none⟩) c.s.size cap, .int .i64 c.cut, .int .i64 c.wr, .bool c.off] 49)).heap.size 5 1 (.slice (some ⟨g, 0, none⟩) c.s.size cap') c.s.size (Lib.byteCells c.s.data.toList)) ∧ Below (W.alloc (.cells #[.slice (some ⟨rb, 0, none⟩) c.s.size cap, .int .i64 c.cut, .int .i64 c.wr, .bool c.off] 49)).heap.size (W.alloc (.cells #[.slice (some ⟨rb, 0, none⟩) c.s.size cap, .int .i64 c.cut, .int .i64 c.wr, .bool c.off] 49)) w') :=
    cloneB_any (h.mv (S := fun _ => False) ((Mv.refl _ _).alloc _) id id) hs
  clear h
  go_enter Try.func14, Try.ntmps14
  go_wp2_with fail
  refine Calls.mono C1.out ?_
  rintro e w2 ⟨⟨g, cap', rfl, hg, hg2, hown⟩, hB⟩
  clear C1
  have hbox : w2.heap[W.heap.size]? = some (.cells #[.slice (some ⟨rb, 0, none⟩) c.s.size cap, .int .i64 c.cut, .int .i64 c.wr, .bool c.off] 49 (0, 0)) := (hB.block W.heap.size (by rw [World.size_alloc]; omega)).trans (heap_alloc_new W _)
  have x0 := cell_of_heap (i := 0) hbox rfl
  have f0 := frozen_of_heap hbox 0
  have hB1 : Below W.heap.size W w2 := ((Below.refl _ _).alloc (Nat.le_refl _) _).trans (hB.mono (by rw [World.size_alloc]; omega))
  have HB1 : Hid (Below W.heap.size W w2) := hB1
  have HX : Hid (w2.heap[W.heap.size]? = some (.cells #[.slice (some ⟨rb, 0, none⟩) c.s.size cap, .int .i64 c.cut, .int .i64 c.wr, .bool c.off] 49 (0, 0))) := hbox
  have hgne : W.heap.size ≠ g := by rw [World.size_alloc] at hg; omega
  have hgle : W.heap.size ≤ g := by rw [World.size_alloc] at hg; omega
  have HOW : Hid (w2.ownsRow (W.alloc (.cells #[.slice (some ⟨rb, 0, none⟩) c.s.size cap, .int .i64 c.cut, .int .i64 c.wr, .bool c.off] 49)).heap.size 5 1 (.slice (some ⟨g, 0, none⟩) c.s.size cap') c.s.size (Lib.byteCells c.s.data.toList)) := hown
  clear hbox hB hB1 hg hg2 hown y0 y1 y2 y3
  go_wp2
  go_ret
  refine ⟨W.heap.size, g, cap', rfl, ?_, Nat.le_refl _, hgle, HB1.out.setCell (Nat.le_refl _) _⟩
  refine KB.mk' (v := .slice (some ⟨g, 0, none⟩) c.s.size cap') (n := c.s.size) (base := (W.alloc (.cells #[.slice (some ⟨rb, 0, none⟩) c.s.size cap, .int .i64 c.cut, .int .i64 c.wr, .bool c.off] 49)).heap.size) ?_ g rfl rfl (Lib.heap_setCell_same (i := 0) HX.out _) hgne
  exact HOW.out.kept (Lib.grownBy_setCell w2 W.heap.size 0 _) (Or.inr (fun e => hgne (Option.some.inj e).symm))

set_option maxRecDepth 100000 in
set_option maxHeartbeats 1000000 in
theorem knew_no (n : Int) (W : World) (h : n < 0 ∨ 2000 < n) :
    Calls Try.prog 5 #[.int .i64 n] W fun e w' => e = .returned (.tuple #[.pointer none, .iface 47 (.int .i64 1)]) ∧ W = w' := by
  by_cases h1 : n < 0
  · have b1 : decide (n < 0) = true := decide_eq_true h1
    go_enter Try.func5, Try.ntmps5
    go_wp2
    go_ret2
    exact ⟨rfl, rfl⟩
  · have h2 : 2000 < n := by omega
    have b1 : decide (n < 0) = false := decide_eq_false h1
    have b2 : decide (2000 < n) = true := decide_eq_true h2
    go_enter Try.func5, Try.ntmps5
    go_wp2
    go_ret2
    exact ⟨rfl, rfl⟩

set_option maxRecDepth 100000 in
set_option maxHeartbeats 1000000 in
theorem knew_any (n : Nat) (W : World) (h : n ≤ 2000) :
    Calls Try.prog 5 #[.int .i64 n] W fun e w' => ∃ db rb cap, e = .returned (.tuple #[.pointer (some ⟨db, 0, none⟩), .nilIface]) ∧ KB w' db rb cap ⟨zeroS (64 * n), -1, 0, false⟩ ∧ W.heap.size ≤ db ∧ W.heap.size ≤ rb ∧ Below W.heap.size W w' := by
  have b1 : decide ((n : Int) < 0) = false := decide_eq_false (by omega)
  have b2 : decide (2000 < (n : Int)) = false := decide_eq_false (by omega)
  obtain ⟨i0, hi0, hz0, hz1, hz2⟩ := kinfo_three Try.infoU
  have HB : Hid (i0.bytes = 1) := hz2
  go_enter Try.func5, Try.ntmps5
  go_wp2_with (at_make; refine wpList_make_full _ rfl _ _ 31 rfl W.heap.size 5 i0 (.int .u8 0) 1 Try.underlying31 hi0 hz0 hz1 .i64 .i64 _ _ (64 * n) rfl rfl (by omega) (by omega) (by rw [HB.out]; omega) (by unfold maxLen; omega) (Nat.le_refl _) ?_)
  intro w1 hown hgrow
  rw [zeroS_cells] at hown
  have HOW : Hid (w1.ownsRow W.heap.size 5 1 (.slice (some ⟨W.heap.size, 0, none⟩) (64 * n) (64 * n)) (64 * n) (Lib.byteCells (zeroS (64 * n)).data.toList)) := hown
  have HB1 : Hid (Below W.heap.size W w1) := ⟨hgrow.os, hgrow.tape, hgrow.output, hgrow.size, fun k hk => hgrow.block k hk (by simp)⟩
  have hl1 : W.heap.size < w1.heap.size := (hown.lt W.heap.size rfl).2
  clear hown hgrow
  go_wp2
  go_ret2
  refine ⟨w1.heap.size, W.heap.size, 64 * n, rfl, ?_, by omega, Nat.le_refl _, HB1.out.alloc (Nat.le_of_lt hl1) _⟩
  refine KB.mk' (v := .slice (some ⟨W.heap.size, 0, none⟩) (64 * n) (64 * n)) (n := 64 * n) (base := W.heap.size) ?_ W.heap.size rfl (zeroS_size _).symm ?_ (by omega)
  · exact HOW.out.alloc _
  · exact heap_alloc_new w1 _
end Go.Proofs.Ytbjbhfemcemhfaa
