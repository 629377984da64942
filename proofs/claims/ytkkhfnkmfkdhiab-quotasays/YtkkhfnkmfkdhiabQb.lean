/-
  THE PROGRAM's POOL: New, Left, Of, Take, Give: the walks.
-/
import Derived.Test.YtkkhfnkmfkdhiabNp
import Derived.Test.YtkkhfnkmfkdhiabAg
import Derived.Test.YtkkhfnkmfkdhiabQa
import Derived.Maps.OwnOps
namespace Go.Proofs.Ytkkhfnkmfkdhiab
open Go.RowKit Go.Maps

theorem keyI : Keyed Try.prog 3 := int_keyed Try.underlying3
theorem zeroI (w : World) : (zeroValue 3).run Try.prog w = .ok (.int .i64 0) w := by kernel_rfl
/-- The program's pool in memory. -/
structure PB (w : World) (pb mb : Nat) (left : Int) (n : Nat) (L : Ppl) : Prop where
  box : TBox w pb (.int .i64 left) (.map (some mb))
  mp : ∃ D, w.ownsMap Try.prog 3 (plainElem Try.prog 3) mb n D ∧ Tie D L
  ne : pb ≠ mb
theorem TBox.mv {S : Nat → Prop} {w w' : World} {b : Nat} {u v : Value} (h : TBox w b u v) (hb : Mv S w w') (hs : ¬ S b) : TBox w' b u v := by
  have hl := h.lt
  obtain ⟨h0, h1, h2, h3⟩ := h
  exact ⟨(hb.cell (p := ⟨b, 0, none⟩) hl hs).trans h0, (hb.cell (p := ⟨b, 1, none⟩) hl hs).trans h1, (hb.frozen (p := ⟨b, 0, none⟩) hl hs).trans h2, (hb.frozen (p := ⟨b, 1, none⟩) hl hs).trans h3⟩
theorem ownsMap_mv {S : Nat → Prop} {w w' : World} {b n : Nat} {D : DataW Unit} (h : w.ownsMap Try.prog 3 (plainElem Try.prog 3) b n D) (hb : Mv S w w') (hs : ¬ S b) : w'.ownsMap Try.prog 3 (plainElem Try.prog 3) b n D := by
  have hl := h.lt
  obtain ⟨es, clock, hh, r⟩ := h
  exact ⟨es, clock, (hb.block b hl hs).trans hh, r⟩
theorem PB.mv {S : Nat → Prop} {w w' : World} {pb mb : Nat} {left : Int} {n : Nat} {L : Ppl} (h : PB w pb mb left n L) (hb : Mv S w w') (h1 : ¬ S pb) (h2 : ¬ S mb) : PB w' pb mb left n L := by
  obtain ⟨D, hD, hT⟩ := h.mp
  exact ⟨h.box.mv hb h1, ⟨D, ownsMap_mv hD hb h2, hT⟩, h.ne⟩
theorem PB.below {w w' : World} {pb mb : Nat} {left : Int} {n : Nat} {L : Ppl} {B : Nat} (h : PB w pb mb left n L) (hb : Below B w w') (h1 : pb < B) (h2 : mb < B) : PB w' pb mb left n L :=
  h.mv (S := fun k => B ≤ k) ⟨hb.os, hb.tape, hb.output, hb.size, fun k _ hk => hb.block k (by omega)⟩ (by omega) (by omega)
def At2 (a b : Nat) : Nat → Prop := fun k => k = a ∨ k = b

set_option maxRecDepth 100000 in
set_option maxHeartbeats 1000000 in
theorem qleft_any {W : World} {pb mb : Nat} {left : Int} {n : Nat} {L : Ppl} (h : PB W pb mb left n L) :
    Calls Try.prog 59 #[.pointer (some ⟨pb, 0, none⟩)] W fun e w' => e = .returned (.int .i64 left) ∧ W = w' := by
  obtain ⟨h0, h1, h2, h3⟩ := h.box
  go_enter Try.func59, Try.ntmps59
  go_wp2
  go_ret
  exact ⟨rfl, rfl⟩

set_option maxRecDepth 100000 in
set_option maxHeartbeats 1000000 in
theorem qnew_no (room : Int) (W : World) (h : room < 0 ∨ 2000 < room) :
    Calls Try.prog 52 #[.int .i64 room] W fun e w' => e = .returned (.tuple #[.pointer none, .iface 96 (.int .i64 1)]) ∧ W = w' := by
  go_enter Try.func52, Try.ntmps52
  by_cases h1 : room < 0
  · go_wp2
    go_ret2
    exact ⟨rfl, rfl⟩
  · have h2 : 2000 < room := by omega
    have b1 : decide (room < 0) = false := decide_eq_false h1
    have b2 : decide (2000 < room) = true := decide_eq_true h2
    go_wp2
    go_ret2
    exact ⟨rfl, rfl⟩

set_option maxRecDepth 100000 in
set_option maxHeartbeats 1000000 in
theorem qnew_any (room : Int) (W : World) (h0 : 0 ≤ room) (h1 : room ≤ 2000) :
    Calls Try.prog 52 #[.int .i64 room] W fun e w' => ∃ pb mb, e = .returned (.tuple #[.pointer (some ⟨pb, 0, none⟩), .nilIface]) ∧ PB w' pb mb room 0 [] ∧ W.heap.size ≤ pb ∧ W.heap.size ≤ mb ∧ pb < w'.heap.size ∧ mb < w'.heap.size ∧ Below W.heap.size W w' := by
  have hmm := @run_makeMap Try.prog
  have b1 : decide (room < 0) = false := decide_eq_false (by omega)
  have b2 : decide (2000 < room) = false := decide_eq_false (by omega)
  go_enter Try.func52, Try.ntmps52
  go_wp2
  go_ret2
  have hB : Below W.heap.size W ((W.alloc (.map #[] 0)).alloc (.cells #[.int .i64 room, .map (some W.heap.size)] 158)) := ((Below.refl _ _).alloc (Nat.le_refl _) _).alloc (by simp) _
  refine ⟨W.heap.size + 1, W.heap.size, rfl, ⟨?_, ⟨_, ((World.ownsMap_made W Try.prog 3 (plainElem Try.prog 3)).alloc _), tie_nil⟩, by omega⟩, by omega, Nat.le_refl _, by simp, by simp; omega, hB⟩
  have := TBox.new (W.alloc (.map #[] 0)) (.int .i64 room) (.map (some W.heap.size)) 158
  rwa [World.size_alloc] at this

set_option maxRecDepth 100000 in
set_option maxHeartbeats 1000000 in
theorem qof_any {W : World} {pb mb : Nat} {left : Int} {n : Nat} {L : Ppl} (who : Int) (hw : (Lit.int .i64 who).wf = true) (h : PB W pb mb left n L) :
    Calls Try.prog 57 #[.pointer (some ⟨pb, 0, none⟩), .int .i64 who] W fun e w' => e = .returned (.tuple #[.int .i64 ((fnd L who).getD 0), .bool (fnd L who).isSome]) ∧ W = w' := by
  obtain ⟨D, hD, hT⟩ := h.mp
  have HD : Hid (W.ownsMap Try.prog 3 (plainElem Try.prog 3) mb n D) := hD
  have HT : Hid (Tie D L) := hT
  obtain ⟨h0, h1, h2, h3⟩ := h.box
  clear hD hT h
  obtain ⟨z, HZ⟩ : ∃ z, Hid ((fnd L who).getD 0 = z) := ⟨_, rfl⟩
  obtain ⟨b, HB⟩ : ∃ b, Hid ((fnd L who).isSome = b) := ⟨_, rfl⟩
  rw [HZ.out, HB.out]
  go_enter Try.func57, Try.ntmps57
  go_wp2_with (at_lookup; refine wpList_lookup_own_ok_int _ rfl _ _ 156 rfl 3 3 .i64 keyI Try.underlying156 Try.underlying3 (zeroI _) mb n D rfl HD.out _ _ rfl (keyOf_int_mk Try.underlying3 hw) ?_)
  intro c hc hwc
  have ec := (tie_at HT.out hc).trans HZ.out
  have eb := (HT.out.2 who).1.trans HB.out
  clear hc hwc HT HD HZ HB hw
  subst ec
  rw [eb]
  clear eb
  go_wp2
  go_ret2
  exact ⟨rfl, rfl⟩

set_option maxRecDepth 100000 in
set_option maxHeartbeats 1000000 in
theorem qtake_any {W : World} {pb mb : Nat} {left : Int} {n : Nat} {L : Ppl} (who k : Int) (hw : (Lit.int .i64 who).wf = true) (hk : (Lit.int .i64 k).wf = true) (h : PB W pb mb left n L) (hn : n ≤ 1000) (hl0 : 0 ≤ left) (hl1 : left ≤ 100000) :
    Calls Try.prog 55 #[.pointer (some ⟨pb, 0, none⟩), .int .i64 who, .int .i64 k] W fun e w' => e = .returned (errV (tkF left L who k)) ∧ Mv (At2 pb mb) W w' ∧ PB w' pb mb (tkE left L who k) (n + 1) (tkL left L who k) := by
  have hne := h.ne
  obtain ⟨D, hD, hT⟩ := h.mp
  have HD : Hid (W.ownsMap Try.prog 3 (plainElem Try.prog 3) mb n D) := hD
  have HT : Hid (Tie D L) := hT
  have HP : Hid (PB W pb mb left (n + 1) L) := ⟨h.box, ⟨D, hD.mono (by omega), hT⟩, hne⟩
  obtain ⟨h0, h1, h2, h3⟩ := h.box
  have HK : Hid ((Lit.int .i64 k).wf = true) := hk
  have HW : Hid ((Lit.int .i64 who).wf = true) := hw
  clear hD hT h hk hw
  by_cases hk0 : k < 0
  · have e : tkF left L who k = 1 := if_pos hk0
    have e1 : tkE left L who k = left := if_neg (by rw [e]; decide)
    have e2 : tkL left L who k = L := if_neg (by rw [e]; decide)
    rw [e, e1, e2]
    clear e e1 e2
    have b1 : decide (k < 0) = true := decide_eq_true hk0
    go_enter Try.func55, Try.ntmps55
    go_wp2
    go_ret
    exact ⟨rfl, Mv.refl _ _, HP.out⟩
  have b1 : decide (k < 0) = false := decide_eq_false hk0
  cases hf : fnd L who with
  | some z =>
    have e : tkF left L who k = 6 := by unfold tkF; rw [if_neg hk0, hf]; rfl
    have e1 : tkE left L who k = left := if_neg (by rw [e]; decide)
    have e2 : tkL left L who k = L := if_neg (by rw [e]; decide)
    have eb : Maps.has D (.int .i64 who) = true := (HT.out.2 who).1.trans (by rw [hf]; rfl)
    rw [e, e1, e2]
    clear e e1 e2 hf
    go_enter Try.func55, Try.ntmps55
    go_wp2_with (at_lookup; refine wpList_lookup_own_ok_int _ rfl _ _ 156 rfl 3 3 .i64 keyI Try.underlying156 Try.underlying3 (zeroI _) mb n D rfl HD.out _ _ rfl (keyOf_int_mk Try.underlying3 HW.out) ?_)
    intro c hc hwc
    clear hc hwc eb
    go_wp2
    go_ret
    exact ⟨rfl, Mv.refl _ _, HP.out⟩
  | none =>
    have eb : Maps.has D (.int .i64 who) = false := (HT.out.2 who).1.trans (by rw [hf]; rfl)
    have HF : Hid (fnd L who = none) := hf
    clear hf
    by_cases hlt : left < k
    · have e : tkF left L who k = 13 := by unfold tkF; rw [if_neg hk0, HF.out, if_neg (by simp), if_pos hlt]
      have e1 : tkE left L who k = left := if_neg (by rw [e]; decide)
      have e2 : tkL left L who k = L := if_neg (by rw [e]; decide)
      rw [e, e1, e2]
      clear e e1 e2
      have b2 : decide (left < k) = true := decide_eq_true hlt
      go_enter Try.func55, Try.ntmps55
      go_wp2_with (at_lookup; refine wpList_lookup_own_ok_int _ rfl _ _ 156 rfl 3 3 .i64 keyI Try.underlying156 Try.underlying3 (zeroI _) mb n D rfl HD.out _ _ rfl (keyOf_int_mk Try.underlying3 HW.out) ?_)
      intro c hc hwc
      clear hc hwc eb
      go_wp2
      go_ret
      exact ⟨rfl, Mv.refl _ _, HP.out⟩
    · have e : tkF left L who k = 0 := by unfold tkF; rw [if_neg hk0, HF.out, if_neg (by simp), if_neg hlt]
      have e1 : tkE left L who k = left - k := if_pos e
      have e2 : tkL left L who k = L ++ [(who, k)] := if_pos e
      rw [e, e1, e2]
      clear e e1 e2
      have b2 : decide (left < k) = false := decide_eq_false hlt
      go_enter Try.func55, Try.ntmps55
      go_wp2_with (at_lookup; refine wpList_lookup_own_ok_int _ rfl _ _ 156 rfl 3 3 .i64 keyI Try.underlying156 Try.underlying3 (zeroI _) mb n D rfl HD.out _ _ rfl (keyOf_int_mk Try.underlying3 HW.out) ?_)
      intro c hc hwc
      clear hc hwc eb
      go_wp2_with (at_mapUpdate; refine wpList_mapUpdate_in _ rfl _ _ _ 156 rfl 3 3 keyI Try.underlying156 (plainElem Try.prog 3) mb n D rfl HD.out (by unfold maxLen; omega) _ _ _ rfl rfl (keyOf_int_mk Try.underlying3 HW.out) _ [] (plainElem_int Try.underlying3 HK.out) ?_)
      intro w1 hown1 hturn1
      have M1 : Mv (At2 pb mb) W w1 := (Mv.refl _ W).grown hturn1.grown (fun q e => .inr (by simpa using e.symm))
      have B1 : TBox w1 pb (.int .i64 left) (.map (some mb)) := by
        have q := hturn1.grown
        have hl := HP.out.box.lt
        exact TBox.mv (S := fun k => k = mb) HP.out.box ((Mv.refl _ W).grown q (fun k e => by simpa using e.symm)) hne
      have HM1 : Hid (w1.ownsMap Try.prog 3 (plainElem Try.prog 3) mb (n + 1) (D.put (.int .i64 who) (.lit (.int .i64 k)))) := hown1
      have HB1 : Hid (TBox w1 pb (.int .i64 left) (.map (some mb))) := B1
      clear hown1 hturn1 h0 h1 h2 h3
      obtain ⟨h0, h1, h2, h3⟩ := B1
      go_wp2
      go_ret
      refine ⟨rfl, M1.setCell (.inl rfl) _, ?_⟩
      refine ⟨HB1.out.set0 _, ⟨_, HM1.out.setCell (fun e => hne e.symm) _, tie_put HT.out HF.out⟩, hne⟩

set_option maxRecDepth 100000 in
set_option maxHeartbeats 1000000 in
theorem qgive_any {W : World} {pb mb : Nat} {left : Int} {n : Nat} {L : Ppl} (who : Int) (hw : (Lit.int .i64 who).wf = true) (h : PB W pb mb left n L) (hd : Dst L) (hl0 : 0 ≤ left) (hl1 : left + (fnd L who).getD 0 ≤ 100000) (hz : 0 ≤ (fnd L who).getD 0) :
    Calls Try.prog 53 #[.pointer (some ⟨pb, 0, none⟩), .int .i64 who] W fun e w' => e = .returned (errV (gvF L who)) ∧ Mv (At2 pb mb) W w' ∧ PB w' pb mb (gvE left L who) n (gvL L who) := by
  have hne := h.ne
  obtain ⟨D, hD, hT⟩ := h.mp
  have HD : Hid (W.ownsMap Try.prog 3 (plainElem Try.prog 3) mb n D) := hD
  have HT : Hid (Tie D L) := hT
  have HP : Hid (PB W pb mb left n L) := h
  have HDS : Hid (Dst L) := hd
  obtain ⟨h0, h1, h2, h3⟩ := h.box
  have HW : Hid ((Lit.int .i64 who).wf = true) := hw
  clear hD hT h hw hd
  cases hf : fnd L who with
  | none =>
    have e : gvF L who = 5 := by unfold gvF; rw [hf]; rfl
    have e1 : gvE left L who = left := by unfold gvE; rw [hf]; simp
    have e2 : gvL L who = L := by unfold gvL; rw [hf]; rfl
    have eb : Maps.has D (.int .i64 who) = false := (HT.out.2 who).1.trans (by rw [hf]; rfl)
    rw [e, e1, e2]
    clear e e1 e2 hf hl1 hz
    go_enter Try.func53, Try.ntmps53
    go_wp2_with (at_lookup; refine wpList_lookup_own_ok_int _ rfl _ _ 156 rfl 3 3 .i64 keyI Try.underlying156 Try.underlying3 (zeroI _) mb n D rfl HD.out _ _ rfl (keyOf_int_mk Try.underlying3 HW.out) ?_)
    intro c hc hwc
    clear hc hwc eb
    go_wp2
    go_ret
    exact ⟨rfl, Mv.refl _ _, HP.out⟩
  | some z =>
    have e : gvF L who = 0 := by unfold gvF; rw [hf]; rfl
    have e1 : gvE left L who = left + z := by unfold gvE; rw [hf]; rfl
    have e2 : gvL L who = cutI L (ix L who) := by unfold gvL; rw [hf]; rfl
    have eb : Maps.has D (.int .i64 who) = true := (HT.out.2 who).1.trans (by rw [hf]; rfl)
    rw [hf] at hl1 hz
    have hl1 : left + z ≤ 100000 := hl1
    have hz : 0 ≤ z := hz
    have HF : Hid (fnd L who = some z) := hf
    rw [e, e1, e2]
    clear e e1 e2 hf
    go_enter Try.func53, Try.ntmps53
    go_wp2_with (at_lookup; refine wpList_lookup_own_ok_int _ rfl _ _ 156 rfl 3 3 .i64 keyI Try.underlying156 Try.underlying3 (zeroI _) mb n D rfl HD.out _ _ rfl (keyOf_int_mk Try.underlying3 HW.out) ?_)
    intro c hc hwc
    have ec : c = z := (tie_at HT.out hc).trans (by rw [HF.out]; rfl)
    clear hc hwc eb
    subst ec
    go_wp2_with (at_delete; refine wpList_delete_own _ rfl _ _ 156 3 rfl 3 keyI Try.underlying156 (plainElem Try.prog 3) mb n D rfl HD.out _ _ rfl (keyOf_int_mk Try.underlying3 HW.out) ?_)
    intro w1 hown1 hturn1
    have M1 : Mv (At2 pb mb) W w1 := (Mv.refl _ W).grown hturn1.grown (fun q e => .inr (by simpa using e.symm))
    have B1 : TBox w1 pb (.int .i64 left) (.map (some mb)) :=
      TBox.mv (S := fun k => k = mb) HP.out.box ((Mv.refl _ W).grown hturn1.grown (fun k e => by simpa using e.symm)) hne
    have HM1 : Hid (w1.ownsMap Try.prog 3 (plainElem Try.prog 3) mb n (D.del (.int .i64 who))) := hown1
    have HB1 : Hid (TBox w1 pb (.int .i64 left) (.map (some mb))) := B1
    clear hown1 hturn1 h0 h1 h2 h3
    obtain ⟨h0, h1, h2, h3⟩ := B1
    go_wp2
    go_ret
    refine ⟨rfl, M1.setCell (.inl rfl) _, ?_⟩
    refine ⟨HB1.out.set0 _, ⟨_, HM1.out.setCell (fun e => hne e.symm) _, tie_del HT.out HDS.out (ix_get HF.out)⟩, hne⟩
end Go.Proofs.Ytkkhfnkmfkdhiab
