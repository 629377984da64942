/-
  QuotaSays: the walk.
-/
import Derived.Test.YtkkhfnkmfkdhiabQb
import Derived.Test.YtkkhfnkmfkdhiabQd
import Derived.Test.YtkkhfnkmfkdhiabVh
namespace Go.Proofs.Ytkkhfnkmfkdhiab
open Go.RowKit Go.Maps

/-- A step. -/
structure Stp where
  g : Bool
  w : Int
  n : Int
def StM (c : Mem) (a : Option Addr) (l : List Stp) : Prop :=
  l = [] ∨ ∃ b off, a = some ⟨b, off, none⟩ ∧ ∀ (k : Nat) r, l[k]? = some r → c ⟨b, off + k * 3, none⟩ = some (.bool r.g) ∧ c ⟨b, off + k * 3 + 1, none⟩ = some (.int .i64 r.w) ∧ c ⟨b, off + k * 3 + 2, none⟩ = some (.int .i64 r.n)
/-- Both pools, after some steps. -/
structure QI (W wr : World) (pb mb qb : Nat) (room : Int) (n : Nat) (L : Ppl) (vw vn : Value) (j : Nat) : Prop where
  p : PB wr pb mb (room - sm L) n L
  q : QB wr qb room L vw vn
  dst : Dst L
  pos : Pos L
  le : sm L ≤ room
  len : L.length ≤ j
  nn : n ≤ j
  low : Below W.heap.size W wr
  lp : pb < qb
  lm : mb < qb
  wp : W.heap.size ≤ pb
  wm : W.heap.size ≤ mb
theorem gr_below {w w' : World} {B : Nat} (h : Below w.heap.size w w') (_hB : B ≤ w.heap.size) : Mv (fun k => B ≤ k) w w' := Mv.of h
theorem QI.below {W wr w' : World} {pb mb qb : Nat} {room : Int} {n : Nat} {L : Ppl} {vw vn : Value} {j : Nat} (h : QI W wr pb mb qb room n L vw vn j) (hb : Below wr.heap.size wr w') : QI W w' pb mb qb room n L vw vn j := by
  have m : Mv (fun _ => False) wr w' := Mv.of hb
  exact ⟨h.p.mv m id id, h.q.mv m (fun _ e => e.elim), h.dst, h.pos, h.le, h.len, h.nn, h.low.trans (hb.mono h.low.size), h.lp, h.lm, h.wp, h.wm⟩
theorem gv_all {room : Int} {L : Ppl} (who : Int) (hd : Dst L) (hp : Pos L) (hle : sm L ≤ room) : gvE (room - sm L) L who = room - sm (gvL L who) ∧ Dst (gvL L who) ∧ Pos (gvL L who) ∧ sm (gvL L who) ≤ room ∧ (gvL L who).length ≤ L.length ∧ 0 ≤ (fnd L who).getD 0 ∧ (fnd L who).getD 0 ≤ sm L := by
  have hs := sm_pos hp
  unfold gvE gvL
  cases hf : fnd L who with
  | none => simp; exact ⟨hd, hp, hle, hs⟩
  | some z =>
    have hx := ix_get hf
    have hz : 0 ≤ z := hp _ (fnd_mem hf)
    have e := sm_cut hx
    have hc := sm_pos (pos_cut (i := ix L who) hp)
    have hl := cutI_len (List.getElem?_eq_some_iff.1 hx).1
    simp only [Option.isSome_some, if_true, Option.getD_some]
    exact ⟨by rw [e]; omega, dst_cut hd hx, pos_cut hp, by omega, by omega, hz, by omega⟩
theorem tk_all {room : Int} {L : Ppl} (who k : Int) (hd : Dst L) (hp : Pos L) (hle : sm L ≤ room) : tkE (room - sm L) L who k = room - sm (tkL (room - sm L) L who k) ∧ Dst (tkL (room - sm L) L who k) ∧ Pos (tkL (room - sm L) L who k) ∧ sm (tkL (room - sm L) L who k) ≤ room ∧ (tkL (room - sm L) L who k).length ≤ L.length + 1 := by
  unfold tkE tkL
  by_cases h0 : tkF (room - sm L) L who k = 0
  · rw [if_pos h0, if_pos h0]
    unfold tkF at h0
    split at h0
    · omega
    rename_i hk
    split at h0
    · omega
    rename_i hf
    split at h0
    · omega
    rename_i hlt
    have hfn : fnd L who = none := by
      cases hf2 : fnd L who with
      | none => rfl
      | some z => rw [hf2] at hf; exact absurd rfl hf
    have e : sm (L ++ [(who, k)]) = sm L + k := by rw [sm_app]; simp [sm]
    exact ⟨by rw [e]; omega, dst_app hd hfn, pos_app hp (by omega), by rw [e]; omega, by simp⟩
  · rw [if_neg h0, if_neg h0]
    exact ⟨rfl, hd, hp, hle, by omega⟩

theorem PB.mono {w : World} {pb mb : Nat} {left : Int} {n n' : Nat} {L : Ppl} (h : PB w pb mb left n L) (hn : n ≤ n') : PB w pb mb left n' L := by
  obtain ⟨D, hD, hT⟩ := h.mp
  exact ⟨h.box, ⟨D, hD.mono hn, hT⟩, h.ne⟩
theorem tkF_pos (left : Int) (L : Ppl) (who n : Int) : 0 ≤ tkF left L who n := by
  unfold tkF
  repeat' split
  all_goals omega
theorem gvF_pos (L : Ppl) (who : Int) : 0 ≤ gvF L who := by
  unfold gvF
  split <;> omega
theorem take_step {W w5 : World} {pb mb qb : Nat} {room : Int} {n : Nat} {L : Ppl} {vw vn : Value} {j : Nat} (who k : Int) (h : QI W w5 pb mb qb room n L vw vn j) (hr0 : 0 ≤ room) (hr1 : room ≤ 2000) (hj : j ≤ 60) (h1 : (Lit.int .i64 who).wf = true) (h2 : (Lit.int .i64 k).wf = true) :
    ∃ (F : Int) (L2 : Ppl), 0 ≤ F ∧ Hid (Calls Try.prog 55 #[.pointer (some ⟨pb, 0, none⟩), .int .i64 who, .int .i64 k] w5 fun e w' => e = .returned (errV F) ∧ Mv (At2 pb mb) w5 w' ∧ PB w' pb mb (room - sm L2) (n + 1) L2) ∧
      (∀ w6, QB w6 qb room L vw vn → Hid (Calls Try.prog 56 #[.pointer (some ⟨qb, 0, none⟩), .int .i64 who, .int .i64 k] w6 fun e w' => e = .returned (.int .i64 F) ∧ Mv (QS qb vw vn) w6 w' ∧ ∃ vw' vn', QB w' qb room L2 vw' vn')) ∧ Dst L2 ∧ Pos L2 ∧ sm L2 ≤ room ∧ L2.length ≤ j + 1 := by
  obtain ⟨a1, a2, a3, a4, a5⟩ := tk_all who k h.dst h.pos h.le
  have hs := sm_pos h.pos
  have hl := h.le
  have hln := h.len
  have hnn := h.nn
  refine ⟨tkF (room - sm L) L who k, tkL (room - sm L) L who k, tkF_pos _ _ _ _, ?_, fun w6 q => ?_, a2, a3, a4, by omega⟩
  · have := qtake_any who k h1 h2 h.p (by omega) (by omega) (by omega)
    rw [a1] at this
    exact this
  · exact rtake_any q who k (by omega) h.pos h.le (by omega)
theorem give_step {W w5 : World} {pb mb qb : Nat} {room : Int} {n : Nat} {L : Ppl} {vw vn : Value} {j : Nat} (who : Int) (h : QI W w5 pb mb qb room n L vw vn j) (hr0 : 0 ≤ room) (hr1 : room ≤ 2000) (hj : j ≤ 60) (h1 : (Lit.int .i64 who).wf = true) :
    ∃ (F : Int) (L2 : Ppl), 0 ≤ F ∧ Hid (Calls Try.prog 53 #[.pointer (some ⟨pb, 0, none⟩), .int .i64 who] w5 fun e w' => e = .returned (errV F) ∧ Mv (At2 pb mb) w5 w' ∧ PB w' pb mb (room - sm L2) (n + 1) L2) ∧
      (∀ w6, QB w6 qb room L vw vn → Hid (Calls Try.prog 54 #[.pointer (some ⟨qb, 0, none⟩), .int .i64 who] w6 fun e w' => e = .returned (.int .i64 F) ∧ Mv (QS qb vw vn) w6 w' ∧ ∃ vw' vn', QB w' qb room L2 vw' vn')) ∧ Dst L2 ∧ Pos L2 ∧ sm L2 ≤ room ∧ L2.length ≤ j + 1 := by
  obtain ⟨a1, a2, a3, a4, a5, a6, a7⟩ := gv_all who h.dst h.pos h.le
  have hs := sm_pos h.pos
  have hl := h.le
  have hln := h.len
  refine ⟨gvF L who, gvL L who, gvF_pos _ _, ?_, fun w6 q => ?_, a2, a3, a4, by omega⟩
  · refine Calls.mono (qgive_any who h1 h.p h.dst (by omega) (by omega) a6) ?_
    rintro e w' ⟨e1, e2, e3⟩
    rw [a1] at e3
    exact ⟨e1, e2, e3.mono (by omega)⟩
  · refine Calls.mono (rgive_any q who (by omega)) ?_
    rintro e w' ⟨e1, e2, e3⟩
    exact ⟨e1, e2.mono (fun k e => .inl e), e3⟩
theorem at2_lt {pb mb qb : Nat} (h1 : pb < qb) (h2 : mb < qb) : ∀ k, At2 pb mb k → k < qb := fun k e => by rcases e with e | e <;> omega
theorem QI.next {W w5 w6 w7 : World} {pb mb qb : Nat} {room : Int} {n : Nat} {L L2 : Ppl} {vw vn vw' vn' : Value} {j : Nat} (h : QI W w5 pb mb qb room n L vw vn j) (m6 : Mv (At2 pb mb) w5 w6) (p6 : PB w6 pb mb (room - sm L2) (n + 1) L2) (m7 : Mv (QS qb vw vn) w6 w7) (q7 : QB w7 qb room L2 vw' vn') (hd : Dst L2) (hp : Pos L2) (hle : sm L2 ≤ room) (hlen : L2.length ≤ j + 1) : QI W w7 pb mb qb room (n + 1) L2 vw' vn' (j + 1) := by
  have hlp := h.lp
  have hlm := h.lm
  have hwp := h.wp
  have hwm := h.wm
  have hnn := h.nn
  have hb : ∀ k, QS qb vw vn k → qb ≤ k := fun k e => by
    rcases e with e | e | e
    · omega
    · have := (h.q.r1.lt k e.symm).1; omega
    · have := (h.q.r2.lt k e.symm).1; omega
  have hsz := h.low.size
  have hsz6 := m6.size
  refine ⟨p6.mv m7 (fun e => by have := hb _ e; omega) (fun e => by have := hb _ e; omega), q7, hd, hp, hle, hlen, by omega, ?_, hlp, hlm, hwp, hwm⟩
  refine (h.low.trans (m6.below hsz (fun k e => by rcases e with e | e <;> omega))).trans (m7.below (by omega) (fun k e => by have := hb _ e; omega))
theorem qs_ne {w5 : World} {qb bb : Nat} {room : Int} {L : Ppl} {vw vn : Value} (_h : QB w5 qb room L vw vn) (hb : qb < bb) (h1 : some bb ≠ vw.ownBlock) (h2 : some bb ≠ vn.ownBlock) : ¬ QS qb vw vn bb := fun e => by
  rcases e with e | e | e
  · omega
  · exact h1 e
  · exact h2 e

set_option maxRecDepth 100000 in
set_option maxHeartbeats 1000000 in
theorem holds_any (W : World) : Calls Try.prog 49 #[] W fun e w' => e = .returned (.bool true) ∧ Below W.heap.size W w' := by
  have t1 : tkF 10 [] 3 4 = 0 := by decide
  have t2 : tkE 10 [] 3 4 = 6 := by decide
  go_enter Try.func49, Try.ntmps49
  go_wp2_with fail
  refine Calls.mono (qnew_any 10 W (by omega) (by omega)) ?_
  rintro e w1 ⟨pb, mb, rfl, hP, hp1, hp2, hp3, hp4, hB1⟩
  have HP : Hid (PB w1 pb mb 10 0 []) := hP
  clear hP
  go_wp2_with fail
  refine Calls.mono (qtake_any 3 4 (by decide) (by decide) HP.out (by omega) (by omega) (by omega)) ?_
  rintro e w2 ⟨rfl, M2, hP2⟩
  rw [t1]
  rw [t2] at hP2
  have hB2 : Below W.heap.size W w2 := hB1.trans (M2.below (Nat.le_of_lt (Nat.lt_of_le_of_lt hp1 hp3)) (fun k e => by rcases e with e | e <;> omega))
  have HP2 : Hid (PB w2 pb mb 6 (0 + 1) (tkL 10 [] 3 4)) := hP2
  clear hP2 M2 HP t1 t2
  go_wp2_with fail
  refine Calls.mono (same_errV 0 (by omega) w2) ?_
  rintro e w3 ⟨rfl, rfl⟩
  go_wp2_with fail
  refine Calls.mono (qleft_any HP2.out) ?_
  rintro e w3 ⟨rfl, rfl⟩
  go_wp2
  go_ret
  exact ⟨rfl, hB2⟩

set_option maxRecDepth 100000 in
set_option maxHeartbeats 4000000 in
theorem quota_any {W : World} {x : Nd} {h : Hd} (hN : NdV W.cell? x h) (room : Int) (a : Option Addr) (cap : Nat) (l : List Stp) (hS : StM W.cell? a l) (hwf : ∀ r ∈ l, (Lit.int .i64 r.w).wf = true ∧ (Lit.int .i64 r.n).wf = true) :
    Calls Try.prog 9 #[.int .i64 room, .slice a l.length cap, ndV x h] W fun e w' => e = .returned (.bool true) ∧ Below W.heap.size W w' := by
  have HS : Hid (StM W.cell? a l) := hS
  have HWF : Hid (∀ r ∈ l, (Lit.int .i64 r.w).wf = true ∧ (Lit.int .i64 r.n).wf = true) := hwf
  have HNN : Hid (NdV W.cell? x h) := hN
  have C1 : ∀ w1 : World, Below W.heap.size W w1 → Hid (Calls Try.prog 11 #[ndV x h] w1 fun e W' => e = .returned (.bool (decide (0 < lightF x 80))) ∧ Below w1.heap.size w1 W') := fun w1 hb => Light_any (HNN.out.ab hb)
  have C2 : 0 < lightF x 80 → ∀ w1 : World, Below W.heap.size W w1 → Hid (Calls Try.prog 50 #[ndV x h] w1 fun e W' => e = .returned (.int .i64 (blF x)) ∧ Below w1.heap.size w1 W') := fun hl w1 hb => by
    obtain ⟨l1, l2⟩ := light_lil x 80 hl
    exact qBlocks_any (HNN.out.ab hb) l1 (by omega)
  have C3 : 0 < lightF x 80 → ∀ w1 : World, Below W.heap.size W w1 → Hid (Calls Try.prog 51 #[ndV x h] w1 fun e W' => e = .returned (.int .i64 (blF x)) ∧ Below w1.heap.size w1 W') := fun hl w1 hb => by
    obtain ⟨l1, l2⟩ := light_lil x 80 hl
    exact rBlocks_any (HNN.out.ab hb) l1 (by omega)
  have HC1 : Hid _ := C1
  have HC2 : Hid _ := C2
  have HC3 : Hid _ := C3
  clear hS hwf hN C1 C2 C3 HNN
  generalize lightF x 80 = lf at *
  generalize blF x = bl at *
  obtain ⟨k, m, u, g, o, at_, d, ks⟩ := x
  have NB := NBox.new W k m u g o at_ d ks h
  have hB1 : Below W.heap.size W (W.alloc (.cells #[.int .i64 k, .int .i64 m, .int .i64 u, .int .i64 g, .bool o, .slice h.aa at_.length h.ca, .string d, .slice h.ak ks.length h.ck] 25)) := (Below.refl _ _).alloc (Nat.le_refl _) _
  show Calls Try.prog 9 #[.int .i64 room, .slice a l.length cap, .agg #[.int .i64 k, .int .i64 m, .int .i64 u, .int .i64 g, .bool o, .slice h.aa at_.length h.ca, .string d, .slice h.ak ks.length h.ck]] _ _
  go_enter Try.func9, Try.ntmps9
  go_wp2_with fail
  refine Calls.mono (holds_any _) ?_
  rintro e w2 ⟨rfl, hB2⟩
  have NB2 := NB.below hB2
  have hB3 := hB1.trans (hB2.mono hB1.size)
  clear NB hB2 hB1
  generalize hnb : W.heap.size = nb at NB2 ⊢
  by_cases h60 : 60 < l.length
  · have b1 : decide ((60 : Int) < (l.length : Int)) = true := decide_eq_true (by omega)
    go_wp2
    go_ret
    exact ⟨rfl, hB3⟩
  have b1 : decide ((60 : Int) < (l.length : Int)) = false := decide_eq_false (by omega)
  have NB3 := NB2
  obtain ⟨y0, y1, y2, y3, y4, y5, y6, y7⟩ := NB3
  go_wp2_with fail
  refine Calls.mono (HC1.out _ hB3).out ?_
  rintro e w3 ⟨rfl, hB4⟩
  have NB4 := NB2.below hB4
  have hB5 := hB3.trans (hB4.mono hB3.size)
  clear NB2 y0 y1 y2 y3 y4 y5 y6 y7 hB3 hB4 HC1
  by_cases hlf : 0 < lf
  rotate_left
  · have b2 : decide (0 < lf) = false := decide_eq_false hlf
    go_wp2
    go_ret
    exact ⟨rfl, hB5⟩
  have b2 : decide (0 < lf) = true := decide_eq_true hlf
  have D2 := HC2.out hlf
  have D3 := HC3.out hlf
  clear HC2 HC3 hlf
  go_upto_region 4 with fail
  obtain ⟨y0, y1, y2, y3, y4, y5, y6, y7⟩ := NB4
  have T5 : w3.drew.cell? ⟨nb, 0, none⟩ = some (.int .i64 k) ∧ w3.drew.cell? ⟨nb, 1, none⟩ = some (.int .i64 m) ∧ w3.drew.cell? ⟨nb, 2, none⟩ = some (.int .i64 u) ∧ w3.drew.cell? ⟨nb, 3, none⟩ = some (.int .i64 g) ∧ w3.drew.cell? ⟨nb, 4, none⟩ = some (.bool o) ∧ w3.drew.cell? ⟨nb, 5, none⟩ = some (.slice h.aa at_.length h.ca) ∧ w3.drew.cell? ⟨nb, 6, none⟩ = some (.string d) ∧ w3.drew.cell? ⟨nb, 7, none⟩ = some (.slice h.ak ks.length h.ck) := ⟨y0, y1, y2, y3, y4, y5, y6, y7⟩
  have hlt5 : nb < w3.drew.heap.size := World.block_lt_of_cell? _ _ y0
  have hB6 : Below W.heap.size W w3.drew := hB5.drew
  have HD2 : Hid (Calls Try.prog 50 #[.agg #[.int .i64 k, .int .i64 m, .int .i64 u, .int .i64 g, .bool o, .slice h.aa at_.length h.ca, .string d, .slice h.ak ks.length h.ck]] w3.drew fun e W' => e = .returned (.int .i64 bl) ∧ Below w3.drew.heap.size w3.drew W') := (D2 _ hB6).out
  clear y0 y1 y2 y3 y4 y5 y6 y7 hB5 D2
  have HD3 : Hid _ := D3
  clear D3
  go_region_held3 (fun w' => w'.cell? ⟨nb, 0, none⟩ = some (.int .i64 k) ∧ w'.cell? ⟨nb, 1, none⟩ = some (.int .i64 m) ∧ w'.cell? ⟨nb, 2, none⟩ = some (.int .i64 u) ∧ w'.cell? ⟨nb, 3, none⟩ = some (.int .i64 g) ∧ w'.cell? ⟨nb, 4, none⟩ = some (.bool o) ∧ w'.cell? ⟨nb, 5, none⟩ = some (.slice h.aa at_.length h.ca) ∧ w'.cell? ⟨nb, 6, none⟩ = some (.string d) ∧ w'.cell? ⟨nb, 7, none⟩ = some (.slice h.ak ks.length h.ck)) (first | exact T5 | exact T6 | exact T7) (first | (go_at_call 50; (with_reducible refine Calls.mono HD2.out ?_); rintro e w6 ⟨rfl, c6⟩; have T6 : w6.cell? ⟨nb, 0, none⟩ = some (.int .i64 k) ∧ w6.cell? ⟨nb, 1, none⟩ = some (.int .i64 m) ∧ w6.cell? ⟨nb, 2, none⟩ = some (.int .i64 u) ∧ w6.cell? ⟨nb, 3, none⟩ = some (.int .i64 g) ∧ w6.cell? ⟨nb, 4, none⟩ = some (.bool o) ∧ w6.cell? ⟨nb, 5, none⟩ = some (.slice h.aa at_.length h.ca) ∧ w6.cell? ⟨nb, 6, none⟩ = some (.string d) ∧ w6.cell? ⟨nb, 7, none⟩ = some (.slice h.ak ks.length h.ck) := ⟨(c6.cell (p := ⟨nb, 0, none⟩) hlt5).trans T5.1, (c6.cell (p := ⟨nb, 1, none⟩) hlt5).trans T5.2.1, (c6.cell (p := ⟨nb, 2, none⟩) hlt5).trans T5.2.2.1, (c6.cell (p := ⟨nb, 3, none⟩) hlt5).trans T5.2.2.2.1, (c6.cell (p := ⟨nb, 4, none⟩) hlt5).trans T5.2.2.2.2.1, (c6.cell (p := ⟨nb, 5, none⟩) hlt5).trans T5.2.2.2.2.2.1, (c6.cell (p := ⟨nb, 6, none⟩) hlt5).trans T5.2.2.2.2.2.2.1, (c6.cell (p := ⟨nb, 7, none⟩) hlt5).trans T5.2.2.2.2.2.2.2⟩; have hB7 := hB6.trans (c6.mono hB6.size); have HD4 : Hid (Calls Try.prog 51 #[.agg #[.int .i64 k, .int .i64 m, .int .i64 u, .int .i64 g, .bool o, .slice h.aa at_.length h.ca, .string d, .slice h.ak ks.length h.ck]] w6 fun e W' => e = .returned (.int .i64 bl) ∧ Below w6.heap.size w6 W') := (HD3.out _ hB7).out; clear HD2) | (go_at_call 51; (with_reducible refine Calls.mono HD4.out ?_); rintro e w7 ⟨rfl, c7⟩; have T7 : w7.cell? ⟨nb, 0, none⟩ = some (.int .i64 k) ∧ w7.cell? ⟨nb, 1, none⟩ = some (.int .i64 m) ∧ w7.cell? ⟨nb, 2, none⟩ = some (.int .i64 u) ∧ w7.cell? ⟨nb, 3, none⟩ = some (.int .i64 g) ∧ w7.cell? ⟨nb, 4, none⟩ = some (.bool o) ∧ w7.cell? ⟨nb, 5, none⟩ = some (.slice h.aa at_.length h.ca) ∧ w7.cell? ⟨nb, 6, none⟩ = some (.string d) ∧ w7.cell? ⟨nb, 7, none⟩ = some (.slice h.ak ks.length h.ck) := ⟨(c7.cell (p := ⟨nb, 0, none⟩) (Nat.lt_of_lt_of_le hlt5 c6.size)).trans T6.1, (c7.cell (p := ⟨nb, 1, none⟩) (Nat.lt_of_lt_of_le hlt5 c6.size)).trans T6.2.1, (c7.cell (p := ⟨nb, 2, none⟩) (Nat.lt_of_lt_of_le hlt5 c6.size)).trans T6.2.2.1, (c7.cell (p := ⟨nb, 3, none⟩) (Nat.lt_of_lt_of_le hlt5 c6.size)).trans T6.2.2.2.1, (c7.cell (p := ⟨nb, 4, none⟩) (Nat.lt_of_lt_of_le hlt5 c6.size)).trans T6.2.2.2.2.1, (c7.cell (p := ⟨nb, 5, none⟩) (Nat.lt_of_lt_of_le hlt5 c6.size)).trans T6.2.2.2.2.2.1, (c7.cell (p := ⟨nb, 6, none⟩) (Nat.lt_of_lt_of_le hlt5 c6.size)).trans T6.2.2.2.2.2.2.1, (c7.cell (p := ⟨nb, 7, none⟩) (Nat.lt_of_lt_of_le hlt5 c6.size)).trans T6.2.2.2.2.2.2.2⟩; have hB8 := hB7.trans (c7.mono hB7.size); clear HD4))
  all_goals
    clear T5 T6 T7 c6 c7 hB6 hB7 HD3 hlt5
    by_cases hroom : room < 0 ∨ 2000 < room
    · have HR : Hid (room < 0 ∨ 2000 < room) := hroom
      clear hroom
      go_wp2_with fail
      refine Calls.mono (qnew_no room w7 HR.out) ?_
      rintro e w8 ⟨rfl, rfl⟩
      rcases HR.out with hr | hr
      · have r1 : decide (room < 0) = true := decide_eq_true hr
        go_wp2_with fail
        refine Calls.mono (same_err 1 (by omega) w7) ?_
        rintro e w8 ⟨rfl, rfl⟩
        go_wp2
        go_ret
        exact ⟨rfl, hB8⟩
      · have r1 : decide (room < 0) = false := decide_eq_false (by omega)
        have r2 : decide (2000 < room) = true := decide_eq_true hr
        go_wp2_with fail
        refine Calls.mono (same_err 1 (by omega) w7) ?_
        rintro e w8 ⟨rfl, rfl⟩
        go_wp2
        go_ret
        exact ⟨rfl, hB8⟩
    have hr0 : 0 ≤ room := by omega
    have hr1 : room ≤ 2000 := by omega
    clear hroom
    go_wp2_with fail
    refine Calls.mono (qnew_any room w7 hr0 hr1) ?_
    rintro e w8 ⟨pb, mb, rfl, hP, hp1, hp2, hp3, hp4, hB9⟩
    have r1 : decide (room < 0) = false := decide_eq_false (by omega)
    have r2 : decide (2000 < room) = false := decide_eq_false (by omega)
    have HP : Hid (PB w8 pb mb room 0 []) := hP
    clear hP
    go_upto_region 13 with fail
    have HI0 : Hid (QI W (w8.alloc (.cells #[.int .i64 room, .slice none 0 0, .slice none 0 0] 82)) pb mb w8.heap.size room 0 [] (.slice none 0 0) (.slice none 0 0) 0) := by
      have hl : Below W.heap.size W w8 := hB8.trans (hB9.mono hB8.size)
      have m : Mv (fun _ => False) w8 (w8.alloc (.cells #[.int .i64 room, .slice none 0 0, .slice none 0 0] 82)) := (Mv.refl _ _).alloc _
      refine ⟨?_, ?_, trivial, fun p hp => (by cases hp), by show (0 : Int) ≤ _; omega, Nat.le_refl _, Nat.le_refl _, hl.alloc hl.size _, hp3, hp4, Nat.le_trans hB8.size hp1, Nat.le_trans hB8.size hp2⟩
      · have := HP.out.mv m id id
        simpa [sm] using this
      · exact ⟨World.cell?_alloc_at _ _ _ _ rfl, World.cell?_alloc_at _ _ _ _ rfl, World.cell?_alloc_at _ _ _ _ rfl, World.frozen?_alloc_new _ _ _ _, World.frozen?_alloc_new _ _ _ _, World.ownsRow_nil _ _ _ _, World.ownsRow_nil _ _ _ _, .inl rfl⟩
    clear HP hp1 hp2 hp3 hp4 hB9 hB8
    generalize w8.alloc (.cells #[.int .i64 room, .slice none 0 0, .slice none 0 0] 82) = w9 at HI0 ⊢
    generalize w8.heap.size = qb at HI0 ⊢
    go_loopw [11] (fun i wr => ∃ (j : Nat) (L : Ppl) (n : Nat) (vw vn : Value), j ≤ l.length ∧ i = .int .i64 j ∧ Hid (QI W wr pb mb qb room n L vw vn j)) (fun i _ => l.length - (intOf i).toNat)
    case atStart => exact ⟨0, [], 0, _, _, Nat.zero_le _, rfl, HI0.out⟩
    case round =>
      obtain ⟨j, L, n, vw, vn, hj, rfl, HQ⟩ := hrel
      clear HI0
      by_cases hjl : j < l.length
      · have hji : (j : Int) < (l.length : Int) := by omega
        obtain ⟨r, hr⟩ : ∃ r, l[j]? = some r := ⟨l[j], by simp [hjl]⟩
        have hwr := HWF.out r (List.mem_of_getElem? hr)
        rcases HS.out with hnil | ⟨sb, so, rfl, hcS⟩
        · rw [hnil] at hjl; simp at hjl
        have hc3 := hcS j r hr
        have q0 := (HQ.out.low.cell (World.block_lt_of_cell? _ _ hc3.1)).trans hc3.1
        have q1 := (HQ.out.low.cell (World.block_lt_of_cell? _ _ hc3.2.1)).trans hc3.2.1
        have q2 := (HQ.out.low.cell (World.block_lt_of_cell? _ _ hc3.2.2)).trans hc3.2.2
        clear hc3 hcS hr
        obtain ⟨rg, rw_, rn⟩ := r
        have HW1 : Hid ((Lit.int .i64 rw_).wf = true) := hwr.1
        have HW2 : Hid ((Lit.int .i64 rn).wf = true) := hwr.2
        clear hwr
        have q0 : wr.cell? ⟨sb, so + j * 3, none⟩ = some (.bool rg) := q0
        have q1 : wr.cell? ⟨sb, so + j * 3 + 1, none⟩ = some (.int .i64 rw_) := q1
        have q2 : wr.cell? ⟨sb, so + j * 3 + 2, none⟩ = some (.int .i64 rn) := q2
        cases rg
        · go_upto_region 19 with fail
          have hbel : Below wr.heap.size wr (wr.alloc (.cells #[.bool false, .int .i64 rw_, .int .i64 rn] 84)).drew := ((Below.refl _ _).alloc (Nat.le_refl _) _).drew
          have HQ5 : Hid (QI W (wr.alloc (.cells #[.bool false, .int .i64 rw_, .int .i64 rn] 84)).drew pb mb qb room n L vw vn j) := HQ.out.below hbel
          have T5 : (wr.alloc (.cells #[.bool false, .int .i64 rw_, .int .i64 rn] 84)).drew.cell? ⟨wr.heap.size, 0, none⟩ = some (.bool false) ∧ (wr.alloc (.cells #[.bool false, .int .i64 rw_, .int .i64 rn] 84)).drew.cell? ⟨wr.heap.size, 1, none⟩ = some (.int .i64 rw_) ∧ (wr.alloc (.cells #[.bool false, .int .i64 rw_, .int .i64 rn] 84)).drew.cell? ⟨wr.heap.size, 2, none⟩ = some (.int .i64 rn) := ⟨World.cell?_alloc_at _ _ _ _ rfl, World.cell?_alloc_at _ _ _ _ rfl, World.cell?_alloc_at _ _ _ _ rfl⟩
          have hlt5 : wr.heap.size < (wr.alloc (.cells #[.bool false, .int .i64 rw_, .int .i64 rn] 84)).drew.heap.size := by show _ < (wr.alloc _).heap.size; rw [World.size_alloc]; omega
          have hbq : qb < wr.heap.size := HQ.out.q.lt
          have hbw : some wr.heap.size ≠ vw.ownBlock := fun e => by have := (HQ.out.q.r1.lt _ e.symm).2; omega
          have hbn : some wr.heap.size ≠ vn.ownBlock := fun e => by have := (HQ.out.q.r2.lt _ e.symm).2; omega
          clear q0 q1 q2 HQ hbel
          generalize wr.alloc (.cells #[.bool false, .int .i64 rw_, .int .i64 rn] 84) = w5 at HQ5 T5 hlt5 ⊢
          generalize wr.heap.size = bb at T5 hlt5 hbq hbw hbn ⊢
          have hlp := HQ5.out.lp
          have hlm := HQ5.out.lm
          obtain ⟨F, L2, hF0, HC1, hC2, hD2, hP2, hle2, hlen2⟩ := take_step rw_ rn HQ5.out hr0 hr1 (by omega) HW1.out HW2.out
          have HC2 : Hid _ := hC2
          have HD2 : Hid (Dst L2 ∧ Pos L2 ∧ sm L2 ≤ room ∧ L2.length ≤ j + 1) := ⟨hD2, hP2, hle2, hlen2⟩
          clear hC2 hD2 hP2 hle2 hlen2
          have hnA : ¬ At2 pb mb bb := fun e => by have := at2_lt hlp hlm _ e; omega
          go_region_held3 (fun w' => w'.cell? ⟨bb, 0, none⟩ = some (.bool false) ∧ w'.cell? ⟨bb, 1, none⟩ = some (.int .i64 rw_) ∧ w'.cell? ⟨bb, 2, none⟩ = some (.int .i64 rn)) (first | exact T5 | exact T6 | exact T7) (first | (go_at_call 55; (with_reducible refine Calls.mono HC1.out ?_); rintro e w6 ⟨rfl, m6, p6⟩; have T6 : w6.cell? ⟨bb, 0, none⟩ = some (.bool false) ∧ w6.cell? ⟨bb, 1, none⟩ = some (.int .i64 rw_) ∧ w6.cell? ⟨bb, 2, none⟩ = some (.int .i64 rn) := ⟨(m6.cell (p := ⟨bb, 0, none⟩) hlt5 hnA).trans T5.1, (m6.cell (p := ⟨bb, 1, none⟩) hlt5 hnA).trans T5.2.1, (m6.cell (p := ⟨bb, 2, none⟩) hlt5 hnA).trans T5.2.2⟩; have q6 := HQ5.out.q.mv m6 (at2_lt hlp hlm); have HM6 : Hid (Mv (At2 pb mb) w5.drew w6 ∧ PB w6 pb mb (room - sm L2) (n + 1) L2) := ⟨m6, p6⟩; have HC3 := HC2.out w6 q6; have hlt6 := Nat.lt_of_lt_of_le hlt5 m6.size; have hnQ := qs_ne q6 hbq hbw hbn; clear HC1 HC2 m6 p6 q6) | (go_at_call 56; (with_reducible refine Calls.mono HC3.out ?_); rintro e w7 ⟨rfl, m7, vw2, vn2, q7⟩; have T7 : w7.cell? ⟨bb, 0, none⟩ = some (.bool false) ∧ w7.cell? ⟨bb, 1, none⟩ = some (.int .i64 rw_) ∧ w7.cell? ⟨bb, 2, none⟩ = some (.int .i64 rn) := ⟨(m7.cell (p := ⟨bb, 0, none⟩) hlt6 hnQ).trans T6.1, (m7.cell (p := ⟨bb, 1, none⟩) hlt6 hnQ).trans T6.2.1, (m7.cell (p := ⟨bb, 2, none⟩) hlt6 hnQ).trans T6.2.2⟩; have HN : Hid (QI W w7 pb mb qb room (n + 1) L2 vw2 vn2 (j + 1)) := HQ5.out.next HM6.out.1 HM6.out.2 m7 q7 HD2.out.1 HD2.out.2.1 HD2.out.2.2.1 HD2.out.2.2.2; have HC4 : Hid (Calls Try.prog 14 #[errV F, .int .i64 F] w7 fun e w' => e = .returned (.bool true) ∧ w7 = w') := same_errV F hF0 w7; clear HC3 m7 q7) | (go_at_call 14; (with_reducible refine Calls.mono HC4.out ?_); rintro e w8 ⟨rfl, rfl⟩; clear HC4))
          all_goals
            obtain ⟨t0, t1, t2⟩ := T7
            obtain ⟨z, HZ⟩ : ∃ z, Hid ((fnd L2 rw_).getD 0 = z) := ⟨_, rfl⟩
            obtain ⟨b, HB⟩ : ∃ b, Hid ((fnd L2 rw_).isSome = b) := ⟨_, rfl⟩
            obtain ⟨lf2, HLF⟩ : ∃ lf, Hid (room - sm L2 = lf) := ⟨_, rfl⟩
            have hln2 := HD2.out.2.2.2
            have HC5 : Hid (Calls Try.prog 57 #[.pointer (some ⟨pb, 0, none⟩), .int .i64 rw_] w7 fun e w' => e = .returned (.tuple #[.int .i64 z, .bool b]) ∧ w7 = w') := by have := qof_any rw_ HW1.out HN.out.p; rw [HZ.out, HB.out] at this; exact this
            have HC6 : Hid (Calls Try.prog 58 #[.pointer (some ⟨qb, 0, none⟩), .int .i64 rw_] w7 fun e w' => e = .returned (.tuple #[.int .i64 z, .bool b]) ∧ w7 = w') := by have := rof_any HN.out.q rw_ (by omega); rw [HZ.out, HB.out] at this; exact this
            have HC7 : Hid (Calls Try.prog 59 #[.pointer (some ⟨pb, 0, none⟩)] w7 fun e w' => e = .returned (.int .i64 lf2) ∧ w7 = w') := by have := qleft_any HN.out.p; rw [HLF.out] at this; exact this
            have HC8 : Hid (Calls Try.prog 60 #[.pointer (some ⟨qb, 0, none⟩)] w7 fun e w' => e = .returned (.int .i64 lf2) ∧ w7 = w') := by have := rleft_any HN.out.q (by omega) HN.out.pos HN.out.le (by omega); rw [HLF.out] at this; exact this
            clear T5 T6 HQ5 HM6 HD2 HZ HB HLF hnA hnQ hlt5 hlt6 hbq hbw hbn
            go_wp2_with fail
            refine Calls.mono HC5.out ?_
            rintro e w8 ⟨rfl, rfl⟩
            go_wp2_with fail
            refine Calls.mono HC6.out ?_
            rintro e w8 ⟨rfl, rfl⟩
            go_wp2_with fail
            refine Calls.mono HC7.out ?_
            rintro e w8 ⟨rfl, rfl⟩
            go_wp2_with fail
            refine Calls.mono HC8.out ?_
            rintro e w8 ⟨rfl, rfl⟩
            clear HC5 HC6 HC7 HC8 t0 t1 t2
            go_wp2
            go_roundw
            case rel => exact ⟨j + 1, L2, n + 1, vw2, vn2, by omega, by go_num, HN.out⟩
            case measure => simp [intOf]; omega
        · go_upto_region 17 with fail
          have hbel : Below wr.heap.size wr (wr.alloc (.cells #[.bool true, .int .i64 rw_, .int .i64 rn] 84)).drew := ((Below.refl _ _).alloc (Nat.le_refl _) _).drew
          have HQ5 : Hid (QI W (wr.alloc (.cells #[.bool true, .int .i64 rw_, .int .i64 rn] 84)).drew pb mb qb room n L vw vn j) := HQ.out.below hbel
          have T5 : (wr.alloc (.cells #[.bool true, .int .i64 rw_, .int .i64 rn] 84)).drew.cell? ⟨wr.heap.size, 0, none⟩ = some (.bool true) ∧ (wr.alloc (.cells #[.bool true, .int .i64 rw_, .int .i64 rn] 84)).drew.cell? ⟨wr.heap.size, 1, none⟩ = some (.int .i64 rw_) ∧ (wr.alloc (.cells #[.bool true, .int .i64 rw_, .int .i64 rn] 84)).drew.cell? ⟨wr.heap.size, 2, none⟩ = some (.int .i64 rn) := ⟨World.cell?_alloc_at _ _ _ _ rfl, World.cell?_alloc_at _ _ _ _ rfl, World.cell?_alloc_at _ _ _ _ rfl⟩
          have hlt5 : wr.heap.size < (wr.alloc (.cells #[.bool true, .int .i64 rw_, .int .i64 rn] 84)).drew.heap.size := by show _ < (wr.alloc _).heap.size; rw [World.size_alloc]; omega
          have hbq : qb < wr.heap.size := HQ.out.q.lt
          have hbw : some wr.heap.size ≠ vw.ownBlock := fun e => by have := (HQ.out.q.r1.lt _ e.symm).2; omega
          have hbn : some wr.heap.size ≠ vn.ownBlock := fun e => by have := (HQ.out.q.r2.lt _ e.symm).2; omega
          clear q0 q1 q2 HQ hbel
          generalize wr.alloc (.cells #[.bool true, .int .i64 rw_, .int .i64 rn] 84) = w5 at HQ5 T5 hlt5 ⊢
          generalize wr.heap.size = bb at T5 hlt5 hbq hbw hbn ⊢
          have hlp := HQ5.out.lp
          have hlm := HQ5.out.lm
          obtain ⟨F, L2, hF0, HC1, hC2, hD2, hP2, hle2, hlen2⟩ := give_step rw_ HQ5.out hr0 hr1 (by omega) HW1.out
          have HC2 : Hid _ := hC2
          have HD2 : Hid (Dst L2 ∧ Pos L2 ∧ sm L2 ≤ room ∧ L2.length ≤ j + 1) := ⟨hD2, hP2, hle2, hlen2⟩
          clear hC2 hD2 hP2 hle2 hlen2
          have hnA : ¬ At2 pb mb bb := fun e => by have := at2_lt hlp hlm _ e; omega
          go_region_held3 (fun w' => w'.cell? ⟨bb, 0, none⟩ = some (.bool true) ∧ w'.cell? ⟨bb, 1, none⟩ = some (.int .i64 rw_) ∧ w'.cell? ⟨bb, 2, none⟩ = some (.int .i64 rn)) (first | exact T5 | exact T6 | exact T7) (first | (go_at_call 53; (with_reducible refine Calls.mono HC1.out ?_); rintro e w6 ⟨rfl, m6, p6⟩; have T6 : w6.cell? ⟨bb, 0, none⟩ = some (.bool true) ∧ w6.cell? ⟨bb, 1, none⟩ = some (.int .i64 rw_) ∧ w6.cell? ⟨bb, 2, none⟩ = some (.int .i64 rn) := ⟨(m6.cell (p := ⟨bb, 0, none⟩) hlt5 hnA).trans T5.1, (m6.cell (p := ⟨bb, 1, none⟩) hlt5 hnA).trans T5.2.1, (m6.cell (p := ⟨bb, 2, none⟩) hlt5 hnA).trans T5.2.2⟩; have q6 := HQ5.out.q.mv m6 (at2_lt hlp hlm); have HM6 : Hid (Mv (At2 pb mb) w5.drew w6 ∧ PB w6 pb mb (room - sm L2) (n + 1) L2) := ⟨m6, p6⟩; have HC3 := HC2.out w6 q6; have hlt6 := Nat.lt_of_lt_of_le hlt5 m6.size; have hnQ := qs_ne q6 hbq hbw hbn; clear HC1 HC2 m6 p6 q6) | (go_at_call 54; (with_reducible refine Calls.mono HC3.out ?_); rintro e w7 ⟨rfl, m7, vw2, vn2, q7⟩; have T7 : w7.cell? ⟨bb, 0, none⟩ = some (.bool true) ∧ w7.cell? ⟨bb, 1, none⟩ = some (.int .i64 rw_) ∧ w7.cell? ⟨bb, 2, none⟩ = some (.int .i64 rn) := ⟨(m7.cell (p := ⟨bb, 0, none⟩) hlt6 hnQ).trans T6.1, (m7.cell (p := ⟨bb, 1, none⟩) hlt6 hnQ).trans T6.2.1, (m7.cell (p := ⟨bb, 2, none⟩) hlt6 hnQ).trans T6.2.2⟩; have HN : Hid (QI W w7 pb mb qb room (n + 1) L2 vw2 vn2 (j + 1)) := HQ5.out.next HM6.out.1 HM6.out.2 m7 q7 HD2.out.1 HD2.out.2.1 HD2.out.2.2.1 HD2.out.2.2.2; have HC4 : Hid (Calls Try.prog 14 #[errV F, .int .i64 F] w7 fun e w' => e = .returned (.bool true) ∧ w7 = w') := same_errV F hF0 w7; clear HC3 m7 q7) | (go_at_call 14; (with_reducible refine Calls.mono HC4.out ?_); rintro e w8 ⟨rfl, rfl⟩; clear HC4))
          all_goals
            obtain ⟨t0, t1, t2⟩ := T7
            obtain ⟨z, HZ⟩ : ∃ z, Hid ((fnd L2 rw_).getD 0 = z) := ⟨_, rfl⟩
            obtain ⟨b, HB⟩ : ∃ b, Hid ((fnd L2 rw_).isSome = b) := ⟨_, rfl⟩
            obtain ⟨lf2, HLF⟩ : ∃ lf, Hid (room - sm L2 = lf) := ⟨_, rfl⟩
            have hln2 := HD2.out.2.2.2
            have HC5 : Hid (Calls Try.prog 57 #[.pointer (some ⟨pb, 0, none⟩), .int .i64 rw_] w7 fun e w' => e = .returned (.tuple #[.int .i64 z, .bool b]) ∧ w7 = w') := by have := qof_any rw_ HW1.out HN.out.p; rw [HZ.out, HB.out] at this; exact this
            have HC6 : Hid (Calls Try.prog 58 #[.pointer (some ⟨qb, 0, none⟩), .int .i64 rw_] w7 fun e w' => e = .returned (.tuple #[.int .i64 z, .bool b]) ∧ w7 = w') := by have := rof_any HN.out.q rw_ (by omega); rw [HZ.out, HB.out] at this; exact this
            have HC7 : Hid (Calls Try.prog 59 #[.pointer (some ⟨pb, 0, none⟩)] w7 fun e w' => e = .returned (.int .i64 lf2) ∧ w7 = w') := by have := qleft_any HN.out.p; rw [HLF.out] at this; exact this
            have HC8 : Hid (Calls Try.prog 60 #[.pointer (some ⟨qb, 0, none⟩)] w7 fun e w' => e = .returned (.int .i64 lf2) ∧ w7 = w') := by have := rleft_any HN.out.q (by omega) HN.out.pos HN.out.le (by omega); rw [HLF.out] at this; exact this
            clear T5 T6 HQ5 HM6 HD2 HZ HB HLF hnA hnQ hlt5 hlt6 hbq hbw hbn
            go_wp2_with fail
            refine Calls.mono HC5.out ?_
            rintro e w8 ⟨rfl, rfl⟩
            go_wp2_with fail
            refine Calls.mono HC6.out ?_
            rintro e w8 ⟨rfl, rfl⟩
            go_wp2_with fail
            refine Calls.mono HC7.out ?_
            rintro e w8 ⟨rfl, rfl⟩
            go_wp2_with fail
            refine Calls.mono HC8.out ?_
            rintro e w8 ⟨rfl, rfl⟩
            clear HC5 HC6 HC7 HC8 t0 t1 t2
            go_wp2
            go_roundw
            case rel => exact ⟨j + 1, L2, n + 1, vw2, vn2, by omega, by go_num, HN.out⟩
            case measure => simp [intOf]; omega
      · have hji : decide ((j : Int) < (l.length : Int)) = false := decide_eq_false (by omega)
        have hlow := HQ.out.low
        clear HQ
        go_wp2
        go_ret
        exact ⟨rfl, hlow⟩
end Go.Proofs.Ytkkhfnkmfkdhiab
