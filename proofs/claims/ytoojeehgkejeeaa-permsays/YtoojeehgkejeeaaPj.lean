/-
  PermSays ANSWERS true: the walk.
-/
import Derived.Test.YtoojeehgkejeeaaPi
import Derived.Deep.RegionHeld3
namespace Go.Proofs.Ytoojeehgkejeeaa
open Go.RowKit

theorem lets_one : mayB 5 0 [] 0 false 256 5 0 true 4 = true := by decide +kernel
theorem lets_two : mayB 6 0 [] 0 false 256 5 0 true 4 = false := by decide +kernel

set_option maxHeartbeats 400000 in
theorem lets_any (w : World) : Calls Try.prog 37 #[] w fun e w' => e = .returned (.bool true) ∧ Below w.heap.size w w' := by
  go_enter Try.func37, Try.ntmps37
  go_wp2_with fail
  refine (may_any 5 0 0 none 0 [] false 256 5 0 true 4 _ (by simp) (.inl rfl) (by decide) (by decide)).mono ?_
  rintro e w1 ⟨rfl, hb⟩
  rw [lets_one]
  go_wp2_with fail
  refine (may_any 6 0 0 none 0 [] false 256 5 0 true 4 _ (by simp) (.inl rfl) (by decide) (by decide)).mono ?_
  rintro e w2 ⟨rfl, hb2⟩
  rw [lets_two]
  go_wp2
  go_ret
  exact ⟨rfl, hb.trans (hb2.mono hb.size)⟩

/-- Who asks, and two things, in memory. -/
structure Tri (w W : World) (u g c : Int) (ad : Option Addr) (cap : Nat) (zs : List Int) (d : Bool) (m tu tg : Int) (mp : Bool) (dd : Bool) (dm du dg : Int) (dmp : Bool) : Prop where
  x : Box W w.heap.size u g (.slice ad zs.length cap) c
  t : TBox W (w.heap.size + 1) d m tu tg mp
  q : TBox W (w.heap.size + 2) dd dm du dg dmp
  i : Ints W ad zs
  bl : Below w.heap.size w W
theorem Tri.below {w W W' : World} {u g c : Int} {ad : Option Addr} {cap : Nat} {zs : List Int} {d : Bool} {m tu tg : Int} {mp : Bool} {dd : Bool} {dm du dg : Int} {dmp : Bool} (h : Tri w W u g c ad cap zs d m tu tg mp dd dm du dg dmp) (hb : Below W.heap.size W W') : Tri w W' u g c ad cap zs d m tu tg mp dd dm du dg dmp :=
  ⟨h.x.below hb, h.t.below hb, h.q.below hb, h.i.below hb, h.bl.trans (hb.mono h.bl.size)⟩
theorem Tri.drew {w W : World} {u g c : Int} {ad : Option Addr} {cap : Nat} {zs : List Int} {d : Bool} {m tu tg : Int} {mp : Bool} {dd : Bool} {dm du dg : Int} {dmp : Bool} (h : Tri w W u g c ad cap zs d m tu tg mp dd dm du dg dmp) : Tri w W.drew u g c ad cap zs d m tu tg mp dd dm du dg dmp :=
  h.below (Below.refl _ _).drew
theorem Tri.cells {w W : World} {u g c : Int} {ad : Option Addr} {cap : Nat} {zs : List Int} {d : Bool} {m tu tg : Int} {mp : Bool} {dd : Bool} {dm du dg : Int} {dmp : Bool} (h : Tri w W u g c ad cap zs d m tu tg mp dd dm du dg dmp) : (W.cell? ⟨w.heap.size, 0, none⟩ = some (.int .i64 u) ∧ W.cell? ⟨w.heap.size, 1, none⟩ = some (.int .i64 g) ∧ W.cell? ⟨w.heap.size, 2, none⟩ = some (.slice ad zs.length cap) ∧ W.cell? ⟨w.heap.size, 3, none⟩ = some (.int .i64 c)) ∧ (W.cell? ⟨w.heap.size + 1, 0, none⟩ = some (.bool d) ∧ W.cell? ⟨w.heap.size + 1, 1, none⟩ = some (.int .i64 m) ∧ W.cell? ⟨w.heap.size + 1, 2, none⟩ = some (.int .i64 tu) ∧ W.cell? ⟨w.heap.size + 1, 3, none⟩ = some (.int .i64 tg) ∧ W.cell? ⟨w.heap.size + 1, 4, none⟩ = some (.bool mp)) ∧ (W.cell? ⟨w.heap.size + 1 + 1, 0, none⟩ = some (.bool dd) ∧ W.cell? ⟨w.heap.size + 1 + 1, 1, none⟩ = some (.int .i64 dm) ∧ W.cell? ⟨w.heap.size + 1 + 1, 2, none⟩ = some (.int .i64 du) ∧ W.cell? ⟨w.heap.size + 1 + 1, 3, none⟩ = some (.int .i64 dg) ∧ W.cell? ⟨w.heap.size + 1 + 1, 4, none⟩ = some (.bool dmp)) :=
  ⟨⟨h.x.1, h.x.2.1, h.x.2.2.1, h.x.2.2.2.1⟩, h.t, h.q⟩

set_option maxRecDepth 100000 in
set_option maxHeartbeats 4000000 in
theorem permSays_bad (u g c : Int) (ad : Option Addr) (cap : Nat) (zs : List Int) (d : Bool) (m tu tg : Int) (mp : Bool) (dd : Bool) (dm du dg : Int) (dmp : Bool) (want : Int) (w : World) (hl : zs.length ≤ 9223372036854775807) (h : Ints w ad zs) (f : Int) (HF : Hid (credF u g zs c = f)) (hf : 0 < f) :
    Calls Try.prog 7 #[.agg #[.int .i64 u, .int .i64 g, .slice ad zs.length cap, .int .i64 c], .agg #[.bool d, .int .i64 m, .int .i64 tu, .int .i64 tg, .bool mp], .agg #[.bool dd, .int .i64 dm, .int .i64 du, .int .i64 dg, .bool dmp], .int .i64 want] w fun e w' =>
      e = .returned (.bool true) ∧ Below w.heap.size w w' := by
  have df : decide (0 < f) = true := by simpa using hf
  go_enter Try.func7, Try.ntmps7
  go_wp2_with fail
  refine (lets_any _).mono ?_
  rintro e w1 ⟨rfl, hb⟩
  obtain ⟨hX, hT, hD, hB⟩ := three_new w w1 u g _ c d m tu tg mp dd dm du dg dmp hb
  have q1 : Tri w w1 u g c ad cap zs d m tu tg mp dd dm du dg dmp := ⟨hX, hT, hD, (((h.alloc _).alloc _).alloc _).below hb, hB⟩
  clear hX hT hD hB hb
  obtain ⟨⟨k0, k1, k2, k3⟩, ⟨j0, j1, j2, j3, j4⟩, ⟨l0, l1, l2, l3, l4⟩⟩ := q1.cells
  go_wp2_with fail
  refine (credFault_any u g c ad cap zs _ hl q1.i).mono ?_
  rintro e w2 ⟨rfl, hb⟩
  have q2 := q1.below hb
  clear q1 hb k0 k1 k2 k3 j0 j1 j2 j3 j4 l0 l1 l2 l3 l4
  obtain ⟨⟨k0, k1, k2, k3⟩, ⟨j0, j1, j2, j3, j4⟩, ⟨l0, l1, l2, l3, l4⟩⟩ := q2.cells
  rw [HF.out]
  go_wp2
  go_ret
  exact ⟨rfl, q2.bl⟩

set_option maxRecDepth 100000 in
set_option maxHeartbeats 4000000 in
theorem permSays_out (u g c : Int) (ad : Option Addr) (cap : Nat) (zs : List Int) (d : Bool) (m tu tg : Int) (mp : Bool) (dd : Bool) (dm du dg : Int) (dmp : Bool) (want : Int) (w : World) (hl : zs.length ≤ 9223372036854775807) (h : Ints w ad zs) (HF : Hid (credF u g zs c = 0)) (hout : m < 0 ∨ 4095 < m ∨ dm < 0 ∨ 4095 < dm) :
    Calls Try.prog 7 #[.agg #[.int .i64 u, .int .i64 g, .slice ad zs.length cap, .int .i64 c], .agg #[.bool d, .int .i64 m, .int .i64 tu, .int .i64 tg, .bool mp], .agg #[.bool dd, .int .i64 dm, .int .i64 du, .int .i64 dg, .bool dmp], .int .i64 want] w fun e w' =>
      e = .returned (.bool true) ∧ Below w.heap.size w w' := by
  by_cases hm : m < 0
  · have dec_m : decide (m < 0) = true := by simpa using hm
    go_enter Try.func7, Try.ntmps7
    go_wp2_with fail
    refine (lets_any _).mono ?_
    rintro e w1 ⟨rfl, hb⟩
    obtain ⟨hX, hT, hD, hB⟩ := three_new w w1 u g _ c d m tu tg mp dd dm du dg dmp hb
    have q1 : Tri w w1 u g c ad cap zs d m tu tg mp dd dm du dg dmp := ⟨hX, hT, hD, (((h.alloc _).alloc _).alloc _).below hb, hB⟩
    clear hX hT hD hB hb
    obtain ⟨⟨k0, k1, k2, k3⟩, ⟨j0, j1, j2, j3, j4⟩, ⟨l0, l1, l2, l3, l4⟩⟩ := q1.cells
    go_wp2_with fail
    refine (credFault_any u g c ad cap zs _ hl q1.i).mono ?_
    rintro e w2 ⟨rfl, hb⟩
    have q2 := q1.below hb
    clear q1 hb k0 k1 k2 k3 j0 j1 j2 j3 j4 l0 l1 l2 l3 l4
    obtain ⟨⟨k0, k1, k2, k3⟩, ⟨j0, j1, j2, j3, j4⟩, ⟨l0, l1, l2, l3, l4⟩⟩ := q2.cells
    rw [HF.out]
    go_wp2
    go_ret
    exact ⟨rfl, q2.bl⟩
  have dec_m : decide (m < 0) = false := by simpa using hm
  by_cases hm7 : 4095 < m
  · have dec_m7 : decide (4095 < m) = true := by simpa using hm7
    go_enter Try.func7, Try.ntmps7
    go_wp2_with fail
    refine (lets_any _).mono ?_
    rintro e w1 ⟨rfl, hb⟩
    obtain ⟨hX, hT, hD, hB⟩ := three_new w w1 u g _ c d m tu tg mp dd dm du dg dmp hb
    have q1 : Tri w w1 u g c ad cap zs d m tu tg mp dd dm du dg dmp := ⟨hX, hT, hD, (((h.alloc _).alloc _).alloc _).below hb, hB⟩
    clear hX hT hD hB hb
    obtain ⟨⟨k0, k1, k2, k3⟩, ⟨j0, j1, j2, j3, j4⟩, ⟨l0, l1, l2, l3, l4⟩⟩ := q1.cells
    go_wp2_with fail
    refine (credFault_any u g c ad cap zs _ hl q1.i).mono ?_
    rintro e w2 ⟨rfl, hb⟩
    have q2 := q1.below hb
    clear q1 hb k0 k1 k2 k3 j0 j1 j2 j3 j4 l0 l1 l2 l3 l4
    obtain ⟨⟨k0, k1, k2, k3⟩, ⟨j0, j1, j2, j3, j4⟩, ⟨l0, l1, l2, l3, l4⟩⟩ := q2.cells
    rw [HF.out]
    go_wp2
    go_ret
    exact ⟨rfl, q2.bl⟩
  have dec_m7 : decide (4095 < m) = false := by simpa using hm7
  by_cases hq : dm < 0
  · have dec_q : decide (dm < 0) = true := by simpa using hq
    go_enter Try.func7, Try.ntmps7
    go_wp2_with fail
    refine (lets_any _).mono ?_
    rintro e w1 ⟨rfl, hb⟩
    obtain ⟨hX, hT, hD, hB⟩ := three_new w w1 u g _ c d m tu tg mp dd dm du dg dmp hb
    have q1 : Tri w w1 u g c ad cap zs d m tu tg mp dd dm du dg dmp := ⟨hX, hT, hD, (((h.alloc _).alloc _).alloc _).below hb, hB⟩
    clear hX hT hD hB hb
    obtain ⟨⟨k0, k1, k2, k3⟩, ⟨j0, j1, j2, j3, j4⟩, ⟨l0, l1, l2, l3, l4⟩⟩ := q1.cells
    go_wp2_with fail
    refine (credFault_any u g c ad cap zs _ hl q1.i).mono ?_
    rintro e w2 ⟨rfl, hb⟩
    have q2 := q1.below hb
    clear q1 hb k0 k1 k2 k3 j0 j1 j2 j3 j4 l0 l1 l2 l3 l4
    obtain ⟨⟨k0, k1, k2, k3⟩, ⟨j0, j1, j2, j3, j4⟩, ⟨l0, l1, l2, l3, l4⟩⟩ := q2.cells
    rw [HF.out]
    go_wp2
    go_ret
    exact ⟨rfl, q2.bl⟩
  have dec_q : decide (dm < 0) = false := by simpa using hq
  by_cases hq7 : 4095 < dm
  · have dec_q7 : decide (4095 < dm) = true := by simpa using hq7
    go_enter Try.func7, Try.ntmps7
    go_wp2_with fail
    refine (lets_any _).mono ?_
    rintro e w1 ⟨rfl, hb⟩
    obtain ⟨hX, hT, hD, hB⟩ := three_new w w1 u g _ c d m tu tg mp dd dm du dg dmp hb
    have q1 : Tri w w1 u g c ad cap zs d m tu tg mp dd dm du dg dmp := ⟨hX, hT, hD, (((h.alloc _).alloc _).alloc _).below hb, hB⟩
    clear hX hT hD hB hb
    obtain ⟨⟨k0, k1, k2, k3⟩, ⟨j0, j1, j2, j3, j4⟩, ⟨l0, l1, l2, l3, l4⟩⟩ := q1.cells
    go_wp2_with fail
    refine (credFault_any u g c ad cap zs _ hl q1.i).mono ?_
    rintro e w2 ⟨rfl, hb⟩
    have q2 := q1.below hb
    clear q1 hb k0 k1 k2 k3 j0 j1 j2 j3 j4 l0 l1 l2 l3 l4
    obtain ⟨⟨k0, k1, k2, k3⟩, ⟨j0, j1, j2, j3, j4⟩, ⟨l0, l1, l2, l3, l4⟩⟩ := q2.cells
    rw [HF.out]
    go_wp2
    go_ret
    exact ⟨rfl, q2.bl⟩
  have dec_q7 : decide (4095 < dm) = false := by simpa using hq7
  omega

set_option maxRecDepth 100000 in
set_option maxHeartbeats 4000000 in
theorem permSays_in (u g c : Int) (ad : Option Addr) (cap : Nat) (zs : List Int) (d : Bool) (m tu tg : Int) (mp : Bool) (dd : Bool) (dm du dg : Int) (dmp : Bool) (want : Int) (w : World) (hl : zs.length ≤ 9223372036854775807) (h : Ints w ad zs) (HF : Hid (credF u g zs c = 0)) (hm : ¬ m < 0) (hm7 : ¬ 4095 < m) (hq : ¬ dm < 0) (hq7 : ¬ 4095 < dm) :
    Calls Try.prog 7 #[.agg #[.int .i64 u, .int .i64 g, .slice ad zs.length cap, .int .i64 c], .agg #[.bool d, .int .i64 m, .int .i64 tu, .int .i64 tg, .bool mp], .agg #[.bool dd, .int .i64 dm, .int .i64 du, .int .i64 dg, .bool dmp], .int .i64 want] w fun e w' =>
      e = .returned (.bool true) ∧ Below w.heap.size w w' := by
  obtain ⟨_, _, hc0, hc1, _, _⟩ := credF_zero HF.out
  have dec_m : decide (m < 0) = false := by simpa using hm
  have dec_m7 : decide (4095 < m) = false := by simpa using hm7
  have dec_q : decide (dm < 0) = false := by simpa using hq
  have dec_q7 : decide (4095 < dm) = false := by simpa using hq7
  have hm0 : 0 ≤ m := by omega
  have hm1 : m ≤ 4095 := by omega
  have hd0 : 0 ≤ dm := by omega
  have hd1 : dm ≤ 4095 := by omega
  go_enter Try.func7, Try.ntmps7
  go_wp2_with fail
  refine (lets_any _).mono ?_
  rintro e w1 ⟨rfl, hb⟩
  obtain ⟨hX, hT, hD, hB⟩ := three_new w w1 u g _ c d m tu tg mp dd dm du dg dmp hb
  have q1 : Tri w w1 u g c ad cap zs d m tu tg mp dd dm du dg dmp := ⟨hX, hT, hD, (((h.alloc _).alloc _).alloc _).below hb, hB⟩
  clear hX hT hD hB hb
  obtain ⟨⟨k0, k1, k2, k3⟩, ⟨j0, j1, j2, j3, j4⟩, ⟨l0, l1, l2, l3, l4⟩⟩ := q1.cells
  go_wp2_with fail
  refine (credFault_any u g c ad cap zs _ hl q1.i).mono ?_
  rintro e w2 ⟨rfl, hb⟩
  have q2 := q1.below hb
  clear q1 hb k0 k1 k2 k3 j0 j1 j2 j3 j4 l0 l1 l2 l3 l4
  obtain ⟨⟨k0, k1, k2, k3⟩, ⟨j0, j1, j2, j3, j4⟩, ⟨l0, l1, l2, l3, l4⟩⟩ := q2.cells
  rw [HF.out]
  obtain ⟨may, HMY⟩ : ∃ t, Hid (mayB u g zs c d m tu tg mp want = t) := ⟨_, rfl⟩
  obtain ⟨own, HOW⟩ : ∃ t, Hid (ownB u c tu mp = t) := ⟨_, rfl⟩
  obtain ⟨tak, HTK⟩ : ∃ t, Hid (takeB u c dm du dmp tu mp = t) := ⟨_, rfl⟩
  have s1 : (may == may) = true := by simp
  have s2 : (own == own) = true := by simp
  have s3 : (tak == tak) = true := by simp
  have q9 := q2.drew
  go_wp2_with fail
  clear k0 k1 k2 k3 j0 j1 j2 j3 j4 l0 l1 l2 l3 l4
  go_region_held3 (fun w' => (w'.cell? ⟨w.heap.size, 0, none⟩ = some (.int .i64 u) ∧ w'.cell? ⟨w.heap.size, 1, none⟩ = some (.int .i64 g) ∧ w'.cell? ⟨w.heap.size, 2, none⟩ = some (.slice ad zs.length cap) ∧ w'.cell? ⟨w.heap.size, 3, none⟩ = some (.int .i64 c)) ∧ (w'.cell? ⟨w.heap.size + 1, 0, none⟩ = some (.bool d) ∧ w'.cell? ⟨w.heap.size + 1, 1, none⟩ = some (.int .i64 m) ∧ w'.cell? ⟨w.heap.size + 1, 2, none⟩ = some (.int .i64 tu) ∧ w'.cell? ⟨w.heap.size + 1, 3, none⟩ = some (.int .i64 tg) ∧ w'.cell? ⟨w.heap.size + 1, 4, none⟩ = some (.bool mp)) ∧ (w'.cell? ⟨w.heap.size + 1 + 1, 0, none⟩ = some (.bool dd) ∧ w'.cell? ⟨w.heap.size + 1 + 1, 1, none⟩ = some (.int .i64 dm) ∧ w'.cell? ⟨w.heap.size + 1 + 1, 2, none⟩ = some (.int .i64 du) ∧ w'.cell? ⟨w.heap.size + 1 + 1, 3, none⟩ = some (.int .i64 dg) ∧ w'.cell? ⟨w.heap.size + 1 + 1, 4, none⟩ = some (.bool dmp))) (first | exact q9.cells | exact qa.cells | exact qb.cells | exact qc.cells | exact qd.cells | exact qe.cells | exact qf.cells)
    (first
      | (go_at_call 38; refine (may_any u g c ad cap zs d m tu tg mp want _ hl q9.i hm0 hm1).mono ?_; rw [HMY.out]; rintro e wa ⟨rfl, hba⟩; have qa := q9.below hba)
      | (go_at_call 39; refine (mayr_any u g c ad cap zs d m tu tg mp want _ hl qa.i hm0 hm1 hc0 hc1).mono ?_; rw [HMY.out]; rintro e wb ⟨rfl, hbb⟩; have qb := qa.below hbb)
      | (go_at_call 40; refine (owns_any u g c _ d m tu tg mp _).mono ?_; rw [HOW.out]; rintro e wc ⟨rfl, hbc⟩; have qc := qb.below hbc)
      | (go_at_call 41; refine (ownsr_any u g c _ d m tu tg mp _ hc0 hc1).mono ?_; rw [HOW.out]; rintro e wd ⟨rfl, hbd⟩; have qd := qc.below hbd)
      | (go_at_call 42; refine (takes_any u g c _ dd dm du dg dmp d m tu tg mp _).mono ?_; rw [HTK.out]; rintro e we ⟨rfl, hbe⟩; have qe := qd.below hbe)
      | (go_at_call 43; refine (takesr_any u g c _ dd dm du dg dmp d m tu tg mp _ hc0 hc1 hd0 hd1).mono ?_; rw [HTK.out]; rintro e wf ⟨rfl, hbf⟩; have qf := qe.below hbf))
  go_wp2
  go_ret
  exact ⟨rfl, qf.bl⟩
end Go.Proofs.Ytoojeehgkejeeaa
