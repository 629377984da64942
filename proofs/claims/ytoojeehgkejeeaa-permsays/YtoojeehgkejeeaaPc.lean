/-
  WHAT PACKAGE perm DOES: the walks of passes, May, Owns, Takes.
-/
import Derived.Test.YtoojeehgkejeeaaPb
namespace Go.Proofs.Ytoojeehgkejeeaa
open Go.RowKit

/-- Does one pass by CapAccess? -/
def passB (c : Int) (d : Bool) (m : Int) (mp : Bool) (want : Int) : Bool := mp && (bits .and .i64 c 2 == 2) && (d || bits .and .i64 want 1 == 0 || bits .and .i64 m 73 != 0)

set_option maxHeartbeats 1000000 in
theorem passes_any (u g c : Int) (v : Value) (d : Bool) (m tu tg : Int) (mp : Bool) (want : Int) (w : World) :
    Calls Try.prog 62 #[.agg #[.int .i64 u, .int .i64 g, v, .int .i64 c], .agg #[.bool d, .int .i64 m, .int .i64 tu, .int .i64 tg, .bool mp], .int .i64 want] w fun e w' =>
      e = .returned (.bool (passB c d m mp want)) ∧ Below w.heap.size w w' := by
  cases mp
  · go_enter Try.func62, Try.ntmps62
    go_wp2
    go_ret
    exact ⟨rfl, ((Below.refl _ _).alloc (Nat.le_refl _) _).alloc (by simp) _⟩
  · go_enter Try.func62, Try.ntmps62
    go_wp2_with fail
    refine (can_any u g c 2 _ _).mono ?_
    rintro e w1 ⟨rfl, hb⟩
    obtain ⟨hX, hT, hB⟩ := two_new w w1 u g _ c d m tu tg true hb
    clear hb
    obtain ⟨j0, j1, j2, j3, j4⟩ := id hT
    obtain ⟨t, ht⟩ : ∃ t, (bits .and .i64 c 2 == 2) = t := ⟨_, rfl⟩
    have HT : Hid ((bits .and .i64 c 2 == 2) = t) := ht
    rw [ht]; clear ht
    cases t
    · go_wp2
      go_ret
      exact ⟨ret_bool (by unfold passB; rw [HT.out]; simp), hB⟩
    · cases d
      · obtain ⟨t, ht⟩ : ∃ t, (bits .and .i64 want 1 == 0) = t := ⟨_, rfl⟩
        have HW : Hid ((bits .and .i64 want 1 == 0) = t) := ht
        cases t
        · go_wp2
          go_ret
          exact ⟨ret_bool (by unfold passB; rw [HT.out, HW.out]; simp), hB⟩
        · go_wp2
          go_ret
          exact ⟨ret_bool (by unfold passB; rw [HT.out, HW.out]; simp), hB⟩
      · go_wp2
        go_ret
        exact ⟨ret_bool (by unfold passB; rw [HT.out]; simp), hB⟩

/-- May one? -/
def mayB (u g : Int) (zs : List Int) (c : Int) (d : Bool) (m tu tg : Int) (mp : Bool) (want : Int) : Bool :=
  if want < 0 ∨ 7 < want then false else (bits .and .i64 (cntF u g zs m tu tg mp) want == want) || passB c d m mp want

set_option maxHeartbeats 1000000 in
theorem may_any (u g c : Int) (a : Option Addr) (cap : Nat) (zs : List Int) (d : Bool) (m tu tg : Int) (mp : Bool) (want : Int) (w : World) (hl : zs.length ≤ 9223372036854775807) (h : Ints w a zs) (hm0 : 0 ≤ m) (hm1 : m ≤ 4095) :
    Calls Try.prog 38 #[.agg #[.int .i64 u, .int .i64 g, .slice a zs.length cap, .int .i64 c], .agg #[.bool d, .int .i64 m, .int .i64 tu, .int .i64 tg, .bool mp], .int .i64 want] w fun e w' =>
      e = .returned (.bool (mayB u g zs c d m tu tg mp want)) ∧ Below w.heap.size w w' := by
  by_cases h0 : want < 0
  · go_enter Try.func38, Try.ntmps38
    go_wp2
    go_ret
    exact ⟨ret_bool (by unfold mayB; rw [if_pos (.inl h0)]), ((Below.refl _ _).alloc (Nat.le_refl _) _).alloc (by simp) _⟩
  have d0 : decide (want < 0) = false := by simpa using h0
  by_cases h7 : 7 < want
  · have d7 : decide (7 < want) = true := by simpa using h7
    go_enter Try.func38, Try.ntmps38
    go_wp2
    go_ret
    exact ⟨ret_bool (by unfold mayB; rw [if_pos (.inr h7)]), ((Below.refl _ _).alloc (Nat.le_refl _) _).alloc (by simp) _⟩
  have d7 : decide (7 < want) = false := by simpa using h7
  have HM : Hid (mayB u g zs c d m tu tg mp want = ((bits .and .i64 (cntF u g zs m tu tg mp) want == want) || passB c d m mp want)) := by
    show _ = _; unfold mayB; rw [if_neg (by omega)]
  go_enter Try.func38, Try.ntmps38
  go_wp2_with fail
  refine (counting_any u g c a cap zs d m tu tg mp _ hl (h.two _ _) hm0 hm1).mono ?_
  rintro e w1 ⟨rfl, hb⟩
  obtain ⟨hX, hT, hB⟩ := two_new w w1 u g _ c d m tu tg mp hb
  clear hb
  obtain ⟨k0, k1, k2, k3, k4⟩ := id hX
  obtain ⟨j0, j1, j2, j3, j4⟩ := id hT
  generalize cntF u g zs m tu tg mp = n at HM ⊢
  obtain ⟨t, ht⟩ : ∃ t, (bits .and .i64 n want == want) = t := ⟨_, rfl⟩
  rw [ht] at HM
  cases t
  · go_wp2_with fail
    refine (passes_any u g c _ d m tu tg mp want _).mono ?_
    rintro e w2 ⟨rfl, hb2⟩
    have hB2 := hB.trans (hb2.mono hB.size)
    go_wp2
    go_ret
    exact ⟨ret_bool (by rw [HM.out]; rfl), hB2⟩
  · go_wp2
    go_ret
    exact ⟨ret_bool (by rw [HM.out]; rfl), hB⟩

/-- Is it one's own? -/
def ownB (u c : Int) (tu : Int) (mp : Bool) : Bool := isU u tu mp || (mp && bits .and .i64 c 4 == 4)

set_option maxHeartbeats 1000000 in
theorem owns_any (u g c : Int) (v : Value) (d : Bool) (m tu tg : Int) (mp : Bool) (w : World) :
    Calls Try.prog 40 #[.agg #[.int .i64 u, .int .i64 g, v, .int .i64 c], .agg #[.bool d, .int .i64 m, .int .i64 tu, .int .i64 tg, .bool mp]] w fun e w' =>
      e = .returned (.bool (ownB u c tu mp)) ∧ Below w.heap.size w w' := by
  go_enter Try.func40, Try.ntmps40
  go_wp2_with fail
  refine (isUsers_any u g c _ d m tu tg mp _).mono ?_
  rintro e w1 ⟨rfl, hb⟩
  obtain ⟨hX, hT, hB⟩ := two_new w w1 u g _ c d m tu tg mp hb
  clear hb
  obtain ⟨k0, k1, k2, k3, k4⟩ := id hX
  obtain ⟨j0, j1, j2, j3, j4⟩ := id hT
  obtain ⟨t, ht⟩ : ∃ t, isU u tu mp = t := ⟨_, rfl⟩
  have HT : Hid (isU u tu mp = t) := ht
  rw [ht]; clear ht
  cases t
  · cases mp
    · go_wp2
      go_ret
      exact ⟨ret_bool (by unfold ownB; rw [HT.out]; rfl), hB⟩
    · go_wp2_with fail
      refine (can_any u g c 4 _ _).mono ?_
      rintro e w2 ⟨rfl, hb2⟩
      have hB2 := hB.trans (hb2.mono hB.size)
      go_wp2
      go_ret
      exact ⟨ret_bool (by unfold ownB; rw [HT.out]; rfl), hB2⟩
  · go_wp2
    go_ret
    exact ⟨ret_bool (by unfold ownB; rw [HT.out]; rfl), hB⟩

/-- A cred and two things, new in memory. -/
theorem three_new (w w1 : World) (u g : Int) (v : Value) (c : Int) (d : Bool) (m tu tg : Int) (mp : Bool) (d' : Bool) (m' tu' tg' : Int) (mp' : Bool)
    (hb : Below (((w.alloc (.cells #[.int .i64 u, .int .i64 g, v, .int .i64 c] 40)).alloc (.cells #[.bool d, .int .i64 m, .int .i64 tu, .int .i64 tg, .bool mp] 56)).alloc (.cells #[.bool d', .int .i64 m', .int .i64 tu', .int .i64 tg', .bool mp'] 56)).heap.size (((w.alloc (.cells #[.int .i64 u, .int .i64 g, v, .int .i64 c] 40)).alloc (.cells #[.bool d, .int .i64 m, .int .i64 tu, .int .i64 tg, .bool mp] 56)).alloc (.cells #[.bool d', .int .i64 m', .int .i64 tu', .int .i64 tg', .bool mp'] 56)) w1) :
    Box w1 w.heap.size u g v c ∧ TBox w1 (w.heap.size + 1) d m tu tg mp ∧ TBox w1 (w.heap.size + 2) d' m' tu' tg' mp' ∧ Below w.heap.size w w1 :=
  ⟨(((Box.new w u g v c).alloc _).alloc _).below hb, ((TBox.new (w.alloc _) _ (by simp) d m tu tg mp).alloc _).below hb, (TBox.new ((w.alloc _).alloc _) _ (by simp) d' m' tu' tg' mp').below hb, ((((Below.refl _ _).alloc (Nat.le_refl _) _).alloc (by simp) _).alloc (by simp; omega) _).trans (hb.mono (by simp; omega))⟩

/-- May one take it out? -/
def takeB (u c : Int) (dm du : Int) (dmp : Bool) (tu : Int) (mp : Bool) : Bool := bits .and .i64 dm 512 == 0 || ownB u c tu mp || isU u du dmp

set_option maxHeartbeats 1000000 in
theorem takes_any (u g c : Int) (v : Value) (dd : Bool) (dm du dg : Int) (dmp : Bool) (d : Bool) (m tu tg : Int) (mp : Bool) (w : World) :
    Calls Try.prog 42 #[.agg #[.int .i64 u, .int .i64 g, v, .int .i64 c], .agg #[.bool dd, .int .i64 dm, .int .i64 du, .int .i64 dg, .bool dmp], .agg #[.bool d, .int .i64 m, .int .i64 tu, .int .i64 tg, .bool mp]] w fun e w' =>
      e = .returned (.bool (takeB u c dm du dmp tu mp)) ∧ Below w.heap.size w w' := by
  obtain ⟨t, ht⟩ : ∃ t, (bits .and .i64 dm 512 == 0) = t := ⟨_, rfl⟩
  have HD : Hid ((bits .and .i64 dm 512 == 0) = t) := ht
  cases t
  · go_enter Try.func42, Try.ntmps42
    go_wp2_with fail
    refine (owns_any u g c _ d m tu tg mp _).mono ?_
    rintro e w1 ⟨rfl, hb⟩
    obtain ⟨hX, hD, _, hB⟩ := three_new w w1 u g _ c dd dm du dg dmp d m tu tg mp hb
    clear hb
    obtain ⟨k0, k1, k2, k3, k4⟩ := id hX
    obtain ⟨j0, j1, j2, j3, j4⟩ := id hD
    obtain ⟨t, ht⟩ : ∃ t, ownB u c tu mp = t := ⟨_, rfl⟩
    have HO : Hid (ownB u c tu mp = t) := ht
    rw [ht]; clear ht
    cases t
    · go_wp2_with fail
      refine (isUsers_any u g c _ dd dm du dg dmp _).mono ?_
      rintro e w2 ⟨rfl, hb2⟩
      have hB2 := hB.trans (hb2.mono hB.size)
      go_wp2
      go_ret
      exact ⟨ret_bool (by unfold takeB; rw [HD.out, HO.out]; rfl), hB2⟩
    · go_wp2
      go_ret
      exact ⟨ret_bool (by unfold takeB; rw [HD.out, HO.out]; rfl), hB⟩
  · go_enter Try.func42, Try.ntmps42
    go_wp2
    go_ret
    exact ⟨ret_bool (by unfold takeB; rw [HD.out]; rfl), (((Below.refl _ _).alloc (Nat.le_refl _) _).alloc (by simp) _).alloc (by simp; omega) _⟩
end Go.Proofs.Ytoojeehgkejeeaa
