/-
  WHAT check, few, SameNames, Under AND same DO: the walks, over slices of strings.
-/
import Derived.Test.YtoojeehgkejeeaaDoorDb
import Derived.Deep.QuietTactic
import Derived.BigQuiet
namespace Go.Proofs.YtoojeehgkejeeaaDoor
open Go.RowKit

/-- A slice of strings, its elements xs: nothing is asked of an empty one's address. -/
def Strs (w : World) (a : Option Addr) (xs : List ByteArray) : Prop :=
  xs = [] ∨ ∃ b off, a = some ⟨b, off, none⟩ ∧ ∀ i x, xs[i]? = some x → w.cell? ⟨b, off + i, none⟩ = some (.string x)
theorem Strs.below {w w' : World} {a : Option Addr} {xs : List ByteArray} (h : Strs w a xs) (hb : Below w.heap.size w w') : Strs w' a xs := by
  rcases h with h | ⟨b, off, ha, hc⟩
  · exact .inl h
  · exact .inr ⟨b, off, ha, fun i x hi => by
      have := hc i x hi
      have hlt := World.block_lt_of_cell? _ _ this
      rw [hb.cell (p := ⟨b, off + i, none⟩) hlt]; exact this⟩

/-- An error, by its number. -/
def errV (n : Int) : Value := if n = 0 then .nilIface else .iface 23 (.int .i64 n)
theorem errV_of {n m : Int} (h : n = m) (hm : m ≠ 0) : errV n = .iface 23 (.int .i64 m) := by subst h; simp [errV, hm]
theorem errV_nil {n : Int} (h : n = 0) : errV n = .nilIface := by subst h; rfl
theorem ret_val {a b : Value} (h : a = b) : Ending.returned a = .returned b := by rw [h]

/-- What is wrong with names. -/
def chkF (xs : List ByteArray) : Int := if xs.all nameB = true then (if 6 < xs.length then 2 else 0) else 4

theorem allS_succ {f : ByteArray → Bool} {l : List ByteArray} {k : Nat} {b : ByteArray} (hb : l[k]? = some b) (h : (l.take k).all f = true) (hf : f b = true) : (l.take (k + 1)).all f = true := by
  rw [List.take_add_one, hb]; simp at h ⊢; exact ⟨h, hf⟩
theorem allS_bad {f : ByteArray → Bool} {l : List ByteArray} {k : Nat} {b : ByteArray} (hb : l[k]? = some b) (hf : f b = false) : l.all f = false := by
  have hm : b ∈ l := List.mem_of_getElem? hb
  cases h : l.all f with
  | false => rfl
  | true => rw [List.all_eq_true] at h; rw [h b hm] at hf; cases hf

set_option maxHeartbeats 400000 in
theorem check_any (a : Option Addr) (cap : Nat) (xs : List ByteArray) (w : World) (hl : xs.length ≤ 4611686018427387904) (h : Strs w a xs) :
    Calls Tryd.prog 22 #[.slice a xs.length cap] w fun e w' => e = .returned (errV (chkF xs)) ∧ w = w' := by
  go_enter Tryd.func22, Tryd.ntmps22
  go_wp2
  go_loop [7] (fun i => ∃ k : Nat, k ≤ xs.length ∧ i = .int .i64 k ∧ Hid ((xs.take k).all nameB = true)) (fun i => xs.length - (intOf i).toNat)
  case atStart => exact ⟨0, Nat.zero_le _, rfl, rfl⟩
  case round =>
    obtain ⟨k, hk, rfl, HA⟩ := hrel
    by_cases hlt : k < xs.length
    · rcases h with rfl | ⟨b, off, rfl, hc⟩
      · simp at hlt
      · obtain ⟨x, hx⟩ : ∃ x, xs[k]? = some x := ⟨xs[k], by simp [hlt]⟩
        have HX : Hid (xs[k]? = some x) := hx
        have hck := hc k x hx
        clear hx hc
        obtain ⟨t, ht⟩ : ∃ t, nameB x = t := ⟨_, rfl⟩
        have HT : Hid (nameB x = t) := ht
        clear ht
        go_wp2_with fail
        refine (name_any _ _).mono ?_
        rintro e w' ⟨rfl, rfl⟩
        rw [HT.out]
        cases t
        · go_wp2
          go_ret
          exact ⟨ret_val (errV_of (by unfold chkF; rw [if_neg (by rw [allS_bad HX.out HT.out]; decide)]) (by decide)).symm, rfl⟩
        · go_wp2
          go_round
          case rel => exact ⟨k + 1, by omega, by go_num, allS_succ HX.out HA.out HT.out⟩
          case measure => simp [intOf]; omega
    · have HL : Hid (xs.all nameB = true) := by
        show _ = _
        have := HA.out
        rw [List.take_of_length_le (by omega)] at this
        exact this
      by_cases h6 : 6 < xs.length
      · have d6 : decide (6 < (xs.length : Int)) = true := decide_eq_true (by omega)
        have HC : Hid (chkF xs = 2) := by show _ = _; unfold chkF; rw [if_pos HL.out, if_pos h6]
        go_wp2
        go_ret
        exact ⟨ret_val (errV_of HC.out (by decide)).symm, rfl⟩
      · have d6 : decide (6 < (xs.length : Int)) = false := decide_eq_false (by omega)
        have HC : Hid (chkF xs = 0) := by show _ = _; unfold chkF; rw [if_pos HL.out, if_neg h6]
        go_wp2
        go_ret
        exact ⟨ret_val (errV_nil HC.out).symm, rfl⟩

/-- Few, and short? -/
def fewB (xs : List ByteArray) : Bool := decide (xs.length ≤ 12) && xs.all (fun x => decide (x.size ≤ 60))

set_option maxHeartbeats 400000 in
theorem few_any (a : Option Addr) (cap : Nat) (xs : List ByteArray) (w : World) (h : Strs w a xs) :
    Calls Tryd.prog 10 #[.slice a xs.length cap] w fun e w' => e = .returned (.bool (fewB xs)) ∧ w = w' := by
  by_cases h12 : 12 < xs.length
  · have d12 : decide (12 < (xs.length : Int)) = true := decide_eq_true (by omega)
    go_enter Tryd.func10, Tryd.ntmps10
    go_wp2
    go_ret
    exact ⟨ret_bool (by unfold fewB; rw [decide_eq_false (by omega : ¬ xs.length ≤ 12)]; rfl), rfl⟩
  have d12 : decide (12 < (xs.length : Int)) = false := decide_eq_false (by omega)
  have HF : Hid (fewB xs = xs.all (fun x => decide (x.size ≤ 60))) := by show _ = _; unfold fewB; rw [decide_eq_true (by omega : xs.length ≤ 12)]; rfl
  go_enter Tryd.func10, Tryd.ntmps10
  go_wp2
  go_loop [3] (fun i => ∃ k : Nat, k ≤ xs.length ∧ i = .int .i64 k ∧ Hid ((xs.take k).all (fun x => decide (x.size ≤ 60)) = true)) (fun i => xs.length - (intOf i).toNat)
  case atStart => exact ⟨0, Nat.zero_le _, rfl, rfl⟩
  case round =>
    obtain ⟨k, hk, rfl, HA⟩ := hrel
    by_cases hlt : k < xs.length
    · rcases h with rfl | ⟨b, off, rfl, hc⟩
      · simp at hlt
      · obtain ⟨x, hx⟩ : ∃ x, xs[k]? = some x := ⟨xs[k], by simp [hlt]⟩
        have HX : Hid (xs[k]? = some x) := hx
        have hck := hc k x hx
        clear hx hc
        by_cases h60 : 60 < x.size
        · have d60 : decide (60 < (x.size : Int)) = true := decide_eq_true (by omega)
          have HB : Hid (xs.all (fun x => decide (x.size ≤ 60)) = false) := allS_bad HX.out (decide_eq_false (by omega))
          go_wp2
          go_ret
          exact ⟨ret_bool (by rw [HF.out, HB.out]), rfl⟩
        · have d60 : decide (60 < (x.size : Int)) = false := decide_eq_false (by omega)
          have HB : Hid (decide (x.size ≤ 60) = true) := decide_eq_true (by omega)
          go_wp2
          go_round
          case rel => exact ⟨k + 1, by omega, by go_num, allS_succ HX.out HA.out HB.out⟩
          case measure => simp [intOf]; omega
    · go_wp2
      go_ret
      have := HA.out
      rw [List.take_of_length_le (by omega)] at this
      exact ⟨ret_bool (by rw [HF.out, this]), rfl⟩

theorem assert23 (W : World) (n : Int) : (Instr.typeAssert (.iface 23 (.int .i64 n)) 27 23 true).run Tryd.prog W = .ok (.tuple #[.int .i64 n, .bool true]) W := by kernel_rfl
set_option maxHeartbeats 400000 in
theorem same_nil (w : World) : Calls Tryd.prog 6 #[.nilIface, .int .i64 0] w fun e w' => e = .returned (.bool true) ∧ w = w' := by
  go_enter Tryd.func6, Tryd.ntmps6
  go_wp2
  go_ret
  exact ⟨rfl, rfl⟩
set_option maxHeartbeats 400000 in
theorem same_err (n : Int) (hn : 0 < n) (w : World) : Calls Tryd.prog 6 #[.iface 23 (.int .i64 n), .int .i64 n] w fun e w' => e = .returned (.bool true) ∧ w = w' := by
  have ha := assert23
  go_enter Tryd.func6, Tryd.ntmps6
  go_wp2
  go_ret
  exact ⟨rfl, rfl⟩
theorem same_errV (n : Int) (hn : 0 ≤ n) (w : World) : Calls Tryd.prog 6 #[errV n, .int .i64 n] w fun e w' => e = .returned (.bool true) ∧ w = w' := by
  by_cases h : n = 0
  · subst h; exact same_nil w
  · rw [errV_of rfl h]; exact same_err n (by omega) w

theorem toList_inj {x y : ByteArray} (h : x.toList = y.toList) : x = y := by
  rw [Lib.toList_data, Lib.toList_data] at h
  have : x.data = y.data := by
    cases hx : x.data; cases hy : y.data
    rw [hx, hy] at h
    simpa using h
  cases x; cases y; simpa using this
theorem take_eq_succ {xs ys : List ByteArray} {k : Nat} {x : ByteArray} (h1 : xs[k]? = some x) (h2 : ys[k]? = some x) (h : xs.take k = ys.take k) : xs.take (k + 1) = ys.take (k + 1) := by
  rw [List.take_add_one, List.take_add_one, h, h1, h2]
theorem take_ne {xs ys : List ByteArray} {k : Nat} {x y : ByteArray} (h1 : xs[k]? = some x) (h2 : ys[k]? = some y) (hne : x ≠ y) : xs ≠ ys.take xs.length := by
  intro e
  have hk := (List.getElem?_eq_some_iff.1 h1).1
  have : (ys.take xs.length)[k]? = some x := by rw [← e]; exact h1
  rw [List.getElem?_take, if_pos hk, h2] at this
  exact hne (by simpa using this.symm)

/-- Does one list begin with another? -/
def underB (xs ys : List ByteArray) : Bool := decide (xs = ys.take xs.length)

set_option maxHeartbeats 400000 in
theorem under_any (a b : Option Addr) (c1 c2 : Nat) (xs ys : List ByteArray) (w : World) (hl1 : xs.length ≤ 100) (hl2 : ys.length ≤ 100) (h : Strs w a xs) (h' : Strs w b ys) :
    Calls Tryd.prog 18 #[.slice a xs.length c1, .slice b ys.length c2] w fun e w' => e = .returned (.bool (underB xs ys)) ∧ w = w' := by
  by_cases hl : ys.length < xs.length
  · have d0 : decide ((ys.length : Int) < (xs.length : Int)) = true := decide_eq_true (by omega)
    have HU : Hid (underB xs ys = false) := decide_eq_false (by intro e; have := congrArg List.length e; simp at this; omega)
    go_enter Tryd.func18, Tryd.ntmps18
    go_wp2
    go_ret
    exact ⟨ret_bool HU.out.symm, rfl⟩
  have d0 : decide ((ys.length : Int) < (xs.length : Int)) = false := decide_eq_false (by omega)
  go_enter Tryd.func18, Tryd.ntmps18
  go_wp2
  go_loop [14] (fun i => ∃ k : Nat, k ≤ xs.length ∧ i = .int .i64 k ∧ Hid (xs.take k = ys.take k)) (fun i => xs.length - (intOf i).toNat)
  case atStart => exact ⟨0, Nat.zero_le _, rfl, rfl⟩
  case round =>
    obtain ⟨k, hk, rfl, HA⟩ := hrel
    by_cases hlt : k < xs.length
    · rcases h with rfl | ⟨ba, oa, rfl, hc⟩
      · simp at hlt
      · rcases h' with rfl | ⟨bb, ob, rfl, hc'⟩
        · simp at hl; simp [hl] at hlt
        · obtain ⟨x, hx⟩ : ∃ x, xs[k]? = some x := ⟨xs[k], by simp [hlt]⟩
          obtain ⟨y, hy⟩ : ∃ y, ys[k]? = some y := ⟨ys[k]'(by omega), List.getElem?_eq_getElem _⟩
          have HX : Hid (xs[k]? = some x) := hx
          have HY : Hid (ys[k]? = some y) := hy
          have q1 := hc k x hx
          have q2 := hc' k y hy
          have hki : (k : Int) < (xs.length : Int) := by omega
          have hkj : (k : Int) < (ys.length : Int) := by omega
          clear hx hy hc hc'
          obtain ⟨t, ht⟩ : ∃ t, (y.toList == x.toList) = t := ⟨_, rfl⟩
          cases t
          · have HN : Hid (x ≠ y) := fun e => by subst e; simp at ht
            have HU : Hid (underB xs ys = false) := decide_eq_false (take_ne HX.out HY.out HN.out)
            clear HN
            go_wp2
            go_ret
            exact ⟨ret_bool HU.out.symm, rfl⟩
          · have HE : Hid (y = x) := toList_inj (by simpa using ht)
            go_wp2
            go_round
            case rel => exact ⟨k + 1, by omega, by go_num, take_eq_succ HX.out (by rw [HY.out, HE.out]) HA.out⟩
            case measure => simp [intOf]; omega
    · have HU : Hid (underB xs ys = true) := decide_eq_true (by
        have := HA.out
        have hkk : k = xs.length := by omega
        subst hkk
        rw [List.take_length] at this
        exact this)
      go_wp2
      go_ret
      exact ⟨ret_bool HU.out.symm, rfl⟩

set_option maxHeartbeats 400000 in
theorem sameNames_any (a b : Option Addr) (c1 c2 n m : Nat) (xs ys : List ByteArray) (w : World) (hn : xs.length = n) (hm : ys.length = m) (hl : n ≤ 100) (hl2 : m ≤ 100) (h : Strs w a xs) (h' : Strs w b ys) :
    Calls Tryd.prog 17 #[.slice a n c1, .slice b m c2] w fun e w' => e = .returned (.bool (decide (xs = ys))) ∧ Below w.heap.size w w' := by
  by_cases hnm : n = m
  · subst hnm
    have hne : ((n : Int) != (n : Int)) = false := by simp
    go_enter Tryd.func17, Tryd.ntmps17
    go_wp2
    go_loopw [5] (fun i wr => ∃ k : Nat, k ≤ n ∧ i = .int .i64 k ∧ Hid (xs.take k = ys.take k) ∧ Below w.heap.size w wr) (fun i _ => n - (intOf i).toNat)
    case atStart => exact ⟨0, Nat.zero_le _, rfl, rfl, Below.refl _ _⟩
    case round =>
      obtain ⟨k, hk, rfl, HR, hb⟩ := hrel
      by_cases hlt : k < n
      · rcases h with rfl | ⟨ba, oa, rfl, hc⟩
        · simp at hn; omega
        · rcases h' with rfl | ⟨bb, ob, rfl, hc'⟩
          · simp at hm; omega
          · obtain ⟨x, hx⟩ : ∃ x, xs[k]? = some x := ⟨xs[k]'(by omega), List.getElem?_eq_getElem _⟩
            obtain ⟨y, hy⟩ : ∃ y, ys[k]? = some y := ⟨ys[k]'(by omega), List.getElem?_eq_getElem _⟩
            have HX : Hid (xs[k]? = some x) := hx
            have HY : Hid (ys[k]? = some y) := hy
            have h1 := hc k x hx
            have h2 := hc' k y hy
            have q1 : wr.cell? ⟨ba, oa + k, none⟩ = some (.string x) := (hb.cell (p := ⟨ba, oa + k, none⟩) (World.block_lt_of_cell? _ _ h1)).trans h1
            have q2 : wr.cell? ⟨bb, ob + k, none⟩ = some (.string y) := (hb.cell (p := ⟨bb, ob + k, none⟩) (World.block_lt_of_cell? _ _ h2)).trans h2
            have hki : (k : Int) < (n : Int) := by omega
            clear h1 h2 hc hc' hx hy
            obtain ⟨t, ht⟩ : ∃ t, (x.toList == y.toList) = t := ⟨_, rfl⟩
            cases t
            · have HN : Hid (x ≠ y) := fun e => by subst e; simp at ht
              have HU : Hid (decide (xs = ys) = false) := decide_eq_false (fun e => by
                have h3 := HX.out
                rw [e, HY.out] at h3
                exact HN.out (by simpa using h3.symm))
              clear HN
              go_wp2
              go_quiet (fail)
              go_wp2
              go_ret
              exact ⟨ret_bool HU.out.symm, below_drewN hb _⟩
            · have HE : Hid (x = y) := toList_inj (by simpa using ht)
              go_wp2
              go_quiet (fail)
              go_wp2
              go_roundw
              case rel => exact ⟨k + 1, by omega, by go_num, take_eq_succ HX.out (by rw [HY.out, HE.out]) HR.out, below_drewN hb _⟩
              case measure => simp [intOf]; omega
      · go_wp2
        go_ret
        have e1 := HR.out
        rw [List.take_of_length_le (by omega), List.take_of_length_le (by omega)] at e1
        exact ⟨ret_bool (by simp [e1]), hb⟩
  · have hne : ((n : Int) != (m : Int)) = true := by simp; omega
    go_enter Tryd.func17, Tryd.ntmps17
    go_wp2
    go_ret
    exact ⟨ret_bool (by symm; simp; intro e; rw [e] at hn; omega), Below.refl _ _⟩

theorem Strs.take {w : World} {a : Option Addr} {xs : List ByteArray} (h : Strs w a xs) (k : Nat) : Strs w a (xs.take k) := by
  rcases h with rfl | ⟨b, off, ha, hc⟩
  · exact .inl (by simp)
  · refine .inr ⟨b, off, ha, fun i x hi => hc i x ?_⟩
    rw [List.getElem?_take] at hi
    split at hi
    · exact hi
    · cases hi

set_option maxHeartbeats 400000 in
theorem underr_any (a b : Option Addr) (c1 c2 : Nat) (xs ys : List ByteArray) (w : World) (hl1 : xs.length ≤ 100) (_hl2 : ys.length ≤ 100) (hc2 : ys.length ≤ c2) (_hm2 : c2 ≤ 9223372036854775807) (h : Strs w a xs) (h' : Strs w b ys) :
    Calls Tryd.prog 19 #[.slice a xs.length c1, .slice b ys.length c2] w fun e w' => e = .returned (.bool (underB xs ys)) ∧ Below w.heap.size w w' := by
  by_cases hl : ys.length < xs.length
  · have d0 : decide ((xs.length : Int) ≤ (ys.length : Int)) = false := decide_eq_false (by omega)
    have HU : Hid (underB xs ys = false) := decide_eq_false (by intro e; have := congrArg List.length e; simp at this; omega)
    go_enter Tryd.func19, Tryd.ntmps19
    go_wp2
    go_ret
    exact ⟨ret_bool HU.out.symm, Below.refl _ _⟩
  have d0 : decide ((xs.length : Int) ≤ (ys.length : Int)) = true := decide_eq_true (by omega)
  go_enter Tryd.func19, Tryd.ntmps19
  go_wp2_with fail
  refine (sameNames_any a b c1 c2 xs.length xs.length xs (ys.take xs.length) _ rfl (by simp; omega) hl1 hl1 h (h'.take _)).mono ?_
  rintro e w1 ⟨rfl, hb⟩
  go_wp2
  go_ret
  exact ⟨rfl, hb⟩
end Go.Proofs.YtoojeehgkejeeaaDoor
