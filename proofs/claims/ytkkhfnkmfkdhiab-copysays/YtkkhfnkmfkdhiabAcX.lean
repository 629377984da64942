/-
  WHAT sign AND Name DO, the program's and the document's: the walks.
  WHAT THE DOCUMENT's OWN Name DOES: the walk.
-/
import Derived.Test.YtkkhfnkmfkdhiabRows
import Derived.WalkKit
import Derived.WalkSpells
import Derived.WalkLawsBesides
import Derived.Lib.Strings
import Derived.Test.YtkkhfnkmfkdhiabNaX
namespace Go.Proofs.Ytkkhfnkmfkdhiab
open Go.RowKit


theorem ret_bool {a b : Bool} (h : a = b) : Ending.returned (.bool a) = .returned (.bool b) := by rw [h]

set_option maxHeartbeats 400000 in
theorem sign_any (n : Int) (w : World) : Calls Try.prog 110 #[.int .u8 n] w fun e w' => e = .returned (.bool (signB n)) ∧ w = w' := by
  by_cases h1 : 97 ≤ n ∧ n ≤ 122
  · have d1 : decide (97 ≤ n) = true := by simpa using h1.1
    have d2 : decide (n ≤ 122) = true := by simpa using h1.2
    go_enter Try.func110, Try.ntmps110
    go_wp2
    go_ret
    exact ⟨ret_bool (by simp [signB, d1, d2]), rfl⟩
  · by_cases h2 : 48 ≤ n ∧ n ≤ 57
    · have d1 : decide (97 ≤ n) = false := by simp; omega
      have d3 : decide (48 ≤ n) = true := by simpa using h2.1
      have d4 : decide (n ≤ 57) = true := by simpa using h2.2
      go_enter Try.func110, Try.ntmps110
      go_wp2
      go_ret
      exact ⟨ret_bool (by simp [signB, d3, d4]), rfl⟩
    · have key : signB n = ((n == 46 || n == 95) || n == 45) := by
        unfold signB
        have e1 : (decide (97 ≤ n) && decide (n ≤ 122)) = false := by simp; omega
        have e2 : (decide (48 ≤ n) && decide (n ≤ 57)) = false := by simp; omega
        rw [e1, e2]; simp
      have HK : Hid (signB n = ((n == 46 || n == 95) || n == 45)) := key
      clear key
      obtain ⟨t1, e1⟩ : ∃ t, decide (97 ≤ n) = t := ⟨_, rfl⟩
      obtain ⟨t2, e2⟩ : ∃ t, decide (48 ≤ n) = t := ⟨_, rfl⟩
      obtain ⟨t3, e3⟩ : ∃ t, (n == 46) = t := ⟨_, rfl⟩
      obtain ⟨t4, e4⟩ : ∃ t, (n == 95) = t := ⟨_, rfl⟩
      have e5 : t1 = true → decide (n ≤ 122) = false := by intro h; subst h; simp at e1 ⊢; omega
      have e6 : t2 = true → decide (n ≤ 57) = false := by intro h; subst h; simp at e2 ⊢; omega
      have HK2 : Hid (signB n = ((t3 || t4) || n == 45)) := by show _ = _; rw [HK.out, e3, e4]
      clear HK h1 h2
      cases t1 <;> cases t2 <;> cases t3 <;> cases t4
      all_goals
        try replace e5 := e5 rfl
        try replace e6 := e6 rfl
        go_enter Try.func110, Try.ntmps110
        go_wp2
        go_ret
        exact ⟨ret_bool (by rw [HK2.out]; simp), rfl⟩

theorem len_data (s : ByteArray) : s.data.toList.length = s.size := by rw [Array.length_toList]; rfl
theorem get_data (s : ByteArray) (k : Nat) (h : k < s.size) : s.data.toList[k]? = some s[k] := by
  have : k < s.data.size := h
  rw [Array.getElem?_toList, Array.getElem?_eq_getElem this]; rfl
theorem all_succ {f : UInt8 → Bool} {l : List UInt8} {k : Nat} {b : UInt8} (hb : l[k]? = some b) (h : (l.take k).all f = true) (hf : f b = true) : (l.take (k + 1)).all f = true := by
  rw [List.take_add_one, hb]; simp at h ⊢; exact ⟨h, hf⟩
theorem all_bad {f : UInt8 → Bool} {l : List UInt8} {k : Nat} {b : UInt8} (hb : l[k]? = some b) (hf : f b = false) : l.all f = false := by
  have hm : b ∈ l := List.mem_of_getElem? hb
  cases h : l.all f with
  | false => rfl
  | true => rw [List.all_eq_true] at h; rw [h b hm] at hf; cases hf

set_option maxHeartbeats 400000 in
theorem name_any (s : ByteArray) (w : World) : Calls Try.prog 72 #[.string s] w fun e w' => e = .returned (.bool (nameB s)) ∧ w = w' := by
  have HN : Hid (nameB s = (((((!s.toList.isEmpty) && decide (s.size ≤ 12)) && !(s.toList == [46])) && !(s.toList == [46, 46])) && s.data.toList.all (fun b => signB (b.toNat : Int)))) := by
    show _ = _; unfold nameB nameL; rw [len_data, Lib.toList_data]
  obtain ⟨t1, h1⟩ : ∃ t, s.toList.isEmpty = t := ⟨_, rfl⟩
  rw [h1] at HN
  cases t1
  rotate_left
  · go_enter Try.func72, Try.ntmps72
    go_wp2
    go_ret
    exact ⟨ret_bool (by rw [HN.out]; simp), rfl⟩
  by_cases hz : 12 < s.size
  · have d1 : decide (12 < (s.size : Int)) = true := by simp; omega
    go_enter Try.func72, Try.ntmps72
    go_wp2
    go_ret
    exact ⟨ret_bool (by rw [HN.out]; simp; omega), rfl⟩
  have d1 : decide (12 < (s.size : Int)) = false := by simp; omega
  have HZ : Hid (decide (s.size ≤ 12) = true) := by show _ = _; simp; omega
  rw [HZ.out] at HN
  clear HZ
  obtain ⟨t2, h2⟩ : ∃ t, (s.toList == [46]) = t := ⟨_, rfl⟩
  rw [h2] at HN
  cases t2
  rotate_left
  · go_enter Try.func72, Try.ntmps72
    go_wp2
    go_ret
    exact ⟨ret_bool (by rw [HN.out]; simp), rfl⟩
  obtain ⟨t3, h3⟩ : ∃ t, (s.toList == [46, 46]) = t := ⟨_, rfl⟩
  rw [h3] at HN
  cases t3
  rotate_left
  · go_enter Try.func72, Try.ntmps72
    go_wp2
    go_ret
    exact ⟨ret_bool (by rw [HN.out]; simp), rfl⟩
  have HN2 : Hid (nameB s = s.data.toList.all (fun b => signB (b.toNat : Int))) := by show _ = _; rw [HN.out]; simp
  clear HN
  go_enter Try.func72, Try.ntmps72
  go_wp2
  go_loop [21] (fun i => ∃ k : Nat, k ≤ s.size ∧ i = .int .i64 k ∧ Hid ((s.data.toList.take k).all (fun b => signB (b.toNat : Int)) = true)) (fun i => s.size - (intOf i).toNat)
  case atStart => exact ⟨0, Nat.zero_le _, rfl, rfl⟩
  case round =>
    obtain ⟨k, hk, rfl, HA⟩ := hrel
    by_cases hlt : k < s.size
    · have HG : Hid (s.data.toList[k]? = some s[k]) := get_data s k hlt
      obtain ⟨t, ht⟩ : ∃ t, signB (s[k].toNat : Int) = t := ⟨_, rfl⟩
      have HT : Hid (signB (s[k].toNat : Int) = t) := ht
      clear ht
      go_wp2_with fail
      refine (sign_any _ _).mono ?_
      rintro e w' ⟨rfl, rfl⟩
      rw [HT.out]
      cases t
      · go_wp2
        go_ret
        exact ⟨ret_bool (by rw [HN2.out]; exact (all_bad HG.out HT.out).symm), rfl⟩
      · go_wp2
        go_round
        case rel => exact ⟨k + 1, by omega, by go_num, all_succ HG.out HA.out HT.out⟩
        case measure => simp [intOf]; omega
    · go_wp2
      go_ret
      have := HA.out
      rw [List.take_of_length_le (by rw [len_data]; omega)] at this
      exact ⟨ret_bool (by rw [HN2.out, this]), rfl⟩

/-- What the walk of a byte asks. -/
theorem sign_parts (n : Int) : (signB n = true ∧ ((97 ≤ n ∧ n ≤ 122) ∨ (48 ≤ n ∧ n ≤ 57) ∨ n = 46 ∨ n = 95 ∨ n = 45)) ∨ (signB n = false ∧ ¬ (97 ≤ n ∧ n ≤ 122) ∧ ¬ (48 ≤ n ∧ n ≤ 57) ∧ n ≠ 46 ∧ n ≠ 95 ∧ n ≠ 45) := by
  cases h : signB n with
  | true => left; refine ⟨rfl, ?_⟩; simp [signB] at h; omega
  | false => right; refine ⟨rfl, ?_⟩; simp [signB] at h; omega
end Go.Proofs.Ytkkhfnkmfkdhiab

namespace Go.Proofs.Ytkkhfnkmfkdhiab
open Go.RowKit

set_option maxRecDepth 100000 in
set_option maxHeartbeats 2000000 in
theorem namer_any (s : ByteArray) (w : World) (hs : s.size ≤ 9223372036854775807) : Calls Try.prog 100 #[.string s] w fun e w' => e = .returned (.bool (nameB s)) ∧ w = w' := by
  have HN : Hid (nameB s = (((((!s.toList.isEmpty) && decide (s.size ≤ 12)) && !(s.toList == [46])) && !(s.toList == [46, 46])) && s.data.toList.all (fun b => signB (b.toNat : Int)))) := by
    show _ = _; unfold nameB nameL; rw [len_data, Lib.toList_data]
  have he : s.toList.isEmpty = decide (s.size = 0) := by rw [Lib.toList_data, ← len_data]; cases s.data.toList <;> simp
  rw [he] at HN
  clear he
  go_enter Try.func100, Try.ntmps100
  go_wp2
  go_loop [3] (fun i => ∃ k : Nat, k ≤ s.size ∧ i = .int .i64 k ∧ Hid ((s.data.toList.take k).all (fun b => signB (b.toNat : Int)) = true)) (fun i => s.size - (intOf i).toNat)
  case atStart => exact ⟨0, Nat.zero_le _, rfl, rfl⟩
  case round =>
    obtain ⟨k, hk, rfl, HA⟩ := hrel
    by_cases hlt : k < s.size
    · have HG : Hid (s.data.toList[k]? = some s[k]) := get_data s k hlt
      have hbd : (s[k].toNat : Int) ≤ 255 := by have := s[k].toNat_lt; omega
      have hb0 : 0 ≤ (s[k].toNat : Int) := by omega
      rcases sign_parts (s[k].toNat : Int) with ⟨HT0, hp⟩ | ⟨HT0, hp⟩
      · have HT : Hid (signB (s[k].toNat : Int) = true) := HT0
        clear HT0
        generalize hn : (s[k].toNat : Int) = n at hp
        rcases hp with hp | hp | hp | hp | hp
        all_goals
          subst hn
          have HP : Hid (k < s.size) := hlt
          go_wp2
          go_round
          case rel => exact ⟨k + 1, by have := HP.out; omega, by go_num, all_succ HG.out HA.out HT.out⟩
          case measure => have := HP.out; simp [intOf]; omega
      · have HT : Hid (signB (s[k].toNat : Int) = false) := HT0
        clear HT0
        obtain ⟨p1, p2, p3, p4, p5⟩ := hp
        have HB : Hid (nameB s = false) := by show _ = _; rw [HN.out, all_bad HG.out HT.out]; simp
        have c1 : (s[k].toNat : Int) < 97 ∨ 122 < (s[k].toNat : Int) := by omega
        have c2 : (s[k].toNat : Int) < 48 ∨ 57 < (s[k].toNat : Int) := by omega
        clear p1 p2 HN HG HT
        have b3 : ((s[k].toNat : Int) != 46) = true := bne_iff_ne.2 p3
        have b4 : ((s[k].toNat : Int) != 95) = true := bne_iff_ne.2 p4
        have b5 : ((s[k].toNat : Int) != 45) = true := bne_iff_ne.2 p5
        rcases c1 with c1 | c1
        · have b1 : decide (97 ≤ (s[k].toNat : Int)) = false := decide_eq_false (by omega)
          rcases c2 with c2 | c2
          · have b2 : decide (48 ≤ (s[k].toNat : Int)) = false := decide_eq_false (by omega)
            clear c1 c2 p3 p4 p5
            go_wp2
            go_ret
            exact ⟨ret_bool HB.out.symm, rfl⟩
          · have b2 : decide ((s[k].toNat : Int) ≤ 57) = false := decide_eq_false (by omega)
            have b2' : decide (48 ≤ (s[k].toNat : Int)) = true := decide_eq_true (by omega)
            clear c1 c2 p3 p4 p5
            go_wp2
            go_ret
            exact ⟨ret_bool HB.out.symm, rfl⟩
        · have b1 : decide ((s[k].toNat : Int) ≤ 122) = false := decide_eq_false (by omega)
          have b1' : decide (97 ≤ (s[k].toNat : Int)) = true := decide_eq_true (by omega)
          rcases c2 with c2 | c2
          · exfalso; omega
          · have b2 : decide ((s[k].toNat : Int) ≤ 57) = false := decide_eq_false (by omega)
            have b2' : decide (48 ≤ (s[k].toNat : Int)) = true := decide_eq_true (by omega)
            clear c1 c2 p3 p4 p5
            go_wp2
            go_ret
            exact ⟨ret_bool HB.out.symm, rfl⟩
    · have HL : Hid (s.data.toList.all (fun b => signB (b.toNat : Int)) = true) := by
        show _ = _
        have := HA.out
        rw [List.take_of_length_le (by rw [len_data]; omega)] at this
        exact this
      rw [HL.out] at HN
      clear HL HA
      by_cases h0 : s.size = 0
      · have HB : Hid (nameB s = false) := by show _ = _; rw [HN.out]; simp [h0]
        have d0 : decide (0 < (s.size : Int)) = false := decide_eq_false (by omega)
        go_wp2
        go_ret
        exact ⟨ret_bool HB.out.symm, rfl⟩
      · have d0 : decide (0 < (s.size : Int)) = true := by simp; omega
        by_cases h12 : s.size ≤ 12
        · have d1 : decide ((s.size : Int) ≤ 12) = true := by simp; omega
          have HB : Hid (nameB s = (!(s.toList == [46]) && !(s.toList == [46, 46]))) := by show _ = _; rw [HN.out]; simp [h0, h12]
          clear HN
          obtain ⟨t2, h2⟩ : ∃ t, (s.toList == [46]) = t := ⟨_, rfl⟩
          rw [h2] at HB
          have h2' : (s.toList != [46]) = !t2 := by show (!(s.toList == [46])) = !t2; rw [h2]
          cases t2
          · go_wp2
            go_ret
            exact ⟨ret_bool (by rw [HB.out]; rfl), rfl⟩
          · go_wp2
            go_ret
            exact ⟨ret_bool (by rw [HB.out]; rfl), rfl⟩
        · have d1 : decide ((s.size : Int) ≤ 12) = false := by simp; omega
          have HB : Hid (nameB s = false) := by show _ = _; rw [HN.out]; simp [h12]
          go_wp2
          go_ret
          exact ⟨ret_bool HB.out.symm, rfl⟩
end Go.Proofs.Ytkkhfnkmfkdhiab
