/-
  WHAT THE DOCUMENT's OWN Name DOES: the walk.
-/
import Derived.Test.YtkkhfnkmfkdhiabAc
namespace Go.Proofs.Ytkkhfnkmfkdhiab
open Go.RowKit

set_option maxRecDepth 100000 in
set_option maxHeartbeats 2000000 in
theorem namer_any (s : ByteArray) (w : World) (hs : s.size ≤ 9223372036854775807) : Calls Try.prog 100 #[.string s] w fun e w' => e = .returned (.bool (nameB s)) ∧ w = w' := by
  have HN : Hid (nameB s = (((((!s.toList.isEmpty) && decide (s.size ≤ 12)) && !(s.toList == [46])) && !(s.toList == [46, 46])) && s.data.toList.all (fun b => signB (b.toNat : Int)))) := by
    show _ = _; unfold nameB nameL; rw [len_data, Lib.toList_data]
  have he : s.toList.isEmpty = decide (s.size = 0) := by rw [Lib.toList_data, ← len_data]; cases s.data.toList <;> simp
  rw [he] at HN
  clear he
  go_enter Try.func100, Try.ntmps100
  go_wp2
  go_loop [3] (fun i => ∃ k : Nat, k ≤ s.size ∧ i = .int .i64 k ∧ Hid ((s.data.toList.take k).all (fun b => signB (b.toNat : Int)) = true)) (fun i => s.size - (intOf i).toNat)
  case atStart => exact ⟨0, Nat.zero_le _, rfl, rfl⟩
  case round =>
    obtain ⟨k, hk, rfl, HA⟩ := hrel
    by_cases hlt : k < s.size
    · have HG : Hid (s.data.toList[k]? = some s[k]) := get_data s k hlt
      have hbd : (s[k].toNat : Int) ≤ 255 := by have := s[k].toNat_lt; omega
      have hb0 : 0 ≤ (s[k].toNat : Int) := by omega
      rcases sign_parts (s[k].toNat : Int) with ⟨HT0, hp⟩ | ⟨HT0, hp⟩
      · have HT : Hid (signB (s[k].toNat : Int) = true) := HT0
        clear HT0
        generalize hn : (s[k].toNat : Int) = n at hp
        rcases hp with hp | hp | hp | hp | hp
        all_goals
          subst hn
          have HP : Hid (k < s.size) := hlt
          go_wp2
          go_round
          case rel => exact ⟨k + 1, by have := HP.out; omega, by go_num, all_succ HG.out HA.out HT.out⟩
          case measure => have := HP.out; simp [intOf]; omega
      · have HT : Hid (signB (s[k].toNat : Int) = false) := HT0
        clear HT0
        obtain ⟨p1, p2, p3, p4, p5⟩ := hp
        have HB : Hid (nameB s = false) := by show _ = _; rw [HN.out, all_bad HG.out HT.out]; simp
        have c1 : (s[k].toNat : Int) < 97 ∨ 122 < (s[k].toNat : Int) := by omega
        have c2 : (s[k].toNat : Int) < 48 ∨ 57 < (s[k].toNat : Int) := by omega
        clear p1 p2 HN HG HT
        have b3 : ((s[k].toNat : Int) != 46) = true := bne_iff_ne.2 p3
        have b4 : ((s[k].toNat : Int) != 95) = true := bne_iff_ne.2 p4
        have b5 : ((s[k].toNat : Int) != 45) = true := bne_iff_ne.2 p5
        rcases c1 with c1 | c1
        · have b1 : decide (97 ≤ (s[k].toNat : Int)) = false := decide_eq_false (by omega)
          rcases c2 with c2 | c2
          · have b2 : decide (48 ≤ (s[k].toNat : Int)) = false := decide_eq_false (by omega)
            clear c1 c2 p3 p4 p5
            go_wp2
            go_ret
            exact ⟨ret_bool HB.out.symm, rfl⟩
          · have b2 : decide ((s[k].toNat : Int) ≤ 57) = false := decide_eq_false (by omega)
            have b2' : decide (48 ≤ (s[k].toNat : Int)) = true := decide_eq_true (by omega)
            clear c1 c2 p3 p4 p5
            go_wp2
            go_ret
            exact ⟨ret_bool HB.out.symm, rfl⟩
        · have b1 : decide ((s[k].toNat : Int) ≤ 122) = false := decide_eq_false (by omega)
          have b1' : decide (97 ≤ (s[k].toNat : Int)) = true := decide_eq_true (by omega)
          rcases c2 with c2 | c2
          · exfalso; omega
          · have b2 : decide ((s[k].toNat : Int) ≤ 57) = false := decide_eq_false (by omega)
            have b2' : decide (48 ≤ (s[k].toNat : Int)) = true := decide_eq_true (by omega)
            clear c1 c2 p3 p4 p5
            go_wp2
            go_ret
            exact ⟨ret_bool HB.out.symm, rfl⟩
    · have HL : Hid (s.data.toList.all (fun b => signB (b.toNat : Int)) = true) := by
        show _ = _
        have := HA.out
        rw [List.take_of_length_le (by rw [len_data]; omega)] at this
        exact this
      rw [HL.out] at HN
      clear HL HA
      by_cases h0 : s.size = 0
      · have HB : Hid (nameB s = false) := by show _ = _; rw [HN.out]; simp [h0]
        have d0 : decide (0 < (s.size : Int)) = false := decide_eq_false (by omega)
        go_wp2
        go_ret
        exact ⟨ret_bool HB.out.symm, rfl⟩
      · have d0 : decide (0 < (s.size : Int)) = true := by simp; omega
        by_cases h12 : s.size ≤ 12
        · have d1 : decide ((s.size : Int) ≤ 12) = true := by simp; omega
          have HB : Hid (nameB s = (!(s.toList == [46]) && !(s.toList == [46, 46]))) := by show _ = _; rw [HN.out]; simp [h0, h12]
          clear HN
          obtain ⟨t2, h2⟩ : ∃ t, (s.toList == [46]) = t := ⟨_, rfl⟩
          rw [h2] at HB
          have h2' : (s.toList != [46]) = !t2 := by show (!(s.toList == [46])) = !t2; rw [h2]
          cases t2
          · go_wp2
            go_ret
            exact ⟨ret_bool (by rw [HB.out]; rfl), rfl⟩
          · go_wp2
            go_ret
            exact ⟨ret_bool (by rw [HB.out]; rfl), rfl⟩
        · have d1 : decide ((s.size : Int) ≤ 12) = false := by simp; omega
          have HB : Hid (nameB s = false) := by show _ = _; rw [HN.out]; simp [h12]
          go_wp2
          go_ret
          exact ⟨ret_bool HB.out.symm, rfl⟩
end Go.Proofs.Ytkkhfnkmfkdhiab
