/-
  WHAT strings.Cut DOES AT A DOT, AND WHAT Class DOES, the program's and the document's: the walks.
-/
import Derived.Test.YtkkhfnkmfkdhiabAd
import Derived.Test.YtkkhfnkmfkdhiabSh
import Derived.Lib.CutLaws
import Derived.Deep.QuietTactic
import Derived.BigQuiet
namespace Go.Proofs.Ytkkhfnkmfkdhiab
open Go.RowKit

theorem wrap_small {x : Int} (h1 : -9223372036854775808 ≤ x) (h2 : x ≤ 9223372036854775807) : IntKind.i64.wrap x = x := by
  simp [IntKind.wrap, IntKind.signed, IntKind.bits]; omega
/-- What stands ahead of the first dot, and behind it. -/
def headB (s : ByteArray) : ByteArray := ⟨(Lib.cut s.data.toList [46]).1.toArray⟩
def tailB (s : ByteArray) : ByteArray := ⟨(Lib.cut s.data.toList [46]).2.1.toArray⟩
def dotB (s : ByteArray) : Bool := (Lib.cut s.data.toList [46]).2.2

set_option maxRecDepth 100000 in
set_option maxHeartbeats 1000000 in
theorem scut_any (s : ByteArray) (w : World) (hs : s.size ≤ 1000) : Calls Try.prog 169 #[.string s, .string ⟨#[46]⟩] w fun e w' => e = .returned (.tuple #[.string (headB s), .string (tailB s), .bool (dotB s)]) ∧ ∃ n, w' = w.drewN n := by
  have hI : Lib.indexByte s.data.toList 46 = Lib.indexB s ⟨#[46]⟩ := (Lib.index_one s.data.toList 46).symm
  have HI : Hid (Lib.indexByte s.data.toList 46 = Lib.indexB s ⟨#[46]⟩) := hI
  clear hI
  rcases Lib.indexB_cases s ⟨#[46]⟩ with hix | ⟨i, hix, hroom⟩
  · obtain ⟨e1, e2, e3⟩ := Lib.cutB_miss s ⟨#[46]⟩ hix
    have E1 : Hid (headB s = s) := e1
    have E2 : Hid (tailB s = ByteArray.empty) := e2
    have E3 : Hid (dotB s = false) := e3
    have HX : Hid (Lib.indexByte s.data.toList 46 = -1) := HI.out.trans hix
    clear e1 e2 e3 hix HI
    go_enter Try.func169, Try.ntmps169
    go_wp2_with fail
    refine (Try.stringslite_Index_one _ _ _).mono ?_
    rintro e w' ⟨rfl, rfl⟩
    rw [HX.out]
    go_wp2
    go_ret3
    exact ⟨by rw [E1.out, E2.out, E3.out]; rfl, 0, rfl⟩
  · obtain ⟨e1, e2, e3⟩ := Lib.cutB_hit s ⟨#[46]⟩ i hix
    have E1 : Hid (headB s = s.extract 0 i) := e1
    have E2 : Hid (tailB s = s.extract (i + 1) s.size) := e2
    have E3 : Hid (dotB s = true) := e3
    have HX : Hid (Lib.indexByte s.data.toList 46 = i) := HI.out.trans hix
    have hroom' : i + 1 ≤ s.size := hroom
    have c1 : (0 : Int) ≤ ↑i := by omega
    have c2 : (↑i : Int) ≤ ↑s.size := by omega
    have c3 : (0 : Int) ≤ ↑i + 1 := by omega
    have c4 : (↑i + 1 : Int) ≤ ↑s.size := by omega
    have c5 : IntKind.i64.wrap (↑i + 1) = ↑i + 1 := wrap_small (by omega) (by omega)
    clear e1 e2 e3 hix HI hroom
    go_enter Try.func169, Try.ntmps169
    go_wp2_with fail
    refine (Try.stringslite_Index_one _ _ _).mono ?_
    rintro e w' ⟨rfl, rfl⟩
    rw [HX.out]
    go_wp2
    go_quiet (fail)
    go_wp2
    go_ret3
    exact ⟨by rw [E1.out, E2.out, E3.out]; rfl, _, rfl⟩

set_option maxHeartbeats 1000000 in
theorem cut_any (s : ByteArray) (w : World) (hs : s.size ≤ 1000) : Calls Try.prog 163 #[.string s, .string ⟨#[46]⟩] w fun e w' => e = .returned (.tuple #[.string (headB s), .string (tailB s), .bool (dotB s)]) ∧ ∃ n, w' = w.drewN n := by
  go_enter Try.func163, Try.ntmps163
  go_wp2_with fail
  refine (scut_any s _ hs).mono ?_
  rintro e w' ⟨rfl, n, rfl⟩
  go_wp2
  go_ret3
  exact ⟨rfl, n, rfl⟩

theorem class_parts (s : ByteArray) : classB s = if nameB (tailB s) = true then (if (headB s).toList = [117] then 1 else if (headB s).toList = [116] then 2 else 0) else 0 := by
  unfold classB
  rw [class_cut]
  have e1 : (headB s).toList = (Lib.cut s.data.toList [46]).1 := by rw [Lib.toList_data]; rfl
  have e2 : (tailB s).data.toList = (Lib.cut s.data.toList [46]).2.1 := rfl
  unfold nameB
  rw [e1, e2]

theorem ret_num {a b : Int} (h : a = b) : Ending.returned (.int .i64 a) = .returned (.int .i64 b) := by rw [h]
set_option maxHeartbeats 1000000 in
theorem class_any (s : ByteArray) (w : World) (hs : s.size ≤ 1000) : Calls Try.prog 149 #[.string s] w fun e w' => e = .returned (.int .i64 (classB s)) ∧ ∃ n, w' = w.drewN n := by
  have HC : Hid (classB s = if nameB (tailB s) = true then (if (headB s).toList = [117] then 1 else if (headB s).toList = [116] then 2 else 0) else 0) := class_parts s
  generalize hh : headB s = h at HC
  generalize ht : tailB s = t at HC
  obtain ⟨b, hb⟩ : ∃ b, nameB t = b := ⟨_, rfl⟩
  have HB : Hid (nameB t = b) := hb
  rw [hb] at HC
  clear hb
  have HK : Hid (headB s = h) := hh
  have HT : Hid (tailB s = t) := ht
  clear hh ht
  cases b
  · have HC2 : Hid (classB s = 0) := by show _ = _; rw [HC.out]; rfl
    clear HC
    go_enter Try.func149, Try.ntmps149
    go_wp2_with fail
    refine (cut_any s _ hs).mono ?_
    rintro e w' ⟨rfl, n, rfl⟩
    rw [HK.out, HT.out]
    go_wp2_with fail
    refine (name_any t _).mono ?_
    rintro e w' ⟨rfl, rfl⟩
    rw [HB.out]
    go_wp2
    go_ret
    exact ⟨ret_num HC2.out.symm, n, rfl⟩
  · by_cases h1 : h.toList = [117]
    · have HC2 : Hid (classB s = 1) := by show _ = _; rw [HC.out, if_pos rfl, if_pos h1]
      have b1 : (h.toList == [117]) = true := by simpa using h1
      clear HC h1
      go_enter Try.func149, Try.ntmps149
      go_wp2_with fail
      refine (cut_any s _ hs).mono ?_
      rintro e w' ⟨rfl, n, rfl⟩
      rw [HK.out, HT.out]
      go_wp2_with fail
      refine (name_any t _).mono ?_
      rintro e w' ⟨rfl, rfl⟩
      rw [HB.out]
      go_wp2
      go_ret
      exact ⟨ret_num HC2.out.symm, n, rfl⟩
    · have b1 : (h.toList == [117]) = false := by simpa using h1
      by_cases h2 : h.toList = [116]
      · have HC2 : Hid (classB s = 2) := by show _ = _; rw [HC.out, if_pos rfl, if_neg h1, if_pos h2]
        have b2 : (h.toList == [116]) = true := by simpa using h2
        clear HC h1 h2
        go_enter Try.func149, Try.ntmps149
        go_wp2_with fail
        refine (cut_any s _ hs).mono ?_
        rintro e w' ⟨rfl, n, rfl⟩
        rw [HK.out, HT.out]
        go_wp2_with fail
        refine (name_any t _).mono ?_
        rintro e w' ⟨rfl, rfl⟩
        rw [HB.out]
        go_wp2
        go_ret
        exact ⟨ret_num HC2.out.symm, n, rfl⟩
      · have HC2 : Hid (classB s = 0) := by show _ = _; rw [HC.out, if_pos rfl, if_neg h1, if_neg h2]
        have b2 : (h.toList == [116]) = false := by simpa using h2
        clear HC h1 h2
        go_enter Try.func149, Try.ntmps149
        go_wp2_with fail
        refine (cut_any s _ hs).mono ?_
        rintro e w' ⟨rfl, n, rfl⟩
        rw [HK.out, HT.out]
        go_wp2_with fail
        refine (name_any t _).mono ?_
        rintro e w' ⟨rfl, rfl⟩
        rw [HB.out]
        go_wp2
        go_ret
        exact ⟨ret_num HC2.out.symm, n, rfl⟩

theorem class_short {s : ByteArray} (h : s.size < 2) : classB s = 0 := by
  unfold classB classL
  have : s.data.toList.drop 2 = [] := List.drop_eq_nil_iff.2 (by rw [len_data]; omega)
  rw [this]; rfl
theorem class_long {s : ByteArray} : classB s = if nameB (s.extract 2 s.size) = true then (if (s.extract 0 2).toList = [117, 46] then 1 else if (s.extract 0 2).toList = [116, 46] then 2 else 0) else 0 := by
  have e1 : (s.extract 0 2).toList = s.data.toList.take 2 := by rw [Lib.toList_data, Lib.extract_data]; simp
  have e2 : (s.extract 2 s.size).data.toList = s.data.toList.drop 2 := Lib.extract_to_end s 2
  unfold nameB classB classL
  rw [e1, e2]

set_option maxRecDepth 100000 in
set_option maxHeartbeats 1000000 in
theorem classr_any (s : ByteArray) (w : World) (hs : s.size ≤ 1000) : Calls Try.prog 148 #[.string s] w fun e w' => e = .returned (.int .i64 (classB s)) ∧ w = w' := by
  by_cases h2 : s.size < 2
  · have HC : Hid (classB s = 0) := class_short h2
    have d2 : decide ((s.size : Int) < 2) = true := decide_eq_true (by omega)
    go_enter Try.func148, Try.ntmps148
    go_wp2
    go_ret
    exact ⟨ret_num HC.out.symm, rfl⟩
  have d2 : decide ((s.size : Int) < 2) = false := decide_eq_false (by omega)
  have hz : (s.extract 2 s.size).size ≤ 9223372036854775807 := by rw [ByteArray.size_extract]; omega
  have HC : Hid (classB s = if nameB (s.extract 2 s.size) = true then (if (s.extract 0 2).toList = [117, 46] then 1 else if (s.extract 0 2).toList = [116, 46] then 2 else 0) else 0) := class_long
  obtain ⟨b, hb⟩ : ∃ b, nameB (s.extract 2 s.size) = b := ⟨_, rfl⟩
  have HB : Hid (nameB (s.extract 2 s.size) = b) := hb
  rw [hb] at HC
  clear hb
  cases b
  · have HC2 : Hid (classB s = 0) := by show _ = _; rw [HC.out]; rfl
    clear HC
    go_enter Try.func148, Try.ntmps148
    go_wp2_with fail
    refine (namer_any _ _ hz).mono ?_
    rintro e w' ⟨rfl, rfl⟩
    rw [HB.out]
    go_wp2
    go_ret
    exact ⟨ret_num HC2.out.symm, rfl⟩
  · by_cases h1 : (s.extract 0 2).toList = [117, 46]
    · have HC2 : Hid (classB s = 1) := by show _ = _; rw [HC.out, if_pos rfl, if_pos h1]
      have b1 : ((s.extract 0 2).toList == [117, 46]) = true := by simpa using h1
      clear HC h1
      go_enter Try.func148, Try.ntmps148
      go_wp2_with fail
      refine (namer_any _ _ hz).mono ?_
      rintro e w' ⟨rfl, rfl⟩
      rw [HB.out]
      go_wp2
      go_ret
      exact ⟨ret_num HC2.out.symm, rfl⟩
    · have b1 : ((s.extract 0 2).toList == [117, 46]) = false := by simpa using h1
      by_cases h3 : (s.extract 0 2).toList = [116, 46]
      · have HC2 : Hid (classB s = 2) := by show _ = _; rw [HC.out, if_pos rfl, if_neg h1, if_pos h3]
        have b3 : ((s.extract 0 2).toList == [116, 46]) = true := by simpa using h3
        clear HC h1 h3
        go_enter Try.func148, Try.ntmps148
        go_wp2_with fail
        refine (namer_any _ _ hz).mono ?_
        rintro e w' ⟨rfl, rfl⟩
        rw [HB.out]
        go_wp2
        go_ret
        exact ⟨ret_num HC2.out.symm, rfl⟩
      · have HC2 : Hid (classB s = 0) := by show _ = _; rw [HC.out, if_pos rfl, if_neg h1, if_neg h3]
        have b3 : ((s.extract 0 2).toList == [116, 46]) = false := by simpa using h3
        clear HC h1 h3
        go_enter Try.func148, Try.ntmps148
        go_wp2_with fail
        refine (namer_any _ _ hz).mono ?_
        rintro e w' ⟨rfl, rfl⟩
        rw [HB.out]
        go_wp2
        go_ret
        exact ⟨ret_num HC2.out.symm, rfl⟩
end Go.Proofs.Ytkkhfnkmfkdhiab
