/-
  WHAT strings.Cut DOES AT A DOT, AND WHAT Class DOES, the program's and the document's: the walks.
  LISTS OF ATTRIBUTES IN MEMORY; what attr.Check does: the walk.
-/
import Derived.Test.YtkkhfnkmfkdhiabAcX
import Derived.Test.YtkkhfnkmfkdhiabShY
import Derived.Lib.CutLaws
import Derived.Deep.QuietTactic
import Derived.BigQuiet
namespace Go.Proofs.Ytkkhfnkmfkdhiab
open Go.RowKit

theorem wrap_small {x : Int} (h1 : -9223372036854775808 ≤ x) (h2 : x ≤ 9223372036854775807) : IntKind.i64.wrap x = x := by
  simp [IntKind.wrap, IntKind.signed, IntKind.bits]; omega
/-- What stands ahead of the first dot, and behind it. -/
def headB (s : ByteArray) : ByteArray := ⟨(Lib.cut s.data.toList [46]).1.toArray⟩
def tailB (s : ByteArray) : ByteArray := ⟨(Lib.cut s.data.toList [46]).2.1.toArray⟩
def dotB (s : ByteArray) : Bool := (Lib.cut s.data.toList [46]).2.2

set_option maxRecDepth 100000 in
set_option maxHeartbeats 1000000 in
theorem scut_any (s : ByteArray) (w : World) (hs : s.size ≤ 1000) : Calls Try.prog 169 #[.string s, .string ⟨#[46]⟩] w fun e w' => e = .returned (.tuple #[.string (headB s), .string (tailB s), .bool (dotB s)]) ∧ ∃ n, w' = w.drewN n := by
  have hI : Lib.indexByte s.data.toList 46 = Lib.indexB s ⟨#[46]⟩ := (Lib.index_one s.data.toList 46).symm
  have HI : Hid (Lib.indexByte s.data.toList 46 = Lib.indexB s ⟨#[46]⟩) := hI
  clear hI
  rcases Lib.indexB_cases s ⟨#[46]⟩ with hix | ⟨i, hix, hroom⟩
  · obtain ⟨e1, e2, e3⟩ := Lib.cutB_miss s ⟨#[46]⟩ hix
    have E1 : Hid (headB s = s) := e1
    have E2 : Hid (tailB s = ByteArray.empty) := e2
    have E3 : Hid (dotB s = false) := e3
    have HX : Hid (Lib.indexByte s.data.toList 46 = -1) := HI.out.trans hix
    clear e1 e2 e3 hix HI
    go_enter Try.func169, Try.ntmps169
    go_wp2_with fail
    refine (Try.stringslite_Index_one _ _ _).mono ?_
    rintro e w' ⟨rfl, rfl⟩
    rw [HX.out]
    go_wp2
    go_ret3
    exact ⟨by rw [E1.out, E2.out, E3.out]; rfl, 0, rfl⟩
  · obtain ⟨e1, e2, e3⟩ := Lib.cutB_hit s ⟨#[46]⟩ i hix
    have E1 : Hid (headB s = s.extract 0 i) := e1
    have E2 : Hid (tailB s = s.extract (i + 1) s.size) := e2
    have E3 : Hid (dotB s = true) := e3
    have HX : Hid (Lib.indexByte s.data.toList 46 = i) := HI.out.trans hix
    have hroom' : i + 1 ≤ s.size := hroom
    have c1 : (0 : Int) ≤ ↑i := by omega
    have c2 : (↑i : Int) ≤ ↑s.size := by omega
    have c3 : (0 : Int) ≤ ↑i + 1 := by omega
    have c4 : (↑i + 1 : Int) ≤ ↑s.size := by omega
    have c5 : IntKind.i64.wrap (↑i + 1) = ↑i + 1 := wrap_small (by omega) (by omega)
    clear e1 e2 e3 hix HI hroom
    go_enter Try.func169, Try.ntmps169
    go_wp2_with fail
    refine (Try.stringslite_Index_one _ _ _).mono ?_
    rintro e w' ⟨rfl, rfl⟩
    rw [HX.out]
    go_wp2
    go_quiet (fail)
    go_wp2
    go_ret3
    exact ⟨by rw [E1.out, E2.out, E3.out]; rfl, _, rfl⟩

set_option maxHeartbeats 1000000 in
theorem cut_any (s : ByteArray) (w : World) (hs : s.size ≤ 1000) : Calls Try.prog 163 #[.string s, .string ⟨#[46]⟩] w fun e w' => e = .returned (.tuple #[.string (headB s), .string (tailB s), .bool (dotB s)]) ∧ ∃ n, w' = w.drewN n := by
  go_enter Try.func163, Try.ntmps163
  go_wp2_with fail
  refine (scut_any s _ hs).mono ?_
  rintro e w' ⟨rfl, n, rfl⟩
  go_wp2
  go_ret3
  exact ⟨rfl, n, rfl⟩

theorem class_parts (s : ByteArray) : classB s = if nameB (tailB s) = true then (if (headB s).toList = [117] then 1 else if (headB s).toList = [116] then 2 else 0) else 0 := by
  unfold classB
  rw [class_cut]
  have e1 : (headB s).toList = (Lib.cut s.data.toList [46]).1 := by rw [Lib.toList_data]; rfl
  have e2 : (tailB s).data.toList = (Lib.cut s.data.toList [46]).2.1 := rfl
  unfold nameB
  rw [e1, e2]

theorem ret_num {a b : Int} (h : a = b) : Ending.returned (.int .i64 a) = .returned (.int .i64 b) := by rw [h]
set_option maxHeartbeats 1000000 in
theorem class_any (s : ByteArray) (w : World) (hs : s.size ≤ 1000) : Calls Try.prog 149 #[.string s] w fun e w' => e = .returned (.int .i64 (classB s)) ∧ ∃ n, w' = w.drewN n := by
  have HC : Hid (classB s = if nameB (tailB s) = true then (if (headB s).toList = [117] then 1 else if (headB s).toList = [116] then 2 else 0) else 0) := class_parts s
  generalize hh : headB s = h at HC
  generalize ht : tailB s = t at HC
  obtain ⟨b, hb⟩ : ∃ b, nameB t = b := ⟨_, rfl⟩
  have HB : Hid (nameB t = b) := hb
  rw [hb] at HC
  clear hb
  have HK : Hid (headB s = h) := hh
  have HT : Hid (tailB s = t) := ht
  clear hh ht
  cases b
  · have HC2 : Hid (classB s = 0) := by show _ = _; rw [HC.out]; rfl
    clear HC
    go_enter Try.func149, Try.ntmps149
    go_wp2_with fail
    refine (cut_any s _ hs).mono ?_
    rintro e w' ⟨rfl, n, rfl⟩
    rw [HK.out, HT.out]
    go_wp2_with fail
    refine (name_any t _).mono ?_
    rintro e w' ⟨rfl, rfl⟩
    rw [HB.out]
    go_wp2
    go_ret
    exact ⟨ret_num HC2.out.symm, n, rfl⟩
  · by_cases h1 : h.toList = [117]
    · have HC2 : Hid (classB s = 1) := by show _ = _; rw [HC.out, if_pos rfl, if_pos h1]
      have b1 : (h.toList == [117]) = true := by simpa using h1
      clear HC h1
      go_enter Try.func149, Try.ntmps149
      go_wp2_with fail
      refine (cut_any s _ hs).mono ?_
      rintro e w' ⟨rfl, n, rfl⟩
      rw [HK.out, HT.out]
      go_wp2_with fail
      refine (name_any t _).mono ?_
      rintro e w' ⟨rfl, rfl⟩
      rw [HB.out]
      go_wp2
      go_ret
      exact ⟨ret_num HC2.out.symm, n, rfl⟩
    · have b1 : (h.toList == [117]) = false := by simpa using h1
      by_cases h2 : h.toList = [116]
      · have HC2 : Hid (classB s = 2) := by show _ = _; rw [HC.out, if_pos rfl, if_neg h1, if_pos h2]
        have b2 : (h.toList == [116]) = true := by simpa using h2
        clear HC h1 h2
        go_enter Try.func149, Try.ntmps149
        go_wp2_with fail
        refine (cut_any s _ hs).mono ?_
        rintro e w' ⟨rfl, n, rfl⟩
        rw [HK.out, HT.out]
        go_wp2_with fail
        refine (name_any t _).mono ?_
        rintro e w' ⟨rfl, rfl⟩
        rw [HB.out]
        go_wp2
        go_ret
        exact ⟨ret_num HC2.out.symm, n, rfl⟩
      · have HC2 : Hid (classB s = 0) := by show _ = _; rw [HC.out, if_pos rfl, if_neg h1, if_neg h2]
        have b2 : (h.toList == [116]) = false := by simpa using h2
        clear HC h1 h2
        go_enter Try.func149, Try.ntmps149
        go_wp2_with fail
        refine (cut_any s _ hs).mono ?_
        rintro e w' ⟨rfl, n, rfl⟩
        rw [HK.out, HT.out]
        go_wp2_with fail
        refine (name_any t _).mono ?_
        rintro e w' ⟨rfl, rfl⟩
        rw [HB.out]
        go_wp2
        go_ret
        exact ⟨ret_num HC2.out.symm, n, rfl⟩

theorem class_short {s : ByteArray} (h : s.size < 2) : classB s = 0 := by
  unfold classB classL
  have : s.data.toList.drop 2 = [] := List.drop_eq_nil_iff.2 (by rw [len_data]; omega)
  rw [this]; rfl
theorem class_long {s : ByteArray} : classB s = if nameB (s.extract 2 s.size) = true then (if (s.extract 0 2).toList = [117, 46] then 1 else if (s.extract 0 2).toList = [116, 46] then 2 else 0) else 0 := by
  have e1 : (s.extract 0 2).toList = s.data.toList.take 2 := by rw [Lib.toList_data, Lib.extract_data]; simp
  have e2 : (s.extract 2 s.size).data.toList = s.data.toList.drop 2 := Lib.extract_to_end s 2
  unfold nameB classB classL
  rw [e1, e2]

set_option maxRecDepth 100000 in
set_option maxHeartbeats 1000000 in
theorem classr_any (s : ByteArray) (w : World) (hs : s.size ≤ 1000) : Calls Try.prog 148 #[.string s] w fun e w' => e = .returned (.int .i64 (classB s)) ∧ w = w' := by
  by_cases h2 : s.size < 2
  · have HC : Hid (classB s = 0) := class_short h2
    have d2 : decide ((s.size : Int) < 2) = true := decide_eq_true (by omega)
    go_enter Try.func148, Try.ntmps148
    go_wp2
    go_ret
    exact ⟨ret_num HC.out.symm, rfl⟩
  have d2 : decide ((s.size : Int) < 2) = false := decide_eq_false (by omega)
  have hz : (s.extract 2 s.size).size ≤ 9223372036854775807 := by rw [ByteArray.size_extract]; omega
  have HC : Hid (classB s = if nameB (s.extract 2 s.size) = true then (if (s.extract 0 2).toList = [117, 46] then 1 else if (s.extract 0 2).toList = [116, 46] then 2 else 0) else 0) := class_long
  obtain ⟨b, hb⟩ : ∃ b, nameB (s.extract 2 s.size) = b := ⟨_, rfl⟩
  have HB : Hid (nameB (s.extract 2 s.size) = b) := hb
  rw [hb] at HC
  clear hb
  cases b
  · have HC2 : Hid (classB s = 0) := by show _ = _; rw [HC.out]; rfl
    clear HC
    go_enter Try.func148, Try.ntmps148
    go_wp2_with fail
    refine (namer_any _ _ hz).mono ?_
    rintro e w' ⟨rfl, rfl⟩
    rw [HB.out]
    go_wp2
    go_ret
    exact ⟨ret_num HC2.out.symm, rfl⟩
  · by_cases h1 : (s.extract 0 2).toList = [117, 46]
    · have HC2 : Hid (classB s = 1) := by show _ = _; rw [HC.out, if_pos rfl, if_pos h1]
      have b1 : ((s.extract 0 2).toList == [117, 46]) = true := by simpa using h1
      clear HC h1
      go_enter Try.func148, Try.ntmps148
      go_wp2_with fail
      refine (namer_any _ _ hz).mono ?_
      rintro e w' ⟨rfl, rfl⟩
      rw [HB.out]
      go_wp2
      go_ret
      exact ⟨ret_num HC2.out.symm, rfl⟩
    · have b1 : ((s.extract 0 2).toList == [117, 46]) = false := by simpa using h1
      by_cases h3 : (s.extract 0 2).toList = [116, 46]
      · have HC2 : Hid (classB s = 2) := by show _ = _; rw [HC.out, if_pos rfl, if_neg h1, if_pos h3]
        have b3 : ((s.extract 0 2).toList == [116, 46]) = true := by simpa using h3
        clear HC h1 h3
        go_enter Try.func148, Try.ntmps148
        go_wp2_with fail
        refine (namer_any _ _ hz).mono ?_
        rintro e w' ⟨rfl, rfl⟩
        rw [HB.out]
        go_wp2
        go_ret
        exact ⟨ret_num HC2.out.symm, rfl⟩
      · have HC2 : Hid (classB s = 0) := by show _ = _; rw [HC.out, if_pos rfl, if_neg h1, if_neg h3]
        have b3 : ((s.extract 0 2).toList == [116, 46]) = false := by simpa using h3
        clear HC h1 h3
        go_enter Try.func148, Try.ntmps148
        go_wp2_with fail
        refine (namer_any _ _ hz).mono ?_
        rintro e w' ⟨rfl, rfl⟩
        rw [HB.out]
        go_wp2
        go_ret
        exact ⟨ret_num HC2.out.symm, rfl⟩
end Go.Proofs.Ytkkhfnkmfkdhiab

namespace Go.Proofs.Ytkkhfnkmfkdhiab
open Go.RowKit

/-- No name and no value has more than sixty bytes. -/
def Low (l : List Kv) : Prop := ∀ x ∈ l, x.n.size ≤ 255 ∧ x.v.size ≤ 255
/-- An attribute in memory. -/
def KBox (w : World) (b : Nat) (x : Kv) : Prop := w.cell? ⟨b, 0, none⟩ = some (.string x.n) ∧ w.cell? ⟨b, 1, none⟩ = some (.string x.v)
theorem KBox.new (w : World) (x : Kv) : KBox (w.alloc (.cells #[.string x.n, .string x.v] 146)) w.heap.size x :=
  ⟨World.cell?_alloc_at _ _ _ _ rfl, World.cell?_alloc_at _ _ _ _ rfl⟩
theorem KBox.drew {w : World} {b : Nat} {x : Kv} (h : KBox w b x) (n : Nat) : KBox (w.drewN n) b x := h

/-- An error, by its number. -/
def errV (n : Int) : Value := if n = 0 then .nilIface else .iface 96 (.int .i64 n)
theorem errV_of {n m : Int} (h : n = m) (hm : m ≠ 0) : errV n = .iface 96 (.int .i64 m) := by subst h; simp [errV, hm]
theorem errV_nil {n : Int} (h : n = 0) : errV n = .nilIface := by subst h; rfl
theorem ret_val {a b : Value} (h : a = b) : Ending.returned a = .returned b := by rw [h]

set_option maxRecDepth 100000 in
set_option maxHeartbeats 1000000 in
theorem check_any (a : Option Addr) (cap : Nat) (l : List Kv) (w : World) (hl : l.length ≤ 1000) (hlow : Low l) (h : Kvm w.cell? a l) :
    Calls Try.prog 136 #[.slice a l.length cap] w fun e w' => e = .returned (errV (chkA l)) ∧ Below w.heap.size w w' := by
  by_cases h4 : 4 < l.length
  · have d4 : decide (4 < (l.length : Int)) = true := decide_eq_true (by omega)
    have HF : Hid (chkA l = 2) := by show _ = _; unfold chkA; rw [if_pos h4]
    go_enter Try.func136, Try.ntmps136
    go_wp2
    go_ret
    exact ⟨ret_val (errV_of HF.out (by decide)).symm, Below.refl _ _⟩
  have d4 : decide (4 < (l.length : Int)) = false := decide_eq_false (by omega)
  have HF : Hid (chkA l = aF l 0 l.length) := by show _ = _; unfold chkA; rw [if_neg h4]
  go_enter Try.func136, Try.ntmps136
  go_wp2
  go_loopw [11] (fun i wr => ∃ k : Nat, k ≤ l.length ∧ i = .int .i64 k ∧ Hid (aF l 0 l.length = aF l k (l.length - k)) ∧ Below w.heap.size w wr) (fun i _ => l.length - (intOf i).toNat)
  case atStart => exact ⟨0, Nat.zero_le _, rfl, rfl, Below.refl _ _⟩
  case round =>
    obtain ⟨k, hk, rfl, HR, hB⟩ := hrel
    by_cases hlt : k < l.length
    · rcases h with rfl | ⟨b, off, rfl, hc⟩
      · simp at hlt
      · obtain ⟨x, hx⟩ : ∃ x, l[k]? = some x := ⟨l[k], by simp [hlt]⟩
        obtain ⟨hc0, hc1⟩ := hc k x hx
        obtain ⟨z1, z2⟩ := hlow x (List.mem_of_getElem? hx)
        have hbl : b < w.heap.size := World.block_lt_of_cell? _ _ hc0
        have hblr : b < wr.heap.size := Nat.lt_of_lt_of_le hbl hB.size
        have hki : (k : Int) < (l.length : Int) := by omega
        have HS : Hid (aF l k (l.length - k) = aF l k ((l.length - (k + 1)) + 1)) := by show _ = _; congr 1; omega
        have HX : Hid (l[k]? = some x) := hx
        have HC : Hid (∀ k x, l[k]? = some x → w.cell? ⟨b, off + k * 2, none⟩ = some (.string x.n) ∧ w.cell? ⟨b, off + k * 2 + 1, none⟩ = some (.string x.v)) := hc
        have q0 : wr.cell? ⟨b, off + k * 2, none⟩ = some (.string x.n) := (hB.cell (p := ⟨b, off + k * 2, none⟩) hbl).trans hc0
        have q1 : wr.cell? ⟨b, off + k * 2 + 1, none⟩ = some (.string x.v) := (hB.cell (p := ⟨b, off + k * 2 + 1, none⟩) hbl).trans hc1
        obtain ⟨c, hcl⟩ : ∃ c, classB x.n = c := ⟨_, rfl⟩
        have HCL : Hid (classB x.n = c) := hcl
        clear hc0 hc1 hx hc hcl
        go_wp2_with fail
        refine (class_any x.n _ (by omega)).mono ?_
        rintro e w' ⟨rfl, n, rfl⟩
        rw [HCL.out]
        have KB := (KBox.new wr x).drew n
        have hB1 := below_drewN (hB.alloc hB.size (.cells #[.string x.n, .string x.v] 146)) n
        generalize (wr.alloc (.cells #[.string x.n, .string x.v] 146)).drewN n = w1 at KB hB1 ⊢
        generalize wr.heap.size = rb at KB ⊢
        obtain ⟨k0, k1⟩ := KB
        clear q0 q1 hB hblr
        by_cases hc0 : c = 0
        · subst hc0
          have HN : Hid (aF l k (l.length - k) = 4) := HS.out.trans ((aF_bad (by rw [stepA_class HX.out HCL.out]; decide)).trans (stepA_class HX.out HCL.out))
          go_wp2
          go_ret
          exact ⟨ret_val (errV_of (by rw [HF.out, HR.out, HN.out]) (by decide)).symm, hB1⟩
        have HCN : Hid (classB x.n ≠ 0) := by show _ ≠ _; rw [HCL.out]; exact hc0
        have bc : (c == 0) = false := by simpa using hc0
        clear hc0
        by_cases h20 : 20 < x.v.size
        · have d20 : decide (20 < (x.v.size : Int)) = true := decide_eq_true (by omega)
          have HN : Hid (aF l k (l.length - k) = 1) := HS.out.trans ((aF_bad (by rw [stepA_long HX.out HCN.out h20]; decide)).trans (stepA_long HX.out HCN.out h20))
          go_wp2
          go_ret
          exact ⟨ret_val (errV_of (by rw [HF.out, HR.out, HN.out]) (by decide)).symm, hB1⟩
        have d20 : decide (20 < (x.v.size : Int)) = false := decide_eq_false (by omega)
        have HV : Hid (¬ 20 < x.v.size) := h20
        clear h20
        by_cases hk0 : k = 0
        · subst hk0
          have HN : Hid (aF l 0 (l.length - 0) = aF l (0 + 1) (l.length - (0 + 1))) := HS.out.trans (aF_ok (stepA_first HX.out HCN.out HV.out))
          go_wp2
          go_quiet (fail)
          go_wp2
          go_roundw
          case rel => exact ⟨0 + 1, by omega, by go_num, HR.out.trans HN.out, below_drewN hB1 _⟩
          case measure => simp [intOf]; omega
        · obtain ⟨j, hj⟩ : ∃ j, k = j + 1 := ⟨k - 1, by omega⟩
          obtain ⟨p, hp⟩ : ∃ p, l[j]? = some p := ⟨l[j]'(by omega), List.getElem?_eq_getElem _⟩
          obtain ⟨p0, _⟩ := HC.out j p hp
          have p1 : w1.cell? ⟨b, off + j * 2, none⟩ = some (.string p.n) := (hB1.cell (p := ⟨b, off + j * 2, none⟩) hbl).trans p0
          have HJ : Hid (k = j + 1) := hj
          have HST : Hid (stepA l k = if ltB p.n x.n = true then 0 else 3) := by show _ = _; rw [HJ.out]; exact stepA_next (by rw [← HJ.out]; exact HX.out) hp HCN.out HV.out
          have d0 : decide (0 < k) = true := decide_eq_true (by omega)
          have dw : IntKind.i64.wrap ((k : Int) - 1) = (j : Int) := (wrap_small (by omega) (by omega)).trans (by omega)
          have dj : (k : Int) - 1 = (j : Int) := by omega
          have dl : (j : Int) < (l.length : Int) := by omega
          obtain ⟨t, ht⟩ : ∃ t, ltB p.n x.n = t := ⟨_, rfl⟩
          have hle : (Op.bytesLess x.n.toList p.n.toList || x.n.toList == p.n.toList) = !t := by rw [leq_eq, ht]
          rw [ht] at HST
          clear hj ht HC hp p0
          cases t
          · have HN : Hid (aF l k (l.length - k) = 3) := HS.out.trans ((aF_bad (by rw [HST.out]; decide)).trans (by rw [HST.out]; rfl))
            go_wp2
            go_quiet (fail)
            go_wp2
            go_ret
            exact ⟨ret_val (errV_of (by rw [HF.out, HR.out, HN.out]) (by decide)).symm, below_drewN hB1 _⟩
          · have HN : Hid (aF l k (l.length - k) = aF l (k + 1) (l.length - (k + 1))) := HS.out.trans (aF_ok (by rw [HST.out]; rfl))
            go_wp2
            go_quiet (fail)
            go_wp2
            go_roundw
            case rel => exact ⟨k + 1, by omega, by go_num, HR.out.trans HN.out, below_drewN hB1 _⟩
            case measure => simp [intOf]; omega
    · have e0 : l.length - k = 0 := by omega
      go_wp2
      go_ret
      exact ⟨ret_val (errV_nil (by rw [HF.out, HR.out, e0]; rfl)).symm, hB⟩
end Go.Proofs.Ytkkhfnkmfkdhiab
