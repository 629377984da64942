/-
  WHAT AttrFault, lightAttrs, SameAttrs, same AND is DO: the walks.
-/
import Derived.Test.YtkkhfnkmfkdhiabAeX
namespace Go.Proofs.Ytkkhfnkmfkdhiab
open Go.RowKit

set_option maxRecDepth 100000 in
set_option maxHeartbeats 1000000 in
theorem fault_any (a : Option Addr) (cap : Nat) (l : List Kv) (w : World) (hl : l.length ≤ 1000) (hlow : Low l) (h : Kvm w.cell? a l) :
    Calls Try.prog 134 #[.slice a l.length cap] w fun e w' => e = .returned (.int .i64 (chkA l)) ∧ Below w.heap.size w w' := by
  by_cases h4 : 4 < l.length
  · have d4 : decide (4 < (l.length : Int)) = true := decide_eq_true (by omega)
    have HF : Hid (chkA l = 2) := by show _ = _; unfold chkA; rw [if_pos h4]
    go_enter Try.func134, Try.ntmps134
    go_wp2
    go_ret
    exact ⟨ret_num HF.out.symm, Below.refl _ _⟩
  have d4 : decide (4 < (l.length : Int)) = false := decide_eq_false (by omega)
  have HF : Hid (chkA l = aF l 0 l.length) := by show _ = _; unfold chkA; rw [if_neg h4]
  go_enter Try.func134, Try.ntmps134
  go_wp2
  go_loopw [3] (fun i wr => ∃ k : Nat, k ≤ l.length ∧ i = .int .i64 k ∧ Hid (aF l 0 l.length = aF l k (l.length - k)) ∧ Below w.heap.size w wr) (fun i _ => l.length - (intOf i).toNat)
  case atStart => exact ⟨0, Nat.zero_le _, rfl, rfl, Below.refl _ _⟩
  case round =>
    obtain ⟨k, hk, rfl, HR, hB⟩ := hrel
    by_cases hlt : k < l.length
    · rcases h with rfl | ⟨b, off, rfl, hc⟩
      · simp at hlt
      · obtain ⟨x, hx⟩ : ∃ x, l[k]? = some x := ⟨l[k], by simp [hlt]⟩
        obtain ⟨hc0, hc1⟩ := hc k x hx
        obtain ⟨z1, z2⟩ := hlow x (List.mem_of_getElem? hx)
        have hbl : b < w.heap.size := World.block_lt_of_cell? _ _ hc0
        have hblr : b < wr.heap.size := Nat.lt_of_lt_of_le hbl hB.size
        have hki : (k : Int) < (l.length : Int) := by omega
        have HS : Hid (aF l k (l.length - k) = aF l k ((l.length - (k + 1)) + 1)) := by show _ = _; congr 1; omega
        have HX : Hid (l[k]? = some x) := hx
        have HC : Hid (∀ k x, l[k]? = some x → w.cell? ⟨b, off + k * 2, none⟩ = some (.string x.n) ∧ w.cell? ⟨b, off + k * 2 + 1, none⟩ = some (.string x.v)) := hc
        have q0 : wr.cell? ⟨b, off + k * 2, none⟩ = some (.string x.n) := (hB.cell (p := ⟨b, off + k * 2, none⟩) hbl).trans hc0
        have q1 : wr.cell? ⟨b, off + k * 2 + 1, none⟩ = some (.string x.v) := (hB.cell (p := ⟨b, off + k * 2 + 1, none⟩) hbl).trans hc1
        obtain ⟨c, hcl⟩ : ∃ c, classB x.n = c := ⟨_, rfl⟩
        have HCL : Hid (classB x.n = c) := hcl
        clear hc0 hc1 hx hc hcl
        go_wp2_with fail
        refine (classr_any x.n _ (by omega)).mono ?_
        rintro e w' ⟨rfl, rfl⟩
        rw [HCL.out]
        by_cases hc0 : c = 0
        · subst hc0
          have HN : Hid (aF l k (l.length - k) = 4) := HS.out.trans ((aF_bad (by rw [stepA_class HX.out HCL.out]; decide)).trans (stepA_class HX.out HCL.out))
          go_wp2
          go_ret
          exact ⟨ret_num (by rw [HF.out, HR.out, HN.out]), hB⟩
        have HCN : Hid (classB x.n ≠ 0) := by show _ ≠ _; rw [HCL.out]; exact hc0
        have bc : (c == 0) = false := by simpa using hc0
        clear hc0
        by_cases h20 : 20 < x.v.size
        · have d20 : decide (20 < (x.v.size : Int)) = true := decide_eq_true (by omega)
          have HN : Hid (aF l k (l.length - k) = 1) := HS.out.trans ((aF_bad (by rw [stepA_long HX.out HCN.out h20]; decide)).trans (stepA_long HX.out HCN.out h20))
          go_wp2
          go_ret
          exact ⟨ret_num (by rw [HF.out, HR.out, HN.out]), hB⟩
        have d20 : decide (20 < (x.v.size : Int)) = false := decide_eq_false (by omega)
        have HV : Hid (¬ 20 < x.v.size) := h20
        clear h20
        by_cases hk0 : k = 0
        · subst hk0
          have HN : Hid (aF l 0 (l.length - 0) = aF l (0 + 1) (l.length - (0 + 1))) := HS.out.trans (aF_ok (stepA_first HX.out HCN.out HV.out))
          go_wp2
          go_quiet (fail)
          go_wp2
          go_roundw
          case rel => exact ⟨0 + 1, by omega, by go_num, HR.out.trans HN.out, below_drewN hB _⟩
          case measure => simp [intOf]; omega
        · obtain ⟨j, hj⟩ : ∃ j, k = j + 1 := ⟨k - 1, by omega⟩
          obtain ⟨p, hp⟩ : ∃ p, l[j]? = some p := ⟨l[j]'(by omega), List.getElem?_eq_getElem _⟩
          obtain ⟨p0, _⟩ := HC.out j p hp
          have p1 : wr.cell? ⟨b, off + j * 2, none⟩ = some (.string p.n) := (hB.cell (p := ⟨b, off + j * 2, none⟩) hbl).trans p0
          have HJ : Hid (k = j + 1) := hj
          have HST : Hid (stepA l k = if ltB p.n x.n = true then 0 else 3) := by show _ = _; rw [HJ.out]; exact stepA_next (by rw [← HJ.out]; exact HX.out) hp HCN.out HV.out
          have d0 : decide (0 < k) = true := decide_eq_true (by omega)
          have dw : IntKind.i64.wrap ((k : Int) - 1) = (j : Int) := (wrap_small (by omega) (by omega)).trans (by omega)
          have dj : (k : Int) - 1 = (j : Int) := by omega
          have dl : (j : Int) < (l.length : Int) := by omega
          obtain ⟨t, ht⟩ : ∃ t, ltB p.n x.n = t := ⟨_, rfl⟩
          have hle : (Op.bytesLess x.n.toList p.n.toList || x.n.toList == p.n.toList) = !t := by rw [leq_eq, ht]
          rw [ht] at HST
          clear hj ht HC hp p0
          cases t
          · have HN : Hid (aF l k (l.length - k) = 3) := HS.out.trans ((aF_bad (by rw [HST.out]; decide)).trans (by rw [HST.out]; rfl))
            go_wp2
            go_quiet (fail)
            go_wp2
            go_ret
            exact ⟨ret_num (by rw [HF.out, HR.out, HN.out]), below_drewN hB _⟩
          · have HN : Hid (aF l k (l.length - k) = aF l (k + 1) (l.length - (k + 1))) := HS.out.trans (aF_ok (by rw [HST.out]; rfl))
            go_wp2
            go_quiet (fail)
            go_wp2
            go_roundw
            case rel => exact ⟨k + 1, by omega, by go_num, HR.out.trans HN.out, below_drewN hB _⟩
            case measure => simp [intOf]; omega
    · have e0 : l.length - k = 0 := by omega
      go_wp2
      go_ret
      exact ⟨ret_num (by rw [HF.out, HR.out, e0]; rfl), hB⟩

theorem light_low {l : List Kv} (h : lightB l = true) : l.length ≤ 8 ∧ Low l := by
  simp only [lightB, lowB, Bool.and_eq_true, decide_eq_true_eq, List.all_eq_true] at h
  exact ⟨h.1, fun x hx => by have := h.2 x hx; omega⟩
theorem allK_succ {f : Kv → Bool} {l : List Kv} {k : Nat} {b : Kv} (hb : l[k]? = some b) (h : (l.take k).all f = true) (hf : f b = true) : (l.take (k + 1)).all f = true := by
  rw [List.take_add_one, hb]; simp at h ⊢; exact ⟨h, hf⟩
theorem allK_bad {f : Kv → Bool} {l : List Kv} {k : Nat} {b : Kv} (hb : l[k]? = some b) (hf : f b = false) : l.all f = false := by
  have hm : b ∈ l := List.mem_of_getElem? hb
  cases h : l.all f with
  | false => rfl
  | true => rw [List.all_eq_true] at h; rw [h b hm] at hf; cases hf

set_option maxRecDepth 100000 in
set_option maxHeartbeats 1000000 in
theorem lightAttrs_any (a : Option Addr) (cap : Nat) (l : List Kv) (w : World) (h : Kvm w.cell? a l) :
    Calls Try.prog 94 #[.slice a l.length cap] w fun e w' => e = .returned (.bool (lightB l)) ∧ w = w' := by
  by_cases h8 : 8 < l.length
  · have d8 : decide (8 < (l.length : Int)) = true := decide_eq_true (by omega)
    have HF : Hid (lightB l = false) := by show _ = _; unfold lightB; rw [decide_eq_false (by omega : ¬ l.length ≤ 8)]; rfl
    go_enter Try.func94, Try.ntmps94
    go_wp2
    go_ret
    exact ⟨ret_bool HF.out.symm, rfl⟩
  have d8 : decide (8 < (l.length : Int)) = false := decide_eq_false (by omega)
  have HF : Hid (lightB l = l.all lowB) := by show _ = _; unfold lightB; rw [decide_eq_true (by omega : l.length ≤ 8)]; rfl
  go_enter Try.func94, Try.ntmps94
  go_wp2
  go_loop [3] (fun i => ∃ k : Nat, k ≤ l.length ∧ i = .int .i64 k ∧ Hid ((l.take k).all lowB = true)) (fun i => l.length - (intOf i).toNat)
  case atStart => exact ⟨0, Nat.zero_le _, rfl, rfl⟩
  case round =>
    obtain ⟨k, hk, rfl, HA⟩ := hrel
    by_cases hlt : k < l.length
    · rcases h with rfl | ⟨b, off, rfl, hc⟩
      · simp at hlt
      · obtain ⟨x, hx⟩ : ∃ x, l[k]? = some x := ⟨l[k], by simp [hlt]⟩
        obtain ⟨q0, q1⟩ := hc k x hx
        have hbl : b < w.heap.size := World.block_lt_of_cell? _ _ q0
        have hki : (k : Int) < (l.length : Int) := by omega
        have HX : Hid (l[k]? = some x) := hx
        clear hx hc
        by_cases h1 : 60 < x.n.size
        · have d1 : decide (60 < (x.n.size : Int)) = true := decide_eq_true (by omega)
          have HB : Hid (l.all lowB = false) := allK_bad HX.out (by unfold lowB; rw [decide_eq_false (by omega : ¬ x.n.size ≤ 60)]; rfl)
          go_wp2
          go_ret
          exact ⟨ret_bool (by rw [HF.out, HB.out]), rfl⟩
        have d1 : decide (60 < (x.n.size : Int)) = false := decide_eq_false (by omega)
        by_cases h2 : 60 < x.v.size
        · have d2 : decide (60 < (x.v.size : Int)) = true := decide_eq_true (by omega)
          have HB : Hid (l.all lowB = false) := allK_bad HX.out (by unfold lowB; rw [decide_eq_false (by omega : ¬ x.v.size ≤ 60)]; simp)
          go_wp2
          go_ret
          exact ⟨ret_bool (by rw [HF.out, HB.out]), rfl⟩
        have d2 : decide (60 < (x.v.size : Int)) = false := decide_eq_false (by omega)
        have HB : Hid (lowB x = true) := by show _ = _; unfold lowB; simp; omega
        go_wp2
        go_round
        case rel => exact ⟨k + 1, by omega, by go_num, allK_succ HX.out HA.out HB.out⟩
        case measure => simp [intOf]; omega
    · go_wp2
      go_ret
      have := HA.out
      rw [List.take_of_length_le (by omega)] at this
      exact ⟨ret_bool (by rw [HF.out, this]), rfl⟩

set_option maxRecDepth 100000 in
set_option maxHeartbeats 1000000 in
theorem sameAttrs_yes (a b : Option Addr) (c1 c2 n : Nat) (l : List Kv) (w : World) (hn : l.length = n) (hl : n ≤ 1000) (h : Kvm w.cell? a l) (h' : Kvm w.cell? b l) :
    Calls Try.prog 40 #[.slice a n c1, .slice b n c2] w fun e w' => e = .returned (.bool true) ∧ Below w.heap.size w w' := by
  have hne : ((n : Int) != (n : Int)) = false := by simp
  go_enter Try.func40, Try.ntmps40
  go_wp2
  go_loopw [5] (fun i wr => ∃ k : Nat, k ≤ n ∧ i = .int .i64 k ∧ Below w.heap.size w wr) (fun i _ => n - (intOf i).toNat)
  case atStart => exact ⟨0, Nat.zero_le _, rfl, Below.refl _ _⟩
  case round =>
    obtain ⟨k, hk, rfl, hb⟩ := hrel
    by_cases hlt : k < n
    · obtain ⟨r, hr⟩ : ∃ r, l[k]? = some r := ⟨l[k]'(by omega), List.getElem?_eq_getElem _⟩
      rcases h.below (Below.refl _ _) with hnil | ⟨ba, oa, rfl, hc⟩
      · rw [hnil] at hn; simp at hn; omega
      rcases h' with hnil | ⟨bb, ob, rfl, hc'⟩
      · rw [hnil] at hn; simp at hn; omega
      obtain ⟨y0, y1⟩ := hc k r hr
      obtain ⟨z0, z1⟩ := hc' k r hr
      obtain ⟨ri, ro⟩ := r
      dsimp only at y0 y1 z0 z1
      have hba : ba < w.heap.size := World.block_lt_of_cell? _ _ y0
      have hbb : bb < w.heap.size := World.block_lt_of_cell? _ _ z0
      have q0 : wr.cell? ⟨ba, oa + k * 2, none⟩ = some (.string ri) := (hb.cell (p := ⟨ba, oa + k * 2, none⟩) hba).trans y0
      have q1 : wr.cell? ⟨ba, oa + k * 2 + 1, none⟩ = some (.string ro) := (hb.cell (p := ⟨ba, oa + k * 2 + 1, none⟩) hba).trans y1
      have p0 : wr.cell? ⟨bb, ob + k * 2, none⟩ = some (.string ri) := (hb.cell (p := ⟨bb, ob + k * 2, none⟩) hbb).trans z0
      have p1 : wr.cell? ⟨bb, ob + k * 2 + 1, none⟩ = some (.string ro) := (hb.cell (p := ⟨bb, ob + k * 2 + 1, none⟩) hbb).trans z1
      have hki : (k : Int) < (n : Int) := by omega
      clear y0 y1 z0 z1 hc hc' h hr
      go_wp2
      go_quiet (fail)
      go_wp2
      go_roundw
      case rel => exact ⟨k + 1, by omega, by go_num, below_drewN hb _⟩
      case measure => simp [intOf]; omega
    · go_wp2
      go_ret
      exact ⟨rfl, hb⟩

theorem assert87 (W : World) (n : Int) : (Instr.typeAssert (.iface 96 (.int .i64 n)) 29 96 true).run Try.prog W = .ok (.tuple #[.int .i64 n, .bool true]) W := by kernel_rfl
set_option maxHeartbeats 400000 in
theorem same_nil (w : World) : Calls Try.prog 14 #[.nilIface, .int .i64 0] w fun e w' => e = .returned (.bool true) ∧ w = w' := by
  go_enter Try.func14, Try.ntmps14
  go_wp2
  go_ret
  exact ⟨rfl, rfl⟩
set_option maxHeartbeats 400000 in
theorem same_err (n : Int) (hn : 0 < n) (w : World) : Calls Try.prog 14 #[.iface 96 (.int .i64 n), .int .i64 n] w fun e w' => e = .returned (.bool true) ∧ w = w' := by
  have ha := assert87
  go_enter Try.func14, Try.ntmps14
  go_wp2
  go_ret
  exact ⟨rfl, rfl⟩
theorem same_errV (n : Int) (hn : 0 ≤ n) (w : World) : Calls Try.prog 14 #[errV n, .int .i64 n] w fun e w' => e = .returned (.bool true) ∧ w = w' := by
  by_cases h : n = 0
  · subst h; exact same_nil w
  · rw [errV_of rfl h]; exact same_err n (by omega) w
end Go.Proofs.Ytkkhfnkmfkdhiab
