/-
  THE DOCUMENT of maps: span, common.
  THE DOCUMENT of maps: outside, inside.
  THE DOCUMENT of maps: MapFault, ToHost, FromHost.
-/
import Derived.Test.YtkkhfnkmfkdhiabKaX
import Derived.Deep.QuietTactic
import Derived.BigQuiet
namespace Go.Proofs.Ytkkhfnkmfkdhiab
open Go.RowKit

set_option maxHeartbeats 400000 in
theorem span_yes (f n : Int) (h : bndB f n = true) (w : World) : Calls Try.prog 146 #[.int .i64 f, .int .i64 n] w fun e w' => e = .returned (.tuple #[.int .i64 f, .int .i64 (f + n - 1), .bool true]) ∧ w' = w := by
  have h' : 0 ≤ f ∧ 1 ≤ n ∧ n - 1 ≤ 65535 - f := by simpa [bndB] using h
  obtain ⟨h1, h2, h3⟩ := h'
  have d1 : decide (f < 0) = false := by simp; omega
  have d2 : decide (65535 < f) = false := by simp; omega
  have d3 : decide (n < 1) = false := by simp; omega
  have d4 : decide (65536 < n) = false := by simp; omega
  have d5 : decide (65535 < f + n - 1) = false := by simp; omega
  go_enter Try.func146, Try.ntmps146
  go_wp2
  go_ret3
  exact ⟨rfl, rfl⟩

set_option maxHeartbeats 400000 in
theorem span_no (f n : Int) (hf : I64 f) (hn : I64 n) (h : bndB f n = false) (w : World) : Calls Try.prog 146 #[.int .i64 f, .int .i64 n] w fun e w' => e = .returned (.tuple #[.int .i64 0, .int .i64 0, .bool false]) ∧ w' = w := by
  obtain ⟨f1, f2⟩ := hf
  obtain ⟨n1, n2⟩ := hn
  have h' : ¬ (0 ≤ f ∧ 1 ≤ n ∧ n - 1 ≤ 65535 - f) := by simpa [bndB] using h
  clear h
  by_cases c1 : f < 0
  · clear h'
    go_enter Try.func146, Try.ntmps146
    go_wp2
    go_ret3
    exact ⟨rfl, rfl⟩
  have d1 : decide (f < 0) = false := by simpa using c1
  by_cases c2 : 65535 < f
  · clear h'
    go_enter Try.func146, Try.ntmps146
    go_wp2
    go_ret3
    exact ⟨rfl, rfl⟩
  have d2 : decide (65535 < f) = false := by simpa using c2
  by_cases c3 : n < 1
  · clear h'
    go_enter Try.func146, Try.ntmps146
    go_wp2
    go_ret3
    exact ⟨rfl, rfl⟩
  have d3 : decide (n < 1) = false := by simpa using c3
  by_cases c4 : 65536 < n
  · clear h'
    go_enter Try.func146, Try.ntmps146
    go_wp2
    go_ret3
    exact ⟨rfl, rfl⟩
  have d4 : decide (65536 < n) = false := by simpa using c4
  have c5 : 65535 < f + n - 1 := by omega
  clear h'
  go_enter Try.func146, Try.ntmps146
  go_wp2
  go_ret3
  exact ⟨rfl, rfl⟩

set_option maxHeartbeats 400000 in
theorem common_any (a n b m : Int) (h1 : 0 ≤ a) (h2 : a ≤ 65535) (h3 : 1 ≤ n) (h4 : n ≤ 65536) (h5 : 0 ≤ b) (h6 : b ≤ 65535) (h7 : 1 ≤ m) (h8 : m ≤ 65536) (v : Bool) (hv : meetB b m a n = v) (w : World) :
    Calls Try.prog 147 #[.int .i64 a, .int .i64 n, .int .i64 b, .int .i64 m] w fun e w' => e = .returned (.bool v) ∧ w' = w := by
  have HV : Hid (meetB b m a n = v) := hv
  clear hv
  by_cases g1 : a + n - 1 < b
  · have HB : Hid (meetB b m a n = false) := by show _ = _; simp [meetB]; omega
    go_enter Try.func147, Try.ntmps147
    go_wp2
    go_ret
    exact ⟨ret_bool (HB.out.symm.trans HV.out), rfl⟩
  · have d1 : decide (a + n - 1 < b) = false := by simpa using g1
    have HB : Hid (meetB b m a n = !decide (b + m - 1 < a)) := by
      show _ = _
      rw [Bool.eq_iff_iff]; simp [meetB]; omega
    go_enter Try.func147, Try.ntmps147
    go_wp2
    go_ret
    exact ⟨ret_bool (HB.out.symm.trans HV.out), rfl⟩
end Go.Proofs.Ytkkhfnkmfkdhiab

namespace Go.Proofs.Ytkkhfnkmfkdhiab
open Go.RowKit

set_option maxRecDepth 100000 in
set_option maxHeartbeats 1000000 in
theorem outside_any (a : Option Addr) (cap : Nat) (rs : List Rg) (x : Int) (w : World) (hl : rs.length ≤ 100) (hbd : ∀ r ∈ rs, r.bd) (hx : I64 x) (h : Rgs w a rs) (o : Option Int) (HO : Hid (walkM (·.i) (·.o) rs x = o)) :
    Calls Try.prog 131 #[.slice a rs.length cap, .int .i64 x] w fun e w' => e = .returned (optV o) ∧ Below w.heap.size w w' := by
  obtain ⟨xa, xb⟩ := hx
  go_enter Try.func131, Try.ntmps131
  go_wp2
  go_loopw [6] (fun i wr => ∃ k : Nat, k ≤ rs.length ∧ i = .int .i64 k ∧ Hid (walkM (·.i) (·.o) rs x = walkM (·.i) (·.o) (rs.drop k) x) ∧ Below w.heap.size w wr) (fun i _ => rs.length - (intOf i).toNat)
  case atStart => exact ⟨0, Nat.zero_le _, rfl, rfl, Below.refl _ _⟩
  case round =>
    obtain ⟨k, hk, rfl, HR, hB⟩ := hrel
    by_cases hlt : k < rs.length
    · rcases h with rfl | ⟨b, off, rfl, hc⟩
      · simp at hlt
      · obtain ⟨r, hr⟩ : ∃ r, rs[k]? = some r := ⟨rs[k], by simp [hlt]⟩
        obtain ⟨hc0, hc1, hc2⟩ := hc k r hr
        have hbl : b < w.heap.size := World.block_lt_of_cell? _ _ hc0
        have hblr : b < wr.heap.size := Nat.lt_of_lt_of_le hbl hB.size
        have hbr := (bd_iff r).2 (hbd r (List.mem_of_getElem? hr))
        obtain ⟨t1, t2, t3, t4, t5, t6, t7, t8⟩ := hbd r (List.mem_of_getElem? hr)
        have HD : Hid (rs.drop k = r :: rs.drop (k + 1)) := by
          obtain ⟨hk', rfl⟩ := List.getElem?_eq_some_iff.1 hr
          exact List.drop_eq_getElem_cons hk'
        have hki : (k : Int) < (rs.length : Int) := by omega
        obtain ⟨ri, ro, rn⟩ := r
        dsimp only at *
        have HBR : Hid (bndB ri rn = true) := by show _ = _; have := hbr; simp [bndR] at this; exact this.1
        have q0 : wr.cell? ⟨b, off + k * 3, none⟩ = some (.int .i64 ri) := (hB.cell (p := ⟨b, off + k * 3, none⟩) hbl).trans hc0
        have q1 : wr.cell? ⟨b, off + k * 3 + 1, none⟩ = some (.int .i64 ro) := (hB.cell (p := ⟨b, off + k * 3 + 1, none⟩) hbl).trans hc1
        have q2 : wr.cell? ⟨b, off + k * 3 + 2, none⟩ = some (.int .i64 rn) := (hB.cell (p := ⟨b, off + k * 3 + 2, none⟩) hbl).trans hc2
        clear hc0 hc1 hc2 hr hc hbr
        by_cases g1 : ri ≤ x
        · by_cases g2 : x ≤ ri + rn - 1
          · have HN : Hid (walkM (·.i) (·.o) rs x = some (ro + (x - ri))) := HR.out.trans (by rw [HD.out]; exact (walkM_hit g1 (by show x - ri < rn; omega)).trans (congrArg some (by show ro + x - ri = _; omega)))
            go_wp2
            go_quiet ((go_at_call 146; exact Calls.quiet_of_same (span_yes _ _ HBR.out _)))
            go_wp2
            go_ret2
            exact ⟨ret_some (HO.out.symm.trans HN.out), below_drewN hB _⟩
          · have HN : Hid (walkM (·.i) (·.o) rs x = walkM (·.i) (·.o) (rs.drop (k + 1)) x) := HR.out.trans (by rw [HD.out]; exact walkM_miss (fun e => g2 (by have := e.2; dsimp only at this; omega)))
            have d2 : decide (x ≤ ri + rn - 1) = false := by simpa using g2
            go_wp2
            go_quiet ((go_at_call 146; exact Calls.quiet_of_same (span_yes _ _ HBR.out _)))
            go_wp2
            go_roundw
            case rel => exact ⟨k + 1, by omega, by go_num, HN.out, below_drewN hB _⟩
            case measure => simp [intOf]; omega
        · have HN : Hid (walkM (·.i) (·.o) rs x = walkM (·.i) (·.o) (rs.drop (k + 1)) x) := HR.out.trans (by rw [HD.out]; exact walkM_miss (fun e => g1 e.1))
          have d1 : decide (ri ≤ x) = false := by simpa using g1
          go_wp2
          go_quiet ((go_at_call 146; exact Calls.quiet_of_same (span_yes _ _ HBR.out _)))
          go_wp2
          go_roundw
          case rel => exact ⟨k + 1, by omega, by go_num, HN.out, below_drewN hB _⟩
          case measure => simp [intOf]; omega
    · have HN : Hid (walkM (·.i) (·.o) rs x = none) := HR.out.trans (by rw [List.drop_of_length_le (by omega)]; rfl)
      go_wp2
      go_ret2
      exact ⟨ret_none (HO.out.symm.trans HN.out), hB⟩

set_option maxRecDepth 100000 in
set_option maxHeartbeats 1000000 in
theorem inside_any (a : Option Addr) (cap : Nat) (rs : List Rg) (x : Int) (w : World) (hl : rs.length ≤ 100) (hbd : ∀ r ∈ rs, r.bd) (hx : I64 x) (h : Rgs w a rs) (o : Option Int) (HO : Hid (walkM (·.o) (·.i) rs x = o)) :
    Calls Try.prog 130 #[.slice a rs.length cap, .int .i64 x] w fun e w' => e = .returned (optV o) ∧ Below w.heap.size w w' := by
  obtain ⟨xa, xb⟩ := hx
  go_enter Try.func130, Try.ntmps130
  go_wp2
  go_loopw [6] (fun i wr => ∃ k : Nat, k ≤ rs.length ∧ i = .int .i64 k ∧ Hid (walkM (·.o) (·.i) rs x = walkM (·.o) (·.i) (rs.drop k) x) ∧ Below w.heap.size w wr) (fun i _ => rs.length - (intOf i).toNat)
  case atStart => exact ⟨0, Nat.zero_le _, rfl, rfl, Below.refl _ _⟩
  case round =>
    obtain ⟨k, hk, rfl, HR, hB⟩ := hrel
    by_cases hlt : k < rs.length
    · rcases h with rfl | ⟨b, off, rfl, hc⟩
      · simp at hlt
      · obtain ⟨r, hr⟩ : ∃ r, rs[k]? = some r := ⟨rs[k], by simp [hlt]⟩
        obtain ⟨hc0, hc1, hc2⟩ := hc k r hr
        have hbl : b < w.heap.size := World.block_lt_of_cell? _ _ hc0
        have hblr : b < wr.heap.size := Nat.lt_of_lt_of_le hbl hB.size
        have hbr := (bd_iff r).2 (hbd r (List.mem_of_getElem? hr))
        obtain ⟨t1, t2, t3, t4, t5, t6, t7, t8⟩ := hbd r (List.mem_of_getElem? hr)
        have HD : Hid (rs.drop k = r :: rs.drop (k + 1)) := by
          obtain ⟨hk', rfl⟩ := List.getElem?_eq_some_iff.1 hr
          exact List.drop_eq_getElem_cons hk'
        have hki : (k : Int) < (rs.length : Int) := by omega
        obtain ⟨ri, ro, rn⟩ := r
        dsimp only at *
        have HBR : Hid (bndB ro rn = true) := by show _ = _; have := hbr; simp [bndR] at this; exact this.2
        have q0 : wr.cell? ⟨b, off + k * 3, none⟩ = some (.int .i64 ri) := (hB.cell (p := ⟨b, off + k * 3, none⟩) hbl).trans hc0
        have q1 : wr.cell? ⟨b, off + k * 3 + 1, none⟩ = some (.int .i64 ro) := (hB.cell (p := ⟨b, off + k * 3 + 1, none⟩) hbl).trans hc1
        have q2 : wr.cell? ⟨b, off + k * 3 + 2, none⟩ = some (.int .i64 rn) := (hB.cell (p := ⟨b, off + k * 3 + 2, none⟩) hbl).trans hc2
        clear hc0 hc1 hc2 hr hc hbr
        by_cases g1 : ro ≤ x
        · by_cases g2 : x ≤ ro + rn - 1
          · have HN : Hid (walkM (·.o) (·.i) rs x = some (ri + (x - ro))) := HR.out.trans (by rw [HD.out]; exact (walkM_hit g1 (by show x - ro < rn; omega)).trans (congrArg some (by show ri + x - ro = _; omega)))
            go_wp2
            go_quiet ((go_at_call 146; exact Calls.quiet_of_same (span_yes _ _ HBR.out _)))
            go_wp2
            go_ret2
            exact ⟨ret_some (HO.out.symm.trans HN.out), below_drewN hB _⟩
          · have HN : Hid (walkM (·.o) (·.i) rs x = walkM (·.o) (·.i) (rs.drop (k + 1)) x) := HR.out.trans (by rw [HD.out]; exact walkM_miss (fun e => g2 (by have := e.2; dsimp only at this; omega)))
            have d2 : decide (x ≤ ro + rn - 1) = false := by simpa using g2
            go_wp2
            go_quiet ((go_at_call 146; exact Calls.quiet_of_same (span_yes _ _ HBR.out _)))
            go_wp2
            go_roundw
            case rel => exact ⟨k + 1, by omega, by go_num, HN.out, below_drewN hB _⟩
            case measure => simp [intOf]; omega
        · have HN : Hid (walkM (·.o) (·.i) rs x = walkM (·.o) (·.i) (rs.drop (k + 1)) x) := HR.out.trans (by rw [HD.out]; exact walkM_miss (fun e => g1 e.1))
          have d1 : decide (ro ≤ x) = false := by simpa using g1
          go_wp2
          go_quiet ((go_at_call 146; exact Calls.quiet_of_same (span_yes _ _ HBR.out _)))
          go_wp2
          go_roundw
          case rel => exact ⟨k + 1, by omega, by go_num, HN.out, below_drewN hB _⟩
          case measure => simp [intOf]; omega
    · have HN : Hid (walkM (·.o) (·.i) rs x = none) := HR.out.trans (by rw [List.drop_of_length_le (by omega)]; rfl)
      go_wp2
      go_ret2
      exact ⟨ret_none (HO.out.symm.trans HN.out), hB⟩
end Go.Proofs.Ytkkhfnkmfkdhiab

namespace Go.Proofs.Ytkkhfnkmfkdhiab
open Go.RowKit

set_option maxRecDepth 100000 in
set_option maxHeartbeats 4000000 in
theorem mapFault_any (a : Option Addr) (cap : Nat) (rs : List Rg) (w : World) (hl : rs.length ≤ 100) (hok : ∀ r ∈ rs, r.ok) (h : Rgs w a rs) :
    Calls Try.prog 129 #[.slice a rs.length cap] w fun e w' => e = .returned (.int .i64 (mapF rs)) ∧ Below w.heap.size w w' := by
  by_cases hn : 4 < rs.length
  · have HM : Hid (mapF rs = 2) := if_pos hn
    go_enter Try.func129, Try.ntmps129
    go_wp2
    go_ret
    exact ⟨ret_num HM.out.symm, Below.refl _ _⟩
  have HF : Hid (mapF rs = mF rs 0 rs.length) := if_neg hn
  have hd : decide (4 < (rs.length : Int)) = false := by simp; omega
  go_enter Try.func129, Try.ntmps129
  go_wp2
  go_loopw [3] (fun i wr => ∃ k : Nat, k ≤ rs.length ∧ i = .int .i64 k ∧ Hid (mF rs 0 rs.length = mF rs k (rs.length - k)) ∧ Hid (∀ j, j < k → stepM rs j = 0) ∧ Below w.heap.size w wr) (fun i _ => rs.length - (intOf i).toNat)
  case atStart => exact ⟨0, Nat.zero_le _, rfl, rfl, fun j hj => absurd hj (Nat.not_lt_zero _), Below.refl _ _⟩
  case round =>
    obtain ⟨k, hk, rfl, HR, HP, hB⟩ := hrel
    by_cases hlt : k < rs.length
    · rcases h with rfl | ⟨b, off, rfl, hc⟩
      · simp at hlt
      · obtain ⟨r, hr⟩ : ∃ r, rs[k]? = some r := ⟨rs[k], by simp [hlt]⟩
        obtain ⟨hc0, hc1, hc2⟩ := hc k r hr
        have hbl : b < w.heap.size := World.block_lt_of_cell? _ _ hc0
        have hblr : b < wr.heap.size := Nat.lt_of_lt_of_le hbl hB.size
        obtain ⟨⟨i1, i2⟩, ⟨o1, o2⟩, ⟨n1, n2⟩⟩ := hok r (List.mem_of_getElem? hr)
        have hki : (k : Int) < (rs.length : Int) := by omega
        have HS : Hid (mF rs k (rs.length - k) = mF rs k ((rs.length - (k + 1)) + 1)) := by show _ = _; congr 1; omega
        obtain ⟨ri, ro, rn⟩ := r
        dsimp only at *
        have q0 : wr.cell? ⟨b, off + k * 3, none⟩ = some (.int .i64 ri) := (hB.cell (p := ⟨b, off + k * 3, none⟩) hbl).trans hc0
        have q1 : wr.cell? ⟨b, off + k * 3 + 1, none⟩ = some (.int .i64 ro) := (hB.cell (p := ⟨b, off + k * 3 + 1, none⟩) hbl).trans hc1
        have q2 : wr.cell? ⟨b, off + k * 3 + 2, none⟩ = some (.int .i64 rn) := (hB.cell (p := ⟨b, off + k * 3 + 2, none⟩) hbl).trans hc2
        have HRr : Hid (rs[k]? = some ⟨ri, ro, rn⟩) := hr
        have HC := hc
        clear hc0 hc1 hc2 hr hc
        obtain ⟨bi, HBI⟩ : ∃ t, Hid (bndB ri rn = t) := ⟨_, rfl⟩
        obtain ⟨bo, HBO⟩ : ∃ t, Hid (bndB ro rn = t) := ⟨_, rfl⟩
        have hor : bi = false ∧ bo = false ∨ bi = false ∧ bo = true ∨ bi = true ∧ bo = false ∨ bi = true ∧ bo = true := by cases bi <;> cases bo <;> simp
        rcases hor with ⟨rfl, rfl⟩ | ⟨rfl, rfl⟩ | ⟨rfl, rfl⟩ | ⟨rfl, rfl⟩
        · have HN : Hid (mF rs k (rs.length - k) = 1) := HS.out.trans ((mF_bad (by rw [stepM_bd HRr.out (by simp [bndR, HBI.out, HBO.out])]; decide)).trans (stepM_bd HRr.out (by simp [bndR, HBI.out, HBO.out])))
          clear HC
          go_wp2
          go_quiet ((go_at_call 146; exact Calls.quiet_of_same (span_no _ _ ⟨by omega, by omega⟩ ⟨by omega, by omega⟩ HBI.out _)))
          go_wp2
          have hBn := below_drewN hB nq
          have p0 : (wr.drewN nq).cell? ⟨b, off + k * 3, none⟩ = some (.int .i64 ri) := q0
          have p1 : (wr.drewN nq).cell? ⟨b, off + k * 3 + 1, none⟩ = some (.int .i64 ro) := q1
          have p2 : (wr.drewN nq).cell? ⟨b, off + k * 3 + 2, none⟩ = some (.int .i64 rn) := q2
          have pl : b < (wr.drewN nq).heap.size := hblr
          clear q0 q1 q2 hblr hB
          generalize wr.drewN nq = w1 at hBn p0 p1 p2 pl ⊢
          go_quiet ((go_at_call 146; exact Calls.quiet_of_same (span_no _ _ ⟨by omega, by omega⟩ ⟨by omega, by omega⟩ HBO.out _)))
          go_wp2
          go_ret
          exact ⟨ret_num (by rw [HF.out, HR.out, HN.out] : mapF rs = 1).symm, below_drewN hBn _⟩
        · have HN : Hid (mF rs k (rs.length - k) = 1) := HS.out.trans ((mF_bad (by rw [stepM_bd HRr.out (by simp [bndR, HBI.out, HBO.out])]; decide)).trans (stepM_bd HRr.out (by simp [bndR, HBI.out, HBO.out])))
          clear HC
          go_wp2
          go_quiet ((go_at_call 146; exact Calls.quiet_of_same (span_no _ _ ⟨by omega, by omega⟩ ⟨by omega, by omega⟩ HBI.out _)))
          go_wp2
          have hBn := below_drewN hB nq
          have p0 : (wr.drewN nq).cell? ⟨b, off + k * 3, none⟩ = some (.int .i64 ri) := q0
          have p1 : (wr.drewN nq).cell? ⟨b, off + k * 3 + 1, none⟩ = some (.int .i64 ro) := q1
          have p2 : (wr.drewN nq).cell? ⟨b, off + k * 3 + 2, none⟩ = some (.int .i64 rn) := q2
          have pl : b < (wr.drewN nq).heap.size := hblr
          clear q0 q1 q2 hblr hB
          generalize wr.drewN nq = w1 at hBn p0 p1 p2 pl ⊢
          go_quiet ((go_at_call 146; exact Calls.quiet_of_same (span_yes _ _ HBO.out _)))
          go_wp2
          go_ret
          exact ⟨ret_num (by rw [HF.out, HR.out, HN.out] : mapF rs = 1).symm, below_drewN hBn _⟩
        · have HN : Hid (mF rs k (rs.length - k) = 1) := HS.out.trans ((mF_bad (by rw [stepM_bd HRr.out (by simp [bndR, HBI.out, HBO.out])]; decide)).trans (stepM_bd HRr.out (by simp [bndR, HBI.out, HBO.out])))
          clear HC
          go_wp2
          go_quiet ((go_at_call 146; exact Calls.quiet_of_same (span_yes _ _ HBI.out _)))
          go_wp2
          have hBn := below_drewN hB nq
          have p0 : (wr.drewN nq).cell? ⟨b, off + k * 3, none⟩ = some (.int .i64 ri) := q0
          have p1 : (wr.drewN nq).cell? ⟨b, off + k * 3 + 1, none⟩ = some (.int .i64 ro) := q1
          have p2 : (wr.drewN nq).cell? ⟨b, off + k * 3 + 2, none⟩ = some (.int .i64 rn) := q2
          have pl : b < (wr.drewN nq).heap.size := hblr
          clear q0 q1 q2 hblr hB
          generalize wr.drewN nq = w1 at hBn p0 p1 p2 pl ⊢
          go_quiet ((go_at_call 146; exact Calls.quiet_of_same (span_no _ _ ⟨by omega, by omega⟩ ⟨by omega, by omega⟩ HBO.out _)))
          go_wp2
          go_ret
          exact ⟨ret_num (by rw [HF.out, HR.out, HN.out] : mapF rs = 1).symm, below_drewN hBn _⟩
        · have hbd : bndR ⟨ri, ro, rn⟩ = true := by simp [bndR, HBI.out, HBO.out]
          obtain ⟨v1, v2, v3, v4, v5, v6, v7, v8⟩ := bd_of hbd
          dsimp only at v1 v2 v3 v4 v5 v6 v7 v8
          have HBD : Hid (bndR ⟨ri, ro, rn⟩ = true) := hbd
          clear hbd
          go_wp2
          go_quiet ((go_at_call 146; exact Calls.quiet_of_same (span_yes _ _ HBI.out _)))
          go_wp2
          have hBn := below_drewN hB nq
          have p0 : (wr.drewN nq).cell? ⟨b, off + k * 3, none⟩ = some (.int .i64 ri) := q0
          have p1 : (wr.drewN nq).cell? ⟨b, off + k * 3 + 1, none⟩ = some (.int .i64 ro) := q1
          have p2 : (wr.drewN nq).cell? ⟨b, off + k * 3 + 2, none⟩ = some (.int .i64 rn) := q2
          have pl : b < (wr.drewN nq).heap.size := hblr
          clear q0 q1 q2 hblr hB
          generalize wr.drewN nq = w1 at hBn p0 p1 p2 pl ⊢
          go_quiet ((go_at_call 146; exact Calls.quiet_of_same (span_yes _ _ HBO.out _)))
          go_wp2
          go_loopw [10] (fun i wq => ∃ j : Nat, j ≤ k ∧ i = .int .i64 j ∧ Hid ((rs.take j).any (fun p => meetR p ⟨ri, ro, rn⟩) = false) ∧ Below w.heap.size w wq) (fun i _ => k - (intOf i).toNat)
          case atStart => exact ⟨0, Nat.zero_le _, rfl, rfl, below_drewN hBn _⟩
          case round =>
            clear p0 p1 p2 pl hBn
            obtain ⟨j, hj, rfl, HJ, hB2⟩ := hrel
            by_cases hjk : j < k
            · have hjl : j < rs.length := by omega
              obtain ⟨p, hp⟩ : ∃ p, rs[j]? = some p := ⟨rs[j], by simp [hjl]⟩
              obtain ⟨y0, y1, y2⟩ := HC j p hp
              obtain ⟨x0, x1, x2⟩ := HC k _ HRr.out
              obtain ⟨t1, t2, t3, t4, t5, t6, t7, t8⟩ := bd_of (bnd_of_step hp (HP.out j hjk))
              have HJ2 : Hid ((rs.take (j + 1)).any (fun p => meetR p ⟨ri, ro, rn⟩) = meetR p ⟨ri, ro, rn⟩) := by
                show _ = _
                rw [take_snoc_get hp, List.any_append, HJ.out]; simp
              obtain ⟨pi, po, pn⟩ := p
              dsimp only at y0 y1 y2 x0 x1 x2 t1 t2 t3 t4 t5 t6 t7 t8
              have z0 : wr.cell? ⟨b, off + j * 3, none⟩ = some (.int .i64 pi) := (hB2.cell (p := ⟨b, off + j * 3, none⟩) hbl).trans y0
              have z1 : wr.cell? ⟨b, off + j * 3 + 1, none⟩ = some (.int .i64 po) := (hB2.cell (p := ⟨b, off + j * 3 + 1, none⟩) hbl).trans y1
              have z2 : wr.cell? ⟨b, off + j * 3 + 2, none⟩ = some (.int .i64 pn) := (hB2.cell (p := ⟨b, off + j * 3 + 2, none⟩) hbl).trans y2
              have q0 : wr.cell? ⟨b, off + k * 3, none⟩ = some (.int .i64 ri) := (hB2.cell (p := ⟨b, off + k * 3, none⟩) hbl).trans x0
              have q1 : wr.cell? ⟨b, off + k * 3 + 1, none⟩ = some (.int .i64 ro) := (hB2.cell (p := ⟨b, off + k * 3 + 1, none⟩) hbl).trans x1
              have q2 : wr.cell? ⟨b, off + k * 3 + 2, none⟩ = some (.int .i64 rn) := (hB2.cell (p := ⟨b, off + k * 3 + 2, none⟩) hbl).trans x2
              have hblr : b < wr.heap.size := Nat.lt_of_lt_of_le hbl hB2.size
              have hji : (j : Int) < (k : Int) := by omega
              have hjL : (j : Int) < (rs.length : Int) := by omega
              clear y0 y1 y2 x0 x1 x2 hp
              obtain ⟨mi, HMI⟩ : ∃ t, Hid (meetB pi pn ri rn = t) := ⟨_, rfl⟩
              obtain ⟨mo, HMO⟩ : ∃ t, Hid (meetB po pn ro rn = t) := ⟨_, rfl⟩
              have HME : Hid (meetR ⟨pi, po, pn⟩ ⟨ri, ro, rn⟩ = (mi || mo)) := by show _ = _; simp [meetR, HMI.out, HMO.out]
              have hor : mi = true ∨ mi = false ∧ mo = true ∨ mi = false ∧ mo = false := by cases mi <;> cases mo <;> simp
              rcases hor with rfl | ⟨rfl, rfl⟩ | ⟨rfl, rfl⟩
              · have HN : Hid (mF rs k (rs.length - k) = 3) := HS.out.trans ((mF_bad (by rw [stepM_meet HRr.out HBD.out (any_more hjk (by rw [HJ2.out, HME.out]; rfl))]; decide)).trans (stepM_meet HRr.out HBD.out (any_more hjk (by rw [HJ2.out, HME.out]; rfl))))
                clear HC HJ2 HME
                go_wp2
                go_quiet ((first | (go_at_call_of 147 (Value.int .i64 pi); exact Calls.quiet_of_same (common_any ri rn pi pn (by omega) (by omega) (by omega) (by omega) (by omega) (by omega) (by omega) (by omega) _ HMI.out _)) | (go_at_call_of 147 (Value.int .i64 po); exact Calls.quiet_of_same (common_any ro rn po pn (by omega) (by omega) (by omega) (by omega) (by omega) (by omega) (by omega) (by omega) _ HMO.out _))))
                go_wp2
                go_ret
                exact ⟨ret_num (by rw [HF.out, HR.out, HN.out] : mapF rs = 3).symm, below_drewN hB2 _⟩
              · have HN : Hid (mF rs k (rs.length - k) = 3) := HS.out.trans ((mF_bad (by rw [stepM_meet HRr.out HBD.out (any_more hjk (by rw [HJ2.out, HME.out]; rfl))]; decide)).trans (stepM_meet HRr.out HBD.out (any_more hjk (by rw [HJ2.out, HME.out]; rfl))))
                clear HC HJ2 HME
                go_wp2
                go_quiet ((first | (go_at_call_of 147 (Value.int .i64 pi); exact Calls.quiet_of_same (common_any ri rn pi pn (by omega) (by omega) (by omega) (by omega) (by omega) (by omega) (by omega) (by omega) _ HMI.out _)) | (go_at_call_of 147 (Value.int .i64 po); exact Calls.quiet_of_same (common_any ro rn po pn (by omega) (by omega) (by omega) (by omega) (by omega) (by omega) (by omega) (by omega) _ HMO.out _))))
                go_wp2
                go_ret
                exact ⟨ret_num (by rw [HF.out, HR.out, HN.out] : mapF rs = 3).symm, below_drewN hB2 _⟩
              · have HN : Hid ((rs.take (j + 1)).any (fun p => meetR p ⟨ri, ro, rn⟩) = false) := by show _ = _; rw [HJ2.out, HME.out]; rfl
                clear HC HJ2 HME
                go_wp2
                go_quiet ((first | (go_at_call_of 147 (Value.int .i64 pi); exact Calls.quiet_of_same (common_any ri rn pi pn (by omega) (by omega) (by omega) (by omega) (by omega) (by omega) (by omega) (by omega) _ HMI.out _)) | (go_at_call_of 147 (Value.int .i64 po); exact Calls.quiet_of_same (common_any ro rn po pn (by omega) (by omega) (by omega) (by omega) (by omega) (by omega) (by omega) (by omega) _ HMO.out _))))
                go_wp2
                go_roundw
                case rel => exact ⟨j + 1, by omega, by go_num, HN.out, below_drewN hB2 _⟩
                case measure => simp [intOf]; omega
            · have hjk2 : j = k := by omega
              subst hjk2
              have HN : Hid (mF rs j (rs.length - j) = mF rs (j + 1) (rs.length - (j + 1))) := HS.out.trans (mF_ok (stepM_ok HRr.out HBD.out HJ.out))
              have HP2 : Hid (∀ i, i < j + 1 → stepM rs i = 0) := by
                intro i hi
                by_cases e : i = j
                · subst e; exact stepM_ok HRr.out HBD.out HJ.out
                · exact HP.out i (by omega)
              clear HC
              go_wp2
              go_roundw
              case rel => exact ⟨j + 1, by omega, by go_num, HR.out.trans HN.out, HP2.out, hB2⟩
              case measure => simp [intOf]; omega
    · have e0 : rs.length - k = 0 := by omega
      go_wp2
      go_ret
      exact ⟨ret_num (by rw [HF.out, HR.out, e0]; rfl : mapF rs = 0).symm, hB⟩

theorem stepM_nonneg (rs : List Rg) (k : Nat) : 0 ≤ stepM rs k := by
  unfold stepM; split
  · decide
  · split
    · decide
    · split <;> decide
theorem mF_nonneg (rs : List Rg) : ∀ n k, 0 ≤ mF rs k n
  | 0, _ => by simp [mF]
  | n + 1, k => by
    unfold mF; split
    · exact mF_nonneg rs n (k + 1)
    · exact stepM_nonneg rs k
theorem mapF_nonneg (rs : List Rg) : 0 ≤ mapF rs := by
  unfold mapF; split
  · decide
  · exact mF_nonneg _ _ _

set_option maxHeartbeats 400000 in
theorem rToHost_any (a : Option Addr) (cap : Nat) (rs : List Rg) (x : Int) (w : World) (hl : rs.length ≤ 100) (hok : ∀ r ∈ rs, r.ok) (hx : I64 x) (h : Rgs w a rs) (o : Option Int) (HO : Hid (toM rs x = o)) :
    Calls Try.prog 88 #[.slice a rs.length cap, .int .i64 x] w fun e w' => e = .returned (optV o) ∧ Below w.heap.size w w' := by
  obtain ⟨n, HN⟩ : ∃ n, Hid (mapF rs = n) := ⟨_, rfl⟩
  have hn0 : 0 ≤ n := HN.out ▸ mapF_nonneg rs
  by_cases hz : n = 0
  · subst hz
    have HW : Hid (walkM (·.i) (·.o) rs x = o) := (if_pos HN.out).symm.trans HO.out
    have HB := mapF_bd HN.out
    go_enter Try.func88, Try.ntmps88
    go_wp2_with fail
    refine (mapFault_any a cap rs _ hl hok h).mono ?_
    rintro e w1 ⟨rfl, hB1⟩
    rw [HN.out]
    go_wp2_with fail
    refine (outside_any a cap rs x _ hl HB hx (h.below hB1) o HW).mono ?_
    rintro e w2 ⟨rfl, hB2⟩
    unfold optV
    go_wp2
    go_ret2
    exact ⟨rfl, hB1.trans (hB2.mono hB1.size)⟩
  · have HW : Hid (o = none) := HO.out.symm.trans (if_neg (by rw [HN.out]; exact hz))
    have hn1 : 0 < n := by omega
    go_enter Try.func88, Try.ntmps88
    go_wp2_with fail
    refine (mapFault_any a cap rs _ hl hok h).mono ?_
    rintro e w1 ⟨rfl, hB1⟩
    rw [HN.out]
    go_wp2
    go_ret2
    exact ⟨ret_none HW.out, hB1⟩

set_option maxHeartbeats 400000 in
theorem rFromHost_any (a : Option Addr) (cap : Nat) (rs : List Rg) (x : Int) (w : World) (hl : rs.length ≤ 100) (hok : ∀ r ∈ rs, r.ok) (hx : I64 x) (h : Rgs w a rs) (o : Option Int) (HO : Hid (fromM rs x = o)) :
    Calls Try.prog 87 #[.slice a rs.length cap, .int .i64 x] w fun e w' => e = .returned (optV o) ∧ Below w.heap.size w w' := by
  obtain ⟨n, HN⟩ : ∃ n, Hid (mapF rs = n) := ⟨_, rfl⟩
  have hn0 : 0 ≤ n := HN.out ▸ mapF_nonneg rs
  by_cases hz : n = 0
  · subst hz
    have HW : Hid (walkM (·.o) (·.i) rs x = o) := (if_pos HN.out).symm.trans HO.out
    have HB := mapF_bd HN.out
    go_enter Try.func87, Try.ntmps87
    go_wp2_with fail
    refine (mapFault_any a cap rs _ hl hok h).mono ?_
    rintro e w1 ⟨rfl, hB1⟩
    rw [HN.out]
    go_wp2_with fail
    refine (inside_any a cap rs x _ hl HB hx (h.below hB1) o HW).mono ?_
    rintro e w2 ⟨rfl, hB2⟩
    unfold optV
    go_wp2
    go_ret2
    exact ⟨rfl, hB1.trans (hB2.mono hB1.size)⟩
  · have HW : Hid (o = none) := HO.out.symm.trans (if_neg (by rw [HN.out]; exact hz))
    have hn1 : 0 < n := by omega
    go_enter Try.func87, Try.ntmps87
    go_wp2_with fail
    refine (mapFault_any a cap rs _ hl hok h).mono ?_
    rintro e w1 ⟨rfl, hB1⟩
    rw [HN.out]
    go_wp2
    go_ret2
    exact ⟨ret_none HW.out, hB1⟩
end Go.Proofs.Ytkkhfnkmfkdhiab
