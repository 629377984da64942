/-
  WHERE AN ID LEADS, AS THE OTHER SIDE SAYS IT: outside, inside.
-/
import Derived.Test.YtoadlnojcbkdgaaIm
namespace Go.Proofs.Ytoadlnojcbkdgaa
open Go.RowKit

set_option maxRecDepth 100000 in
set_option maxHeartbeats 1000000 in
theorem outside_any (a : Option Addr) (cap : Nat) (rs : List Rg) (x : Int) (w : World) (hl : rs.length ≤ 100) (hbd : ∀ r ∈ rs, r.bd) (hx : I64 x) (h : Rgs w a rs) (o : Option Int) (HO : Hid (walkM (·.i) (·.o) rs x = o)) :
    Calls Try.prog 40 #[.slice a rs.length cap, .int .i64 x] w fun e w' => e = .returned (optV o) ∧ Below w.heap.size w w' := by
  obtain ⟨xa, xb⟩ := hx
  go_enter Try.func40, Try.ntmps40
  go_wp2
  go_loopw [6] (fun i wr => ∃ k : Nat, k ≤ rs.length ∧ i = .int .i64 k ∧ Hid (walkM (·.i) (·.o) rs x = walkM (·.i) (·.o) (rs.drop k) x) ∧ Below w.heap.size w wr) (fun i _ => rs.length - (intOf i).toNat)
  case atStart => exact ⟨0, Nat.zero_le _, rfl, rfl, Below.refl _ _⟩
  case round =>
    obtain ⟨k, hk, rfl, HR, hB⟩ := hrel
    by_cases hlt : k < rs.length
    · rcases h with rfl | ⟨b, off, rfl, hc⟩
      · simp at hlt
      · obtain ⟨r, hr⟩ : ∃ r, rs[k]? = some r := ⟨rs[k], by simp [hlt]⟩
        obtain ⟨hc0, hc1, hc2⟩ := hc k r hr
        have hbl : b < w.heap.size := World.block_lt_of_cell? _ _ hc0
        have hblr : b < wr.heap.size := Nat.lt_of_lt_of_le hbl hB.size
        have hbr := (bd_iff r).2 (hbd r (List.mem_of_getElem? hr))
        obtain ⟨t1, t2, t3, t4, t5, t6, t7, t8⟩ := hbd r (List.mem_of_getElem? hr)
        have HD : Hid (rs.drop k = r :: rs.drop (k + 1)) := by
          obtain ⟨hk', rfl⟩ := List.getElem?_eq_some_iff.1 hr
          exact List.drop_eq_getElem_cons hk'
        have hki : (k : Int) < (rs.length : Int) := by omega
        obtain ⟨ri, ro, rn⟩ := r
        dsimp only at *
        have HBR : Hid (bndB ri rn = true) := by show _ = _; have := hbr; simp [bndR] at this; exact this.1
        have q0 : wr.cell? ⟨b, off + k * 3, none⟩ = some (.int .i64 ri) := (hB.cell (p := ⟨b, off + k * 3, none⟩) hbl).trans hc0
        have q1 : wr.cell? ⟨b, off + k * 3 + 1, none⟩ = some (.int .i64 ro) := (hB.cell (p := ⟨b, off + k * 3 + 1, none⟩) hbl).trans hc1
        have q2 : wr.cell? ⟨b, off + k * 3 + 2, none⟩ = some (.int .i64 rn) := (hB.cell (p := ⟨b, off + k * 3 + 2, none⟩) hbl).trans hc2
        clear hc0 hc1 hc2 hr hc hbr
        by_cases g1 : ri ≤ x
        · by_cases g2 : x ≤ ri + rn - 1
          · have HN : Hid (walkM (·.i) (·.o) rs x = some (ro + (x - ri))) := HR.out.trans (by rw [HD.out]; exact (walkM_hit g1 (by show x - ri < rn; omega)).trans (congrArg some (by show ro + x - ri = _; omega)))
            go_wp2
            go_quiet ((go_at_call 35; exact Calls.quiet_of_same (span_yes _ _ HBR.out _)))
            go_wp2
            go_ret2
            exact ⟨ret_some (HO.out.symm.trans HN.out), below_drewN hB _⟩
          · have HN : Hid (walkM (·.i) (·.o) rs x = walkM (·.i) (·.o) (rs.drop (k + 1)) x) := HR.out.trans (by rw [HD.out]; exact walkM_miss (fun e => g2 (by have := e.2; dsimp only at this; omega)))
            have d2 : decide (x ≤ ri + rn - 1) = false := by simpa using g2
            go_wp2
            go_quiet ((go_at_call 35; exact Calls.quiet_of_same (span_yes _ _ HBR.out _)))
            go_wp2
            go_roundw
            case rel => exact ⟨k + 1, by omega, by go_num, HN.out, below_drewN hB _⟩
            case measure => simp [intOf]; omega
        · have HN : Hid (walkM (·.i) (·.o) rs x = walkM (·.i) (·.o) (rs.drop (k + 1)) x) := HR.out.trans (by rw [HD.out]; exact walkM_miss (fun e => g1 e.1))
          have d1 : decide (ri ≤ x) = false := by simpa using g1
          go_wp2
          go_quiet ((go_at_call 35; exact Calls.quiet_of_same (span_yes _ _ HBR.out _)))
          go_wp2
          go_roundw
          case rel => exact ⟨k + 1, by omega, by go_num, HN.out, below_drewN hB _⟩
          case measure => simp [intOf]; omega
    · have HN : Hid (walkM (·.i) (·.o) rs x = none) := HR.out.trans (by rw [List.drop_of_length_le (by omega)]; rfl)
      go_wp2
      go_ret2
      exact ⟨ret_none (HO.out.symm.trans HN.out), hB⟩

set_option maxRecDepth 100000 in
set_option maxHeartbeats 1000000 in
theorem inside_any (a : Option Addr) (cap : Nat) (rs : List Rg) (x : Int) (w : World) (hl : rs.length ≤ 100) (hbd : ∀ r ∈ rs, r.bd) (hx : I64 x) (h : Rgs w a rs) (o : Option Int) (HO : Hid (walkM (·.o) (·.i) rs x = o)) :
    Calls Try.prog 41 #[.slice a rs.length cap, .int .i64 x] w fun e w' => e = .returned (optV o) ∧ Below w.heap.size w w' := by
  obtain ⟨xa, xb⟩ := hx
  go_enter Try.func41, Try.ntmps41
  go_wp2
  go_loopw [6] (fun i wr => ∃ k : Nat, k ≤ rs.length ∧ i = .int .i64 k ∧ Hid (walkM (·.o) (·.i) rs x = walkM (·.o) (·.i) (rs.drop k) x) ∧ Below w.heap.size w wr) (fun i _ => rs.length - (intOf i).toNat)
  case atStart => exact ⟨0, Nat.zero_le _, rfl, rfl, Below.refl _ _⟩
  case round =>
    obtain ⟨k, hk, rfl, HR, hB⟩ := hrel
    by_cases hlt : k < rs.length
    · rcases h with rfl | ⟨b, off, rfl, hc⟩
      · simp at hlt
      · obtain ⟨r, hr⟩ : ∃ r, rs[k]? = some r := ⟨rs[k], by simp [hlt]⟩
        obtain ⟨hc0, hc1, hc2⟩ := hc k r hr
        have hbl : b < w.heap.size := World.block_lt_of_cell? _ _ hc0
        have hblr : b < wr.heap.size := Nat.lt_of_lt_of_le hbl hB.size
        have hbr := (bd_iff r).2 (hbd r (List.mem_of_getElem? hr))
        obtain ⟨t1, t2, t3, t4, t5, t6, t7, t8⟩ := hbd r (List.mem_of_getElem? hr)
        have HD : Hid (rs.drop k = r :: rs.drop (k + 1)) := by
          obtain ⟨hk', rfl⟩ := List.getElem?_eq_some_iff.1 hr
          exact List.drop_eq_getElem_cons hk'
        have hki : (k : Int) < (rs.length : Int) := by omega
        obtain ⟨ri, ro, rn⟩ := r
        dsimp only at *
        have HBR : Hid (bndB ro rn = true) := by show _ = _; have := hbr; simp [bndR] at this; exact this.2
        have q0 : wr.cell? ⟨b, off + k * 3, none⟩ = some (.int .i64 ri) := (hB.cell (p := ⟨b, off + k * 3, none⟩) hbl).trans hc0
        have q1 : wr.cell? ⟨b, off + k * 3 + 1, none⟩ = some (.int .i64 ro) := (hB.cell (p := ⟨b, off + k * 3 + 1, none⟩) hbl).trans hc1
        have q2 : wr.cell? ⟨b, off + k * 3 + 2, none⟩ = some (.int .i64 rn) := (hB.cell (p := ⟨b, off + k * 3 + 2, none⟩) hbl).trans hc2
        clear hc0 hc1 hc2 hr hc hbr
        by_cases g1 : ro ≤ x
        · by_cases g2 : x ≤ ro + rn - 1
          · have HN : Hid (walkM (·.o) (·.i) rs x = some (ri + (x - ro))) := HR.out.trans (by rw [HD.out]; exact (walkM_hit g1 (by show x - ro < rn; omega)).trans (congrArg some (by show ri + x - ro = _; omega)))
            go_wp2
            go_quiet ((go_at_call 35; exact Calls.quiet_of_same (span_yes _ _ HBR.out _)))
            go_wp2
            go_ret2
            exact ⟨ret_some (HO.out.symm.trans HN.out), below_drewN hB _⟩
          · have HN : Hid (walkM (·.o) (·.i) rs x = walkM (·.o) (·.i) (rs.drop (k + 1)) x) := HR.out.trans (by rw [HD.out]; exact walkM_miss (fun e => g2 (by have := e.2; dsimp only at this; omega)))
            have d2 : decide (x ≤ ro + rn - 1) = false := by simpa using g2
            go_wp2
            go_quiet ((go_at_call 35; exact Calls.quiet_of_same (span_yes _ _ HBR.out _)))
            go_wp2
            go_roundw
            case rel => exact ⟨k + 1, by omega, by go_num, HN.out, below_drewN hB _⟩
            case measure => simp [intOf]; omega
        · have HN : Hid (walkM (·.o) (·.i) rs x = walkM (·.o) (·.i) (rs.drop (k + 1)) x) := HR.out.trans (by rw [HD.out]; exact walkM_miss (fun e => g1 e.1))
          have d1 : decide (ro ≤ x) = false := by simpa using g1
          go_wp2
          go_quiet ((go_at_call 35; exact Calls.quiet_of_same (span_yes _ _ HBR.out _)))
          go_wp2
          go_roundw
          case rel => exact ⟨k + 1, by omega, by go_num, HN.out, below_drewN hB _⟩
          case measure => simp [intOf]; omega
    · have HN : Hid (walkM (·.o) (·.i) rs x = none) := HR.out.trans (by rw [List.drop_of_length_le (by omega)]; rfl)
      go_wp2
      go_ret2
      exact ⟨ret_none (HO.out.symm.trans HN.out), hB⟩
end Go.Proofs.Ytoadlnojcbkdgaa
