/-
  WHAT IS WRONG WITH A MAP: the walk of idmap.Check.
-/
import Derived.Test.YtoadlnojcbkdgaaIa
namespace Go.Proofs.Ytoadlnojcbkdgaa
open Go.RowKit

/-- Of the range at place k: 1: out of bounds; 3: it meets one ahead of it. -/
def stepM (rs : List Rg) (k : Nat) : Int := match rs[k]? with
  | none => 0
  | some r => if bndR r = false then 1 else if (rs.take k).any (fun p => meetR p r) = true then 3 else 0
/-- The first wrong range from place k on, of so many. -/
def mF (rs : List Rg) : Nat → Nat → Int
  | _, 0 => 0
  | k, n + 1 => if stepM rs k = 0 then mF rs (k + 1) n else stepM rs k
/-- What is wrong with a map (0: nothing). -/
def mapF (rs : List Rg) : Int := if 4 < rs.length then 2 else mF rs 0 rs.length

theorem mF_ok {rs : List Rg} {k n : Nat} (h : stepM rs k = 0) : mF rs k (n + 1) = mF rs (k + 1) n := by simp [mF, h]
theorem mF_bad {rs : List Rg} {k n : Nat} (h : ¬ stepM rs k = 0) : mF rs k (n + 1) = stepM rs k := by simp [mF, h]
theorem stepM_bd {rs : List Rg} {k : Nat} {r : Rg} (hr : rs[k]? = some r) (h : bndR r = false) : stepM rs k = 1 := by simp [stepM, hr, h]
theorem stepM_meet {rs : List Rg} {k : Nat} {r : Rg} (hr : rs[k]? = some r) (h : bndR r = true) (hm : (rs.take k).any (fun p => meetR p r) = true) : stepM rs k = 3 := by
  unfold stepM; rw [hr]; dsimp only; rw [if_neg (by rw [h]; decide), if_pos hm]
theorem stepM_ok {rs : List Rg} {k : Nat} {r : Rg} (hr : rs[k]? = some r) (h : bndR r = true) (hm : (rs.take k).any (fun p => meetR p r) = false) : stepM rs k = 0 := by
  unfold stepM; rw [hr]; dsimp only; rw [if_neg (by rw [h]; decide), if_neg (by rw [hm]; decide)]
theorem bnd_of_step {rs : List Rg} {k : Nat} {r : Rg} (hr : rs[k]? = some r) (h : stepM rs k = 0) : bndR r = true := by
  by_cases hb : bndR r = false
  · rw [stepM_bd hr hb] at h; omega
  · simpa using hb

theorem take_snoc_get {α : Type} {l : List α} {k : Nat} {p : α} (h : l[k]? = some p) : l.take (k + 1) = l.take k ++ [p] := by
  obtain ⟨hk, rfl⟩ := List.getElem?_eq_some_iff.1 h
  exact List.take_succ_eq_append_getElem hk
theorem any_more {rs : List Rg} {f : Rg → Bool} {j k : Nat} (hjk : j < k) (h : (rs.take (j + 1)).any f = true) : (rs.take k).any f = true := by
  rw [List.any_eq_true] at h ⊢
  obtain ⟨x, hx, hf⟩ := h
  refine ⟨x, ?_, hf⟩
  have : rs.take (j + 1) = (rs.take k).take (j + 1) := by rw [List.take_take]; congr 1; omega
  rw [this] at hx
  exact List.mem_of_mem_take hx

set_option maxRecDepth 100000 in
set_option maxHeartbeats 2000000 in
theorem checkM_any (a : Option Addr) (cap : Nat) (rs : List Rg) (w : World) (hl : rs.length ≤ 100) (hcap : rs.length ≤ cap) (hok : ∀ r ∈ rs, r.ok) (h : Rgs w a rs) :
    Calls Try.prog 15 #[.slice a rs.length cap] w fun e w' => e = .returned (errV (mapF rs)) ∧ Below w.heap.size w w' := by
  by_cases hn : 4 < rs.length
  · have HM : Hid (mapF rs = 2) := if_pos hn
    go_enter Try.func15, Try.ntmps15
    go_wp2
    go_ret
    exact ⟨ret_val (errV_of HM.out (by decide)).symm, Below.refl _ _⟩
  have HF : Hid (mapF rs = mF rs 0 rs.length) := if_neg hn
  have hd : decide (4 < (rs.length : Int)) = false := by simp; omega
  go_enter Try.func15, Try.ntmps15
  go_wp2
  go_loopw [13] (fun i wr => ∃ k : Nat, k ≤ rs.length ∧ i = .int .i64 k ∧ Hid (mF rs 0 rs.length = mF rs k (rs.length - k)) ∧ Hid (∀ j, j < k → stepM rs j = 0) ∧ Below w.heap.size w wr) (fun i _ => rs.length - (intOf i).toNat)
  case atStart => exact ⟨0, Nat.zero_le _, rfl, rfl, fun j hj => absurd hj (Nat.not_lt_zero _), Below.refl _ _⟩
  case round =>
    obtain ⟨k, hk, rfl, HR, HP, hB⟩ := hrel
    by_cases hlt : k < rs.length
    · rcases h with rfl | ⟨b, off, rfl, hc⟩
      · simp at hlt
      · obtain ⟨r, hr⟩ : ∃ r, rs[k]? = some r := ⟨rs[k], by simp [hlt]⟩
        obtain ⟨hc0, hc1, hc2⟩ := hc k r hr
        have hbl : b < w.heap.size := World.block_lt_of_cell? _ _ hc0
        have hblr : b < wr.heap.size := Nat.lt_of_lt_of_le hbl hB.size
        obtain ⟨⟨i1, i2⟩, ⟨o1, o2⟩, ⟨n1, n2⟩⟩ := hok r (List.mem_of_getElem? hr)
        have hki : (k : Int) < (rs.length : Int) := by omega
        have HS : Hid (mF rs k (rs.length - k) = mF rs k ((rs.length - (k + 1)) + 1)) := by show _ = _; congr 1; omega
        obtain ⟨ri, ro, rn⟩ := r
        dsimp only at *
        have q0 : wr.cell? ⟨b, off + k * 3, none⟩ = some (.int .i64 ri) := (hB.cell (p := ⟨b, off + k * 3, none⟩) hbl).trans hc0
        have q1 : wr.cell? ⟨b, off + k * 3 + 1, none⟩ = some (.int .i64 ro) := (hB.cell (p := ⟨b, off + k * 3 + 1, none⟩) hbl).trans hc1
        have q2 : wr.cell? ⟨b, off + k * 3 + 2, none⟩ = some (.int .i64 rn) := (hB.cell (p := ⟨b, off + k * 3 + 2, none⟩) hbl).trans hc2
        have HRr : Hid (rs[k]? = some ⟨ri, ro, rn⟩) := hr
        have HC := hc
        clear hc0 hc1 hc2 hr hc
        obtain ⟨bi, hbi⟩ : ∃ t, bndB ri rn = t := ⟨_, rfl⟩
        obtain ⟨bo, hbo⟩ : ∃ t, bndB ro rn = t := ⟨_, rfl⟩
        have hor : bi = false ∨ bi = true ∧ bo = false ∨ bi = true ∧ bo = true := by cases bi <;> cases bo <;> simp
        rcases hor with rfl | ⟨rfl, rfl⟩ | ⟨rfl, rfl⟩
        · have HN : Hid (mF rs k (rs.length - k) = 1) := HS.out.trans ((mF_bad (by rw [stepM_bd HRr.out (by simp [bndR, hbi])]; decide)).trans (stepM_bd HRr.out (by simp [bndR, hbi])))
          clear HC
          go_wp2_with (go_at_call 42; refine (bounded_any _ _ ⟨by omega, by omega⟩ ⟨by omega, by omega⟩ _).mono ?_; rintro e w' ⟨rfl, rfl⟩)
          go_ret
          exact ⟨ret_val (errV_of (by rw [HF.out, HR.out, HN.out]) (by decide)).symm, hB.alloc hB.size _⟩
        · have HN : Hid (mF rs k (rs.length - k) = 1) := HS.out.trans ((mF_bad (by rw [stepM_bd HRr.out (by simp [bndR, hbo])]; decide)).trans (stepM_bd HRr.out (by simp [bndR, hbo])))
          clear HC
          go_wp2_with (go_at_call 42; refine (bounded_any _ _ ⟨by omega, by omega⟩ ⟨by omega, by omega⟩ _).mono ?_; rintro e w' ⟨rfl, rfl⟩)
          go_ret
          exact ⟨ret_val (errV_of (by rw [HF.out, HR.out, HN.out]) (by decide)).symm, hB.alloc hB.size _⟩
        · have hbd : bndR ⟨ri, ro, rn⟩ = true := by simp [bndR, hbi, hbo]
          obtain ⟨v1, v2, v3, v4, v5, v6, v7, v8⟩ := bd_of hbd
          dsimp only at v1 v2 v3 v4 v5 v6 v7 v8
          have HBD : Hid (bndR ⟨ri, ro, rn⟩ = true) := hbd
          clear hbd
          have hkc : (k : Int) ≤ (cap : Int) := by omega
          go_wp2_with (go_at_call 42; refine (bounded_any _ _ ⟨by omega, by omega⟩ ⟨by omega, by omega⟩ _).mono ?_; rintro e w' ⟨rfl, rfl⟩)
          have RB := RBox.new wr ri ro rn
          have hB1 := hB.alloc hB.size (.cells #[.int .i64 ri, .int .i64 ro, .int .i64 rn] 53)
          clear q0 q1 q2 hB hblr hbi hbo
          generalize wr.alloc (.cells #[.int .i64 ri, .int .i64 ro, .int .i64 rn] 53) = w1 at RB hB1 ⊢
          generalize wr.heap.size = rb at RB ⊢
          go_loopw [37] (fun i wq => ∃ j : Nat, j ≤ k ∧ i = .int .i64 j ∧ Hid ((rs.take j).any (fun p => meetR p ⟨ri, ro, rn⟩) = false) ∧ Below w.heap.size w wq ∧ RBox wq rb ⟨ri, ro, rn⟩) (fun i _ => k - (intOf i).toNat)
          case atStart => exact ⟨0, Nat.zero_le _, rfl, rfl, hB1, RB⟩
          case round =>
            obtain ⟨j, hj, rfl, HJ, hB2, RB2⟩ := hrel
            clear hB1 RB
            obtain ⟨x0, x1, x2, x3⟩ := id RB2
            dsimp only at x0 x1 x2
            have lb := RB2.lt
            by_cases hjk : j < k
            · have hjl : j < rs.length := by omega
              obtain ⟨p, hp⟩ : ∃ p, rs[j]? = some p := ⟨rs[j], by simp [hjl]⟩
              obtain ⟨y0, y1, y2⟩ := HC j p hp
              obtain ⟨t1, t2, t3, t4, t5, t6, t7, t8⟩ := bd_of (bnd_of_step hp (HP.out j hjk))
              have HJ2 : Hid ((rs.take (j + 1)).any (fun p => meetR p ⟨ri, ro, rn⟩) = meetR p ⟨ri, ro, rn⟩) := by
                show _ = _
                rw [take_snoc_get hp, List.any_append, HJ.out]; simp
              obtain ⟨pi, po, pn⟩ := p
              dsimp only at y0 y1 y2 t1 t2 t3 t4 t5 t6 t7 t8
              have z0 : wr.cell? ⟨b, off + j * 3, none⟩ = some (.int .i64 pi) := (hB2.cell (p := ⟨b, off + j * 3, none⟩) hbl).trans y0
              have z1 : wr.cell? ⟨b, off + j * 3 + 1, none⟩ = some (.int .i64 po) := (hB2.cell (p := ⟨b, off + j * 3 + 1, none⟩) hbl).trans y1
              have z2 : wr.cell? ⟨b, off + j * 3 + 2, none⟩ = some (.int .i64 pn) := (hB2.cell (p := ⟨b, off + j * 3 + 2, none⟩) hbl).trans y2
              have hblr : b < wr.heap.size := Nat.lt_of_lt_of_le hbl hB2.size
              have hji : (j : Int) < (k : Int) := by omega
              clear y0 y1 y2 hp
              obtain ⟨mi, hmi⟩ : ∃ t, meetB pi pn ri rn = t := ⟨_, rfl⟩
              obtain ⟨mo, hmo⟩ : ∃ t, meetB po pn ro rn = t := ⟨_, rfl⟩
              have HME : Hid (meetR ⟨pi, po, pn⟩ ⟨ri, ro, rn⟩ = (mi || mo)) := by show _ = _; simp [meetR, hmi, hmo]
              have hor : mi = true ∨ mi = false ∧ mo = true ∨ mi = false ∧ mo = false := by cases mi <;> cases mo <;> simp
              rcases hor with rfl | ⟨rfl, rfl⟩ | ⟨rfl, rfl⟩
              · have HN : Hid (mF rs k (rs.length - k) = 3) := HS.out.trans ((mF_bad (by rw [stepM_meet HRr.out HBD.out (any_more hjk (by rw [HJ2.out, HME.out]; rfl))]; decide)).trans (stepM_meet HRr.out HBD.out (any_more hjk (by rw [HJ2.out, HME.out]; rfl))))
                clear HC HJ2 HME
                go_wp2_with (go_at_call 43; refine (meet_any _ _ _ _ (by omega) (by omega) (by omega) (by omega) (by omega) (by omega) (by omega) (by omega) _).mono ?_; rintro e w' ⟨rfl, rfl⟩)
                go_ret
                exact ⟨ret_val (errV_of (by rw [HF.out, HR.out, HN.out]) (by decide)).symm, hB2.alloc hB2.size _⟩
              · have HN : Hid (mF rs k (rs.length - k) = 3) := HS.out.trans ((mF_bad (by rw [stepM_meet HRr.out HBD.out (any_more hjk (by rw [HJ2.out, HME.out]; rfl))]; decide)).trans (stepM_meet HRr.out HBD.out (any_more hjk (by rw [HJ2.out, HME.out]; rfl))))
                clear HC HJ2 HME
                go_wp2_with (go_at_call 43; refine (meet_any _ _ _ _ (by omega) (by omega) (by omega) (by omega) (by omega) (by omega) (by omega) (by omega) _).mono ?_; rintro e w' ⟨rfl, rfl⟩)
                go_ret
                exact ⟨ret_val (errV_of (by rw [HF.out, HR.out, HN.out]) (by decide)).symm, hB2.alloc hB2.size _⟩
              · have HN : Hid ((rs.take (j + 1)).any (fun p => meetR p ⟨ri, ro, rn⟩) = false) := by show _ = _; rw [HJ2.out, HME.out]; rfl
                clear HC HJ2 HME
                go_wp2_with (go_at_call 43; refine (meet_any _ _ _ _ (by omega) (by omega) (by omega) (by omega) (by omega) (by omega) (by omega) (by omega) _).mono ?_; rintro e w' ⟨rfl, rfl⟩)
                go_roundw
                case rel => exact ⟨j + 1, by omega, by go_num, HN.out, hB2.alloc hB2.size _, RB2.alloc _⟩
                case measure => simp [intOf]; omega
            · have hjk2 : j = k := by omega
              subst hjk2
              have HN : Hid (mF rs j (rs.length - j) = mF rs (j + 1) (rs.length - (j + 1))) := HS.out.trans (mF_ok (stepM_ok HRr.out HBD.out HJ.out))
              have HP2 : Hid (∀ i, i < j + 1 → stepM rs i = 0) := by
                intro i hi
                by_cases e : i = j
                · subst e; exact stepM_ok HRr.out HBD.out HJ.out
                · exact HP.out i (by omega)
              clear HC
              go_wp2
              go_roundw
              case rel => exact ⟨j + 1, by omega, by go_num, HR.out.trans HN.out, HP2.out, hB2⟩
              case measure => simp [intOf]; omega
    · have e0 : rs.length - k = 0 := by omega
      go_wp2
      go_ret
      exact ⟨ret_val (errV_nil (by rw [HF.out, HR.out, e0]; rfl)).symm, hB⟩
end Go.Proofs.Ytoadlnojcbkdgaa
