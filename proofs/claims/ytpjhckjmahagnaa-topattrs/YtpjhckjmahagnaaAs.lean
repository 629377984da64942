/-
  WHAT TopAttrs DOES: the walk.
-/
import Derived.Test.YtpjhckjmahagnaaAm
namespace Go.Proofs.Ytpjhckjmahagnaa
open Go.RowKit

/-- What is said: to set a value, or to drop it. -/
structure Sy where
  d : Bool
  n : ByteArray
  v : ByteArray
/-- A slice of such: nothing is asked of an empty one's address. -/
def Sys (w : World) (a : Option Addr) (l : List Sy) : Prop :=
  l = [] ∨ ∃ b off, a = some ⟨b, off, none⟩ ∧ ∀ k x, l[k]? = some x → w.cell? ⟨b, off + k * 3, none⟩ = some (.bool x.d) ∧ w.cell? ⟨b, off + k * 3 + 1, none⟩ = some (.string x.n) ∧ w.cell? ⟨b, off + k * 3 + 2, none⟩ = some (.string x.v)
/-- One in memory. -/
def SBox (w : World) (b : Nat) (x : Sy) : Prop := w.cell? ⟨b, 0, none⟩ = some (.bool x.d) ∧ w.cell? ⟨b, 1, none⟩ = some (.string x.n) ∧ w.cell? ⟨b, 2, none⟩ = some (.string x.v)
theorem SBox.new (w : World) (x : Sy) : SBox (w.alloc (.cells #[.bool x.d, .string x.n, .string x.v] 80)) w.heap.size x :=
  ⟨World.cell?_alloc_at _ _ _ _ rfl, World.cell?_alloc_at _ _ _ _ rfl, World.cell?_alloc_at _ _ _ _ rfl⟩
theorem SBox.below {w w' : World} {b : Nat} {x : Sy} (h : SBox w b x) (hb : Below w.heap.size w w') : SBox w' b x := by
  have hl : b < w.heap.size := World.block_lt_of_cell? _ _ h.1
  obtain ⟨h0, h1, h2⟩ := h
  exact ⟨(hb.cell (p := ⟨b, 0, none⟩) hl).trans h0, (hb.cell (p := ⟨b, 1, none⟩) hl).trans h1, (hb.cell (p := ⟨b, 2, none⟩) hl).trans h2⟩
theorem set_low {l : List Kv} {m v : ByteArray} (h : Low l) (hm : m.size ≤ 60) (hv : v.size ≤ 60) (hf : setF l m v = 0) : Low (setV l m v) := by
  have e : setV l m v = setL l m v := by unfold setV; rw [if_neg (by simpa using hf)]
  rw [e]
  intro x hx
  rcases mem_set.1 hx with rfl | ⟨hx, _⟩
  · exact ⟨hm, hv⟩
  · exact h x hx
theorem drp_low {l : List Kv} {m : ByteArray} (h : Low l) (hf : drpF l m = 0) : Low (drpV l m) := by
  have e : drpV l m = drpL l m := by unfold drpV; rw [if_neg (by simpa using hf)]
  rw [e]
  intro x hx
  exact h x (mem_drp.1 hx).1
theorem good_len {l : List Kv} (h : chkA l = 0) : l.length ≤ 4 := ((good_iff l).1 h).1

set_option maxRecDepth 100000 in
set_option maxHeartbeats 4000000 in
theorem topAttrs_any (a : Option Addr) (cap : Nat) (l : List Sy) (w : World) (h : Sys w a l) :
    Calls Try.prog 10 #[.slice a l.length cap] w fun e w' => e = .returned (.bool true) ∧ Below w.heap.size w w' := by
  by_cases h40 : 40 < l.length
  · have d40 : decide (40 < (l.length : Int)) = true := decide_eq_true (by omega)
    go_enter Try.func10, Try.ntmps10
    go_wp2
    go_ret
    exact ⟨rfl, Below.refl _ _⟩
  have d40 : decide (40 < (l.length : Int)) = false := decide_eq_false (by omega)
  go_enter Try.func10, Try.ntmps10
  go_wp2
  go_loopw [3, 4] (fun o i wr => ∃ (k : Nat) (L : List Kv) (ao : Option Addr) (cp : Nat), k ≤ l.length ∧ i = .int .i64 k ∧ o = .slice ao L.length cp ∧ L.length ≤ cp ∧ cp ≤ 9223372036854775807 ∧ Kvm wr ao L ∧ Hid (chkA L = 0) ∧ Low L ∧ Below w.heap.size w wr) (fun _ i _ => l.length - (intOf i).toNat)
  case atStart => exact ⟨0, [], none, 0, Nat.zero_le _, rfl, rfl, Nat.le_refl _, by omega, .inl rfl, rfl, (fun x hx => by cases hx), Below.refl _ _⟩
  case round =>
    obtain ⟨k, L, ao, cp, hk, rfl, rfl, hcp, hcm, hK, HG, hlow, hB⟩ := hrel
    by_cases hlt : k < l.length
    rotate_left
    · go_wp2
      go_ret
      exact ⟨rfl, hB⟩
    rcases h with rfl | ⟨b, off, rfl, hc⟩
    · simp at hlt
    obtain ⟨x, hx⟩ : ∃ x, l[k]? = some x := ⟨l[k], by simp [hlt]⟩
    obtain ⟨hc0, hc1, hc2⟩ := hc k x hx
    have hbl : b < w.heap.size := World.block_lt_of_cell? _ _ hc0
    have hblr : b < wr.heap.size := Nat.lt_of_lt_of_le hbl hB.size
    have hki : (k : Int) < (l.length : Int) := by omega
    have hL4 := good_len HG.out
    have hL : L.length ≤ 1000 := by omega
    have q0 : wr.cell? ⟨b, off + k * 3, none⟩ = some (.bool x.d) := (hB.cell (p := ⟨b, off + k * 3, none⟩) hbl).trans hc0
    have q1 : wr.cell? ⟨b, off + k * 3 + 1, none⟩ = some (.string x.n) := (hB.cell (p := ⟨b, off + k * 3 + 1, none⟩) hbl).trans hc1
    have q2 : wr.cell? ⟨b, off + k * 3 + 2, none⟩ = some (.string x.v) := (hB.cell (p := ⟨b, off + k * 3 + 2, none⟩) hbl).trans hc2
    have SB := SBox.new wr x
    have hB1 := hB.alloc hB.size (.cells #[.bool x.d, .string x.n, .string x.v] 80)
    have hA : Below wr.heap.size wr (wr.alloc (.cells #[.bool x.d, .string x.n, .string x.v] 80)) := (Below.refl _ _).alloc (Nat.le_refl _) _
    have hK1 := hK.below hA
    obtain ⟨xd, xn, xv⟩ := x
    dsimp only at q0 q1 q2 SB hB1 hA hK1
    clear hc0 hc1 hc2 hc hx
    by_cases h1 : 60 < xn.size
    · have d1 : decide (60 < (xn.size : Int)) = true := decide_eq_true (by omega)
      go_wp2
      go_ret
      exact ⟨rfl, hB1⟩
    have d1 : decide (60 < (xn.size : Int)) = false := decide_eq_false (by omega)
    by_cases h2 : 60 < xv.size
    · have d2 : decide (60 < (xv.size : Int)) = true := decide_eq_true (by omega)
      go_wp2
      go_ret
      exact ⟨rfl, hB1⟩
    have d2 : decide (60 < (xv.size : Int)) = false := decide_eq_false (by omega)
    have hxn : xn.size ≤ 60 := by omega
    have hxv : xv.size ≤ 60 := by omega
    have hxn' : xn.size ≤ 1000 := by omega
    clear h1 h2
    go_wp2_with fail
    refine (set_any ao cp L xn xv _ hL hcp hcm hlow hxn' hK1).mono ?_
    rintro e w2 ⟨⟨as1, cs1, rfl, s1, s2, KS⟩, c1⟩
    have hB2 := hB1.trans (c1.mono hB1.size)
    have SB2 := SB.below c1
    have hK2 := hK1.below c1
    have hw2 : wr.heap.size < w2.heap.size := by have := c1.size; simp at this; omega
    clear c1 hB1 SB hK1 hA q0 q1 q2 hK hB hblr
    generalize wr.heap.size = sb at SB2 hw2 ⊢
    cases xd
    · -- a value is set
      obtain ⟨f, Hf⟩ : ∃ f, Hid (setF L xn xv = f) := ⟨_, rfl⟩
      obtain ⟨M, HM⟩ : ∃ f, Hid (setV L xn xv = f) := ⟨_, rfl⟩
      rw [Hf.out, HM.out]
      rw [HM.out] at s1 KS
      obtain ⟨y0, y1, y2⟩ := id SB2
      dsimp only at y0 y1 y2
      by_cases hf : f = 0
      rotate_left
      · rw [errV_of rfl hf]
        go_wp2
        go_roundw
        case rel => exact ⟨k + 1, L, ao, cp, by omega, by go_num, rfl, hcp, hcm, hK2, HG.out, hlow, hB2⟩
        case measure => simp [intOf]; omega
      subst hf
      rw [errV_nil rfl]
      have FA := set_facts (l := L) (m := xn) (v := xv) Hf.out
      rw [HM.out] at FA
      have HCM : Hid (chkA M = 0) := FA.1
      have HGF : Hid (getF M xn = 0) := FA.2.1
      have HGV : Hid (getV M xn = xv) := FA.2.2.1
      have HOTH : Hid (∀ z ∈ L, z.n ≠ xn → getF M z.n = 0 ∧ getV M z.n = z.v) := FA.2.2.2
      have HLM : Hid (Low M) := by show Low M; rw [← HM.out]; exact set_low hlow hxn hxv Hf.out
      clear FA
      have hM4 := good_len HCM.out
      have hM : M.length ≤ 1000 := by omega
      go_wp2_with fail
      refine (get_any as1 cs1 M xn _ hM HLM.out hxn' KS).mono ?_
      rintro e w3 ⟨rfl, c1⟩
      rw [HGV.out, HGF.out, errV_nil rfl]
      have hB3 := hB2.trans (c1.mono hB2.size)
      have SB3 := SB2.below c1
      have hK3 := hK2.below c1
      have KS3 := KS.below c1
      clear c1 hB2 SB2 hK2 KS y0 y1 y2
      obtain ⟨y0, y1, y2⟩ := id SB3
      dsimp only at y0 y1 y2
      go_wp2_with fail
      refine (check_any as1 cs1 M _ hM HLM.out KS3).mono ?_
      rintro e w4 ⟨rfl, c1⟩
      rw [HCM.out, errV_nil rfl]
      have hB4 := hB3.trans (c1.mono hB3.size)
      have SB4 := SB3.below c1
      have hK4 := hK3.below c1
      have KS4 := KS3.below c1
      clear c1 hB3 SB3 hK3 KS3 y0 y1 y2
      obtain ⟨y0, y1, y2⟩ := id SB4
      dsimp only at y0 y1 y2
      go_wp2
      go_loopw [11] (fun i wq => ∃ j : Nat, j ≤ L.length ∧ i = .int .i64 j ∧ SBox wq sb ⟨false, xn, xv⟩ ∧ Kvm wq ao L ∧ Kvm wq as1 M ∧ Below w.heap.size w wq) (fun i _ => L.length - (intOf i).toNat)
      case atStart => exact ⟨0, Nat.zero_le _, rfl, SB4, hK4, KS4, hB4⟩
      case round =>
        obtain ⟨j, hj, rfl, SB5, hK5, KS5, hB5⟩ := hrel
        clear SB4 hK4 KS4 hB4 y0 y1 y2
        obtain ⟨y0, y1, y2⟩ := id SB5
        dsimp only at y0 y1 y2
        by_cases hjl : j < L.length
        · obtain ⟨z, hz⟩ : ∃ z, L[j]? = some z := ⟨L[j], by simp [hjl]⟩
          have hji : (j : Int) < (L.length : Int) := by omega
          have hK5' := hK5
          rcases hK5' with hnil | ⟨bb, ob, hab, hcc⟩
          · rw [hnil] at hjl; simp at hjl
          subst hab
          obtain ⟨z0, z1⟩ := hcc j z hz
          obtain ⟨zs, _⟩ := hlow z (List.mem_of_getElem? hz)
          have HO : Hid (z.n ≠ xn → getF M z.n = 0 ∧ getV M z.n = z.v) := HOTH.out z (List.mem_of_getElem? hz)
          have hbb : bb < wr.heap.size := World.block_lt_of_cell? _ _ z0
          clear hcc hz
          by_cases hzn : z.n = xn
          · have bn : (z.n.toList == xn.toList) = true := by rw [hzn]; simp
            clear hzn
            go_wp2
            go_quiet (fail)
            go_wp2
            go_roundw
            case rel => exact ⟨j + 1, by omega, by go_num, SB5, hK5.below (below_drewN (Below.refl _ _) _), KS5.below (below_drewN (Below.refl _ _) _), below_drewN hB5 _⟩
            case measure => simp [intOf]; omega
          have bn : (z.n.toList == xn.toList) = false := by simp; exact fun e => hzn (toList_inj e)
          have HO1 : Hid (getF M z.n = 0) := (HO.out hzn).1
          have HO2 : Hid (getV M z.n = z.v) := (HO.out hzn).2
          clear hzn HO
          go_wp2
          go_quiet (fail)
          have hq : Below wr.heap.size wr (wr.drewN nq) := below_drewN (Below.refl _ _) _
          have hB6 := below_drewN hB5 nq
          have SB6 := SB5.below hq
          have hK6 := hK5.below hq
          have KS6 := KS5.below hq
          have z2 : (wr.drewN nq).cell? ⟨bb, ob + j * 2, none⟩ = some (.string z.n) := z0
          have z3 : (wr.drewN nq).cell? ⟨bb, ob + j * 2 + 1, none⟩ = some (.string z.v) := z1
          have hbq : bb < (wr.drewN nq).heap.size := hbb
          clear hq hB5 SB5 hK5 KS5 y0 y1 y2 z0 z1 hbb
          generalize wr.drewN nq = w6 at hB6 SB6 hK6 KS6 z2 z3 hbq ⊢
          go_wp2_with fail
          refine (get_any as1 cs1 M z.n _ hM HLM.out (by omega) KS6).mono ?_
          rintro e w7 ⟨rfl, c1⟩
          rw [HO1.out, HO2.out, errV_nil rfl]
          have hB7 := hB6.trans (c1.mono hB6.size)
          have SB7 := SB6.below c1
          have hK7 := hK6.below c1
          have KS7 := KS6.below c1
          have z4 : w7.cell? ⟨bb, ob + j * 2 + 1, none⟩ = some (.string z.v) := (c1.cell (p := ⟨bb, ob + j * 2 + 1, none⟩) hbq).trans z3
          clear c1 hB6 SB6 hK6 KS6 z2 z3 hbq
          go_wp2
          go_roundw
          case rel => exact ⟨j + 1, by omega, by go_num, SB7, hK7, KS7, hB7⟩
          case measure => simp [intOf]; omega
        · go_wp2
          go_roundw
          case rel => exact ⟨k + 1, M, as1, cs1, by omega, by go_num, rfl, s1, s2, KS5, HCM.out, HLM.out, hB5⟩
          case measure => simp [intOf]; omega
    · -- a value is dropped
      obtain ⟨f0, Hf0⟩ : ∃ f, Hid (setF L xn xv = f) := ⟨_, rfl⟩
      obtain ⟨M0, HM0⟩ : ∃ f, Hid (setV L xn xv = f) := ⟨_, rfl⟩
      obtain ⟨f, Hf⟩ : ∃ f, Hid (drpF L xn = f) := ⟨_, rfl⟩
      obtain ⟨M, HM⟩ : ∃ f, Hid (drpV L xn = f) := ⟨_, rfl⟩
      rw [Hf0.out, HM0.out]
      clear KS s1 s2
      obtain ⟨y0, y1, y2⟩ := id SB2
      dsimp only at y0 y1 y2
      generalize errV f0 = ev
      go_wp2_with fail
      refine (drop_any ao cp L xn _ hL hcp hcm hlow hxn' hK2).mono ?_
      rintro e w2d ⟨⟨ad1, cd1, rfl, s1, s2, KS⟩, c1⟩
      rw [Hf.out, HM.out]
      rw [HM.out] at s1 KS
      have hB2d := hB2.trans (c1.mono hB2.size)
      have SB2d := SB2.below c1
      have hK2d := hK2.below c1
      have hw2d : sb < w2d.heap.size := Nat.lt_of_lt_of_le hw2 c1.size
      clear c1 hB2 SB2 hK2 y0 y1 y2 hw2
      obtain ⟨y0, y1, y2⟩ := id SB2d
      dsimp only at y0 y1 y2
      by_cases hf : f = 0
      rotate_left
      · rw [errV_of rfl hf]
        go_wp2
        go_roundw
        case rel => exact ⟨k + 1, L, ao, cp, by omega, by go_num, rfl, hcp, hcm, hK2d, HG.out, hlow, hB2d⟩
        case measure => simp [intOf]; omega
      subst hf
      rw [errV_nil rfl]
      have FA := drp_facts (l := L) (m := xn) Hf.out
      rw [HM.out] at FA
      have HCM : Hid (chkA M = 0) := FA.1
      have HGF : Hid (getF M xn = 5) := FA.2.1
      obtain ⟨gv, HGV⟩ : ∃ gv, Hid (getV M xn = gv) := ⟨_, rfl⟩
      have HOTH : Hid (∀ z ∈ L, z.n ≠ xn → getF M z.n = 0 ∧ getV M z.n = z.v) := FA.2.2
      have HLM : Hid (Low M) := by show Low M; rw [← HM.out]; exact drp_low hlow Hf.out
      clear FA
      have hM4 := good_len HCM.out
      have hM : M.length ≤ 1000 := by omega
      go_wp2_with fail
      refine (get_any ad1 cd1 M xn _ hM HLM.out hxn' KS).mono ?_
      rintro e w3 ⟨rfl, c1⟩
      rw [HGV.out, HGF.out, errV_of rfl (by decide : (5 : Int) ≠ 0)]
      have hB3 := hB2d.trans (c1.mono hB2d.size)
      have SB3 := SB2d.below c1
      have hK3 := hK2d.below c1
      have KS3 := KS.below c1
      clear c1 hB2d SB2d hK2d KS y0 y1 y2
      obtain ⟨y0, y1, y2⟩ := id SB3
      dsimp only at y0 y1 y2
      go_wp2_with fail
      refine (check_any ad1 cd1 M _ hM HLM.out KS3).mono ?_
      rintro e w4 ⟨rfl, c1⟩
      rw [HCM.out, errV_nil rfl]
      have hB4 := hB3.trans (c1.mono hB3.size)
      have SB4 := SB3.below c1
      have hK4 := hK3.below c1
      have KS4 := KS3.below c1
      clear c1 hB3 SB3 hK3 KS3 y0 y1 y2
      obtain ⟨y0, y1, y2⟩ := id SB4
      dsimp only at y0 y1 y2
      go_wp2_with fail
      refine (is_err 5 (by decide) _).mono ?_
      rintro e w' ⟨rfl, rfl⟩
      go_wp2
      go_loopw [11] (fun i wq => ∃ j : Nat, j ≤ L.length ∧ i = .int .i64 j ∧ SBox wq sb ⟨true, xn, xv⟩ ∧ Kvm wq ao L ∧ Kvm wq ad1 M ∧ Below w.heap.size w wq) (fun i _ => L.length - (intOf i).toNat)
      case atStart => exact ⟨0, Nat.zero_le _, rfl, SB4, hK4, KS4, hB4⟩
      case round =>
        obtain ⟨j, hj, rfl, SB5, hK5, KS5, hB5⟩ := hrel
        clear SB4 hK4 KS4 hB4 y0 y1 y2
        obtain ⟨y0, y1, y2⟩ := id SB5
        dsimp only at y0 y1 y2
        by_cases hjl : j < L.length
        · obtain ⟨z, hz⟩ : ∃ z, L[j]? = some z := ⟨L[j], by simp [hjl]⟩
          have hji : (j : Int) < (L.length : Int) := by omega
          have hK5' := hK5
          rcases hK5' with hnil | ⟨bb, ob, hab, hcc⟩
          · rw [hnil] at hjl; simp at hjl
          subst hab
          obtain ⟨z0, z1⟩ := hcc j z hz
          obtain ⟨zs, _⟩ := hlow z (List.mem_of_getElem? hz)
          have HO : Hid (z.n ≠ xn → getF M z.n = 0 ∧ getV M z.n = z.v) := HOTH.out z (List.mem_of_getElem? hz)
          have hbb : bb < wr.heap.size := World.block_lt_of_cell? _ _ z0
          clear hcc hz
          by_cases hzn : z.n = xn
          · have bn : (z.n.toList == xn.toList) = true := by rw [hzn]; simp
            clear hzn
            go_wp2
            go_quiet (fail)
            go_wp2
            go_roundw
            case rel => exact ⟨j + 1, by omega, by go_num, SB5, hK5.below (below_drewN (Below.refl _ _) _), KS5.below (below_drewN (Below.refl _ _) _), below_drewN hB5 _⟩
            case measure => simp [intOf]; omega
          have bn : (z.n.toList == xn.toList) = false := by simp; exact fun e => hzn (toList_inj e)
          have HO1 : Hid (getF M z.n = 0) := (HO.out hzn).1
          have HO2 : Hid (getV M z.n = z.v) := (HO.out hzn).2
          clear hzn HO
          go_wp2
          go_quiet (fail)
          have hq : Below wr.heap.size wr (wr.drewN nq) := below_drewN (Below.refl _ _) _
          have hB6 := below_drewN hB5 nq
          have SB6 := SB5.below hq
          have hK6 := hK5.below hq
          have KS6 := KS5.below hq
          have z2 : (wr.drewN nq).cell? ⟨bb, ob + j * 2, none⟩ = some (.string z.n) := z0
          have z3 : (wr.drewN nq).cell? ⟨bb, ob + j * 2 + 1, none⟩ = some (.string z.v) := z1
          have hbq : bb < (wr.drewN nq).heap.size := hbb
          clear hq hB5 SB5 hK5 KS5 y0 y1 y2 z0 z1 hbb
          generalize wr.drewN nq = w6 at hB6 SB6 hK6 KS6 z2 z3 hbq ⊢
          go_wp2_with fail
          refine (get_any ad1 cd1 M z.n _ hM HLM.out (by omega) KS6).mono ?_
          rintro e w7 ⟨rfl, c1⟩
          rw [HO1.out, HO2.out, errV_nil rfl]
          have hB7 := hB6.trans (c1.mono hB6.size)
          have SB7 := SB6.below c1
          have hK7 := hK6.below c1
          have KS7 := KS6.below c1
          have z4 : w7.cell? ⟨bb, ob + j * 2 + 1, none⟩ = some (.string z.v) := (c1.cell (p := ⟨bb, ob + j * 2 + 1, none⟩) hbq).trans z3
          clear c1 hB6 SB6 hK6 KS6 z2 z3 hbq
          go_wp2
          go_roundw
          case rel => exact ⟨j + 1, by omega, by go_num, SB7, hK7, KS7, hB7⟩
          case measure => simp [intOf]; omega
        · go_wp2
          go_roundw
          case rel => exact ⟨k + 1, M, ad1, cd1, by omega, by go_num, rfl, s1, s2, KS5, HCM.out, HLM.out, hB5⟩
          case measure => simp [intOf]; omega
end Go.Proofs.Ytpjhckjmahagnaa
