/-
  WHAT THE DOCUMENT's OWN May, Owns AND Takes ANSWER: what package perm does: the walks.
-/
import Derived.Test.YtoojeehgkejeeaaPh
namespace Go.Proofs.Ytoojeehgkejeeaa
open Go.RowKit

theorem all_key : ∀ r w : Fin 8, (((!bitB ((w : Nat) : Int) 1 || bitB ((r : Nat) : Int) 1) && (!bitB ((w : Nat) : Int) 2 || bitB ((r : Nat) : Int) 2)) && (!bitB ((w : Nat) : Int) 4 || bitB ((r : Nat) : Int) 4)) = (bits .and .i64 ((r : Nat) : Int) ((w : Nat) : Int) == ((w : Nat) : Int)) ∧ (!bitB ((w : Nat) : Int) 1) = (bits .and .i64 ((w : Nat) : Int) 1 == 0) := by decide +kernel
/-- Has it all bits? -/
def allB (r w : Int) : Bool := ((!bitB w 1 || bitB r 1) && (!bitB w 2 || bitB r 2)) && (!bitB w 4 || bitB r 4)
theorem all_and {r w : Int} (r0 : 0 ≤ r) (r1 : r ≤ 7) (w0 : 0 ≤ w) (w1 : w ≤ 7) : allB r w = (bits .and .i64 r w == w) ∧ (!bitB w 1) = (bits .and .i64 w 1 == 0) := by
  obtain ⟨x, rfl⟩ := nat_of (k := 8) r0 (by omega)
  obtain ⟨y, rfl⟩ := nat_of (k := 8) w0 (by omega)
  exact all_key x y
theorem cap_bit {c : Int} (h0 : 0 ≤ c) (h1 : c ≤ 15) : (bits .and .i64 c 2 == 2) = bitB c 2 ∧ (bits .and .i64 c 4 == 4) = bitB c 4 := by
  obtain ⟨x, rfl⟩ := nat_of (k := 16) h0 (by omega)
  have key : ∀ m : Fin 16, (bits .and .i64 ((m : Nat) : Int) 2 == 2) = bitB ((m : Nat) : Int) 2 ∧ (bits .and .i64 ((m : Nat) : Int) 4 == 4) = bitB ((m : Nat) : Int) 4 := by decide +kernel
  exact key x
theorem mode_bit {m : Int} (h0 : 0 ≤ m) (h1 : m ≤ 4095) : (bits .and .i64 m 73 != 0) = ((bitB m 1 || bitB m 8) || bitB m 64) ∧ (bits .and .i64 m 512 == 0) = !bitB m 512 := by
  obtain ⟨a, b, rfl⟩ := nat_of_two h0 h1
  have key : ∀ a b : Fin 64, (bits .and .i64 ((64 * (a : Nat) + (b : Nat) : Nat) : Int) 73 != 0) = ((bitB ((64 * (a : Nat) + (b : Nat) : Nat) : Int) 1 || bitB ((64 * (a : Nat) + (b : Nat) : Nat) : Int) 8) || bitB ((64 * (a : Nat) + (b : Nat) : Nat) : Int) 64) ∧ (bits .and .i64 ((64 * (a : Nat) + (b : Nat) : Nat) : Int) 512 == 0) = !bitB ((64 * (a : Nat) + (b : Nat) : Nat) : Int) 512 := by decide +kernel
  exact key a b

set_option maxHeartbeats 1000000 in
theorem ownsr_any (u g c : Int) (v : Value) (d : Bool) (m tu tg : Int) (mp : Bool) (w : World) (hc0 : 0 ≤ c) (hc1 : c ≤ 15) :
    Calls Try.prog 41 #[.agg #[.int .i64 u, .int .i64 g, v, .int .i64 c], .agg #[.bool d, .int .i64 m, .int .i64 tu, .int .i64 tg, .bool mp]] w fun e w' =>
      e = .returned (.bool (ownB u c tu mp)) ∧ Below w.heap.size w w' := by
  have HC : Hid ((bits .and .i64 c 4 == 4) = bitB c 4) := (cap_bit hc0 hc1).2
  cases mp
  · go_enter Try.func41, Try.ntmps41
    go_wp2
    go_ret
    exact ⟨rfl, ((Below.refl _ _).alloc (Nat.le_refl _) _).alloc (by simp) _⟩
  · obtain ⟨t, ht⟩ : ∃ t, (tu == u) = t := ⟨_, rfl⟩
    have HT : Hid ((tu == u) = t) := ht
    cases t
    · go_enter Try.func41, Try.ntmps41
      go_wp2_with (go_at_call 59; refine (bit_any _ _ (by omega) (by omega) (by omega) (by omega) _).mono ?_; rintro e w' ⟨rfl, rfl⟩)
      go_ret
      exact ⟨ret_bool (by unfold ownB isU; rw [HC.out, HT.out]; simp), ((Below.refl _ _).alloc (Nat.le_refl _) _).alloc (by simp) _⟩
    · go_enter Try.func41, Try.ntmps41
      go_wp2
      go_ret
      exact ⟨ret_bool (by unfold ownB isU; rw [HT.out]; simp), ((Below.refl _ _).alloc (Nat.le_refl _) _).alloc (by simp) _⟩

set_option maxHeartbeats 1000000 in
theorem takesr_any (u g c : Int) (v : Value) (dd : Bool) (dm du dg : Int) (dmp : Bool) (d : Bool) (m tu tg : Int) (mp : Bool) (w : World) (hc0 : 0 ≤ c) (hc1 : c ≤ 15) (hm0 : 0 ≤ dm) (hm1 : dm ≤ 4095) :
    Calls Try.prog 43 #[.agg #[.int .i64 u, .int .i64 g, v, .int .i64 c], .agg #[.bool dd, .int .i64 dm, .int .i64 du, .int .i64 dg, .bool dmp], .agg #[.bool d, .int .i64 m, .int .i64 tu, .int .i64 tg, .bool mp]] w fun e w' =>
      e = .returned (.bool (takeB u c dm du dmp tu mp)) ∧ Below w.heap.size w w' := by
  have HD : Hid ((bits .and .i64 dm 512 == 0) = !bitB dm 512) := (mode_bit hm0 hm1).2
  go_enter Try.func43, Try.ntmps43
  go_wp2_with fail
  refine (ownsr_any u g c _ d m tu tg mp _ hc0 hc1).mono ?_
  rintro e w1 ⟨rfl, hb⟩
  obtain ⟨hX, hD, _, hB⟩ := three_new w w1 u g _ c dd dm du dg dmp d m tu tg mp hb
  clear hb
  obtain ⟨k0, k1, k2, k3, k4⟩ := id hX
  obtain ⟨j0, j1, j2, j3, j4⟩ := id hD
  obtain ⟨o, ho⟩ : ∃ t, ownB u c tu mp = t := ⟨_, rfl⟩
  have HO : Hid (ownB u c tu mp = o) := ho
  rw [ho]; clear ho
  obtain ⟨s, hs⟩ : ∃ t, bitB dm 512 = t := ⟨_, rfl⟩
  have HS : Hid (bitB dm 512 = s) := hs
  clear hs
  go_wp2_with fail
  refine (bit_any _ _ hm0 hm1 (by omega) (by omega) _).mono ?_
  rintro e w' ⟨rfl, rfl⟩
  rw [HS.out]
  cases s
  · go_wp2
    go_ret
    exact ⟨ret_bool (by unfold takeB; rw [HD.out, HS.out]; rfl), hB⟩
  · cases o
    · cases dmp
      · go_wp2
        go_ret
        exact ⟨ret_bool (by unfold takeB; rw [HD.out, HS.out, HO.out]; rfl), hB⟩
      · go_wp2
        go_ret
        exact ⟨ret_bool (by unfold takeB; rw [HD.out, HS.out, HO.out]; simp [isU]), hB⟩
    · go_wp2
      go_ret
      exact ⟨ret_bool (by unfold takeB; rw [HD.out, HS.out, HO.out]; rfl), hB⟩

/-- What R1 asks, bit by bit. -/
theorem may_bits {u g : Int} {zs : List Int} {c : Int} {d : Bool} {m tu tg : Int} {mp : Bool} {w : Int} (w0 : 0 ≤ w) (w1 : w ≤ 7) (h0 : 0 ≤ m) (h1 : m ≤ 4095) (c0 : 0 ≤ c) (c1 : c ≤ 15) :
    mayB u g zs c d m tu tg mp w = (allB (cntF u g zs m tu tg mp % 8) w || ((mp && bitB c 2) && ((d || !bitB w 1) || ((bitB m 1 || bitB m 8) || bitB m 64)))) := by
  obtain ⟨n0, n1, _⟩ := cntF_bd (u := u) (g := g) (zs := zs) (tu := tu) (tg := tg) (mp := mp) h0 h1
  rw [may_in w0 w1 h0 h1, (all_and (r := cntF u g zs m tu tg mp % 8) (by omega) (by omega) w0 w1).1, (all_and (r := 0) (by omega) (by omega) w0 w1).2, (cap_bit c0 c1).1, (mode_bit h0 h1).1]
  congr 2
  cases d <;> simp [Bool.or_comm]

/-- The loop over the three bits. -/
def partB (r w : Int) (k : Nat) : Bool := if k = 0 then true else if k = 1 then (!bitB w 1 || bitB r 1) else if k = 2 then ((!bitB w 1 || bitB r 1) && (!bitB w 2 || bitB r 2)) else allB r w
def stepI (k : Nat) : Int := if k = 0 then 1 else if k = 1 then 2 else if k = 2 then 4 else 8
theorem part_step (r w : Int) (k : Nat) (hk : k < 3) : partB r w (k + 1) = (partB r w k && (!bitB w (stepI k) || bitB r (stepI k))) ∧ stepI (k + 1) = 2 * stepI k ∧ 1 ≤ stepI k ∧ stepI k ≤ 4 := by
  have : k = 0 ∨ k = 1 ∨ k = 2 := by omega
  rcases this with rfl | rfl | rfl
  · exact ⟨by simp [partB, stepI], by decide, by decide, by decide⟩
  · exact ⟨by simp [partB, stepI], by decide, by decide, by decide⟩
  · exact ⟨by simp [partB, stepI, allB], by decide, by decide, by decide⟩

set_option maxRecDepth 100000 in
set_option maxHeartbeats 2000000 in
theorem mayr_any (u g c : Int) (a : Option Addr) (cap : Nat) (zs : List Int) (d : Bool) (m tu tg : Int) (mp : Bool) (want : Int) (w : World) (hl : zs.length ≤ 9223372036854775807) (h : Ints w a zs) (hm0 : 0 ≤ m) (hm1 : m ≤ 4095) (hc0 : 0 ≤ c) (hc1 : c ≤ 15) :
    Calls Try.prog 39 #[.agg #[.int .i64 u, .int .i64 g, .slice a zs.length cap, .int .i64 c], .agg #[.bool d, .int .i64 m, .int .i64 tu, .int .i64 tg, .bool mp], .int .i64 want] w fun e w' =>
      e = .returned (.bool (mayB u g zs c d m tu tg mp want)) ∧ Below w.heap.size w w' := by
  by_cases h0 : want < 0
  · go_enter Try.func39, Try.ntmps39
    go_wp2
    go_ret
    exact ⟨ret_bool (by unfold mayB; rw [if_pos (.inl h0)]), ((Below.refl _ _).alloc (Nat.le_refl _) _).alloc (by simp) _⟩
  have d0 : decide (want < 0) = false := by simpa using h0
  by_cases h7 : 7 < want
  · have d7 : decide (7 < want) = true := by simpa using h7
    go_enter Try.func39, Try.ntmps39
    go_wp2
    go_ret
    exact ⟨ret_bool (by unfold mayB; rw [if_pos (.inr h7)]), ((Below.refl _ _).alloc (Nat.le_refl _) _).alloc (by simp) _⟩
  have d7 : decide (7 < want) = false := by simpa using h7
  have HM : Hid (mayB u g zs c d m tu tg mp want = (allB (cntF u g zs m tu tg mp % 8) want || ((mp && bitB c 2) && ((d || !bitB want 1) || ((bitB m 1 || bitB m 8) || bitB m 64))))) := may_bits (by omega) (by omega) hm0 hm1 hc0 hc1
  go_enter Try.func39, Try.ntmps39
  go_wp2_with fail
  refine (hasr_any u g tg c a cap zs _ hl (h.two _ _)).mono ?_
  rintro e w1 ⟨rfl, hb⟩
  obtain ⟨hX, hT, hB⟩ := two_new w w1 u g _ c d m tu tg mp hb
  clear hb
  obtain ⟨k0, k1, k2, k3, k4⟩ := id hX
  obtain ⟨j0, j1, j2, j3, j4⟩ := id hT
  obtain ⟨n0, n1, _⟩ := cntF_bd (u := u) (g := g) (zs := zs) (tu := tu) (tg := tg) (mp := mp) hm0 hm1
  have HR : Hid (cntF u g zs m tu tg mp % 8 = if isU u tu mp = true then m / 64 % 8 else if (mp && hasB g zs tg) = true then m / 8 % 8 else m % 8) := by
    show _ = _; unfold cntF; split
    · rfl
    · split <;> rfl
  obtain ⟨r, HRR⟩ : ∃ r, Hid (cntF u g zs m tu tg mp % 8 = r) := ⟨_, rfl⟩
  have r0 : 0 ≤ r := by rw [← HRR.out]; omega
  have r1 : r ≤ 7 := by rw [← HRR.out]; omega
  rw [HRR.out] at HM HR
  clear n0 n1
  obtain ⟨t, ht⟩ : ∃ t, hasB g zs tg = t := ⟨_, rfl⟩
  rw [ht] at HR ⊢
  clear ht
  obtain ⟨x, hx⟩ : ∃ t, (tu == u) = t := ⟨_, rfl⟩
  have HU : Hid (isU u tu mp = (mp && x)) := by show _ = _; unfold isU; rw [hx]
  rw [HU.out] at HR
  clear HU
  obtain ⟨al, HAL⟩ : ∃ t, Hid (allB r want = t) := ⟨_, rfl⟩
  obtain ⟨c2, HC2⟩ : ∃ t, Hid (bitB c 2 = t) := ⟨_, rfl⟩
  obtain ⟨w1b, HW1⟩ : ∃ t, Hid (bitB want 1 = t) := ⟨_, rfl⟩
  obtain ⟨b1, HB1⟩ : ∃ t, Hid (bitB m 1 = t) := ⟨_, rfl⟩
  obtain ⟨b8, HB8⟩ : ∃ t, Hid (bitB m 8 = t) := ⟨_, rfl⟩
  obtain ⟨b64, HB64⟩ : ∃ t, Hid (bitB m 64 = t) := ⟨_, rfl⟩
  cases mp
  · have HV : Hid (m % 8 = r) := by have := HR.out; show _ = _; simpa using this.symm
    clear HR
    go_wp2
    rw [HV.out]
    go_loop [9, 10] (fun t i => ∃ k : Nat, k ≤ 3 ∧ i = .int .i64 (stepI k) ∧ t = .bool (partB r want k)) (fun _ i => (8 - intOf i).toNat)
    case atStart => exact ⟨0, by omega, rfl, rfl⟩
    case round =>
      obtain ⟨k, hk, rfl, rfl⟩ := hrel
      by_cases hlt : k < 3
      · obtain ⟨hp, hs, s1, s4⟩ := part_step r want k hlt
        have HP : Hid (partB r want (k + 1) = (partB r want k && (!bitB want (stepI k) || bitB r (stepI k)))) := hp
        have HS : Hid (stepI (k + 1) = 2 * stepI k) := hs
        clear hp hs
        generalize stepI k = bb at HP HS s1 s4 ⊢
        generalize partB r want k = pp at HP ⊢
        have db : decide (bb ≤ 4) = true := by simpa using s4
        obtain ⟨tw, HTW⟩ : ∃ t, Hid (bitB want bb = t) := ⟨_, rfl⟩
        obtain ⟨tr, HTR⟩ : ∃ t, Hid (bitB r bb = t) := ⟨_, rfl⟩
        go_wp2_with fail
        refine (bit_any want _ (by omega) (by omega) (by omega) (by omega) _).mono ?_
        rintro e w' ⟨rfl, rfl⟩
        rw [HTW.out]
        cases tw
        · go_wp2
          go_round
          case rel => exact ⟨k + 1, by omega, by rw [HS.out], by rw [HP.out, HTW.out]; simp⟩
          case measure => simp [intOf]; omega
        · go_wp2_with fail
          refine (bit_any r _ r0 (by omega) (by omega) (by omega) _).mono ?_
          rintro e w' ⟨rfl, rfl⟩
          rw [HTR.out]
          cases tr
          · go_wp2
            go_round
            case rel => exact ⟨k + 1, by omega, by rw [HS.out], by rw [HP.out, HTW.out, HTR.out]; simp⟩
            case measure => simp [intOf]; omega
          · go_wp2
            go_round
            case rel => exact ⟨k + 1, by omega, by rw [HS.out], by rw [HP.out, HTW.out, HTR.out]; simp⟩
            case measure => simp [intOf]; omega
      · have k3 : k = 3 := by omega
        subst k3
        have HP3 : Hid (partB r want 3 = al) := HAL.out
        have e8 : stepI 3 = 8 := rfl
        rw [HP3.out, e8]
        cases al
        · go_wp2_with fail
          refine (bit_any m _ hm0 hm1 (by omega) (by omega) _).mono ?_
          rintro e w' ⟨rfl, rfl⟩
          rw [HB1.out]
          cases b1
          · go_wp2_with fail
            refine (bit_any m _ hm0 hm1 (by omega) (by omega) _).mono ?_
            rintro e w' ⟨rfl, rfl⟩
            rw [HB8.out]
            cases b8
            · go_wp2_with fail
              refine (bit_any m _ hm0 hm1 (by omega) (by omega) _).mono ?_
              rintro e w' ⟨rfl, rfl⟩
              rw [HB64.out]
              go_wp2
              go_ret
              exact ⟨ret_bool (by rw [HM.out, HAL.out, HB1.out, HB8.out, HB64.out]; simp), hB⟩
            · go_wp2
              go_ret
              exact ⟨ret_bool (by rw [HM.out, HAL.out, HB1.out, HB8.out]; simp), hB⟩
          · go_wp2
            go_ret
            exact ⟨ret_bool (by rw [HM.out, HAL.out, HB1.out]; simp), hB⟩
        · go_wp2
          go_ret
          exact ⟨ret_bool (by rw [HM.out, HAL.out]; simp), hB⟩
  · cases x
    · cases t
      · have HV : Hid (m % 8 = r) := by have := HR.out; show _ = _; simpa using this.symm
        clear HR
        go_wp2
        rw [HV.out]
        go_loop [9, 10] (fun t i => ∃ k : Nat, k ≤ 3 ∧ i = .int .i64 (stepI k) ∧ t = .bool (partB r want k)) (fun _ i => (8 - intOf i).toNat)
        case atStart => exact ⟨0, by omega, rfl, rfl⟩
        case round =>
          obtain ⟨k, hk, rfl, rfl⟩ := hrel
          by_cases hlt : k < 3
          · obtain ⟨hp, hs, s1, s4⟩ := part_step r want k hlt
            have HP : Hid (partB r want (k + 1) = (partB r want k && (!bitB want (stepI k) || bitB r (stepI k)))) := hp
            have HS : Hid (stepI (k + 1) = 2 * stepI k) := hs
            clear hp hs
            generalize stepI k = bb at HP HS s1 s4 ⊢
            generalize partB r want k = pp at HP ⊢
            have db : decide (bb ≤ 4) = true := by simpa using s4
            obtain ⟨tw, HTW⟩ : ∃ t, Hid (bitB want bb = t) := ⟨_, rfl⟩
            obtain ⟨tr, HTR⟩ : ∃ t, Hid (bitB r bb = t) := ⟨_, rfl⟩
            go_wp2_with fail
            refine (bit_any want _ (by omega) (by omega) (by omega) (by omega) _).mono ?_
            rintro e w' ⟨rfl, rfl⟩
            rw [HTW.out]
            cases tw
            · go_wp2
              go_round
              case rel => exact ⟨k + 1, by omega, by rw [HS.out], by rw [HP.out, HTW.out]; simp⟩
              case measure => simp [intOf]; omega
            · go_wp2_with fail
              refine (bit_any r _ r0 (by omega) (by omega) (by omega) _).mono ?_
              rintro e w' ⟨rfl, rfl⟩
              rw [HTR.out]
              cases tr
              · go_wp2
                go_round
                case rel => exact ⟨k + 1, by omega, by rw [HS.out], by rw [HP.out, HTW.out, HTR.out]; simp⟩
                case measure => simp [intOf]; omega
              · go_wp2
                go_round
                case rel => exact ⟨k + 1, by omega, by rw [HS.out], by rw [HP.out, HTW.out, HTR.out]; simp⟩
                case measure => simp [intOf]; omega
          · have k3 : k = 3 := by omega
            subst k3
            have HP3 : Hid (partB r want 3 = al) := HAL.out
            have e8 : stepI 3 = 8 := rfl
            rw [HP3.out, e8]
            cases al
            · go_wp2_with fail
              refine (bit_any m _ hm0 hm1 (by omega) (by omega) _).mono ?_
              rintro e w' ⟨rfl, rfl⟩
              rw [HB1.out]
              cases b1
              · go_wp2_with fail
                refine (bit_any m _ hm0 hm1 (by omega) (by omega) _).mono ?_
                rintro e w' ⟨rfl, rfl⟩
                rw [HB8.out]
                cases b8
                · go_wp2_with fail
                  refine (bit_any m _ hm0 hm1 (by omega) (by omega) _).mono ?_
                  rintro e w' ⟨rfl, rfl⟩
                  rw [HB64.out]
                  go_wp2_with fail
                  refine (bit_any c _ hc0 (by omega) (by omega) (by omega) _).mono ?_
                  rintro e w' ⟨rfl, rfl⟩
                  rw [HC2.out]
                  cases c2
                  · go_wp2
                    go_ret
                    exact ⟨ret_bool (by rw [HM.out, HAL.out, HB1.out, HB8.out, HB64.out, HC2.out]; simp), hB⟩
                  · cases d
                    · go_wp2_with fail
                      refine (bit_any want _ (by omega) (by omega) (by omega) (by omega) _).mono ?_
                      rintro e w' ⟨rfl, rfl⟩
                      rw [HW1.out]
                      cases w1b
                      · go_wp2
                        go_ret
                        exact ⟨ret_bool (by rw [HM.out, HAL.out, HB1.out, HB8.out, HB64.out, HC2.out, HW1.out]; simp), hB⟩
                      · go_wp2
                        go_ret
                        exact ⟨ret_bool (by rw [HM.out, HAL.out, HB1.out, HB8.out, HB64.out, HC2.out, HW1.out]; simp), hB⟩
                    · go_wp2
                      go_ret
                      exact ⟨ret_bool (by rw [HM.out, HAL.out, HB1.out, HB8.out, HB64.out, HC2.out]; simp), hB⟩
                · go_wp2_with fail
                  refine (bit_any c _ hc0 (by omega) (by omega) (by omega) _).mono ?_
                  rintro e w' ⟨rfl, rfl⟩
                  rw [HC2.out]
                  cases c2
                  · go_wp2
                    go_ret
                    exact ⟨ret_bool (by rw [HM.out, HAL.out, HB1.out, HB8.out, HC2.out]; simp), hB⟩
                  · cases d
                    · go_wp2_with fail
                      refine (bit_any want _ (by omega) (by omega) (by omega) (by omega) _).mono ?_
                      rintro e w' ⟨rfl, rfl⟩
                      rw [HW1.out]
                      cases w1b
                      · go_wp2
                        go_ret
                        exact ⟨ret_bool (by rw [HM.out, HAL.out, HB1.out, HB8.out, HC2.out, HW1.out]; simp), hB⟩
                      · go_wp2
                        go_ret
                        exact ⟨ret_bool (by rw [HM.out, HAL.out, HB1.out, HB8.out, HC2.out, HW1.out]; simp), hB⟩
                    · go_wp2
                      go_ret
                      exact ⟨ret_bool (by rw [HM.out, HAL.out, HB1.out, HB8.out, HC2.out]; simp), hB⟩
              · go_wp2_with fail
                refine (bit_any c _ hc0 (by omega) (by omega) (by omega) _).mono ?_
                rintro e w' ⟨rfl, rfl⟩
                rw [HC2.out]
                cases c2
                · go_wp2
                  go_ret
                  exact ⟨ret_bool (by rw [HM.out, HAL.out, HB1.out, HC2.out]; simp), hB⟩
                · cases d
                  · go_wp2_with fail
                    refine (bit_any want _ (by omega) (by omega) (by omega) (by omega) _).mono ?_
                    rintro e w' ⟨rfl, rfl⟩
                    rw [HW1.out]
                    cases w1b
                    · go_wp2
                      go_ret
                      exact ⟨ret_bool (by rw [HM.out, HAL.out, HB1.out, HC2.out, HW1.out]; simp), hB⟩
                    · go_wp2
                      go_ret
                      exact ⟨ret_bool (by rw [HM.out, HAL.out, HB1.out, HC2.out, HW1.out]; simp), hB⟩
                  · go_wp2
                    go_ret
                    exact ⟨ret_bool (by rw [HM.out, HAL.out, HB1.out, HC2.out]; simp), hB⟩
            · go_wp2
              go_ret
              exact ⟨ret_bool (by rw [HM.out, HAL.out]; simp), hB⟩
      · have HV : Hid (m / 8 % 8 = r) := by have := HR.out; show _ = _; simpa using this.symm
        clear HR
        go_wp2
        rw [HV.out]
        go_loop [9, 10] (fun t i => ∃ k : Nat, k ≤ 3 ∧ i = .int .i64 (stepI k) ∧ t = .bool (partB r want k)) (fun _ i => (8 - intOf i).toNat)
        case atStart => exact ⟨0, by omega, rfl, rfl⟩
        case round =>
          obtain ⟨k, hk, rfl, rfl⟩ := hrel
          by_cases hlt : k < 3
          · obtain ⟨hp, hs, s1, s4⟩ := part_step r want k hlt
            have HP : Hid (partB r want (k + 1) = (partB r want k && (!bitB want (stepI k) || bitB r (stepI k)))) := hp
            have HS : Hid (stepI (k + 1) = 2 * stepI k) := hs
            clear hp hs
            generalize stepI k = bb at HP HS s1 s4 ⊢
            generalize partB r want k = pp at HP ⊢
            have db : decide (bb ≤ 4) = true := by simpa using s4
            obtain ⟨tw, HTW⟩ : ∃ t, Hid (bitB want bb = t) := ⟨_, rfl⟩
            obtain ⟨tr, HTR⟩ : ∃ t, Hid (bitB r bb = t) := ⟨_, rfl⟩
            go_wp2_with fail
            refine (bit_any want _ (by omega) (by omega) (by omega) (by omega) _).mono ?_
            rintro e w' ⟨rfl, rfl⟩
            rw [HTW.out]
            cases tw
            · go_wp2
              go_round
              case rel => exact ⟨k + 1, by omega, by rw [HS.out], by rw [HP.out, HTW.out]; simp⟩
              case measure => simp [intOf]; omega
            · go_wp2_with fail
              refine (bit_any r _ r0 (by omega) (by omega) (by omega) _).mono ?_
              rintro e w' ⟨rfl, rfl⟩
              rw [HTR.out]
              cases tr
              · go_wp2
                go_round
                case rel => exact ⟨k + 1, by omega, by rw [HS.out], by rw [HP.out, HTW.out, HTR.out]; simp⟩
                case measure => simp [intOf]; omega
              · go_wp2
                go_round
                case rel => exact ⟨k + 1, by omega, by rw [HS.out], by rw [HP.out, HTW.out, HTR.out]; simp⟩
                case measure => simp [intOf]; omega
          · have k3 : k = 3 := by omega
            subst k3
            have HP3 : Hid (partB r want 3 = al) := HAL.out
            have e8 : stepI 3 = 8 := rfl
            rw [HP3.out, e8]
            cases al
            · go_wp2_with fail
              refine (bit_any m _ hm0 hm1 (by omega) (by omega) _).mono ?_
              rintro e w' ⟨rfl, rfl⟩
              rw [HB1.out]
              cases b1
              · go_wp2_with fail
                refine (bit_any m _ hm0 hm1 (by omega) (by omega) _).mono ?_
                rintro e w' ⟨rfl, rfl⟩
                rw [HB8.out]
                cases b8
                · go_wp2_with fail
                  refine (bit_any m _ hm0 hm1 (by omega) (by omega) _).mono ?_
                  rintro e w' ⟨rfl, rfl⟩
                  rw [HB64.out]
                  go_wp2_with fail
                  refine (bit_any c _ hc0 (by omega) (by omega) (by omega) _).mono ?_
                  rintro e w' ⟨rfl, rfl⟩
                  rw [HC2.out]
                  cases c2
                  · go_wp2
                    go_ret
                    exact ⟨ret_bool (by rw [HM.out, HAL.out, HB1.out, HB8.out, HB64.out, HC2.out]; simp), hB⟩
                  · cases d
                    · go_wp2_with fail
                      refine (bit_any want _ (by omega) (by omega) (by omega) (by omega) _).mono ?_
                      rintro e w' ⟨rfl, rfl⟩
                      rw [HW1.out]
                      cases w1b
                      · go_wp2
                        go_ret
                        exact ⟨ret_bool (by rw [HM.out, HAL.out, HB1.out, HB8.out, HB64.out, HC2.out, HW1.out]; simp), hB⟩
                      · go_wp2
                        go_ret
                        exact ⟨ret_bool (by rw [HM.out, HAL.out, HB1.out, HB8.out, HB64.out, HC2.out, HW1.out]; simp), hB⟩
                    · go_wp2
                      go_ret
                      exact ⟨ret_bool (by rw [HM.out, HAL.out, HB1.out, HB8.out, HB64.out, HC2.out]; simp), hB⟩
                · go_wp2_with fail
                  refine (bit_any c _ hc0 (by omega) (by omega) (by omega) _).mono ?_
                  rintro e w' ⟨rfl, rfl⟩
                  rw [HC2.out]
                  cases c2
                  · go_wp2
                    go_ret
                    exact ⟨ret_bool (by rw [HM.out, HAL.out, HB1.out, HB8.out, HC2.out]; simp), hB⟩
                  · cases d
                    · go_wp2_with fail
                      refine (bit_any want _ (by omega) (by omega) (by omega) (by omega) _).mono ?_
                      rintro e w' ⟨rfl, rfl⟩
                      rw [HW1.out]
                      cases w1b
                      · go_wp2
                        go_ret
                        exact ⟨ret_bool (by rw [HM.out, HAL.out, HB1.out, HB8.out, HC2.out, HW1.out]; simp), hB⟩
                      · go_wp2
                        go_ret
                        exact ⟨ret_bool (by rw [HM.out, HAL.out, HB1.out, HB8.out, HC2.out, HW1.out]; simp), hB⟩
                    · go_wp2
                      go_ret
                      exact ⟨ret_bool (by rw [HM.out, HAL.out, HB1.out, HB8.out, HC2.out]; simp), hB⟩
              · go_wp2_with fail
                refine (bit_any c _ hc0 (by omega) (by omega) (by omega) _).mono ?_
                rintro e w' ⟨rfl, rfl⟩
                rw [HC2.out]
                cases c2
                · go_wp2
                  go_ret
                  exact ⟨ret_bool (by rw [HM.out, HAL.out, HB1.out, HC2.out]; simp), hB⟩
                · cases d
                  · go_wp2_with fail
                    refine (bit_any want _ (by omega) (by omega) (by omega) (by omega) _).mono ?_
                    rintro e w' ⟨rfl, rfl⟩
                    rw [HW1.out]
                    cases w1b
                    · go_wp2
                      go_ret
                      exact ⟨ret_bool (by rw [HM.out, HAL.out, HB1.out, HC2.out, HW1.out]; simp), hB⟩
                    · go_wp2
                      go_ret
                      exact ⟨ret_bool (by rw [HM.out, HAL.out, HB1.out, HC2.out, HW1.out]; simp), hB⟩
                  · go_wp2
                    go_ret
                    exact ⟨ret_bool (by rw [HM.out, HAL.out, HB1.out, HC2.out]; simp), hB⟩
            · go_wp2
              go_ret
              exact ⟨ret_bool (by rw [HM.out, HAL.out]; simp), hB⟩
    · have HV : Hid (m / 64 % 8 = r) := by have := HR.out; show _ = _; simpa using this.symm
      clear HR
      go_wp2
      rw [HV.out]
      go_loop [9, 10] (fun t i => ∃ k : Nat, k ≤ 3 ∧ i = .int .i64 (stepI k) ∧ t = .bool (partB r want k)) (fun _ i => (8 - intOf i).toNat)
      case atStart => exact ⟨0, by omega, rfl, rfl⟩
      case round =>
        obtain ⟨k, hk, rfl, rfl⟩ := hrel
        by_cases hlt : k < 3
        · obtain ⟨hp, hs, s1, s4⟩ := part_step r want k hlt
          have HP : Hid (partB r want (k + 1) = (partB r want k && (!bitB want (stepI k) || bitB r (stepI k)))) := hp
          have HS : Hid (stepI (k + 1) = 2 * stepI k) := hs
          clear hp hs
          generalize stepI k = bb at HP HS s1 s4 ⊢
          generalize partB r want k = pp at HP ⊢
          have db : decide (bb ≤ 4) = true := by simpa using s4
          obtain ⟨tw, HTW⟩ : ∃ t, Hid (bitB want bb = t) := ⟨_, rfl⟩
          obtain ⟨tr, HTR⟩ : ∃ t, Hid (bitB r bb = t) := ⟨_, rfl⟩
          go_wp2_with fail
          refine (bit_any want _ (by omega) (by omega) (by omega) (by omega) _).mono ?_
          rintro e w' ⟨rfl, rfl⟩
          rw [HTW.out]
          cases tw
          · go_wp2
            go_round
            case rel => exact ⟨k + 1, by omega, by rw [HS.out], by rw [HP.out, HTW.out]; simp⟩
            case measure => simp [intOf]; omega
          · go_wp2_with fail
            refine (bit_any r _ r0 (by omega) (by omega) (by omega) _).mono ?_
            rintro e w' ⟨rfl, rfl⟩
            rw [HTR.out]
            cases tr
            · go_wp2
              go_round
              case rel => exact ⟨k + 1, by omega, by rw [HS.out], by rw [HP.out, HTW.out, HTR.out]; simp⟩
              case measure => simp [intOf]; omega
            · go_wp2
              go_round
              case rel => exact ⟨k + 1, by omega, by rw [HS.out], by rw [HP.out, HTW.out, HTR.out]; simp⟩
              case measure => simp [intOf]; omega
        · have k3 : k = 3 := by omega
          subst k3
          have HP3 : Hid (partB r want 3 = al) := HAL.out
          have e8 : stepI 3 = 8 := rfl
          rw [HP3.out, e8]
          cases al
          · go_wp2_with fail
            refine (bit_any m _ hm0 hm1 (by omega) (by omega) _).mono ?_
            rintro e w' ⟨rfl, rfl⟩
            rw [HB1.out]
            cases b1
            · go_wp2_with fail
              refine (bit_any m _ hm0 hm1 (by omega) (by omega) _).mono ?_
              rintro e w' ⟨rfl, rfl⟩
              rw [HB8.out]
              cases b8
              · go_wp2_with fail
                refine (bit_any m _ hm0 hm1 (by omega) (by omega) _).mono ?_
                rintro e w' ⟨rfl, rfl⟩
                rw [HB64.out]
                go_wp2_with fail
                refine (bit_any c _ hc0 (by omega) (by omega) (by omega) _).mono ?_
                rintro e w' ⟨rfl, rfl⟩
                rw [HC2.out]
                cases c2
                · go_wp2
                  go_ret
                  exact ⟨ret_bool (by rw [HM.out, HAL.out, HB1.out, HB8.out, HB64.out, HC2.out]; simp), hB⟩
                · cases d
                  · go_wp2_with fail
                    refine (bit_any want _ (by omega) (by omega) (by omega) (by omega) _).mono ?_
                    rintro e w' ⟨rfl, rfl⟩
                    rw [HW1.out]
                    cases w1b
                    · go_wp2
                      go_ret
                      exact ⟨ret_bool (by rw [HM.out, HAL.out, HB1.out, HB8.out, HB64.out, HC2.out, HW1.out]; simp), hB⟩
                    · go_wp2
                      go_ret
                      exact ⟨ret_bool (by rw [HM.out, HAL.out, HB1.out, HB8.out, HB64.out, HC2.out, HW1.out]; simp), hB⟩
                  · go_wp2
                    go_ret
                    exact ⟨ret_bool (by rw [HM.out, HAL.out, HB1.out, HB8.out, HB64.out, HC2.out]; simp), hB⟩
              · go_wp2_with fail
                refine (bit_any c _ hc0 (by omega) (by omega) (by omega) _).mono ?_
                rintro e w' ⟨rfl, rfl⟩
                rw [HC2.out]
                cases c2
                · go_wp2
                  go_ret
                  exact ⟨ret_bool (by rw [HM.out, HAL.out, HB1.out, HB8.out, HC2.out]; simp), hB⟩
                · cases d
                  · go_wp2_with fail
                    refine (bit_any want _ (by omega) (by omega) (by omega) (by omega) _).mono ?_
                    rintro e w' ⟨rfl, rfl⟩
                    rw [HW1.out]
                    cases w1b
                    · go_wp2
                      go_ret
                      exact ⟨ret_bool (by rw [HM.out, HAL.out, HB1.out, HB8.out, HC2.out, HW1.out]; simp), hB⟩
                    · go_wp2
                      go_ret
                      exact ⟨ret_bool (by rw [HM.out, HAL.out, HB1.out, HB8.out, HC2.out, HW1.out]; simp), hB⟩
                  · go_wp2
                    go_ret
                    exact ⟨ret_bool (by rw [HM.out, HAL.out, HB1.out, HB8.out, HC2.out]; simp), hB⟩
            · go_wp2_with fail
              refine (bit_any c _ hc0 (by omega) (by omega) (by omega) _).mono ?_
              rintro e w' ⟨rfl, rfl⟩
              rw [HC2.out]
              cases c2
              · go_wp2
                go_ret
                exact ⟨ret_bool (by rw [HM.out, HAL.out, HB1.out, HC2.out]; simp), hB⟩
              · cases d
                · go_wp2_with fail
                  refine (bit_any want _ (by omega) (by omega) (by omega) (by omega) _).mono ?_
                  rintro e w' ⟨rfl, rfl⟩
                  rw [HW1.out]
                  cases w1b
                  · go_wp2
                    go_ret
                    exact ⟨ret_bool (by rw [HM.out, HAL.out, HB1.out, HC2.out, HW1.out]; simp), hB⟩
                  · go_wp2
                    go_ret
                    exact ⟨ret_bool (by rw [HM.out, HAL.out, HB1.out, HC2.out, HW1.out]; simp), hB⟩
                · go_wp2
                  go_ret
                  exact ⟨ret_bool (by rw [HM.out, HAL.out, HB1.out, HC2.out]; simp), hB⟩
          · go_wp2
            go_ret
            exact ⟨ret_bool (by rw [HM.out, HAL.out]; simp), hB⟩
end Go.Proofs.Ytoojeehgkejeeaa
