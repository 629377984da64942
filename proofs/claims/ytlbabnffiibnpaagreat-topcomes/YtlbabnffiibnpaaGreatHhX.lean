/-
  TopComes: the walk.
  A TREE THAT CAME IN, as the walks want it.
  A slice of ranges that came in.
  NODES AND MAPS THAT CAME IN, their ids ints.
-/
import Derived.Test.YtlbabnffiibnpaaGreatWeX
import Derived.Test.YtlbabnffiibnpaaGreatWoX
import Derived.SliceStrings
import Derived.ProofKit
import Derived.OpenShut
import Derived.ShutString
import Derived.ChangeOld
import Derived.Below
import Derived.Deep.Slices
import Derived.Deep.Strs
import Derived.Test.YtlbabnffiibnpaaGreatNcX
import Derived.Test.YtlbabnffiibnpaaGreatUbX
import Derived.Test.YtlbabnffiibnpaaGreatMeX
namespace Go.Proofs.YtlbabnffiibnpaaGreat
open Go.RowKit
set_option maxRecDepth 100000 in
set_option maxHeartbeats 4000000 in
theorem topcomes_any {W : World} {a : Option Addr} {cap : Nat} {xs : List Nd} (hx : NsV W.cell? a xs) (hxi : ∀ x ∈ xs, IdN x) (hxc : xs.length ≤ cap ∧ cap ≤ 9223372036854775807) {M : MapsV} (hu : Rgs W M.ua M.us) (hg : Rgs W M.ga M.gs) (hcu : M.us.length ≤ M.uc) (hcg : M.gs.length ≤ M.gc) (hou : ∀ r ∈ M.us, r.ok) (hog : ∀ r ∈ M.gs, r.ok) (an : Option Addr) (capn : Nat) (names : List ByteArray) (hs : Strs W.cell? an names) (hcn : names.length ≤ capn ∧ capn ≤ 9223372036854775807) :
    Calls Tryz.prog 3 #[.slice a xs.length cap, M.v, .slice an names.length capn] W fun e W' => e = .returned (.bool true) ∧ Below W.heap.size W W' := by
  obtain ⟨ua, ga, uc, gc, us, gs⟩ := M
  dsimp only at hu hg hcu hcg hou hog
  obtain ⟨LB, HLB⟩ : ∃ B, Hid (lightsB xs = B) := ⟨_, rfl⟩
  have HX : Hid (NsV W.cell? a xs) := hx
  have HXI : Hid (∀ x ∈ xs, IdN x) := hxi
  have HXC : Hid (xs.length ≤ cap ∧ cap ≤ 9223372036854775807) := hxc
  have HS : Hid (Strs W.cell? an names) := hs
  have HNC : Hid (names.length ≤ capn ∧ capn ≤ 9223372036854775807) := hcn
  have HMM : Hid (Rgs W ua us ∧ Rgs W ga gs ∧ us.length ≤ uc ∧ gs.length ≤ gc ∧ (∀ r ∈ us, r.ok) ∧ (∀ r ∈ gs, r.ok)) := ⟨hu, hg, hcu, hcg, hou, hog⟩
  have hB := alloc_bel2 W (.cells #[.slice ua us.length uc, .slice ga gs.length gc] 25)
  obtain ⟨c0, c1⟩ := two_new W (.slice ua us.length uc) (.slice ga gs.length gc) 25
  show Calls Tryz.prog 3 #[.slice a xs.length cap, .agg #[.slice ua us.length uc, .slice ga gs.length gc], .slice an names.length capn] W _
  clear hx hxi hxc hu hg hcu hcg hou hog hs hcn
  go_enter Tryz.func3, Tryz.ntmps3
  go_wp2_with fail
  have HL1 := lights_any (cap := cap) (HX.out.on (mle_below hB)) (Nat.le_trans HXC.out.1 HXC.out.2)
  rw [HLB.out] at HL1
  refine Calls.mono HL1 ?_
  rintro e w2 ⟨rfl, hq⟩
  replace hB := hB.trans (hq.mono hB.size)
  replace c0 := mle_below hq _ _ c0
  replace c1 := mle_below hq _ _ c1
  clear hq HL1
  cases LB with
  | false =>
    go_wp2
    go_ret
    exact ⟨rfl, hB⟩
  | true =>
    by_cases hul : 6 < us.length
    · have d1 : decide ((6 : Int) < (us.length : Int)) = true := decide_eq_true (by omega)
      go_wp2
      go_ret
      exact ⟨rfl, hB⟩
    have d1 : decide ((6 : Int) < (us.length : Int)) = false := decide_eq_false (by omega)
    by_cases hgl : 6 < gs.length
    · have d2 : decide ((6 : Int) < (gs.length : Int)) = true := decide_eq_true (by omega)
      go_wp2
      go_ret
      exact ⟨rfl, hB⟩
    have d2 : decide ((6 : Int) < (gs.length : Int)) = false := decide_eq_false (by omega)
    by_cases hnl : 8 < names.length
    · have d3 : decide ((8 : Int) < (names.length : Int)) = true := decide_eq_true (by omega)
      go_wp2
      go_ret
      exact ⟨rfl, hB⟩
    have d3 : decide ((8 : Int) < (names.length : Int)) = false := decide_eq_false (by omega)
    cases hxs : xs with
    | nil =>
      subst hxs
      go_wp2
      go_ret
      exact ⟨rfl, hB⟩
    | cons x0 rest =>
      rw [hxs] at HX HXI HXC HLB
      clear hxs
      have hxz : (((rest.length : Int) + 1) == 0) = false := by simp; omega
      obtain ⟨h5, hli⟩ := lightsE HLB.out
      have HLI : Hid (∀ x ∈ x0 :: rest, Lil x ∧ cnt x ≤ 80) := hli
      have h5 : rest.length + 1 ≤ 5 := by simpa using h5
      have HM : Hid (∀ w' : World, Below W.heap.size W w' → MapsOk w' ⟨ua, ga, uc, gc, us, gs⟩) := fun w' hb => by
        obtain ⟨m1, m2, m3, m4, m5, m6⟩ := HMM.out
        exact ⟨m1.below hb, m2.below hb, by show us.length ≤ 100; omega, by show gs.length ≤ 100; omega, m3, m4, m5, m6⟩
      have HI0 : Hid (Below W.heap.size W w2 ∧ w2.cell? ⟨W.heap.size, 0, none⟩ = some (.slice ua us.length uc) ∧ w2.cell? ⟨W.heap.size, 1, none⟩ = some (.slice ga gs.length gc) ∧ Chk (x0 :: rest) 0) := ⟨hB, c0, c1, fun t x h => by omega⟩
      clear hli HLB
      go_upto_region 3 with fail
      clear hB c0 c1
      go_wp2
      go_loopw [7] (fun i wr => ∃ j : Nat, j ≤ rest.length + 1 ∧ i = .int .i64 j ∧ Hid (Below W.heap.size W wr ∧ wr.cell? ⟨W.heap.size, 0, none⟩ = some (.slice ua us.length uc) ∧ wr.cell? ⟨W.heap.size, 1, none⟩ = some (.slice ga gs.length gc) ∧ Chk (x0 :: rest) j)) (fun i _ => rest.length + 1 - (intOf i).toNat)
      case atStart => exact ⟨0, Nat.zero_le _, rfl, HI0.out⟩
      case round =>
        clear HI0
        obtain ⟨j, hj, rfl, HQ⟩ := hrel
        by_cases hjl : j < rest.length + 1
        · have hji : (j : Int) < (rest.length : Int) + 1 := by omega
          obtain ⟨x, hxj⟩ : ∃ x, (x0 :: rest)[j]? = some x := ⟨(x0 :: rest)[j]'(by simpa using hjl), List.getElem?_eq_getElem _⟩
          obtain ⟨b, off, h, rfl, hat, hnd⟩ := ns_at (HX.out.on (mle_below HQ.out.1)) hxj
          obtain ⟨l1, l2⟩ := HLI.out x (List.mem_of_getElem? hxj)
          obtain ⟨B, hb⟩ : ∃ B, ((j : Int) == 0) = B := ⟨_, rfl⟩
          have hB2 : B = decide (j = 0) := by
            rw [← hb]
            by_cases e : j = 0
            · subst e; rfl
            · rw [decide_eq_false e]; simp; omega
          obtain ⟨F, HF⟩ : ∃ F, Hid (tfF B x = F) := ⟨_, rfl⟩
          have HT := tcheck_any B hnd l1 (by omega)
          rw [HF.out] at HT
          have HXJ : Hid ((x0 :: rest)[j]? = some x) := hxj
          have HB2 : Hid (B = decide (j = 0)) := hB2
          obtain ⟨k, m, u, g, o, at_, d, ks⟩ := x
          obtain ⟨q0, q1, q2, q3, q4, q5, q6, q7⟩ := hat
          have HT : Hid (Calls Tryz.prog 5 #[.agg #[.int .i64 k, .int .i64 m, .int .i64 u, .int .i64 g, .bool o, .slice h.aa at_.length h.ca, .string d, .slice h.ak ks.length h.ck], .bool B] wr fun e W' => e = .returned (errV F) ∧ Below wr.heap.size wr W') := HT
          clear hxj hB2 l1 l2 hnd
          go_wp2_with fail
          refine Calls.mono HT.out ?_
          rintro e w3 ⟨rfl, hq⟩
          obtain ⟨b1, b2, b3, b4⟩ := HQ.out
          have HQ3 : Hid (Below W.heap.size W w3 ∧ w3.cell? ⟨W.heap.size, 0, none⟩ = some (.slice ua us.length uc) ∧ w3.cell? ⟨W.heap.size, 1, none⟩ = some (.slice ga gs.length gc) ∧ Chk (x0 :: rest) j) := ⟨b1.trans (hq.mono b1.size), mle_below hq _ _ b2, mle_below hq _ _ b3, b4⟩
          clear b1 b2 b3 b4 hq HT HQ q0 q1 q2 q3 q4 q5 q6 q7
          by_cases hF : F = 0
          · rw [errV_nil hF]
            have HF0 : Hid (F = 0) := hF
            clear hF
            go_wp2
            go_roundw
            case rel =>
              refine ⟨j + 1, by omega, by go_num, HQ3.out.1, HQ3.out.2.1, HQ3.out.2.2.1, fun t y ht hy => ?_⟩
              by_cases e : t = j
              · subst e
                rw [HXJ.out] at hy
                cases hy
                rw [← HB2.out, HF.out, HF0.out]
              · exact HQ3.out.2.2.2 t y (by omega) hy
            case measure => simp [intOf]; omega
          · rw [errV_of rfl hF]
            clear hF
            go_wp2
            go_ret
            exact ⟨rfl, HQ3.out.1⟩
        · have hji : decide ((j : Int) < (rest.length : Int) + 1) = false := decide_eq_false (by omega)
          have hje : j = rest.length + 1 := by omega
          subst hje
          obtain ⟨hB, c0, c1, hck⟩ := HQ.out
          obtain ⟨hvv, hk0⟩ := Chk.vv (xs := x0 :: rest) hck
          have hk0 := hk0 x0 rfl
          obtain ⟨up1, up2⟩ := up_seen (us := us) (gs := gs) (names := names) (fun x hx => (hvv x hx).1) hk0
          have HU1 : Hid _ := up1
          have HU2 : Hid _ := up2
          have HVV : Hid (∀ x ∈ x0 :: rest, VV x ∧ cnt x ≤ 60) := hvv
          have hok := laysE (xs := x0 :: rest) (by simpa using h5) (fun x hx => ⟨(HLI.out x hx).1, by have := (HLI.out x hx).2; omega⟩) HXI.out
          have HOK : Hid (LaysOk (x0 :: rest)) := hok
          obtain ⟨RR, HRR⟩ : ∃ R, Hid (UpR us gs (x0 :: rest) names x0 = R) := ⟨_, rfl⟩
          have HUP : Hid (Calls Tryz.prog 6 #[.slice a (rest.length + 1) cap, .agg #[.slice ua us.length uc, .slice ga gs.length gc], .slice an names.length capn] wr fun e W' => NdE wr W' (fun _ => false) e RR) := by
            have e := up_any (W := wr) (S := fun _ => false) (cap := cap) (capn := capn) (names := names) (xs := x0 :: rest) (M := ⟨ua, ga, uc, gc, us, gs⟩) (U := x0) (fun _ hk => by cases hk) (by rw [offS_no]; exact HX.out.on (mle_below hB)) (by rw [offS_no]; exact HS.out.on (mle_below hB)) HOK.out.len (by omega) HNC.out HOK.out.small HOK.out.lim (fun q hq => HXI.out _ (layP_mem hq)) (HM.out _ hB) (fun x hx => by cases hx; rfl) (by have := (HLI.out x0 (List.mem_cons_self ..)).2; omega) (at_lil _ (HLI.out x0 (List.mem_cons_self ..)).1)
            rw [HRR.out] at e
            exact e
          clear hck hvv hok up1 up2 hji HQ
          go_wp2_with fail
          refine Calls.mono HUP.out ?_
          rintro e w4 ⟨⟨hv, rfl, hN4⟩, hq⟩
          replace hB := hB.trans (hq.mono hB.size)
          replace c0 := mle_below hq _ _ c0
          replace c1 := mle_below hq _ _ c1
          clear hq HUP
          cases RR with
          | error f =>
            have hf := HU2.out f HRR.out
            have hBa := hB.trans ((alloc_bel2 w4 (.cells #[.int .i64 0, .int .i64 0, .int .i64 0, .int .i64 0, .bool false, .slice hv.aa 0 hv.ca, .string ⟨#[]⟩, .slice hv.ak 0 hv.ck] 34)).mono hB.size)
            have HBa : Hid _ := hBa
            rw [show ndV (xNd (.error f)) hv = .agg #[.int .i64 0, .int .i64 0, .int .i64 0, .int .i64 0, .bool false, .slice hv.aa 0 hv.ca, .string ⟨#[]⟩, .slice hv.ak 0 hv.ck] from rfl, show xErr (.error f) = f from rfl]
            clear HU1 HU2 hBa hN4
            rcases hf with rfl | rfl
            · rw [errV_of rfl (by decide)]
              go_wp2_with fail
              refine Calls.mono (is_yes 5 (by omega) _) ?_
              rintro e w5 ⟨rfl, rfl⟩
              go_wp2
              go_ret
              exact ⟨rfl, HBa.out⟩
            · rw [errV_of rfl (by decide)]
              go_wp2_with fail
              refine Calls.mono (is_115 _) ?_
              rintro e w5 ⟨rfl, rfl⟩
              go_wp2_with fail
              refine Calls.mono (is_yes 11 (by omega) _) ?_
              rintro e w5 ⟨rfl, rfl⟩
              go_wp2
              go_ret
              exact ⟨rfl, HBa.out⟩
          | ok V =>
            obtain ⟨s1, s2, z, rz, s3⟩ := HU1.out V HRR.out
            obtain ⟨v1, v2, v3⟩ := upR_ok (fun x hx => (HLI.out x hx).1) (HLI.out x0 (List.mem_cons_self ..)).1 (HXI.out x0 (List.mem_cons_self ..)) HRR.out
            have hok2 : LaysOk (V :: rest) := laysE (by simpa using h5) (fun x hx => by
              rcases List.mem_cons.1 hx with e | e
              · rw [e]; exact ⟨v1, by have := (HVV.out x0 (List.mem_cons_self ..)).2; omega⟩
              · have := HLI.out x (List.mem_cons_of_mem _ e); exact ⟨this.1, by omega⟩) (fun x hx => by
              rcases List.mem_cons.1 hx with e | e
              · rw [e]; exact v2
              · exact HXI.out x (List.mem_cons_of_mem _ e))
            have HOK2 : Hid (LaysOk (V :: rest)) := hok2
            have HSF : Hid (flatD (fW us gs) (shP (layP (V :: rest))) = flatD (fW us gs) (shP (layP (x0 :: rest)))) := s1
            have HST : Hid (stackP (V :: rest) names = (z, 0) :: rz) := s3
            have hN4 : NdV w4.cell? V hv := hN4.on (offS_le _ _)
            obtain ⟨vk, vm, vu, vg, vo, va, vd, vs⟩ := V
            rw [show ndV (xNd (.ok (.mk vk vm vu vg vo va vd vs))) hv = .agg #[.int .i64 vk, .int .i64 vm, .int .i64 vu, .int .i64 vg, .bool vo, .slice hv.aa va.length hv.ca, .string vd, .slice hv.ak vs.length hv.ck] from rfl, show xErr (.ok (.mk vk vm vu vg vo va vd vs)) = 0 from rfl, errV_nil rfl]
            have X8 := NBw.new w4 vk vm vu vg vo va vd vs hv
            have hq2 := alloc_bel2 w4 (.cells #[.int .i64 vk, .int .i64 vm, .int .i64 vu, .int .i64 vg, .bool vo, .slice hv.aa va.length hv.ca, .string vd, .slice hv.ak vs.length hv.ck] 34)
            replace hB := hB.trans (hq2.mono hB.size)
            replace hN4 := hN4.ab hq2
            replace c0 := mle_below hq2 _ _ c0
            replace c1 := mle_below hq2 _ _ c1
            clear HU1 HU2 s1 s2 s3 v1 v2 v3 hok2 hq2 HVV
            rcases HX.out with e | ⟨b, off, rfl, f, hf⟩
            · cases e
            go_upto_region 11 with fail
            generalize w4.alloc (.cells #[.int .i64 vk, .int .i64 vm, .int .i64 vu, .int .i64 vg, .bool vo, .slice hv.aa va.length hv.ca, .string vd, .slice hv.ak vs.length hv.ck] 34) = w5 at hB hN4 X8 c0 c1 ⊢
            generalize w4.heap.size = ub at X8 ⊢
            obtain ⟨L, hL1, hL2, hL3⟩ := src_ns (c := W.cell?) (b := b) rest (off + 8) (fun i => f (i + 1)) (fun i y hi => by
              have := hf (i + 1) y (by simpa using hi)
              rw [show off + (i + 1) * 8 = off + 8 + i * 8 by omega] at this
              exact this)
            have hlt5 : W.heap.size < w5.heap.size := World.block_lt_of_cell? _ _ c0
            have hLl : L.length = rest.length := by rw [← hL1, List.length_map]
            have hBd : Below W.heap.size W w5.drew := hB.drew
            have hal := alloc_bel2 w5.drew (.cells #[.int .i64 vk, .int .i64 vm, .int .i64 vu, .int .i64 vg, .bool vo, .slice hv.aa va.length hv.ca, .string vd, .slice hv.ak vs.length hv.ck] 34)
            have hN5 : NdV w5.drew.cell? (.mk vk vm vu vg vo va vd vs) hv := hN4
            have HCP : Hid _ := cpI_one w5.drew vk vm vu vg vo va vd vs hv hN5
            have HSRC : Hid (((if cap = 1 then some (⟨b, off, none⟩ : Addr) else some ⟨b, off + 8, none⟩) = none ∧ rest.length = 0) ∨ ∃ ad, (if cap = 1 then some (⟨b, off, none⟩ : Addr) else some ⟨b, off + 8, none⟩) = some ad ∧ ∀ j u, (flN L)[j]? = some u → (w5.drew.alloc (.cells #[.int .i64 vk, .int .i64 vm, .int .i64 vu, .int .i64 vg, .bool vo, .slice hv.aa va.length hv.ca, .string vd, .slice hv.ak vs.length hv.ck] 34)).cell? (ad.add j) = some u) := by
              by_cases hc1 : cap = 1
              · rw [if_pos hc1]
                have hr0 : rest.length = 0 := by have := HXC.out.1; simp at this; omega
                refine .inr ⟨_, rfl, fun j u hj => ?_⟩
                have : L = [] := List.eq_nil_of_length_eq_zero (by omega)
                rw [this] at hj
                simp [flN] at hj
              · rw [if_neg hc1]
                refine .inr ⟨_, rfl, fun j u hj => ?_⟩
                rw [addr_add]
                exact mle_below (hBd.trans (hal.mono hBd.size)) _ _ (hL2 j u hj)
            have HL3 : Hid (∀ z ∈ L, NdV (offS (w5.drew.alloc (.cells #[.int .i64 vk, .int .i64 vm, .int .i64 vu, .int .i64 vg, .bool vo, .slice hv.aa va.length hv.ca, .string vd, .slice hv.ak vs.length hv.ck] 34)).cell? (fun k => (Value.slice (some ⟨w5.drew.heap.size, 0, none⟩) 1 1).ownBlock == some k)) z.x z.h) := fun z hz => (hL3 z hz).on (mle_hide (hBd.trans (hal.mono hBd.size)) (fun q hq => by have h9 : W.heap.size ≤ w5.heap.size := hBd.size; simp [Value.ownBlock]; omega))
            have HL1 : Hid (L.map Fl.x = rest) := hL1
            have HLN : Hid (L.length = rest.length) := hLl
            obtain ⟨i0, hi0, hi1, hi2, hi3⟩ := info_three Tryz.infoNd
            have HIN : Hid (Tryz.prog.info? 34 = some i0 ∧ i0.zero = some (.agg #[.int .i64 0, .int .i64 0, .int .i64 0, .int .i64 0, .bool false, .slice none 0 0, .string ⟨#[]⟩, .slice none 0 0]) ∧ i0.size = 8 ∧ i0.bytes = 104) := ⟨hi0, hi1, hi2, hi3⟩
            have HBA : Hid (Below W.heap.size W (w5.drew.alloc (.cells #[.int .i64 vk, .int .i64 vm, .int .i64 vu, .int .i64 vg, .bool vo, .slice hv.aa va.length hv.ca, .string vd, .slice hv.ak vs.length hv.ck] 34))) := hBd.trans (hal.mono hBd.size)
            have HCC : Hid ((w5.drew.alloc (.cells #[.int .i64 vk, .int .i64 vm, .int .i64 vu, .int .i64 vg, .bool vo, .slice hv.aa va.length hv.ca, .string vd, .slice hv.ak vs.length hv.ck] 34)).cell? ⟨W.heap.size, 0, none⟩ = some (.slice ua us.length uc) ∧ (w5.drew.alloc (.cells #[.int .i64 vk, .int .i64 vm, .int .i64 vu, .int .i64 vg, .bool vo, .slice hv.aa va.length hv.ca, .string vd, .slice hv.ak vs.length hv.ck] 34)).cell? ⟨W.heap.size, 1, none⟩ = some (.slice ga gs.length gc)) := ⟨mle_below hal _ _ c0, mle_below hal _ _ c1⟩
            obtain ⟨⟨y0, y1, y2, y3, y4, y5, y6, y7⟩, _⟩ := X8
            have hxc1 := HXC.out.1
            have hxc1 : rest.length + 1 ≤ cap := by simpa using hxc1
            have hnm : (1 : Int) ≤ (rest.length : Int) + 1 := by omega
            clear hL1 hL2 hL3 hLl hi0 hi1 hi2 hi3 hal hBd hN5 hN4 c0 c1 hB hf
            go_region_law (refine step_append_src (w5.drew.alloc (.cells #[.int .i64 vk, .int .i64 vm, .int .i64 vu, .int .i64 vg, .bool vo, .slice hv.aa va.length hv.ca, .string vd, .slice hv.ak vs.length hv.ck] 34)) (by rfl) (.tmp 69) (.tmp 71) 22 (by rfl) w5.drew.heap.size 34 i0 (.agg #[.int .i64 0, .int .i64 0, .int .i64 0, .int .i64 0, .bool false, .slice none 0 0, .string ⟨#[]⟩, .slice none 0 0]) 8 104 Tryz.underlying22 HIN.out.1 HIN.out.2.1 HIN.out.2.2.1 HIN.out.2.2.2 rfl (by decide) (.slice (some ⟨w5.drew.heap.size, 0, none⟩) 1 1) 1 (flN [(⟨(.mk vk vm vu vg vo va vd vs), hv, 0⟩ : Fl)]) (by rfl) HCP.out.row (if cap = 1 then some (⟨b, off, none⟩ : Addr) else some ⟨b, off + 8, none⟩) rest.length (cap - 1) (flN L) (by rfl) (by rw [flN_len, HLN.out]) HSRC.out (flN_one L) (by unfold maxLen; omega) (by omega) (by rw [World.size_alloc]; omega) ?_; intro v7 w7 hown7 hgr7 ho7; have HB7 : Hid (CpI w5.drew v7 ([(⟨(.mk vk vm vu vg vo va vd vs), hv, 0⟩ : Fl)] ++ L) w7) := CpI.apps HCP.out HL3.out (by rw [flN_app, List.length_append, HLN.out]; exact hown7) hgr7 ho7; have HG7 : Hid (Below W.heap.size W w7 ∧ w7.cell? ⟨W.heap.size, 0, none⟩ = some (.slice ua us.length uc) ∧ w7.cell? ⟨W.heap.size, 1, none⟩ = some (.slice ga gs.length gc)) := ⟨HBA.out.grown hgr7 HBA.out.size (fun q e => (by have e : w5.heap.size = q := Option.some.inj e; omega)), hgr7.cell HCC.out.1 (fun e => (by have e : W.heap.size = w5.heap.size := Option.some.inj e; omega)), hgr7.cell HCC.out.2 (fun e => (by have e : W.heap.size = w5.heap.size := Option.some.inj e; omega))⟩; clear hown7 hgr7 ho7)
            obtain ⟨a7, cap7, e70, ns70⟩ := cpI_ns HB7.out
            have e7 : v7 = .slice a7 (rest.length + 1) cap7 := by rw [e70, List.length_append, HLN.out, List.length_singleton, Nat.add_comm]
            have ns7 : NsV w7.cell? a7 ((.mk vk vm vu vg vo va vd vs) :: rest) := by
              have h9 := ns70
              rw [List.map_append, HL1.out] at h9
              exact h9
            have HNS : Hid (NsV w7.cell? a7 ((.mk vk vm vu vg vo va vd vs) :: rest)) := ns7
            clear e70 ns70
            subst e7
            obtain ⟨zk, zm, zu, zg, zo, za, zd, zs⟩ := z
            have HLK : Hid (Calls Tryz.prog 8 #[.slice a7 (rest.length + 1) cap7, .slice an names.length capn] w7 fun e w' => (∃ h : Hd, e = .returned (.tuple #[.agg #[.int .i64 zk, .int .i64 zm, .int .i64 zu, .int .i64 zg, .bool zo, .slice h.aa za.length h.ca, .string zd, .slice h.ak zs.length h.ck], .int .i64 0, .bool true])) ∧ Below w7.heap.size w7 w') := by
              have e := look_any (w := w7) (S := fun _ => false) (cap := cap7) (capn := capn) (names := names) (xs := (.mk vk vm vu vg vo va vd vs) :: rest) (fun _ hk => by cases hk) (by rw [offS_no]; exact HNS.out) (by rw [offS_no]; exact HS.out.on (mle_below HG7.out.1)) HOK2.out.len (by omega) HOK2.out.small HOK2.out.lim
              rw [HST.out] at e
              refine Calls.mono e fun e W' ⟨⟨h, h1, _⟩, hb⟩ => ⟨⟨h, h1⟩, hb⟩
            clear ns7 HB7 HCP HSRC HL3 HBA HCC y0 y1 y2 y3 y4 y5 y6 y7 HIN
            generalize (if cap = 1 then some (⟨b, off, none⟩ : Addr) else some ⟨b, off + 8, none⟩) = ad7
            go_wp2_with fail
            with_reducible refine Calls.mono HLK.out ?_
            rintro e w8 ⟨⟨hz, rfl⟩, hq8⟩
            obtain ⟨hB, c0, c1⟩ := HG7.out
            have hqa := alloc_bel2 w8 (.cells #[.int .i64 zk, .int .i64 zm, .int .i64 zu, .int .i64 zg, .bool zo, .slice hz.aa za.length hz.ca, .string zd, .slice hz.ak zs.length hz.ck] 34)
            have hq9 := hq8.trans (hqa.mono hq8.size)
            replace hB := hB.trans (hq9.mono hB.size)
            replace c0 := mle_below hq9 _ _ c0
            replace c1 := mle_below hq9 _ _ c1
            have HN9 : Hid (NsV (w8.alloc (.cells #[.int .i64 zk, .int .i64 zm, .int .i64 zu, .int .i64 zg, .bool zo, .slice hz.aa za.length hz.ca, .string zd, .slice hz.ak zs.length hz.ck] 34)).drew.cell? a7 ((.mk vk vm vu vg vo va vd vs) :: rest)) := HNS.out.on (mle_below hq9.drew)
            clear HLK hqa hq9 hq8 HG7 HNS
            go_upto_region 13 with fail
            obtain ⟨FD, HFD⟩ : ∃ F, Hid (flatD (fW us gs) (shP (layP (x0 :: rest))) = F) := ⟨_, rfl⟩
            have HLM : Hid (Lim FD) := by show Lim FD; rw [← HFD.out]; exact flatW_lim HOK.out
            have hbd : Below W.heap.size W (w8.alloc (.cells #[.int .i64 zk, .int .i64 zm, .int .i64 zu, .int .i64 zg, .bool zo, .slice hz.aa za.length hz.ca, .string zd, .slice hz.ak zs.length hz.ck] 34)).drew := hB.drew
            have T5 : (w8.alloc (.cells #[.int .i64 zk, .int .i64 zm, .int .i64 zu, .int .i64 zg, .bool zo, .slice hz.aa za.length hz.ca, .string zd, .slice hz.ak zs.length hz.ck] 34)).drew.cell? ⟨W.heap.size, 0, none⟩ = some (.slice ua us.length uc) ∧ (w8.alloc (.cells #[.int .i64 zk, .int .i64 zm, .int .i64 zu, .int .i64 zg, .bool zo, .slice hz.aa za.length hz.ca, .string zd, .slice hz.ak zs.length hz.ck] 34)).drew.cell? ⟨W.heap.size, 1, none⟩ = some (.slice ga gs.length gc) := ⟨c0, c1⟩
            obtain ⟨fk, fm, fu, fg, fo, fa, fd, fs⟩ := FD
            have HC1 : Hid (Calls Tryz.prog 10 #[.slice a7 (rest.length + 1) cap7, .agg #[.slice ua us.length uc, .slice ga gs.length gc]] (w8.alloc (.cells #[.int .i64 zk, .int .i64 zm, .int .i64 zu, .int .i64 zg, .bool zo, .slice hz.aa za.length hz.ca, .string zd, .slice hz.ak zs.length hz.ck] 34)).drew fun e W' => (∃ h : Hd, e = .returned (.agg #[.int .i64 fk, .int .i64 fm, .int .i64 fu, .int .i64 fg, .bool fo, .slice h.aa fa.length h.ca, .string fd, .slice h.ak fs.length h.ck]) ∧ NdV W'.cell? (.mk fk fm fu fg fo fa fd fs) h) ∧ Below (w8.alloc (.cells #[.int .i64 zk, .int .i64 zm, .int .i64 zu, .int .i64 zg, .bool zo, .slice hz.aa za.length hz.ca, .string zd, .slice hz.ak zs.length hz.ck] 34)).drew.heap.size (w8.alloc (.cells #[.int .i64 zk, .int .i64 zm, .int .i64 zu, .int .i64 zg, .bool zo, .slice hz.aa za.length hz.ca, .string zd, .slice hz.ak zs.length hz.ck] 34)).drew W') := by
              have e := within_any (W := (w8.alloc (.cells #[.int .i64 zk, .int .i64 zm, .int .i64 zu, .int .i64 zg, .bool zo, .slice hz.aa za.length hz.ca, .string zd, .slice hz.ak zs.length hz.ck] 34)).drew) (S := fun _ => false) (cap := cap7) (xs := (.mk vk vm vu vg vo va vd vs) :: rest) (M := ⟨ua, ga, uc, gc, us, gs⟩) (fun _ hk => by cases hk) (by rw [offS_no]; exact HN9.out) HOK2.out (HM.out _ hbd)
              dsimp only at e
              rw [HSF.out, HFD.out] at e
              exact Calls.mono e fun e W' he => ⟨he.1.imp fun h q => ⟨q.1, q.2.on (offS_le _ _)⟩, he.2⟩
            have HC2 : Hid (∀ w' : World, Below W.heap.size W w' → Calls Tryz.prog 10 #[.slice (some ⟨b, off, none⟩) (rest.length + 1) cap, .agg #[.slice ua us.length uc, .slice ga gs.length gc]] w' fun e W' => (∃ h : Hd, e = .returned (.agg #[.int .i64 fk, .int .i64 fm, .int .i64 fu, .int .i64 fg, .bool fo, .slice h.aa fa.length h.ca, .string fd, .slice h.ak fs.length h.ck]) ∧ NdV W'.cell? (.mk fk fm fu fg fo fa fd fs) h) ∧ Below w'.heap.size w' W') := fun w' hb => by
              have e := within_any (W := w') (S := fun _ => false) (cap := cap) (xs := x0 :: rest) (M := ⟨ua, ga, uc, gc, us, gs⟩) (fun _ hk => by cases hk) (by rw [offS_no]; exact HX.out.on (mle_below hb)) HOK.out (HM.out _ hb)
              dsimp only at e
              rw [HFD.out] at e
              exact Calls.mono e fun e W' he => ⟨he.1.imp fun h q => ⟨q.1, q.2.on (offS_le _ _)⟩, he.2⟩
            have hlt9 : W.heap.size < (w8.alloc (.cells #[.int .i64 zk, .int .i64 zm, .int .i64 zu, .int .i64 zg, .bool zo, .slice hz.aa za.length hz.ca, .string zd, .slice hz.ak zs.length hz.ck] 34)).drew.heap.size := World.block_lt_of_cell? _ _ c0
            generalize w8.alloc (.cells #[.int .i64 zk, .int .i64 zm, .int .i64 zu, .int .i64 zg, .bool zo, .slice hz.aa za.length hz.ca, .string zd, .slice hz.ak zs.length hz.ck] 34) = w9 at hbd T5 HC1 hlt9 ⊢
            generalize w8.heap.size = bz
            clear hB c0 c1 HN9 HFD HSF HST HOK HOK2 HM HMM HXI HXC HS HNC HLI HRR
            go_region_held3 (fun w' => w'.cell? ⟨W.heap.size, 0, none⟩ = some (.slice ua us.length uc) ∧ w'.cell? ⟨W.heap.size, 1, none⟩ = some (.slice ga gs.length gc)) (first | exact T5 | exact T6 | exact T7 | exact T8) (first | (go_at_call 10; (with_reducible refine Calls.mono HC1.out ?_); rintro e wa ⟨⟨h6, rfl, n6⟩, q6⟩; have T6 : wa.cell? ⟨W.heap.size, 0, none⟩ = some (.slice ua us.length uc) ∧ wa.cell? ⟨W.heap.size, 1, none⟩ = some (.slice ga gs.length gc) := ⟨mle_below q6 _ _ T5.1, mle_below q6 _ _ T5.2⟩; have hB6 := hbd.trans (q6.mono hbd.size); have HN6 : Hid (NdV wa.cell? (.mk fk fm fu fg fo fa fd fs) h6) := n6; have HC3 : Hid (Calls Tryz.prog 10 #[.slice (some ⟨b, off, none⟩) (rest.length + 1) cap, .agg #[.slice ua us.length uc, .slice ga gs.length gc]] wa fun e W' => (∃ h : Hd, e = .returned (.agg #[.int .i64 fk, .int .i64 fm, .int .i64 fu, .int .i64 fg, .bool fo, .slice h.aa fa.length h.ca, .string fd, .slice h.ak fs.length h.ck]) ∧ NdV W'.cell? (.mk fk fm fu fg fo fa fd fs) h) ∧ Below wa.heap.size wa W') := HC2.out wa hB6; clear HC1 n6) | (go_at_call 10; (with_reducible refine Calls.mono HC3.out ?_); rintro e wb ⟨⟨h7, rfl, n7⟩, q7⟩; have T7 : wb.cell? ⟨W.heap.size, 0, none⟩ = some (.slice ua us.length uc) ∧ wb.cell? ⟨W.heap.size, 1, none⟩ = some (.slice ga gs.length gc) := ⟨mle_below q7 _ _ T6.1, mle_below q7 _ _ T6.2⟩; have hB7 := hB6.trans (q7.mono hB6.size); have HC4 : Hid (Calls Tryz.prog 9 #[.agg #[.int .i64 fk, .int .i64 fm, .int .i64 fu, .int .i64 fg, .bool fo, .slice h6.aa fa.length h6.ca, .string fd, .slice h6.ak fs.length h6.ck], .agg #[.int .i64 fk, .int .i64 fm, .int .i64 fu, .int .i64 fg, .bool fo, .slice h7.aa fa.length h7.ca, .string fd, .slice h7.ak fs.length h7.ck]] wb fun e W' => e = .returned (.bool true) ∧ Below wb.heap.size wb W') := sameNode_yes (x := (.mk fk fm fu fg fo fa fd fs)) (h := h6) (HN6.out.ab q7) h7 wb HLM.out n7 (Below.refl _ _); clear HC3 n7) | (go_at_call 9; (with_reducible refine Calls.mono HC4.out ?_); rintro e wc ⟨rfl, q8⟩; have T8 : wc.cell? ⟨W.heap.size, 0, none⟩ = some (.slice ua us.length uc) ∧ wc.cell? ⟨W.heap.size, 1, none⟩ = some (.slice ga gs.length gc) := ⟨mle_below q8 _ _ T7.1, mle_below q8 _ _ T7.2⟩; have hB8 := hB7.trans (q8.mono hB7.size); clear HC4))
            all_goals
              clear T5 T6 T7 T8
              go_wp2
              go_ret
              exact ⟨rfl, hB8⟩
end Go.Proofs.YtlbabnffiibnpaaGreat
namespace Go.Proofs.YtlbabnffiibnpaaGreat
open Go.ChangeShapes Go.WideShapes Go.ChangeAt Go.RowKit Go.Deep Go.ChangeMaps
namespace RowsIn
theorem own : ownKnob Tryz.prog.godebug = none := by kernel_rfl
theorem laidOut : laidOutB Tryz.prog = true := by kernel_rfl
theorem cellsTA : Tryz.prog.cellsOf 82 = 2 := by kernel_rfl
theorem cells9 : Tryz.prog.cellsOf 9 = 1 := by kernel_rfl
theorem two_of {α : Type} {l : List α} (h : l.length = 2) : ∃ a b, l = [a, b] := by
  match l, h with
  | [a, b], _ => exact ⟨a, b, rfl⟩
theorem kvm_of_trod {H : Type} {enc : TypeId × Value → H} {W : World} {m : Nat} {v : Value} {y : DataW H × List MemPlace} (h : DataW.trod enc Tryz.prog W 0 (fun _ => true) true m 31 [v] = some y) :
    ∃ a n cap l, v = .slice a n cap ∧ l.length = n ∧ n ≤ cap ∧ cap ≤ 9223372036854775807 ∧ Kvm W.cell? a l := by
  rcases open_slice Tryz.underlying31 h with ⟨hcs, _⟩ | ⟨x, len, cap, mm, n, D, Pl, hcs, _, hl, hcm, hmm, _, hx⟩
  · obtain rfl : v = .slice none 0 0 := by simpa using hcs
    exact ⟨none, 0, 0, [], rfl, rfl, by omega, by omega, .inl rfl⟩
  · obtain rfl : v = .slice (some x) len cap := by simpa using hcs
    have hlm : len ≤ mm := by rw [hmm]; simp; exact hl
    have each : ∀ i, i < len → ∃ r : Kv, W.cell? (x.add (i * 2)) = some (.string r.n) ∧ W.cell? ((x.add (i * 2)).add 1) = some (.string r.v) := by
      intro i hi
      obtain ⟨cs', h1, h2⟩ := hx i (by omega)
      rw [cellsTA] at h1
      obtain ⟨_, hlen, hcell⟩ := World.cells?_some h1
      obtain ⟨c0, c1, rfl⟩ := two_of hlen
      obtain ⟨y0, y1, k, _, _, t0, t1⟩ := trod_struct2 Tryz.underlying82 h2
      rw [cells9] at t0 t1
      obtain ⟨u0, e0, _, w0⟩ := DataW.trod_string Tryz.underlying9 t0
      obtain ⟨u1, e1, _, w1⟩ := DataW.trod_string Tryz.underlying9 t1
      simp at e0 e1
      subst e0 e1
      have g0 := hcell 0 (by omega)
      have g1 := hcell 1 (by omega)
      exact ⟨⟨u0, u1⟩, by simpa [Addr.add] using g0, by simpa using g1⟩
    obtain ⟨f, hf⟩ : ∃ f : Nat → Kv, ∀ i, i < len → W.cell? (x.add (i * 2)) = some (.string (f i).n) ∧ W.cell? ((x.add (i * 2)).add 1) = some (.string (f i).v) := by
      refine ⟨fun i => if h : i < len then Classical.choose (each i h) else ⟨ByteArray.empty, ByteArray.empty⟩, fun i hi => ?_⟩
      simp only [hi, dite_true]
      exact Classical.choose_spec (each i hi)
    refine ⟨some x, len, cap, (List.range len).map f, rfl, by simp, hl, by unfold maxLen at hcm; omega, ?_⟩
    by_cases h0 : len = 0
    · subst h0; exact .inl rfl
    · obtain ⟨b, off, spot⟩ := x
      have hspot : spot = none := by
        have := World.cell?_spot (hf 0 (by omega)).1
        simpa [Addr.add] using this
      subst hspot
      refine .inr ⟨b, off, rfl, fun k r hk => ?_⟩
      have hkl : k < len := by have := (List.getElem?_eq_some_iff.1 hk).1; simpa using this
      have er : r = f k := by simp [hkl] at hk; exact hk.symm
      subst er
      obtain ⟨g0, g1⟩ := hf k hkl
      have e : (⟨b, off, none⟩ : Addr).add (k * 2) = ⟨b, off + k * 2, none⟩ := by by_cases hj0 : k * 2 = 0 <;> simp [Addr.add, hj0]
      rw [e] at g0 g1
      exact ⟨g0, by simpa [Addr.add] using g1⟩
theorem cellsTN : Tryz.prog.cellsOf 34 = 8 := by kernel_rfl
theorem cellsTK : Tryz.prog.cellsOf 61 = 9 := by kernel_rfl
theorem cellsTAs : Tryz.prog.cellsOf 31 = 1 := by kernel_rfl
theorem cellsTKs : Tryz.prog.cellsOf 32 = 1 := by kernel_rfl
theorem cells3 : Tryz.prog.cellsOf 3 = 1 := by kernel_rfl
theorem cells4 : Tryz.prog.cellsOf 4 = 1 := by kernel_rfl
theorem eight_of {α : Type} {l : List α} (h : l.length = 8) : ∃ a b c d e f g i, l = [a, b, c, d, e, f, g, i] := by
  match l, h with
  | [a, b, c, d, e, f, g, i], _ => exact ⟨a, b, c, d, e, f, g, i, rfl⟩
theorem nine_of {α : Type} {l : List α} (h : l.length = 9) : ∃ z l', l = z :: l' ∧ l'.length = 8 := by
  match l, h with
  | z :: l', h => exact ⟨z, l', rfl, by simpa using h⟩
set_option maxRecDepth 100000 in
/-- A slice of strings that came in. -/
theorem strs_of_trod {H : Type} {enc : TypeId × Value → H} {W : World} {m : Nat} {v : Value} {y : DataW H × List MemPlace} (h : DataW.trod enc Tryz.prog W 0 (fun _ => true) true m 26 [v] = some y) :
    ∃ a n cap xs, v = .slice a n cap ∧ xs.length = n ∧ n ≤ cap ∧ cap ≤ 9223372036854775807 ∧ Strs W.cell? a xs := by
  rcases open_strings Tryz.underlying26 Tryz.underlying9 cells9 h with ⟨hcs, _⟩ | ⟨x, l, c, ss, hcs, _, hl, hm, hz, _, hcell, _⟩
  · obtain rfl : v = .slice none 0 0 := by simpa using hcs
    exact ⟨none, 0, 0, [], rfl, rfl, by omega, by omega, .inl rfl⟩
  · obtain rfl : v = .slice (some x) l c := by simpa using hcs
    have hz' : ss.length = c := by simpa using hz
    unfold maxLen at hm
    refine ⟨some x, l, c, ss.take l, rfl, by simp; omega, hl, by omega, ?_⟩
    by_cases h0 : l = 0
    · subst h0; exact .inl (by simp)
    · obtain ⟨b, off, spot⟩ := x
      have hspot : spot = none := by simpa [Addr.add] using World.cell?_spot (hcell 0 (by omega))
      subst hspot
      refine .inr ⟨b, off, rfl, fun i u hi => ?_⟩
      have hil : i < l := by have := (List.getElem?_eq_some_iff.1 hi).1; simp at this; omega
      have e : (⟨b, off, none⟩ : Addr).add i = ⟨b, off + i, none⟩ := by by_cases hj0 : i = 0 <;> simp [Addr.add, hj0]
      have hc := hcell i (by omega)
      rw [e] at hc
      rw [hc]
      rw [List.getElem?_take, if_pos hil] at hi
      simp [List.getD, hi]
end RowsIn
end Go.Proofs.YtlbabnffiibnpaaGreat
namespace Go.Proofs.YtlbabnffiibnpaaGreat
open Go.ChangeShapes Go.WideShapes Go.ChangeAt Go.RowKit Go.Deep
namespace RowsIn
theorem cellsRg : Tryz.prog.cellsOf 125 = 3 := by kernel_rfl
theorem cells3R : Tryz.prog.cellsOf 3 = 1 := by kernel_rfl
theorem i64_of_wf {x : Int} (h : (Lit.int .i64 x).wf = true) : I64 x := by
  simp [Lit.wf, IntKind.min, IntKind.max, IntKind.signed, IntKind.bits] at h
  exact ⟨by omega, by omega⟩
theorem three_of {α : Type} {l : List α} (h : l.length = 3) : ∃ a b c, l = [a, b, c] := by
  match l, h with
  | [a, b, c], _ => exact ⟨a, b, c, rfl⟩
theorem rgs_of_trod {H : Type} {enc : TypeId × Value → H} {W : World} {m : Nat} {v : Value} {y : DataW H × List MemPlace} (h : DataW.trod enc Tryz.prog W 0 (fun _ => true) true m 23 [v] = some y) :
    ∃ a n cap rs, v = .slice a n cap ∧ n ≤ cap ∧ rs.length = n ∧ Rgs W a rs ∧ ∀ r ∈ rs, r.ok := by
  rcases open_slice Tryz.underlying23 h with ⟨hcs, _⟩ | ⟨x, len, cap, mm, n, D, Pl, hcs, _, hl, _, hmm, _, hx⟩
  · obtain rfl : v = .slice none 0 0 := by simpa using hcs
    exact ⟨none, 0, 0, [], rfl, Nat.le_refl _, rfl, .inl rfl, by simp⟩
  · obtain rfl : v = .slice (some x) len cap := by simpa using hcs
    have hlm : len ≤ mm := by rw [hmm]; simp; exact hl
    have each : ∀ i, i < len → ∃ r : Rg, (W.cell? (x.add (i * 3)) = some (.int .i64 r.i) ∧ W.cell? ((x.add (i * 3)).add 1) = some (.int .i64 r.o) ∧ W.cell? ((x.add (i * 3)).add 2) = some (.int .i64 r.n)) ∧ r.ok := by
      intro i hi
      obtain ⟨cs', h1, h2⟩ := hx i (by omega)
      rw [cellsRg] at h1
      obtain ⟨_, hlen, hcell⟩ := World.cells?_some h1
      obtain ⟨c0, c1, c2, rfl⟩ := three_of hlen
      obtain ⟨y0, y1, y2, k, _, _, t0, t1, t2⟩ := trod_struct3 Tryz.underlying125 h2
      rw [cells3R] at t0 t1 t2
      obtain ⟨u0, e0, _, w0⟩ := DataW.trod_int Tryz.underlying3 t0
      obtain ⟨u1, e1, _, w1⟩ := DataW.trod_int Tryz.underlying3 t1
      obtain ⟨u2, e2, _, w2⟩ := DataW.trod_int Tryz.underlying3 t2
      simp at e0 e1 e2
      subst e0 e1 e2
      have g0 := hcell 0 (by omega)
      have g1 := hcell 1 (by omega)
      have g2 := hcell 2 (by omega)
      exact ⟨⟨u0, u1, u2⟩, ⟨by simpa [Addr.add] using g0, by simpa using g1, by simpa using g2⟩, i64_of_wf w0, i64_of_wf w1, i64_of_wf w2⟩
    obtain ⟨f, hf⟩ : ∃ f : Nat → Rg, ∀ i, i < len → (W.cell? (x.add (i * 3)) = some (.int .i64 (f i).i) ∧ W.cell? ((x.add (i * 3)).add 1) = some (.int .i64 (f i).o) ∧ W.cell? ((x.add (i * 3)).add 2) = some (.int .i64 (f i).n)) ∧ (f i).ok := by
      refine ⟨fun i => if h : i < len then Classical.choose (each i h) else ⟨0, 0, 0⟩, fun i hi => ?_⟩
      simp only [hi, dite_true]
      exact Classical.choose_spec (each i hi)
    refine ⟨some x, len, cap, (List.range len).map f, rfl, hl, by simp, ?_, ?_⟩
    · by_cases h0 : len = 0
      · subst h0; exact .inl rfl
      · obtain ⟨b, off, spot⟩ := x
        have hspot : spot = none := by
          have := World.cell?_spot (hf 0 (by omega)).1.1
          simpa [Addr.add] using this
        subst hspot
        refine .inr ⟨b, off, rfl, fun k r hk => ?_⟩
        have hkl : k < len := by have := (List.getElem?_eq_some_iff.1 hk).1; simpa using this
        have er : r = f k := by simp [hkl] at hk; exact hk.symm
        subst er
        obtain ⟨⟨g0, g1, g2⟩, _⟩ := hf k hkl
        have e : (⟨b, off, none⟩ : Addr).add (k * 3) = ⟨b, off + k * 3, none⟩ := by by_cases hj0 : k * 3 = 0 <;> simp [Addr.add, hj0]
        rw [e] at g0 g1 g2
        exact ⟨g0, by simpa [Addr.add] using g1, by simpa [Addr.add] using g2⟩
    · intro r hr
      obtain ⟨i, hi, rfl⟩ := List.mem_map.1 hr
      exact (hf i (by simpa using hi)).2
end RowsIn
end Go.Proofs.YtlbabnffiibnpaaGreat
namespace Go.Proofs.YtlbabnffiibnpaaGreat
open Go.ChangeShapes Go.WideShapes Go.ChangeAt Go.RowKit Go.Deep
theorem idL_of : ∀ {ks : Kds}, (∀ (i : Nat) (n : ByteArray) (x : Nd), ks[i]? = some (n, x) → IdN x) → IdL ks
  | [], _ => by rw [IdL]; trivial
  | (n, x) :: l, h => by
    rw [IdL]
    exact ⟨h 0 n x rfl, idL_of fun i n' x' hi => h (i + 1) n' x' (by simpa using hi)⟩
namespace RowsIn
theorem cellsTM : Tryz.prog.cellsOf 25 = 2 := by kernel_rfl
theorem cellsTR : Tryz.prog.cellsOf 23 = 1 := by kernel_rfl
theorem ndL_0' (x : Nd) (h : Hd) : (ndL x h)[0]? = some (.int .i64 x.kind) := by obtain ⟨k, m, u, g, o, at_, d, ks⟩ := x; rfl
theorem ndI_of_trod {H : Type} {enc : TypeId × Value → H} {W : World} : ∀ (m : Nat) (cs : List Value) (y : DataW H × List MemPlace), DataW.trod enc Tryz.prog W 0 (fun _ => true) true m 34 cs = some y →
    ∃ x h, cs = ndL x h ∧ NdV W.cell? x h ∧ IdN x := by
  intro m
  induction m using Nat.strongRecOn with
  | ind m IH =>
    intro cs y hy
    obtain ⟨xs, n, hmn, _, hcl, hlen, hx⟩ := DataW.trod_struct Tryz.underlying34 hy
    obtain ⟨c0, c1, c2, c3, c4, c5, c6, c7, rfl⟩ := eight_of (hcl.trans cellsTN)
    obtain ⟨y0, y1, y2, y3, y4, y5, y6, y7, rfl⟩ := eight_of (show xs.length = 8 from hlen)
    have t0 : DataW.trod enc Tryz.prog W 0 (fun _ => true) true n 3 [c0] = some y0 := by simpa [cells3] using hx 0 _ rfl
    have t1 : DataW.trod enc Tryz.prog W 0 (fun _ => true) true n 3 [c1] = some y1 := by simpa [cells3] using hx 1 _ rfl
    have t2 : DataW.trod enc Tryz.prog W 0 (fun _ => true) true n 3 [c2] = some y2 := by simpa [cells3] using hx 2 _ rfl
    have t3 : DataW.trod enc Tryz.prog W 0 (fun _ => true) true n 3 [c3] = some y3 := by simpa [cells3] using hx 3 _ rfl
    have t4 : DataW.trod enc Tryz.prog W 0 (fun _ => true) true n 4 [c4] = some y4 := by simpa [cells4] using hx 4 _ rfl
    have t5 : DataW.trod enc Tryz.prog W 0 (fun _ => true) true n 31 [c5] = some y5 := by simpa [cellsTAs] using hx 5 _ rfl
    have t6 : DataW.trod enc Tryz.prog W 0 (fun _ => true) true n 9 [c6] = some y6 := by simpa [cells9] using hx 6 _ rfl
    have t7 : DataW.trod enc Tryz.prog W 0 (fun _ => true) true n 32 [c7] = some y7 := by simpa [cellsTKs] using hx 7 _ rfl
    obtain ⟨x0, e0, _⟩ := DataW.trod_int Tryz.underlying3 t0
    obtain ⟨x1, e1, _⟩ := DataW.trod_int Tryz.underlying3 t1
    obtain ⟨x2, e2, _, wf2⟩ := DataW.trod_int Tryz.underlying3 t2
    obtain ⟨x3, e3, _, wf3⟩ := DataW.trod_int Tryz.underlying3 t3
    obtain ⟨x4, e4, _⟩ := DataW.trod_bool Tryz.underlying4 t4
    obtain ⟨x6, e6, _, _⟩ := DataW.trod_string Tryz.underlying9 t6
    simp at e0 e1 e2 e3 e4 e6
    subst e0 e1 e2 e3 e4 e6
    obtain ⟨aa, na, ca, l, rfl, rfl, hca, hcam, hKv⟩ := kvm_of_trod t5
    rcases DataW.trod_slice Tryz.underlying32 t7 with ⟨hcs, _⟩ | ⟨a, len, cap, elems, rest, n2, hn2, hcs, _, _, hl, hm, hlen2, hel, _, _⟩
    · obtain rfl : c7 = .slice none 0 0 := by simpa using hcs
      exact ⟨.mk x0 x1 x2 x3 x4 l x6 [], ⟨aa, ca, none, 0⟩, rfl, .mk 0 0 (fun _ => ⟨none, 0, none, 0⟩) hKv ⟨hca, hcam⟩ ⟨by simp, by simp⟩ (.inl rfl) (fun i n x hi => by simp at hi) (fun i n x hi => by simp at hi), by rw [IdN]; exact ⟨i64_of_wf wf2, i64_of_wf wf3, by rw [IdL]; trivial⟩⟩
    · obtain rfl : c7 = .slice (some a) len cap := by simpa using hcs
      have each : ∀ i, i < len → ∃ (nm : ByteArray) (x : Nd) (h : Hd), (∃ z, W.cells? 0 (a.add (i * 9)) 9 = some z ∧ z = .string nm :: ndL x h) ∧ NdV W.cell? x h ∧ IdN x := by
        intro i hi
        have key := hel i hi
        rw [cellsTK, List.getElem?_eq_getElem (by omega)] at key
        obtain ⟨cs', h1, h2⟩ := Option.bind_eq_some_iff.1 key
        obtain ⟨xs', n3, hn3, _, hl9, hlen3, hx3⟩ := DataW.trod_struct Tryz.underlying61 h2
        obtain ⟨z, l', rfl, hl8⟩ := nine_of (hl9.trans cellsTK)
        obtain ⟨y0', y1', rfl⟩ := two_of (show xs'.length = 2 from hlen3)
        have s0 : DataW.trod enc Tryz.prog W 0 (fun _ => true) true n3 9 [z] = some y0' := by simpa [cells9] using hx3 0 _ rfl
        obtain ⟨nm, en, _, _⟩ := DataW.trod_string Tryz.underlying9 s0
        have en' : z = .string nm := by simpa using en
        have s1' : DataW.trod enc Tryz.prog W 0 (fun _ => true) true n3 34 l' = some y1' := by
          have e : List.take 8 l' = l' := List.take_of_length_le (by omega)
          have := hx3 1 _ rfl
          simpa [cellsTN, e] using this
        obtain ⟨x, h, e, hN, hI⟩ := IH n3 (by omega) _ _ s1'
        exact ⟨nm, x, h, ⟨_, h1, by rw [en', e]⟩, hN, hI⟩
      obtain ⟨F, hF⟩ : ∃ F : Nat → ByteArray × Nd × Hd, ∀ i, i < len → (∃ z, W.cells? 0 (a.add (i * 9)) 9 = some z ∧ z = .string (F i).1 :: ndL (F i).2.1 (F i).2.2) ∧ NdV W.cell? (F i).2.1 (F i).2.2 ∧ IdN (F i).2.1 := by
        refine ⟨fun i => if h : i < len then ⟨Classical.choose (each i h), Classical.choose (Classical.choose_spec (each i h)), Classical.choose (Classical.choose_spec (Classical.choose_spec (each i h)))⟩ else ⟨ByteArray.empty, .mk 0 0 0 0 false [] ByteArray.empty [], ⟨none, 0, none, 0⟩⟩, fun i hi => ?_⟩
        simp only [hi, dite_true]
        exact Classical.choose_spec (Classical.choose_spec (Classical.choose_spec (each i hi)))
      by_cases h0 : len = 0
      · subst h0
        exact ⟨.mk x0 x1 x2 x3 x4 l x6 [], ⟨aa, ca, some a, cap⟩, rfl, .mk 0 0 (fun _ => ⟨none, 0, none, 0⟩) hKv ⟨hca, hcam⟩ ⟨by simp, by unfold maxLen at hm; show cap ≤ _; omega⟩ (.inl rfl) (fun i n x hi => by simp at hi) (fun i n x hi => by simp at hi), by rw [IdN]; exact ⟨i64_of_wf wf2, i64_of_wf wf3, by rw [IdL]; trivial⟩⟩
      · obtain ⟨b, off, spot⟩ := a
        have cell : ∀ i, i < len → ∀ q v, (Value.string (F i).1 :: ndL (F i).2.1 (F i).2.2)[q]? = some v → W.cell? (((⟨b, off, spot⟩ : Addr).add (i * 9)).add q) = some v := by
          intro i hi q v hq
          obtain ⟨⟨z, h1, rfl⟩, _⟩ := hF i hi
          obtain ⟨_, hz, hcell⟩ := World.cells?_some h1
          have hq9 : q < 9 := by have := (List.getElem?_eq_some_iff.1 hq).1; omega
          rw [hcell q hq9]; exact hq
        have hspot : spot = none := by
          have := World.cell?_spot (cell 0 (by omega) 0 _ rfl)
          simpa [Addr.add] using this
        subst hspot
        have adr : ∀ i q, (((⟨b, off, none⟩ : Addr).add (i * 9)).add q) = ⟨b, off + i * 9 + q, none⟩ := by
          intro i q
          by_cases hi : i * 9 = 0 <;> by_cases hq : q = 0 <;> simp [Addr.add, hi, hq]
        have get : ∀ i n x, ((List.range len).map (fun i => ((F i).1, (F i).2.1)))[i]? = some (n, x) → i < len ∧ n = (F i).1 ∧ x = (F i).2.1 := by
          intro i n x hi
          have hil : i < len := by have := (List.getElem?_eq_some_iff.1 hi).1; simpa using this
          simp [hil] at hi
          exact ⟨hil, hi.1.symm, hi.2.symm⟩
        refine ⟨.mk x0 x1 x2 x3 x4 l x6 ((List.range len).map (fun i => ((F i).1, (F i).2.1))), ⟨aa, ca, some ⟨b, off, none⟩, cap⟩, by simp [ndL], .mk b off (fun i => (F i).2.2) hKv ⟨hca, hcam⟩ ⟨by simp; exact hl, by unfold maxLen at hm; show cap ≤ _; omega⟩ (.inr rfl) ?_ ?_, ?_⟩
        · intro i n x hi
          obtain ⟨hil, rfl, rfl⟩ := get i n x hi
          refine kdAt_iff.2 fun q v hq => ?_
          have := cell i hil q v hq
          rwa [adr] at this
        · intro i n x hi
          obtain ⟨hil, rfl, rfl⟩ := get i n x hi
          exact (hF i hil).2.1
        · rw [IdN]
          refine ⟨i64_of_wf wf2, i64_of_wf wf3, idL_of fun i n x hi => ?_⟩
          obtain ⟨hil, rfl, rfl⟩ := get i n x hi
          exact (hF i hil).2.2
set_option maxRecDepth 100000 in
/-- A slice of nodes that came in. -/
theorem ns_of_trod {H : Type} {enc : TypeId × Value → H} {W : World} {m : Nat} {v : Value} {y : DataW H × List MemPlace} (h : DataW.trod enc Tryz.prog W 0 (fun _ => true) true m 22 [v] = some y) :
    ∃ a n cap xs, v = .slice a n cap ∧ xs.length = n ∧ n ≤ cap ∧ cap ≤ 9223372036854775807 ∧ NsV W.cell? a xs ∧ ∀ x ∈ xs, IdN x := by
  rcases DataW.trod_slice Tryz.underlying22 h with ⟨hcs, _⟩ | ⟨a, len, cap, elems, rest, n2, hn2, hcs, _, _, hl, hm, hlen2, hel, _, _⟩
  · obtain rfl : v = .slice none 0 0 := by simpa using hcs
    exact ⟨none, 0, 0, [], rfl, rfl, by omega, by omega, .inl rfl, fun x hx => by cases hx⟩
  · obtain rfl : v = .slice (some a) len cap := by simpa using hcs
    have hm2 : cap ≤ 9223372036854775807 := by unfold maxLen at hm; omega
    have each : ∀ i, i < len → ∃ (x : Nd) (h : Hd), W.cells? 0 (a.add (i * 8)) 8 = some (ndL x h) ∧ NdV W.cell? x h ∧ IdN x := by
      intro i hi
      have key := hel i hi
      rw [cellsTN, List.getElem?_eq_getElem (by omega)] at key
      obtain ⟨cs', h1, h2⟩ := Option.bind_eq_some_iff.1 key
      obtain ⟨x, hd, e, hN, hI⟩ := ndI_of_trod _ _ _ h2
      exact ⟨x, hd, by rw [h1, e], hN, hI⟩
    obtain ⟨F, hF⟩ : ∃ F : Nat → Nd × Hd, ∀ i, i < len → W.cells? 0 (a.add (i * 8)) 8 = some (ndL (F i).1 (F i).2) ∧ NdV W.cell? (F i).1 (F i).2 ∧ IdN (F i).1 := by
      refine ⟨fun i => if h : i < len then ⟨Classical.choose (each i h), Classical.choose (Classical.choose_spec (each i h))⟩ else ⟨zN, zH⟩, fun i hi => ?_⟩
      simp only [hi, dite_true]
      exact Classical.choose_spec (Classical.choose_spec (each i hi))
    have get : ∀ i x, ((List.range len).map (fun i => (F i).1))[i]? = some x → i < len ∧ x = (F i).1 := by
      intro i x hi
      have hil : i < len := by have := (List.getElem?_eq_some_iff.1 hi).1; simpa using this
      simp [hil] at hi
      exact ⟨hil, hi.symm⟩
    refine ⟨some a, len, cap, (List.range len).map (fun i => (F i).1), rfl, by simp, hl, hm2, ?_, fun x hx => ?_⟩
    · by_cases h0 : len = 0
      · subst h0; exact .inl rfl
      · obtain ⟨b, off, spot⟩ := a
        have cell : ∀ i, i < len → ∀ q v, (ndL (F i).1 (F i).2)[q]? = some v → W.cell? (((⟨b, off, spot⟩ : Addr).add (i * 8)).add q) = some v := by
          intro i hi q v hq
          obtain ⟨h1, _⟩ := hF i hi
          obtain ⟨_, hz, hcell⟩ := World.cells?_some h1
          have hq8 : q < 8 := by have := (List.getElem?_eq_some_iff.1 hq).1; rw [ndL_length] at this; exact this
          rw [hcell q hq8]; exact hq
        have hspot : spot = none := by
          have := World.cell?_spot (cell 0 (by omega) 0 _ (ndL_0' (F 0).1 (F 0).2))
          simpa [Addr.add] using this
        subst hspot
        have adr : ∀ i q, (((⟨b, off, none⟩ : Addr).add (i * 8)).add q) = ⟨b, off + i * 8 + q, none⟩ := by
          intro i q
          by_cases hi : i * 8 = 0 <;> by_cases hq : q = 0 <;> simp [Addr.add, hi, hq]
        refine .inr ⟨b, off, rfl, fun i => (F i).2, fun i x hi => ?_⟩
        obtain ⟨hil, rfl⟩ := get i x hi
        refine ⟨nat_iff.2 fun q v hq => ?_, (hF i hil).2.1⟩
        have := cell i hil q v hq
        rwa [adr] at this
    · obtain ⟨i, hi, rfl⟩ := List.mem_map.1 hx
      exact (hF i (by simpa using hi)).2.2
set_option maxRecDepth 100000 in
/-- Maps by value that came in. -/
theorem maps_of_arg {H : Type} {enc : TypeId × Value → H} {W : World} {r : Reach} {b0 : Nat} {v : Value} {y : DataW H × List MemPlace} {m : Nat} (hv : Value.okWide Tryz.prog W r b0 25 v) (h : DataW.trod enc Tryz.prog W 0 (fun _ => true) true m 25 v.cells.toList = some y) : ∃ M : MapsV, v = M.v ∧ Rgs W M.ua M.us ∧ Rgs W M.ga M.gs ∧ M.us.length ≤ M.uc ∧ M.gs.length ≤ M.gc ∧ (∀ r ∈ M.us, r.ok) ∧ ∀ r ∈ M.gs, r.ok := by
  obtain ⟨cs, rfl, _⟩ := okWide_struct Tryz.underlying25 hv
  obtain ⟨xs, n, hmn, _, hcl, hlen, hx⟩ := DataW.trod_struct Tryz.underlying25 h
  obtain ⟨c0, c1, e⟩ := two_of (hcl.trans cellsTM)
  obtain ⟨y0, y1, rfl⟩ := two_of (show xs.length = 2 from hlen)
  rw [e] at hx
  have t0 : DataW.trod enc Tryz.prog W 0 (fun _ => true) true n 23 [c0] = some y0 := by simpa [cellsTR] using hx 0 _ rfl
  have t1 : DataW.trod enc Tryz.prog W 0 (fun _ => true) true n 23 [c1] = some y1 := by simpa [cellsTR] using hx 1 _ rfl
  obtain ⟨ua, nu, uc, us, rfl, hcu, rfl, hu, ou⟩ := rgs_of_trod t0
  obtain ⟨ga, ng, gc, gs, rfl, hcg, rfl, hg, og⟩ := rgs_of_trod t1
  refine ⟨⟨ua, ga, uc, gc, us, gs⟩, ?_, hu, hg, hcu, hcg, ou, og⟩
  show Value.agg cs = .agg _
  congr 1
  apply Array.ext'
  exact e
end RowsIn
end Go.Proofs.YtlbabnffiibnpaaGreat
