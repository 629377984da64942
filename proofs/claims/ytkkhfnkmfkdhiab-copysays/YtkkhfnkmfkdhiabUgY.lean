/-
  THE DOCUMENT's Up: the walk.
-/
import Derived.Test.YtkkhfnkmfkdhiabUcX
import Derived.Test.YtkkhfnkmfkdhiabUfY
import Derived.Test.YtkkhfnkmfkdhiabMnY
import Derived.Test.YtkkhfnkmfkdhiabZpaY
namespace Go.Proofs.Ytkkhfnkmfkdhiab
open Go.RowKit

def UpR (us gs : List Rg) (xs : List Nd) (names : List ByteArray) (U : Nd) : Except Int Nd := if stackP xs names = [] then .error 5 else upN us gs xs names U names.length
theorem nZ (c : Mem) : NdV c zN zH := ndV_iff.2 ⟨.inl rfl, ⟨Nat.le_refl _, by decide⟩, ⟨Nat.le_refl _, by decide⟩, .inl rfl⟩
theorem rdE_err {W W' : World} {S : Nat → Bool} {f : Int} {R : Except Int Nd} (hR : R = .error f) (hb : Below W.heap.size W W') : RdE W W' S (.returned (.tuple #[ndV zN zH, .int .i64 f])) R := by subst hR; exact ⟨⟨zH, rfl, nZ _⟩, hb⟩
theorem two_up (W A B : World) (ua ga : Option Addr) (nu ng uc gc : Nat) (hA : A = W.alloc (.cells #[.slice ua nu uc, .slice ga ng gc] 62)) (hB : B = A.alloc (.cells #[.int .i64 0, .int .i64 0, .int .i64 0, .int .i64 0, .bool false, .slice none 0 0, .string ⟨#[]⟩, .slice none 0 0] 25)) :
    B.cell? ⟨W.heap.size, 0, none⟩ = some (.slice ua nu uc) ∧ B.cell? ⟨W.heap.size, 1, none⟩ = some (.slice ga ng gc) ∧ NBw B (W.heap.size + 1) zN zH ∧ Below W.heap.size W B ∧ B.heap.size = W.heap.size + 1 + 1 := by
  have s1 : A.heap.size = W.heap.size + 1 := by rw [hA, World.size_alloc]
  have s2 : B.heap.size = W.heap.size + 1 + 1 := by rw [hB, World.size_alloc, s1]
  have bA : Below W.heap.size W A := by rw [hA]; exact (Below.refl _ _).alloc (Nat.le_refl _) _
  have bB : Below A.heap.size A B := by rw [hB]; exact (Below.refl _ _).alloc (Nat.le_refl _) _
  have c0 : A.cell? ⟨W.heap.size, 0, none⟩ = some (.slice ua nu uc) := by rw [hA]; exact World.cell?_alloc_at _ _ _ _ rfl
  have c1 : A.cell? ⟨W.heap.size, 1, none⟩ = some (.slice ga ng gc) := by rw [hA]; exact World.cell?_alloc_at _ _ _ _ rfl
  have nB := NBw.zero A
  rw [← hB, s1] at nB
  exact ⟨mle_below bB _ _ c0, mle_below bB _ _ c1, nB, bA.trans (bB.mono bA.size), s2⟩
theorem alloc_bel (w : World) (o : Obj) : Below w.heap.size w (w.alloc o) := (Below.refl _ _).alloc (Nat.le_refl _) _
/-- What stands ahead of each name. -/
structure UpI (W wr : World) (nb : Nat) (S : Nat → Bool) (ua ga : Option Addr) (nu ng uc gc : Nat) (V : Nd) (hV : Hd) : Prop where
  low : Below W.heap.size W wr
  m0 : wr.cell? ⟨W.heap.size, 0, none⟩ = some (.slice ua nu uc)
  m1 : wr.cell? ⟨W.heap.size, 1, none⟩ = some (.slice ga ng gc)
  rb : NBw wr (W.heap.size + 1) zN zH
  ub : NBw wr nb V hV
  hn : NdV (offS wr.cell? (fun k => k == W.heap.size || k == W.heap.size + 1 || k == nb || S k)) V hV
theorem UpI.below {W wr w' : World} {nb : Nat} {S : Nat → Bool} {ua ga : Option Addr} {nu ng uc gc : Nat} {V : Nd} {hV : Hd} (h : UpI W wr nb S ua ga nu ng uc gc V hV) (hb : Below wr.heap.size wr w') : UpI W w' nb S ua ga nu ng uc gc V hV :=
  ⟨h.low.trans (hb.mono h.low.size), mle_below hb _ _ h.m0, mle_below hb _ _ h.m1, h.rb.below hb, h.ub.below hb, h.hn.on (mle_S hb)⟩

set_option maxRecDepth 100000 in
set_option maxHeartbeats 4000000 in
theorem rup_any {W : World} {S : Nat → Bool} (hS0 : ∀ k, S k = true → k < W.heap.size) {a : Option Addr} {cap : Nat} {xs : List Nd} {an : Option Addr} {capn : Nat} {names : List ByteArray} (hx : NsV (offS W.cell? S) a xs) (hs : Strs W.cell? an names) (hlx : xs.length ≤ 1000) (hln : names.length ≤ 1000) (hcn : names.length ≤ capn) (hsm : SmallP (layP xs)) (hip : IdP (layP xs)) {M : MapsV} (hM : MapsOk W M) {U : Nd} (hU : ∀ x, xs[0]? = some x → x = U) (hcu : cnt U + names.length ≤ 800) (hnz : ∀ s ∈ names, s.size ≤ 1000) :
    Calls Try.prog 48 #[.slice a xs.length cap, M.v, .slice an names.length capn] W fun e W' => RdE W W' S e (UpR M.us M.gs xs names U) := by
  obtain ⟨ua, ga, uc, gc, us, gs⟩ := M
  obtain ⟨c0, c1, RB, hBA, hzA⟩ := two_up W _ _ ua ga us.length gs.length uc gc rfl rfl
  have hm1 : MLe (offS W.cell? S) (offS ((W.alloc (.cells #[.slice ua us.length uc, .slice ga gs.length gc] 62)).alloc (.cells #[.int .i64 0, .int .i64 0, .int .i64 0, .int .i64 0, .bool false, .slice none 0 0, .string ⟨#[]⟩, .slice none 0 0] 25)).cell? (fun k => k == W.heap.size || k == W.heap.size + 1 || S k)) := mle_step fun k hk hs => ⟨by simp [hs]; omega, hBA.block k hk⟩
  have HL1 : Hid _ := rlook_any (w := ((W.alloc (.cells #[.slice ua us.length uc, .slice ga gs.length gc] 62)).alloc (.cells #[.int .i64 0, .int .i64 0, .int .i64 0, .int .i64 0, .bool false, .slice none 0 0, .string ⟨#[]⟩, .slice none 0 0] 25))) (cap := cap) (capn := capn) (S := (fun k => k == W.heap.size || k == W.heap.size + 1 || S k)) (fun q hq => by
    rw [hzA]
    simp at hq
    rcases hq with (e | e) | e
    · omega
    · omega
    · have := hS0 q e; omega) (hx.on hm1) (hs.on (mle_below hBA)) hlx hln hsm
  have HX : Hid (NsV (offS W.cell? S) a xs) := hx
  have HS : Hid (Strs W.cell? an names) := hs
  have HSM : Hid (SmallP (layP xs)) := hsm
  have HIP : Hid (IdP (layP xs)) := hip
  have HM : Hid (MapsOk W ⟨ua, ga, uc, gc, us, gs⟩) := hM
  have HU : Hid _ := hU
  have HNZ0 : Hid _ := hnz
  show Calls Try.prog 48 #[.slice a xs.length cap, .agg #[.slice ua us.length uc, .slice ga gs.length gc], .slice an names.length capn] W fun e W' => RdE W W' S e (UpR us gs xs names U)
  clear hm1 hx hs hsm hip hM hU hnz
  cases hst : stackP xs names with
  | nil =>
    have HR : Hid (UpR us gs xs names U = .error 5) := if_pos hst
    rw [hst] at HL1
    clear hst
    go_enter Try.func48, Try.ntmps48
    go_wp2_with fail
    refine Calls.mono HL1.out ?_
    rintro e w2 ⟨rfl, hB2⟩
    have hb3 := alloc_bel w2 (.cells #[.int .i64 0, .int .i64 0, .int .i64 0, .int .i64 0, .bool false, .slice none 0 0, .string ⟨#[]⟩, .slice none 0 0] 25)
    have hB02 := hBA.trans (hB2.mono hBA.size)
    have hB03 := hB02.trans (hb3.mono hB02.size)
    have RB2 := RB.below hB2
    have RB3 := RB2.below hb3
    rw [show ndV zN zH = .agg #[.int .i64 0, .int .i64 0, .int .i64 0, .int .i64 0, .bool false, .slice none 0 0, .string ⟨#[]⟩, .slice none 0 0] from rfl]
    clear HL1 hB2 hb3 hB02 RB RB2
    go_upto_region 2 with fail
    generalize w2.alloc (.cells #[.int .i64 0, .int .i64 0, .int .i64 0, .int .i64 0, .bool false, .slice none 0 0, .string ⟨#[]⟩, .slice none 0 0] 25) = w3 at hB03 RB3 ⊢
    have R3 := NBw.store RB3 zN zH
    have hB3 : Below W.heap.size W (stB w3 (W.heap.size + 1) zN zH) := hB03.trans (stB_but.below (by omega) hB03.size)
    have z0 := RB3.2 0
    have z1 := RB3.2 1
    have z2 := RB3.2 2
    have z3 := RB3.2 3
    have z4 := RB3.2 4
    have z5 := RB3.2 5
    have z6 := RB3.2 6
    have z7 := RB3.2 7
    obtain ⟨f0, f1, f2, f3, f4, f5, f6, f7⟩ := RB3.1
    go_wp2
    obtain ⟨W6, HW6⟩ : ∃ W6, Hid (stB w3 (W.heap.size + 1) zN zH = W6) := ⟨_, rfl⟩
    rw [HW6.out] at R3 hB3
    have hw6 := HW6.out
    simp only [stB, zN, zH] at hw6
    simp only [List.length_nil] at hw6
    rw [hw6]
    obtain ⟨r0, r1, r2, r3, r4, r5, r6, r7⟩ := R3.1
    refine bodyPost_ret (v := .tuple #[ndV zN zH, .int .i64 5]) (by simp [results, Try.results48, go_sem, ndV, zN, zH, r0, r1, r2, r3, r4, r5, r6, r7]) rfl (rdE_err HR.out hB3)
  | cons q r =>
    have hne : stackP xs names ≠ [] := by rw [hst]; simp
    have HR : Hid (UpR us gs xs names U = upN us gs xs names U names.length) := if_neg hne
    obtain ⟨H, hH⟩ := sees_of hne
    have HH : Hid (Sees xs names H) := hH
    obtain ⟨hH0, hH1⟩ := sees_zero hH
    have hU0 := HU.out _ hH1
    obtain ⟨ab, ao, rfl, hfx, hfa⟩ : ∃ b off, a = some ⟨b, off, none⟩ ∧ ∃ f : Nat → Hd, ∀ i x, xs[i]? = some x → NAt (offS W.cell? S) b (off + i * 8) x (f i) ∧ NdV (offS W.cell? S) x (f i) := by
      rcases HX.out with e | e
      · rw [e] at hH1; cases hH1
      · exact e
    obtain ⟨hua, hun⟩ := hfa 0 _ hH1
    rw [hU0] at hua hun
    have HUN : Hid _ := hun
    rw [Nat.zero_mul, Nat.add_zero] at hua
    generalize hfx 0 = hv0 at hua HUN hun
    have hxl : (0 : Int) < (xs.length : Int) := by have := (List.getElem?_eq_some_iff.1 hH1).1; omega
    rw [hst] at HL1
    clear hst hne hH hH0 hH1 hU0 hfa hun HU
    obtain ⟨k, m, u, g, o, at_, d, ks⟩ := U
    generalize hUU : Nd.mk k m u g o at_ d ks = U at HR HUN hcu
    have HUU : Hid ((.mk k m u g o at_ d ks) = U) := hUU
    obtain ⟨⟨qk,qm,qu,qg,qo,qa,qd,qs⟩, ql⟩ := q
    obtain ⟨N, HN⟩ : ∃ N, Hid (names.length = N) := ⟨_, rfl⟩
    rw [HN.out] at HR hln hcn hcu HL1 ⊢
    rw [HR.out]
    clear HR hUU
    go_enter Try.func48, Try.ntmps48
    go_wp2_with fail
    refine Calls.mono HL1.out ?_
    rintro e w2 ⟨⟨hq, rfl, hq2⟩, hB2⟩
    have hb3 := alloc_bel w2 (.cells #[.int .i64 qk, .int .i64 qm, .int .i64 qu, .int .i64 qg, .bool qo, .slice hq.aa qa.length hq.ca, .string qd, .slice hq.ak qs.length hq.ck] 25)
    have hB02 := hBA.trans (hB2.mono hBA.size)
    have hB03 := hB02.trans (hb3.mono hB02.size)
    have RB3 := (RB.below hB2).below hb3
    have c03 := mle_below hb3 _ _ (mle_below hB2 _ _ c0)
    have c13 := mle_below hb3 _ _ (mle_below hB2 _ _ c1)
    have hz3 : W.heap.size + 1 + 1 ≤ w2.heap.size := by have := hB2.size; omega
    have ua3 := (hua.on (offS_le _ _)).on (mle_below hB03)
    have hm3 : MLe (offS W.cell? S) (offS (w2.alloc (.cells #[.int .i64 qk, .int .i64 qm, .int .i64 qu, .int .i64 qg, .bool qo, .slice hq.aa qa.length hq.ca, .string qd, .slice hq.ak qs.length hq.ck] 25)).cell? S) := mle_step fun k hk hs => ⟨hs, hB03.block k hk⟩
    rw [show ndV (((.mk qk qm qu qg qo qa qd qs), ql) : Nd × Nat).1 hq = .agg #[.int .i64 qk, .int .i64 qm, .int .i64 qu, .int .i64 qg, .bool qo, .slice hq.aa qa.length hq.ca, .string qd, .slice hq.ak qs.length hq.ck] from rfl]
    have hz3' : (w2.alloc (.cells #[.int .i64 qk, .int .i64 qm, .int .i64 qu, .int .i64 qg, .bool qo, .slice hq.aa qa.length hq.ca, .string qd, .slice hq.ak qs.length hq.ck] 25)).heap.size = w2.heap.size + 1 := World.size_alloc _ _
    clear HL1 hq2 hb3 hB02 RB c0 c1 hua hB2
    go_upto_region 2 with fail
    generalize w2.alloc (.cells #[.int .i64 qk, .int .i64 qm, .int .i64 qu, .int .i64 qg, .bool qo, .slice hq.aa qa.length hq.ca, .string qd, .slice hq.ak qs.length hq.ck] 25) = w3 at hB03 RB3 c03 c13 ua3 hm3 hz3' ⊢
    obtain ⟨f0, f1, f2, f3, f4, f5, f6, f7⟩ := ua3
    have hb4 := alloc_bel w3 (.cells #[.int .i64 k, .int .i64 m, .int .i64 u, .int .i64 g, .bool o, .slice hv0.aa at_.length hv0.ca, .string d, .slice hv0.ak ks.length hv0.ck] 25)
    have UI : UpI W (w3.alloc (.cells #[.int .i64 k, .int .i64 m, .int .i64 u, .int .i64 g, .bool o, .slice hv0.aa at_.length hv0.ca, .string d, .slice hv0.ak ks.length hv0.ck] 25)) w3.heap.size S ua ga us.length gs.length uc gc (.mk k m u g o at_ d ks) hv0 := ⟨hB03.trans (hb4.mono hB03.size), mle_below hb4 _ _ c03, mle_below hb4 _ _ c13, RB3.below hb4, NBw.new w3 k m u g o at_ d ks hv0, (by rw [HUU.out]; exact HUN.out.on (mle_step fun q hq hs => ⟨by simp [hs]; omega, (hB03.trans (hb4.mono hB03.size)).block q hq⟩))⟩
    go_upto_region 5 with fail
    have hnb : W.heap.size + 1 < w2.heap.size + 1 := by omega
    rw [hz3'] at UI
    have HUI : Hid _ := UI
    clear UI hb4 f0 f1 f2 f3 f4 f5 f6 f7 hB03 RB3 c03 c13 hm3 hz3' hz3 hxl hBA hzA
    generalize w3.alloc (.cells #[.int .i64 k, .int .i64 m, .int .i64 u, .int .i64 g, .bool o, .slice hv0.aa at_.length hv0.ca, .string d, .slice hv0.ak ks.length hv0.ck] 25) = w4 at HUI ⊢
    generalize w2.heap.size + 1 = nb at HUI hnb ⊢
    rw [HUU.out] at HUI
    clear HUN HUU
    go_wp2
    go_loopw [12, 13, 14, 15, 16, 17, 18, 19] (fun i _ _ _ _ _ _ _ wr => ∃ (j : Nat) (V : Nd) (hV : Hd), j ≤ N ∧ i = .int .i64 (j + 1) ∧ Hid (upN us gs xs names U j = .ok V) ∧ Hid (cnt V ≤ cnt U + j) ∧ Hid (UpI W wr nb S ua ga us.length gs.length uc gc V hV)) (fun i _ _ _ _ _ _ _ _ => N + 1 - (intOf i).toNat)
    case atStart => exact ⟨0, U, hv0, Nat.zero_le _, rfl, rfl, Nat.le_refl _, HUI.out⟩
    case round =>
      clear HUI
      obtain ⟨j, V, hV, hj, rfl, HUP, HCV, HUI⟩ := hrel
      obtain ⟨k, m, u, g, o, at_, d, ks⟩ := V
      by_cases hjl : j < N
      rotate_left
      · obtain rfl : j = N := by omega
        have hb : decide ((j : Int) + 1 ≤ (j : Int)) = false := decide_eq_false (by omega)
        have UB := HUI.out.ub
        have RB := HUI.out.rb
        have hB := HUI.out.low
        have R8 := RB.store (.mk k m u g o at_ d ks) hV
        have b8 : But (W.heap.size + 1) wr (stB wr (W.heap.size + 1) (.mk k m u g o at_ d ks) hV) := stB_but
        have hB8 : Below W.heap.size W (stB wr (W.heap.size + 1) (.mk k m u g o at_ d ks) hV) := hB.trans (b8.below (by omega) hB.size)
        have HN8 : Hid (NdV (offS (stB wr (W.heap.size + 1) (.mk k m u g o at_ d ks) hV).cell? S) (.mk k m u g o at_ d ks) hV) := HUI.out.hn.on (mle_step fun q hq hs => by
          simp at hs
          exact ⟨hs.2, b8.block q hq hs.1.1.2⟩)
        have HEE : Hid (upN us gs xs names U j = .ok (.mk k m u g o at_ d ks)) := HUP
        have z0 := RB.2 0
        have z1 := RB.2 1
        have z2 := RB.2 2
        have z3 := RB.2 3
        have z4 := RB.2 4
        have z5 := RB.2 5
        have z6 := RB.2 6
        have z7 := RB.2 7
        obtain ⟨y0, y1, y2, y3, y4, y5, y6, y7⟩ := RB.1
        obtain ⟨f0, f1, f2, f3, f4, f5, f6, f7⟩ := UB.1
        clear RB UB HUI HUP HCV b8
        go_wp2
        obtain ⟨W9, HW9⟩ : ∃ W9, Hid (stB wr (W.heap.size + 1) (.mk k m u g o at_ d ks) hV = W9) := ⟨_, rfl⟩
        rw [HW9.out] at R8 hB8 HN8
        have hw9 := HW9.out
        simp only [stB] at hw9
        rw [hw9]
        obtain ⟨r0, r1, r2, r3, r4, r5, r6, r7⟩ := R8.1
        refine bodyPost_ret (v := .tuple #[ndV (.mk k m u g o at_ d ks) hV, .int .i64 0]) (by simp [results, Try.results48, go_sem, ndV, r0, r1, r2, r3, r4, r5, r6, r7]) rfl ?_
        rw [HEE.out]
        exact ⟨⟨hV, rfl, HN8.out⟩, hB8⟩
      have hb : decide ((j : Int) + 1 ≤ (N : Int)) = true := decide_eq_true (by omega)
      have hcj : (j : Int) + 1 ≤ (capn : Int) := by omega
      have HUL := HUI.out.low
      have HLk : Hid _ := rlook_any (w := wr) (cap := cap) (capn := capn) (names := names.take (j + 1)) (S := (fun k => k == W.heap.size || k == W.heap.size + 1 || k == nb || S k)) (fun q hq => by
        simp at hq
        have e1 := HUL.size
        have e2 := HUI.out.ub.1.lt
        have e3 := HUI.out.rb.1.lt
        rcases hq with ((e | e) | e) | e
        · omega
        · omega
        · omega
        · have := hS0 q e; omega) (NsV.on HX.out (mle_step fun k hk hs => ⟨by simp [hs]; omega, HUL.block k hk⟩)) ((Strs.take HS.out _).on (mle_below HUL)) hlx (by rw [List.length_take, HN.out]; omega) HSM.out
      obtain ⟨rr, hrr⟩ := HH.out (j + 1) (by rw [HN.out]; omega)
      have HIQ := (stackP_id HIP.out (names.take (j + 1))) (H (j + 1)) (by rw [hrr]; exact List.mem_cons_self ..)
      rw [hrr, show (names.take (j + 1)).length = j + 1 by rw [List.length_take, HN.out]; omega] at HLk
      obtain ⟨Q, HQ⟩ : ∃ Q, Hid (H (j + 1) = Q) := ⟨_, rfl⟩
      rw [HQ.out] at HLk HIQ
      obtain ⟨⟨qk, qm, qu, qg, qo, qa, qd, qs⟩, ql⟩ := Q
      have HIT : Hid (IdT (.mk qk qm qu qg qo qa qd qs)) := idT_of HIQ
      clear hrr HIQ HUL
      go_wp2_with fail
      refine Calls.mono HLk.out ?_
      rintro e wL ⟨⟨hq, rfl, hqN⟩, hBL⟩
      have hbM := alloc_bel wL (.cells #[.int .i64 qk, .int .i64 qm, .int .i64 qu, .int .i64 qg, .bool qo, .slice hq.aa qa.length hq.ca, .string qd, .slice hq.ak qs.length hq.ck] 25)
      have UIL := HUI.out.below hBL
      have UIM := UIL.below hbM
      have HQN : Hid (NdV (offS wL.cell? (fun k => k == W.heap.size || k == W.heap.size + 1 || k == nb || S k)) (.mk qk qm qu qg qo qa qd qs) hq) := hqN
      have QB := NBw.new wL qk qm qu qg qo qa qd qs hq
      have hLlt := HUI.out.low.size
      have hnbL : nb < wL.heap.size := Nat.lt_of_lt_of_le HUI.out.ub.1.lt hBL.size
      have HUL : Hid (UpI W wL nb S ua ga us.length gs.length uc gc (.mk k m u g o at_ d ks) hV) := UIL
      have HUM : Hid (UpI W (wL.alloc (.cells #[.int .i64 qk, .int .i64 qm, .int .i64 qu, .int .i64 qg, .bool qo, .slice hq.aa qa.length hq.ca, .string qd, .slice hq.ak qs.length hq.ck] 25)) nb S ua ga us.length gs.length uc gc (.mk k m u g o at_ d ks) hV) := UIM
      rw [show ndV (((.mk qk qm qu qg qo qa qd qs), ql) : Nd × Nat).1 hq = .agg #[.int .i64 qk, .int .i64 qm, .int .i64 qu, .int .i64 qg, .bool qo, .slice hq.aa qa.length hq.ca, .string qd, .slice hq.ak qs.length hq.ck] from rfl]
      clear HLk hqN UIL UIM HUI hBL hbM
      by_cases hql : ql = 0
      · subst hql
        have HU1 : Hid (upN us gs xs names U (j + 1) = .ok (.mk k m u g o at_ d ks)) := upN_same HH.out (by rw [HN.out]; omega) (by rw [HQ.out]) HUP.out
        clear HQN QB HUL
        go_wp2
        go_roundw
        case rel => exact ⟨j + 1, (.mk k m u g o at_ d ks), hV, by omega, by go_num, HU1.out, (show _ ≤ _ from by have := HCV.out; omega), HUM.out⟩
        case measure => (simp [intOf]; try omega)
      have hql2 : ((ql : Int) == 0) = false := by rw [beq_eq_false_iff_ne]; omega
      have hbN := alloc_bel wL (.cells #[.int .i64 qk, .int .i64 qm, .int .i64 qu, .int .i64 qg, .bool false, .slice hq.aa qa.length hq.ca, .string qd, .slice none 0 0] 25)
      have UIN := HUL.out.below hbN
      obtain ⟨OY, HOY⟩ : ∃ OY, Hid (mvF true us gs (bareN (.mk qk qm qu qg qo qa qd qs)) = OY) := ⟨_, rfl⟩
      have hS3 : ∀ w' : World, wL.heap.size ≤ w'.heap.size → ∀ q, (fun k => k == W.heap.size || k == W.heap.size + 1 || k == nb || S k) q = true → q < w'.heap.size := fun w' hw q hq => by
        simp at hq
        have := HUL.out.low.size
        have := HUL.out.rb.1.lt
        rcases hq with ((e | e) | e) | e
        · omega
        · omega
        · omega
        · have := hS0 q e; omega
      have HMv : Hid (Calls Try.prog 44 #[.agg #[.slice ua us.length uc, .slice ga gs.length gc], .agg #[.int .i64 qk, .int .i64 qm, .int .i64 qu, .int .i64 qg, .bool false, .slice hq.aa qa.length hq.ca, .string qd, .slice none 0 0], .bool true] (wL.alloc (.cells #[.int .i64 qk, .int .i64 qm, .int .i64 qu, .int .i64 qg, .bool false, .slice hq.aa qa.length hq.ca, .string qd, .slice none 0 0] 25)) fun e W' => MvR (wL.alloc (.cells #[.int .i64 qk, .int .i64 qm, .int .i64 qu, .int .i64 qg, .bool false, .slice hq.aa qa.length hq.ca, .string qd, .slice none 0 0] 25)) W' (fun k => k == W.heap.size || k == W.heap.size + 1 || k == nb || S k) e OY) := by
        have := rmoved_true (W := wL.alloc (.cells #[.int .i64 qk, .int .i64 qm, .int .i64 qu, .int .i64 qg, .bool false, .slice hq.aa qa.length hq.ca, .string qd, .slice none 0 0] 25)) (S := (fun k => k == W.heap.size || k == W.heap.size + 1 || k == nb || S k)) (M := ⟨ua, ga, uc, gc, us, gs⟩) (x := bareN (.mk qk qm qu qg qo qa qd qs)) (h := ⟨hq.aa, hq.ca, none, 0⟩) ((nd_bare HQN.out).on (mle_S hbN)) (hS3 _ (by rw [World.size_alloc]; omega)) (idT_bare HIT.out) (HM.out.below UIN.low)
        rw [HOY.out] at this
        exact this
      have c0 := UIN.m0
      have c1 := UIN.m1
      clear QB HUM HQN HIT
      go_wp2_with fail
      refine Calls.mono HMv.out ?_
      intro e wO hE
      clear c0 c1 HMv
      have HST0 : Hid (upN us gs xs names U (j + 1) = match mvF true us gs (bareN (.mk qk qm qu qg qo qa qd qs)) with
          | none => .error 11
          | some x => chgF (some x) (names.take (j + 1)) (.mk k m u g o at_ d ks)) := by
        show _ = _
        rw [upN_step HH.out (by rw [HN.out]; omega) (by rw [HQ.out]; exact hql), HUP.out, HQ.out]
        rfl
      rw [HOY.out] at HST0
      cases OY with
      | none =>
        obtain ⟨rfl, hBO⟩ := hE
        have HEE : Hid (upN us gs xs names U names.length = .error 11) := by
          have e := upN_err HST0.out (names.length - (j + 1))
          rw [show j + 1 + (names.length - (j + 1)) = names.length by have := HN.out; omega] at e
          exact e
        rw [HN.out] at HEE
        have UIO := UIN.below hBO
        have hb9 := alloc_bel wO (.cells #[.int .i64 0, .int .i64 0, .int .i64 0, .int .i64 0, .bool false, .slice none 0 0, .string ⟨#[]⟩, .slice none 0 0] 25)
        have UI9 := UIO.below hb9
        have hB9 := UI9.low
        have RB9 := UI9.rb
        rw [show ndV zN zH = .agg #[.int .i64 0, .int .i64 0, .int .i64 0, .int .i64 0, .bool false, .slice none 0 0, .string ⟨#[]⟩, .slice none 0 0] from rfl]
        clear UIO UI9 hb9 UIN hbN hBO HUL HST0 HUP HCV hS3
        go_upto_region 13 with fail
        generalize wO.alloc (.cells #[.int .i64 0, .int .i64 0, .int .i64 0, .int .i64 0, .bool false, .slice none 0 0, .string ⟨#[]⟩, .slice none 0 0] 25) = w9 at hB9 RB9 ⊢
        have R3 := NBw.store RB9 zN zH
        have hB3 : Below W.heap.size W (stB w9 (W.heap.size + 1) zN zH) := hB9.trans (stB_but.below (by omega) hB9.size)
        have z0 := RB9.2 0
        have z1 := RB9.2 1
        have z2 := RB9.2 2
        have z3 := RB9.2 3
        have z4 := RB9.2 4
        have z5 := RB9.2 5
        have z6 := RB9.2 6
        have z7 := RB9.2 7
        obtain ⟨f0, f1, f2, f3, f4, f5, f6, f7⟩ := RB9.1
        go_wp2
        obtain ⟨W6, HW6⟩ : ∃ W6, Hid (stB w9 (W.heap.size + 1) zN zH = W6) := ⟨_, rfl⟩
        rw [HW6.out] at R3 hB3
        have hw6 := HW6.out
        simp only [stB, zN, zH] at hw6
        simp only [List.length_nil] at hw6
        rw [hw6]
        obtain ⟨r0, r1, r2, r3, r4, r5, r6, r7⟩ := R3.1
        refine bodyPost_ret (v := .tuple #[ndV zN zH, .int .i64 11]) (by simp [results, Try.results48, go_sem, ndV, zN, zH, r0, r1, r2, r3, r4, r5, r6, r7]) rfl (rdE_err HEE.out hB3)
      | some y =>
        obtain ⟨⟨hy, rfl, hyN⟩, hBO⟩ := hE
        have HCY0 : Hid (cnt y = 1) := (cnt_mv HOY.out).trans (cnt_bare _)
        have HST : Hid (upN us gs xs names U (j + 1) = chgF (some y) (names.take (j + 1)) (.mk k m u g o at_ d ks)) := HST0.out
        obtain ⟨yk, ym, yu, yg, yo, ya, yd, ys⟩ := y
        have HCY : Hid (cntO (some (.mk yk ym yu yg yo ya yd ys)) = 1) := HCY0.out
        have UIO := UIN.below hBO
        have hbP := alloc_bel wO (.cells #[.int .i64 yk, .int .i64 ym, .int .i64 yu, .int .i64 yg, .bool yo, .slice hy.aa ya.length hy.ca, .string yd, .slice hy.ak ys.length hy.ck] 25)
        have UIP := UIO.below hbP
        have YBP := NBw.new wO yk ym yu yg yo ya yd ys hy
        have HYP : Hid (NdV (offS (wO.alloc (.cells #[.int .i64 yk, .int .i64 ym, .int .i64 yu, .int .i64 yg, .bool yo, .slice hy.aa ya.length hy.ca, .string yd, .slice hy.ak ys.length hy.ck] 25)).cell? (fun k => k == W.heap.size || k == W.heap.size + 1 || k == nb || S k)) (.mk yk ym yu yg yo ya yd ys) hy) := NdV.on hyN (mle_S hbP)
        have hszO : wL.heap.size ≤ wO.heap.size := Nat.le_trans (Nat.le_trans (Nat.le_succ _) (Nat.le_of_eq (World.size_alloc _ _).symm)) hBO.size
        have hszP : (wO.alloc (.cells #[.int .i64 yk, .int .i64 ym, .int .i64 yu, .int .i64 yg, .bool yo, .slice hy.aa ya.length hy.ca, .string yd, .slice hy.ak ys.length hy.ck] 25)).heap.size = wO.heap.size + 1 := World.size_alloc _ _
        rw [show ndV (.mk yk ym yu yg yo ya yd ys) hy = .agg #[.int .i64 yk, .int .i64 ym, .int .i64 yu, .int .i64 yg, .bool yo, .slice hy.aa ya.length hy.ca, .string yd, .slice hy.ak ys.length hy.ck] from rfl]
        clear HST0 HCY0 UIO UIN hbN hBO HUL hyN hbP HOY
        go_upto_region 15 with fail
        have HUP2 : Hid (UpI W (wO.alloc (.cells #[.int .i64 yk, .int .i64 ym, .int .i64 yu, .int .i64 yg, .bool yo, .slice hy.aa ya.length hy.ca, .string yd, .slice hy.ak ys.length hy.ck] 25)) nb S ua ga us.length gs.length uc gc (.mk k m u g o at_ d ks) hV) := UIP
        clear UIP
        generalize wO.alloc (.cells #[.int .i64 yk, .int .i64 ym, .int .i64 yu, .int .i64 yg, .bool yo, .slice hy.aa ya.length hy.ca, .string yd, .slice hy.ak ys.length hy.ck] 25) = wP at HUP2 YBP HYP hszP ⊢
        have hbx : nb < wO.heap.size := Nat.lt_of_lt_of_le hnbL hszO
        generalize wO.heap.size = bx at YBP hszP hszO hbx ⊢
        obtain ⟨R, HRR⟩ : ∃ R, Hid (chgF (some (.mk yk ym yu yg yo ya yd ys)) (names.take (j + 1)) (.mk k m u g o at_ d ks) = R) := ⟨_, rfl⟩
        obtain ⟨Z, HYN⟩ : ∃ Z, Hid (xNd R = Z) := ⟨_, rfl⟩
        obtain ⟨FN, HFN⟩ : ∃ F, Hid (xErr R = F) := ⟨_, rfl⟩
        obtain ⟨zk, zm, zu, zg, zo, za, zd, zs⟩ := Z
        have HSTEP : Hid (upN us gs xs names U (j + 1) = chgF (some (.mk yk ym yu yg yo ya yd ys)) (names.take (j + 1)) (.mk k m u g o at_ d ks)) := HST
        have UIP := HUP2.out
        have T4 : wP.cell? ⟨nb, 0, none⟩ = some (.int .i64 k) ∧ wP.cell? ⟨nb, 1, none⟩ = some (.int .i64 m) ∧ wP.cell? ⟨nb, 2, none⟩ = some (.int .i64 u) ∧ wP.cell? ⟨nb, 3, none⟩ = some (.int .i64 g) ∧ wP.cell? ⟨nb, 4, none⟩ = some (.bool o) ∧ wP.cell? ⟨nb, 5, none⟩ = some (.slice hV.aa at_.length hV.ca) ∧ wP.cell? ⟨nb, 6, none⟩ = some (.string d) ∧ wP.cell? ⟨nb, 7, none⟩ = some (.slice hV.ak ks.length hV.ck) ∧ wP.cell? ⟨bx, 0, none⟩ = some (.int .i64 yk) ∧ wP.cell? ⟨bx, 1, none⟩ = some (.int .i64 ym) ∧ wP.cell? ⟨bx, 2, none⟩ = some (.int .i64 yu) ∧ wP.cell? ⟨bx, 3, none⟩ = some (.int .i64 yg) ∧ wP.cell? ⟨bx, 4, none⟩ = some (.bool yo) ∧ wP.cell? ⟨bx, 5, none⟩ = some (.slice hy.aa ya.length hy.ca) ∧ wP.cell? ⟨bx, 6, none⟩ = some (.string yd) ∧ wP.cell? ⟨bx, 7, none⟩ = some (.slice hy.ak ys.length hy.ck) := by
          obtain ⟨e0, e1, e2, e3, e4, e5, e6, e7⟩ := UIP.ub.1
          obtain ⟨d0, d1, d2, d3, d4, d5, d6, d7⟩ := YBP.1
          exact ⟨e0, e1, e2, e3, e4, e5, e6, e7, d0, d1, d2, d3, d4, d5, d6, d7⟩
        have HTB : Hid (∀ w' : World, Below wP.heap.size wP w' → w'.cell? ⟨nb, 0, none⟩ = some (.int .i64 k) ∧ w'.cell? ⟨nb, 1, none⟩ = some (.int .i64 m) ∧ w'.cell? ⟨nb, 2, none⟩ = some (.int .i64 u) ∧ w'.cell? ⟨nb, 3, none⟩ = some (.int .i64 g) ∧ w'.cell? ⟨nb, 4, none⟩ = some (.bool o) ∧ w'.cell? ⟨nb, 5, none⟩ = some (.slice hV.aa at_.length hV.ca) ∧ w'.cell? ⟨nb, 6, none⟩ = some (.string d) ∧ w'.cell? ⟨nb, 7, none⟩ = some (.slice hV.ak ks.length hV.ck) ∧ w'.cell? ⟨bx, 0, none⟩ = some (.int .i64 yk) ∧ w'.cell? ⟨bx, 1, none⟩ = some (.int .i64 ym) ∧ w'.cell? ⟨bx, 2, none⟩ = some (.int .i64 yu) ∧ w'.cell? ⟨bx, 3, none⟩ = some (.int .i64 yg) ∧ w'.cell? ⟨bx, 4, none⟩ = some (.bool yo) ∧ w'.cell? ⟨bx, 5, none⟩ = some (.slice hy.aa ya.length hy.ca) ∧ w'.cell? ⟨bx, 6, none⟩ = some (.string yd) ∧ w'.cell? ⟨bx, 7, none⟩ = some (.slice hy.ak ys.length hy.ck)) := fun w' hb => ⟨mle_below hb _ _ T4.1, mle_below hb _ _ T4.2.1, mle_below hb _ _ T4.2.2.1, mle_below hb _ _ T4.2.2.2.1, mle_below hb _ _ T4.2.2.2.2.1, mle_below hb _ _ T4.2.2.2.2.2.1, mle_below hb _ _ T4.2.2.2.2.2.2.1, mle_below hb _ _ T4.2.2.2.2.2.2.2.1, mle_below hb _ _ T4.2.2.2.2.2.2.2.2.1, mle_below hb _ _ T4.2.2.2.2.2.2.2.2.2.1, mle_below hb _ _ T4.2.2.2.2.2.2.2.2.2.2.1, mle_below hb _ _ T4.2.2.2.2.2.2.2.2.2.2.2.1, mle_below hb _ _ T4.2.2.2.2.2.2.2.2.2.2.2.2.1, mle_below hb _ _ T4.2.2.2.2.2.2.2.2.2.2.2.2.2.1, mle_below hb _ _ T4.2.2.2.2.2.2.2.2.2.2.2.2.2.2.1, mle_below hb _ _ T4.2.2.2.2.2.2.2.2.2.2.2.2.2.2.2⟩
        have T5 : wP.drew.cell? ⟨nb, 0, none⟩ = some (.int .i64 k) ∧ wP.drew.cell? ⟨nb, 1, none⟩ = some (.int .i64 m) ∧ wP.drew.cell? ⟨nb, 2, none⟩ = some (.int .i64 u) ∧ wP.drew.cell? ⟨nb, 3, none⟩ = some (.int .i64 g) ∧ wP.drew.cell? ⟨nb, 4, none⟩ = some (.bool o) ∧ wP.drew.cell? ⟨nb, 5, none⟩ = some (.slice hV.aa at_.length hV.ca) ∧ wP.drew.cell? ⟨nb, 6, none⟩ = some (.string d) ∧ wP.drew.cell? ⟨nb, 7, none⟩ = some (.slice hV.ak ks.length hV.ck) ∧ wP.drew.cell? ⟨bx, 0, none⟩ = some (.int .i64 yk) ∧ wP.drew.cell? ⟨bx, 1, none⟩ = some (.int .i64 ym) ∧ wP.drew.cell? ⟨bx, 2, none⟩ = some (.int .i64 yu) ∧ wP.drew.cell? ⟨bx, 3, none⟩ = some (.int .i64 yg) ∧ wP.drew.cell? ⟨bx, 4, none⟩ = some (.bool yo) ∧ wP.drew.cell? ⟨bx, 5, none⟩ = some (.slice hy.aa ya.length hy.ca) ∧ wP.drew.cell? ⟨bx, 6, none⟩ = some (.string yd) ∧ wP.drew.cell? ⟨bx, 7, none⟩ = some (.slice hy.ak ys.length hy.ck) := HTB.out _ (Below.refl _ wP).drew
        have T5a : (wP.alloc (.cells #[.int .i64 0, .int .i64 0, .int .i64 0, .int .i64 0, .bool false, .slice none 0 0, .string ⟨#[]⟩, .slice none 0 0] 25)).drew.cell? ⟨nb, 0, none⟩ = some (.int .i64 k) ∧ (wP.alloc (.cells #[.int .i64 0, .int .i64 0, .int .i64 0, .int .i64 0, .bool false, .slice none 0 0, .string ⟨#[]⟩, .slice none 0 0] 25)).drew.cell? ⟨nb, 1, none⟩ = some (.int .i64 m) ∧ (wP.alloc (.cells #[.int .i64 0, .int .i64 0, .int .i64 0, .int .i64 0, .bool false, .slice none 0 0, .string ⟨#[]⟩, .slice none 0 0] 25)).drew.cell? ⟨nb, 2, none⟩ = some (.int .i64 u) ∧ (wP.alloc (.cells #[.int .i64 0, .int .i64 0, .int .i64 0, .int .i64 0, .bool false, .slice none 0 0, .string ⟨#[]⟩, .slice none 0 0] 25)).drew.cell? ⟨nb, 3, none⟩ = some (.int .i64 g) ∧ (wP.alloc (.cells #[.int .i64 0, .int .i64 0, .int .i64 0, .int .i64 0, .bool false, .slice none 0 0, .string ⟨#[]⟩, .slice none 0 0] 25)).drew.cell? ⟨nb, 4, none⟩ = some (.bool o) ∧ (wP.alloc (.cells #[.int .i64 0, .int .i64 0, .int .i64 0, .int .i64 0, .bool false, .slice none 0 0, .string ⟨#[]⟩, .slice none 0 0] 25)).drew.cell? ⟨nb, 5, none⟩ = some (.slice hV.aa at_.length hV.ca) ∧ (wP.alloc (.cells #[.int .i64 0, .int .i64 0, .int .i64 0, .int .i64 0, .bool false, .slice none 0 0, .string ⟨#[]⟩, .slice none 0 0] 25)).drew.cell? ⟨nb, 6, none⟩ = some (.string d) ∧ (wP.alloc (.cells #[.int .i64 0, .int .i64 0, .int .i64 0, .int .i64 0, .bool false, .slice none 0 0, .string ⟨#[]⟩, .slice none 0 0] 25)).drew.cell? ⟨nb, 7, none⟩ = some (.slice hV.ak ks.length hV.ck) ∧ (wP.alloc (.cells #[.int .i64 0, .int .i64 0, .int .i64 0, .int .i64 0, .bool false, .slice none 0 0, .string ⟨#[]⟩, .slice none 0 0] 25)).drew.cell? ⟨bx, 0, none⟩ = some (.int .i64 yk) ∧ (wP.alloc (.cells #[.int .i64 0, .int .i64 0, .int .i64 0, .int .i64 0, .bool false, .slice none 0 0, .string ⟨#[]⟩, .slice none 0 0] 25)).drew.cell? ⟨bx, 1, none⟩ = some (.int .i64 ym) ∧ (wP.alloc (.cells #[.int .i64 0, .int .i64 0, .int .i64 0, .int .i64 0, .bool false, .slice none 0 0, .string ⟨#[]⟩, .slice none 0 0] 25)).drew.cell? ⟨bx, 2, none⟩ = some (.int .i64 yu) ∧ (wP.alloc (.cells #[.int .i64 0, .int .i64 0, .int .i64 0, .int .i64 0, .bool false, .slice none 0 0, .string ⟨#[]⟩, .slice none 0 0] 25)).drew.cell? ⟨bx, 3, none⟩ = some (.int .i64 yg) ∧ (wP.alloc (.cells #[.int .i64 0, .int .i64 0, .int .i64 0, .int .i64 0, .bool false, .slice none 0 0, .string ⟨#[]⟩, .slice none 0 0] 25)).drew.cell? ⟨bx, 4, none⟩ = some (.bool yo) ∧ (wP.alloc (.cells #[.int .i64 0, .int .i64 0, .int .i64 0, .int .i64 0, .bool false, .slice none 0 0, .string ⟨#[]⟩, .slice none 0 0] 25)).drew.cell? ⟨bx, 5, none⟩ = some (.slice hy.aa ya.length hy.ca) ∧ (wP.alloc (.cells #[.int .i64 0, .int .i64 0, .int .i64 0, .int .i64 0, .bool false, .slice none 0 0, .string ⟨#[]⟩, .slice none 0 0] 25)).drew.cell? ⟨bx, 6, none⟩ = some (.string yd) ∧ (wP.alloc (.cells #[.int .i64 0, .int .i64 0, .int .i64 0, .int .i64 0, .bool false, .slice none 0 0, .string ⟨#[]⟩, .slice none 0 0] 25)).drew.cell? ⟨bx, 7, none⟩ = some (.slice hy.ak ys.length hy.ck) := HTB.out _ (alloc_bel wP _).drew
        have HPUT : Hid (∀ (w' : World) (S' : Nat → Bool), (∀ q, S' q = true → q < w'.heap.size) → NdV (offS w'.cell? S') (.mk k m u g o at_ d ks) hV → NdV (offS w'.cell? S') (.mk yk ym yu yg yo ya yd ys) hy → Below W.heap.size W w' → Calls Try.prog 92 #[.agg #[.int .i64 k, .int .i64 m, .int .i64 u, .int .i64 g, .bool o, .slice hV.aa at_.length hV.ca, .string d, .slice hV.ak ks.length hV.ck], .slice an (j + 1) capn, .agg #[.int .i64 yk, .int .i64 ym, .int .i64 yu, .int .i64 yg, .bool yo, .slice hy.aa ya.length hy.ca, .string yd, .slice hy.ak ys.length hy.ck], .bool false] w' fun e W' => (∃ h', e = .returned (.tuple #[.agg #[.int .i64 zk, .int .i64 zm, .int .i64 zu, .int .i64 zg, .bool zo, .slice h'.aa za.length h'.ca, .string zd, .slice h'.ak zs.length h'.ck], .int .i64 FN]) ∧ NdV (offS W'.cell? S') (.mk zk zm zu zg zo za zd zs) h') ∧ Below w'.heap.size w' W') := by
          intro w' S' hS' h1 h2 hb
          have e := rput_any false (names.take (j + 1)) w' S' hS' _ _ h1 h2 an capn ((Strs.take HS.out _).on (mle_below hb)) (by rw [List.length_take, HN.out]; omega) (by rw [List.length_take, HN.out]; omega) (by have := HCV.out; omega) (fun s hs => HNZ0.out s (List.mem_of_mem_take hs))
          rw [show (names.take (j + 1)).length = j + 1 by rw [List.length_take, HN.out]; omega] at e
          rw [show cutO false (.mk yk ym yu yg yo ya yd ys) = some (.mk yk ym yu yg yo ya yd ys) from rfl, HRR.out] at e
          unfold RdE at e
          rw [HYN.out, HFN.out] at e
          exact e
        have HC1 : Hid (Calls Try.prog 92 #[.agg #[.int .i64 k, .int .i64 m, .int .i64 u, .int .i64 g, .bool o, .slice hV.aa at_.length hV.ca, .string d, .slice hV.ak ks.length hV.ck], .slice an (j + 1) capn, .agg #[.int .i64 yk, .int .i64 ym, .int .i64 yu, .int .i64 yg, .bool yo, .slice hy.aa ya.length hy.ca, .string yd, .slice hy.ak ys.length hy.ck], .bool false] wP.drew (fun e W' => (∃ h', e = .returned (.tuple #[.agg #[.int .i64 zk, .int .i64 zm, .int .i64 zu, .int .i64 zg, .bool zo, .slice h'.aa za.length h'.ca, .string zd, .slice h'.ak zs.length h'.ck], .int .i64 FN]) ∧ NdV (offS W'.cell? (fun k => k == W.heap.size || k == W.heap.size + 1 || k == nb || S k)) (.mk zk zm zu zg zo za zd zs) h') ∧ Below wP.drew.heap.size wP.drew W')) := HPUT.out wP.drew (fun k => k == W.heap.size || k == W.heap.size + 1 || k == nb || S k) (hS3 _ (by show _ ≤ wP.heap.size; omega)) UIP.hn HYP.out UIP.low.drew
        have hlowA : Below W.heap.size W (wP.alloc (.cells #[.int .i64 0, .int .i64 0, .int .i64 0, .int .i64 0, .bool false, .slice none 0 0, .string ⟨#[]⟩, .slice none 0 0] 25)).drew := (UIP.low.trans ((alloc_bel wP (.cells #[.int .i64 0, .int .i64 0, .int .i64 0, .int .i64 0, .bool false, .slice none 0 0, .string ⟨#[]⟩, .slice none 0 0] 25)).mono UIP.low.size)).drew
        have hmA : MLe (offS wP.cell? (fun k => k == W.heap.size || k == W.heap.size + 1 || k == nb || S k)) (offS (wP.alloc (.cells #[.int .i64 0, .int .i64 0, .int .i64 0, .int .i64 0, .bool false, .slice none 0 0, .string ⟨#[]⟩, .slice none 0 0] 25)).drew.cell? (fun k => k == wP.heap.size || (fun k => k == W.heap.size || k == W.heap.size + 1 || k == nb || S k) k)) := mle_step fun q hq hs => ⟨Bool.or_eq_false_iff.2 ⟨by simp; omega, hs⟩, (alloc_bel wP (.cells #[.int .i64 0, .int .i64 0, .int .i64 0, .int .i64 0, .bool false, .slice none 0 0, .string ⟨#[]⟩, .slice none 0 0] 25)).drew.block q hq⟩
        have hszA : (wP.alloc (.cells #[.int .i64 0, .int .i64 0, .int .i64 0, .int .i64 0, .bool false, .slice none 0 0, .string ⟨#[]⟩, .slice none 0 0] 25)).drew.heap.size = wP.heap.size + 1 := World.size_alloc _ _
        have HC2 : Hid (Calls Try.prog 92 #[.agg #[.int .i64 k, .int .i64 m, .int .i64 u, .int .i64 g, .bool o, .slice hV.aa at_.length hV.ca, .string d, .slice hV.ak ks.length hV.ck], .slice an (j + 1) capn, .agg #[.int .i64 yk, .int .i64 ym, .int .i64 yu, .int .i64 yg, .bool yo, .slice hy.aa ya.length hy.ca, .string yd, .slice hy.ak ys.length hy.ck], .bool false] (wP.alloc (.cells #[.int .i64 0, .int .i64 0, .int .i64 0, .int .i64 0, .bool false, .slice none 0 0, .string ⟨#[]⟩, .slice none 0 0] 25)).drew (fun e W' => (∃ h', e = .returned (.tuple #[.agg #[.int .i64 zk, .int .i64 zm, .int .i64 zu, .int .i64 zg, .bool zo, .slice h'.aa za.length h'.ca, .string zd, .slice h'.ak zs.length h'.ck], .int .i64 FN]) ∧ NdV (offS W'.cell? (fun k => k == wP.heap.size || (fun k => k == W.heap.size || k == W.heap.size + 1 || k == nb || S k) k)) (.mk zk zm zu zg zo za zd zs) h') ∧ Below (wP.alloc (.cells #[.int .i64 0, .int .i64 0, .int .i64 0, .int .i64 0, .bool false, .slice none 0 0, .string ⟨#[]⟩, .slice none 0 0] 25)).drew.heap.size (wP.alloc (.cells #[.int .i64 0, .int .i64 0, .int .i64 0, .int .i64 0, .bool false, .slice none 0 0, .string ⟨#[]⟩, .slice none 0 0] 25)).drew W')) := HPUT.out (wP.alloc (.cells #[.int .i64 0, .int .i64 0, .int .i64 0, .int .i64 0, .bool false, .slice none 0 0, .string ⟨#[]⟩, .slice none 0 0] 25)).drew (fun k => k == wP.heap.size || (fun k => k == W.heap.size || k == W.heap.size + 1 || k == nb || S k) k) (fun q hq => by
          rw [Bool.or_eq_true] at hq
          rcases hq with e | e
          · simp at e; omega
          · have := hS3 wP (by omega) q e; omega) (UIP.hn.on hmA) (HYP.out.on hmA) hlowA
        have ZQA : NBw (wP.alloc (.cells #[.int .i64 0, .int .i64 0, .int .i64 0, .int .i64 0, .bool false, .slice none 0 0, .string ⟨#[]⟩, .slice none 0 0] 25)).drew wP.heap.size zN zH := NBw.zero wP
        have HK1 : Hid (∀ (w5 : World) (h' : Hd), Below wP.drew.heap.size wP.drew w5 → NdV (offS w5.cell? (fun k => k == W.heap.size || k == W.heap.size + 1 || k == nb || S k)) (.mk zk zm zu zg zo za zd zs) h' → (w5.cell? ⟨nb, 0, none⟩ = some (.int .i64 k) ∧ w5.cell? ⟨nb, 1, none⟩ = some (.int .i64 m) ∧ w5.cell? ⟨nb, 2, none⟩ = some (.int .i64 u) ∧ w5.cell? ⟨nb, 3, none⟩ = some (.int .i64 g) ∧ w5.cell? ⟨nb, 4, none⟩ = some (.bool o) ∧ w5.cell? ⟨nb, 5, none⟩ = some (.slice hV.aa at_.length hV.ca) ∧ w5.cell? ⟨nb, 6, none⟩ = some (.string d) ∧ w5.cell? ⟨nb, 7, none⟩ = some (.slice hV.ak ks.length hV.ck) ∧ w5.cell? ⟨bx, 0, none⟩ = some (.int .i64 yk) ∧ w5.cell? ⟨bx, 1, none⟩ = some (.int .i64 ym) ∧ w5.cell? ⟨bx, 2, none⟩ = some (.int .i64 yu) ∧ w5.cell? ⟨bx, 3, none⟩ = some (.int .i64 yg) ∧ w5.cell? ⟨bx, 4, none⟩ = some (.bool yo) ∧ w5.cell? ⟨bx, 5, none⟩ = some (.slice hy.aa ya.length hy.ca) ∧ w5.cell? ⟨bx, 6, none⟩ = some (.string yd) ∧ w5.cell? ⟨bx, 7, none⟩ = some (.slice hy.ak ys.length hy.ck)) ∧ ((w5.alloc (.cells #[.int .i64 0, .int .i64 0, .int .i64 0, .int .i64 0, .bool false, .slice none 0 0, .string ⟨#[]⟩, .slice none 0 0] 25)).cell? ⟨nb, 0, none⟩ = some (.int .i64 k) ∧ (w5.alloc (.cells #[.int .i64 0, .int .i64 0, .int .i64 0, .int .i64 0, .bool false, .slice none 0 0, .string ⟨#[]⟩, .slice none 0 0] 25)).cell? ⟨nb, 1, none⟩ = some (.int .i64 m) ∧ (w5.alloc (.cells #[.int .i64 0, .int .i64 0, .int .i64 0, .int .i64 0, .bool false, .slice none 0 0, .string ⟨#[]⟩, .slice none 0 0] 25)).cell? ⟨nb, 2, none⟩ = some (.int .i64 u) ∧ (w5.alloc (.cells #[.int .i64 0, .int .i64 0, .int .i64 0, .int .i64 0, .bool false, .slice none 0 0, .string ⟨#[]⟩, .slice none 0 0] 25)).cell? ⟨nb, 3, none⟩ = some (.int .i64 g) ∧ (w5.alloc (.cells #[.int .i64 0, .int .i64 0, .int .i64 0, .int .i64 0, .bool false, .slice none 0 0, .string ⟨#[]⟩, .slice none 0 0] 25)).cell? ⟨nb, 4, none⟩ = some (.bool o) ∧ (w5.alloc (.cells #[.int .i64 0, .int .i64 0, .int .i64 0, .int .i64 0, .bool false, .slice none 0 0, .string ⟨#[]⟩, .slice none 0 0] 25)).cell? ⟨nb, 5, none⟩ = some (.slice hV.aa at_.length hV.ca) ∧ (w5.alloc (.cells #[.int .i64 0, .int .i64 0, .int .i64 0, .int .i64 0, .bool false, .slice none 0 0, .string ⟨#[]⟩, .slice none 0 0] 25)).cell? ⟨nb, 6, none⟩ = some (.string d) ∧ (w5.alloc (.cells #[.int .i64 0, .int .i64 0, .int .i64 0, .int .i64 0, .bool false, .slice none 0 0, .string ⟨#[]⟩, .slice none 0 0] 25)).cell? ⟨nb, 7, none⟩ = some (.slice hV.ak ks.length hV.ck) ∧ (w5.alloc (.cells #[.int .i64 0, .int .i64 0, .int .i64 0, .int .i64 0, .bool false, .slice none 0 0, .string ⟨#[]⟩, .slice none 0 0] 25)).cell? ⟨bx, 0, none⟩ = some (.int .i64 yk) ∧ (w5.alloc (.cells #[.int .i64 0, .int .i64 0, .int .i64 0, .int .i64 0, .bool false, .slice none 0 0, .string ⟨#[]⟩, .slice none 0 0] 25)).cell? ⟨bx, 1, none⟩ = some (.int .i64 ym) ∧ (w5.alloc (.cells #[.int .i64 0, .int .i64 0, .int .i64 0, .int .i64 0, .bool false, .slice none 0 0, .string ⟨#[]⟩, .slice none 0 0] 25)).cell? ⟨bx, 2, none⟩ = some (.int .i64 yu) ∧ (w5.alloc (.cells #[.int .i64 0, .int .i64 0, .int .i64 0, .int .i64 0, .bool false, .slice none 0 0, .string ⟨#[]⟩, .slice none 0 0] 25)).cell? ⟨bx, 3, none⟩ = some (.int .i64 yg) ∧ (w5.alloc (.cells #[.int .i64 0, .int .i64 0, .int .i64 0, .int .i64 0, .bool false, .slice none 0 0, .string ⟨#[]⟩, .slice none 0 0] 25)).cell? ⟨bx, 4, none⟩ = some (.bool yo) ∧ (w5.alloc (.cells #[.int .i64 0, .int .i64 0, .int .i64 0, .int .i64 0, .bool false, .slice none 0 0, .string ⟨#[]⟩, .slice none 0 0] 25)).cell? ⟨bx, 5, none⟩ = some (.slice hy.aa ya.length hy.ca) ∧ (w5.alloc (.cells #[.int .i64 0, .int .i64 0, .int .i64 0, .int .i64 0, .bool false, .slice none 0 0, .string ⟨#[]⟩, .slice none 0 0] 25)).cell? ⟨bx, 6, none⟩ = some (.string yd) ∧ (w5.alloc (.cells #[.int .i64 0, .int .i64 0, .int .i64 0, .int .i64 0, .bool false, .slice none 0 0, .string ⟨#[]⟩, .slice none 0 0] 25)).cell? ⟨bx, 7, none⟩ = some (.slice hy.ak ys.length hy.ck)) ∧ ((w5.alloc (.cells #[.int .i64 zk, .int .i64 zm, .int .i64 zu, .int .i64 zg, .bool zo, .slice h'.aa za.length h'.ca, .string zd, .slice h'.ak zs.length h'.ck] 25)).cell? ⟨nb, 0, none⟩ = some (.int .i64 k) ∧ (w5.alloc (.cells #[.int .i64 zk, .int .i64 zm, .int .i64 zu, .int .i64 zg, .bool zo, .slice h'.aa za.length h'.ca, .string zd, .slice h'.ak zs.length h'.ck] 25)).cell? ⟨nb, 1, none⟩ = some (.int .i64 m) ∧ (w5.alloc (.cells #[.int .i64 zk, .int .i64 zm, .int .i64 zu, .int .i64 zg, .bool zo, .slice h'.aa za.length h'.ca, .string zd, .slice h'.ak zs.length h'.ck] 25)).cell? ⟨nb, 2, none⟩ = some (.int .i64 u) ∧ (w5.alloc (.cells #[.int .i64 zk, .int .i64 zm, .int .i64 zu, .int .i64 zg, .bool zo, .slice h'.aa za.length h'.ca, .string zd, .slice h'.ak zs.length h'.ck] 25)).cell? ⟨nb, 3, none⟩ = some (.int .i64 g) ∧ (w5.alloc (.cells #[.int .i64 zk, .int .i64 zm, .int .i64 zu, .int .i64 zg, .bool zo, .slice h'.aa za.length h'.ca, .string zd, .slice h'.ak zs.length h'.ck] 25)).cell? ⟨nb, 4, none⟩ = some (.bool o) ∧ (w5.alloc (.cells #[.int .i64 zk, .int .i64 zm, .int .i64 zu, .int .i64 zg, .bool zo, .slice h'.aa za.length h'.ca, .string zd, .slice h'.ak zs.length h'.ck] 25)).cell? ⟨nb, 5, none⟩ = some (.slice hV.aa at_.length hV.ca) ∧ (w5.alloc (.cells #[.int .i64 zk, .int .i64 zm, .int .i64 zu, .int .i64 zg, .bool zo, .slice h'.aa za.length h'.ca, .string zd, .slice h'.ak zs.length h'.ck] 25)).cell? ⟨nb, 6, none⟩ = some (.string d) ∧ (w5.alloc (.cells #[.int .i64 zk, .int .i64 zm, .int .i64 zu, .int .i64 zg, .bool zo, .slice h'.aa za.length h'.ca, .string zd, .slice h'.ak zs.length h'.ck] 25)).cell? ⟨nb, 7, none⟩ = some (.slice hV.ak ks.length hV.ck) ∧ (w5.alloc (.cells #[.int .i64 zk, .int .i64 zm, .int .i64 zu, .int .i64 zg, .bool zo, .slice h'.aa za.length h'.ca, .string zd, .slice h'.ak zs.length h'.ck] 25)).cell? ⟨bx, 0, none⟩ = some (.int .i64 yk) ∧ (w5.alloc (.cells #[.int .i64 zk, .int .i64 zm, .int .i64 zu, .int .i64 zg, .bool zo, .slice h'.aa za.length h'.ca, .string zd, .slice h'.ak zs.length h'.ck] 25)).cell? ⟨bx, 1, none⟩ = some (.int .i64 ym) ∧ (w5.alloc (.cells #[.int .i64 zk, .int .i64 zm, .int .i64 zu, .int .i64 zg, .bool zo, .slice h'.aa za.length h'.ca, .string zd, .slice h'.ak zs.length h'.ck] 25)).cell? ⟨bx, 2, none⟩ = some (.int .i64 yu) ∧ (w5.alloc (.cells #[.int .i64 zk, .int .i64 zm, .int .i64 zu, .int .i64 zg, .bool zo, .slice h'.aa za.length h'.ca, .string zd, .slice h'.ak zs.length h'.ck] 25)).cell? ⟨bx, 3, none⟩ = some (.int .i64 yg) ∧ (w5.alloc (.cells #[.int .i64 zk, .int .i64 zm, .int .i64 zu, .int .i64 zg, .bool zo, .slice h'.aa za.length h'.ca, .string zd, .slice h'.ak zs.length h'.ck] 25)).cell? ⟨bx, 4, none⟩ = some (.bool yo) ∧ (w5.alloc (.cells #[.int .i64 zk, .int .i64 zm, .int .i64 zu, .int .i64 zg, .bool zo, .slice h'.aa za.length h'.ca, .string zd, .slice h'.ak zs.length h'.ck] 25)).cell? ⟨bx, 5, none⟩ = some (.slice hy.aa ya.length hy.ca) ∧ (w5.alloc (.cells #[.int .i64 zk, .int .i64 zm, .int .i64 zu, .int .i64 zg, .bool zo, .slice h'.aa za.length h'.ca, .string zd, .slice h'.ak zs.length h'.ck] 25)).cell? ⟨bx, 6, none⟩ = some (.string yd) ∧ (w5.alloc (.cells #[.int .i64 zk, .int .i64 zm, .int .i64 zu, .int .i64 zg, .bool zo, .slice h'.aa za.length h'.ca, .string zd, .slice h'.ak zs.length h'.ck] 25)).cell? ⟨bx, 7, none⟩ = some (.slice hy.ak ys.length hy.ck)) ∧ NBw (w5.alloc (.cells #[.int .i64 zk, .int .i64 zm, .int .i64 zu, .int .i64 zg, .bool zo, .slice h'.aa za.length h'.ca, .string zd, .slice h'.ak zs.length h'.ck] 25)) w5.heap.size (.mk zk zm zu zg zo za zd zs) h' ∧ UpI W (w5.alloc (.cells #[.int .i64 zk, .int .i64 zm, .int .i64 zu, .int .i64 zg, .bool zo, .slice h'.aa za.length h'.ca, .string zd, .slice h'.ak zs.length h'.ck] 25)) nb S ua ga us.length gs.length uc gc (.mk k m u g o at_ d ks) hV ∧ NdV (offS (w5.alloc (.cells #[.int .i64 zk, .int .i64 zm, .int .i64 zu, .int .i64 zg, .bool zo, .slice h'.aa za.length h'.ca, .string zd, .slice h'.ak zs.length h'.ck] 25)).cell? (fun k => k == W.heap.size || k == W.heap.size + 1 || k == nb || S k)) (.mk zk zm zu zg zo za zd zs) h' ∧ nb < w5.heap.size) := by
          intro w5 h' b5 hn5
          have b45 : Below wP.heap.size wP w5 := ((Below.refl _ wP).drew).trans b5
          have ba := b45.trans ((alloc_bel w5 (.cells #[.int .i64 zk, .int .i64 zm, .int .i64 zu, .int .i64 zg, .bool zo, .slice h'.aa za.length h'.ca, .string zd, .slice h'.ak zs.length h'.ck] 25)).mono b45.size)
          exact ⟨HTB.out w5 b45, HTB.out _ (b45.trans ((alloc_bel w5 (.cells #[.int .i64 0, .int .i64 0, .int .i64 0, .int .i64 0, .bool false, .slice none 0 0, .string ⟨#[]⟩, .slice none 0 0] 25)).mono b45.size)), HTB.out _ ba, NBw.new w5 zk zm zu zg zo za zd zs h', HUP2.out.below ba, hn5.on (mle_S (alloc_bel w5 (.cells #[.int .i64 zk, .int .i64 zm, .int .i64 zu, .int .i64 zg, .bool zo, .slice h'.aa za.length h'.ca, .string zd, .slice h'.ak zs.length h'.ck] 25))), Nat.lt_of_lt_of_le (by omega) b45.size⟩
        have HK2 : Hid (∀ (w5 : World) (h' : Hd), Below (wP.alloc (.cells #[.int .i64 0, .int .i64 0, .int .i64 0, .int .i64 0, .bool false, .slice none 0 0, .string ⟨#[]⟩, .slice none 0 0] 25)).drew.heap.size (wP.alloc (.cells #[.int .i64 0, .int .i64 0, .int .i64 0, .int .i64 0, .bool false, .slice none 0 0, .string ⟨#[]⟩, .slice none 0 0] 25)).drew w5 → NdV (offS w5.cell? (fun k => k == wP.heap.size || (fun k => k == W.heap.size || k == W.heap.size + 1 || k == nb || S k) k)) (.mk zk zm zu zg zo za zd zs) h' → (w5.cell? ⟨nb, 0, none⟩ = some (.int .i64 k) ∧ w5.cell? ⟨nb, 1, none⟩ = some (.int .i64 m) ∧ w5.cell? ⟨nb, 2, none⟩ = some (.int .i64 u) ∧ w5.cell? ⟨nb, 3, none⟩ = some (.int .i64 g) ∧ w5.cell? ⟨nb, 4, none⟩ = some (.bool o) ∧ w5.cell? ⟨nb, 5, none⟩ = some (.slice hV.aa at_.length hV.ca) ∧ w5.cell? ⟨nb, 6, none⟩ = some (.string d) ∧ w5.cell? ⟨nb, 7, none⟩ = some (.slice hV.ak ks.length hV.ck) ∧ w5.cell? ⟨bx, 0, none⟩ = some (.int .i64 yk) ∧ w5.cell? ⟨bx, 1, none⟩ = some (.int .i64 ym) ∧ w5.cell? ⟨bx, 2, none⟩ = some (.int .i64 yu) ∧ w5.cell? ⟨bx, 3, none⟩ = some (.int .i64 yg) ∧ w5.cell? ⟨bx, 4, none⟩ = some (.bool yo) ∧ w5.cell? ⟨bx, 5, none⟩ = some (.slice hy.aa ya.length hy.ca) ∧ w5.cell? ⟨bx, 6, none⟩ = some (.string yd) ∧ w5.cell? ⟨bx, 7, none⟩ = some (.slice hy.ak ys.length hy.ck)) ∧ (((((((((w5.setCell ⟨wP.heap.size, 0, none⟩ (.int .i64 zk)).setCell ⟨wP.heap.size, 1, none⟩ (.int .i64 zm)).setCell ⟨wP.heap.size, 2, none⟩ (.int .i64 zu)).setCell ⟨wP.heap.size, 3, none⟩ (.int .i64 zg)).setCell ⟨wP.heap.size, 4, none⟩ (.bool zo)).setCell ⟨wP.heap.size, 5, none⟩ (.slice h'.aa za.length h'.ca)).setCell ⟨wP.heap.size, 6, none⟩ (.string zd)).setCell ⟨wP.heap.size, 7, none⟩ (.slice h'.ak zs.length h'.ck)).cell? ⟨nb, 0, none⟩ = some (.int .i64 k) ∧ ((((((((w5.setCell ⟨wP.heap.size, 0, none⟩ (.int .i64 zk)).setCell ⟨wP.heap.size, 1, none⟩ (.int .i64 zm)).setCell ⟨wP.heap.size, 2, none⟩ (.int .i64 zu)).setCell ⟨wP.heap.size, 3, none⟩ (.int .i64 zg)).setCell ⟨wP.heap.size, 4, none⟩ (.bool zo)).setCell ⟨wP.heap.size, 5, none⟩ (.slice h'.aa za.length h'.ca)).setCell ⟨wP.heap.size, 6, none⟩ (.string zd)).setCell ⟨wP.heap.size, 7, none⟩ (.slice h'.ak zs.length h'.ck)).cell? ⟨nb, 1, none⟩ = some (.int .i64 m) ∧ ((((((((w5.setCell ⟨wP.heap.size, 0, none⟩ (.int .i64 zk)).setCell ⟨wP.heap.size, 1, none⟩ (.int .i64 zm)).setCell ⟨wP.heap.size, 2, none⟩ (.int .i64 zu)).setCell ⟨wP.heap.size, 3, none⟩ (.int .i64 zg)).setCell ⟨wP.heap.size, 4, none⟩ (.bool zo)).setCell ⟨wP.heap.size, 5, none⟩ (.slice h'.aa za.length h'.ca)).setCell ⟨wP.heap.size, 6, none⟩ (.string zd)).setCell ⟨wP.heap.size, 7, none⟩ (.slice h'.ak zs.length h'.ck)).cell? ⟨nb, 2, none⟩ = some (.int .i64 u) ∧ ((((((((w5.setCell ⟨wP.heap.size, 0, none⟩ (.int .i64 zk)).setCell ⟨wP.heap.size, 1, none⟩ (.int .i64 zm)).setCell ⟨wP.heap.size, 2, none⟩ (.int .i64 zu)).setCell ⟨wP.heap.size, 3, none⟩ (.int .i64 zg)).setCell ⟨wP.heap.size, 4, none⟩ (.bool zo)).setCell ⟨wP.heap.size, 5, none⟩ (.slice h'.aa za.length h'.ca)).setCell ⟨wP.heap.size, 6, none⟩ (.string zd)).setCell ⟨wP.heap.size, 7, none⟩ (.slice h'.ak zs.length h'.ck)).cell? ⟨nb, 3, none⟩ = some (.int .i64 g) ∧ ((((((((w5.setCell ⟨wP.heap.size, 0, none⟩ (.int .i64 zk)).setCell ⟨wP.heap.size, 1, none⟩ (.int .i64 zm)).setCell ⟨wP.heap.size, 2, none⟩ (.int .i64 zu)).setCell ⟨wP.heap.size, 3, none⟩ (.int .i64 zg)).setCell ⟨wP.heap.size, 4, none⟩ (.bool zo)).setCell ⟨wP.heap.size, 5, none⟩ (.slice h'.aa za.length h'.ca)).setCell ⟨wP.heap.size, 6, none⟩ (.string zd)).setCell ⟨wP.heap.size, 7, none⟩ (.slice h'.ak zs.length h'.ck)).cell? ⟨nb, 4, none⟩ = some (.bool o) ∧ ((((((((w5.setCell ⟨wP.heap.size, 0, none⟩ (.int .i64 zk)).setCell ⟨wP.heap.size, 1, none⟩ (.int .i64 zm)).setCell ⟨wP.heap.size, 2, none⟩ (.int .i64 zu)).setCell ⟨wP.heap.size, 3, none⟩ (.int .i64 zg)).setCell ⟨wP.heap.size, 4, none⟩ (.bool zo)).setCell ⟨wP.heap.size, 5, none⟩ (.slice h'.aa za.length h'.ca)).setCell ⟨wP.heap.size, 6, none⟩ (.string zd)).setCell ⟨wP.heap.size, 7, none⟩ (.slice h'.ak zs.length h'.ck)).cell? ⟨nb, 5, none⟩ = some (.slice hV.aa at_.length hV.ca) ∧ ((((((((w5.setCell ⟨wP.heap.size, 0, none⟩ (.int .i64 zk)).setCell ⟨wP.heap.size, 1, none⟩ (.int .i64 zm)).setCell ⟨wP.heap.size, 2, none⟩ (.int .i64 zu)).setCell ⟨wP.heap.size, 3, none⟩ (.int .i64 zg)).setCell ⟨wP.heap.size, 4, none⟩ (.bool zo)).setCell ⟨wP.heap.size, 5, none⟩ (.slice h'.aa za.length h'.ca)).setCell ⟨wP.heap.size, 6, none⟩ (.string zd)).setCell ⟨wP.heap.size, 7, none⟩ (.slice h'.ak zs.length h'.ck)).cell? ⟨nb, 6, none⟩ = some (.string d) ∧ ((((((((w5.setCell ⟨wP.heap.size, 0, none⟩ (.int .i64 zk)).setCell ⟨wP.heap.size, 1, none⟩ (.int .i64 zm)).setCell ⟨wP.heap.size, 2, none⟩ (.int .i64 zu)).setCell ⟨wP.heap.size, 3, none⟩ (.int .i64 zg)).setCell ⟨wP.heap.size, 4, none⟩ (.bool zo)).setCell ⟨wP.heap.size, 5, none⟩ (.slice h'.aa za.length h'.ca)).setCell ⟨wP.heap.size, 6, none⟩ (.string zd)).setCell ⟨wP.heap.size, 7, none⟩ (.slice h'.ak zs.length h'.ck)).cell? ⟨nb, 7, none⟩ = some (.slice hV.ak ks.length hV.ck) ∧ ((((((((w5.setCell ⟨wP.heap.size, 0, none⟩ (.int .i64 zk)).setCell ⟨wP.heap.size, 1, none⟩ (.int .i64 zm)).setCell ⟨wP.heap.size, 2, none⟩ (.int .i64 zu)).setCell ⟨wP.heap.size, 3, none⟩ (.int .i64 zg)).setCell ⟨wP.heap.size, 4, none⟩ (.bool zo)).setCell ⟨wP.heap.size, 5, none⟩ (.slice h'.aa za.length h'.ca)).setCell ⟨wP.heap.size, 6, none⟩ (.string zd)).setCell ⟨wP.heap.size, 7, none⟩ (.slice h'.ak zs.length h'.ck)).cell? ⟨bx, 0, none⟩ = some (.int .i64 yk) ∧ ((((((((w5.setCell ⟨wP.heap.size, 0, none⟩ (.int .i64 zk)).setCell ⟨wP.heap.size, 1, none⟩ (.int .i64 zm)).setCell ⟨wP.heap.size, 2, none⟩ (.int .i64 zu)).setCell ⟨wP.heap.size, 3, none⟩ (.int .i64 zg)).setCell ⟨wP.heap.size, 4, none⟩ (.bool zo)).setCell ⟨wP.heap.size, 5, none⟩ (.slice h'.aa za.length h'.ca)).setCell ⟨wP.heap.size, 6, none⟩ (.string zd)).setCell ⟨wP.heap.size, 7, none⟩ (.slice h'.ak zs.length h'.ck)).cell? ⟨bx, 1, none⟩ = some (.int .i64 ym) ∧ ((((((((w5.setCell ⟨wP.heap.size, 0, none⟩ (.int .i64 zk)).setCell ⟨wP.heap.size, 1, none⟩ (.int .i64 zm)).setCell ⟨wP.heap.size, 2, none⟩ (.int .i64 zu)).setCell ⟨wP.heap.size, 3, none⟩ (.int .i64 zg)).setCell ⟨wP.heap.size, 4, none⟩ (.bool zo)).setCell ⟨wP.heap.size, 5, none⟩ (.slice h'.aa za.length h'.ca)).setCell ⟨wP.heap.size, 6, none⟩ (.string zd)).setCell ⟨wP.heap.size, 7, none⟩ (.slice h'.ak zs.length h'.ck)).cell? ⟨bx, 2, none⟩ = some (.int .i64 yu) ∧ ((((((((w5.setCell ⟨wP.heap.size, 0, none⟩ (.int .i64 zk)).setCell ⟨wP.heap.size, 1, none⟩ (.int .i64 zm)).setCell ⟨wP.heap.size, 2, none⟩ (.int .i64 zu)).setCell ⟨wP.heap.size, 3, none⟩ (.int .i64 zg)).setCell ⟨wP.heap.size, 4, none⟩ (.bool zo)).setCell ⟨wP.heap.size, 5, none⟩ (.slice h'.aa za.length h'.ca)).setCell ⟨wP.heap.size, 6, none⟩ (.string zd)).setCell ⟨wP.heap.size, 7, none⟩ (.slice h'.ak zs.length h'.ck)).cell? ⟨bx, 3, none⟩ = some (.int .i64 yg) ∧ ((((((((w5.setCell ⟨wP.heap.size, 0, none⟩ (.int .i64 zk)).setCell ⟨wP.heap.size, 1, none⟩ (.int .i64 zm)).setCell ⟨wP.heap.size, 2, none⟩ (.int .i64 zu)).setCell ⟨wP.heap.size, 3, none⟩ (.int .i64 zg)).setCell ⟨wP.heap.size, 4, none⟩ (.bool zo)).setCell ⟨wP.heap.size, 5, none⟩ (.slice h'.aa za.length h'.ca)).setCell ⟨wP.heap.size, 6, none⟩ (.string zd)).setCell ⟨wP.heap.size, 7, none⟩ (.slice h'.ak zs.length h'.ck)).cell? ⟨bx, 4, none⟩ = some (.bool yo) ∧ ((((((((w5.setCell ⟨wP.heap.size, 0, none⟩ (.int .i64 zk)).setCell ⟨wP.heap.size, 1, none⟩ (.int .i64 zm)).setCell ⟨wP.heap.size, 2, none⟩ (.int .i64 zu)).setCell ⟨wP.heap.size, 3, none⟩ (.int .i64 zg)).setCell ⟨wP.heap.size, 4, none⟩ (.bool zo)).setCell ⟨wP.heap.size, 5, none⟩ (.slice h'.aa za.length h'.ca)).setCell ⟨wP.heap.size, 6, none⟩ (.string zd)).setCell ⟨wP.heap.size, 7, none⟩ (.slice h'.ak zs.length h'.ck)).cell? ⟨bx, 5, none⟩ = some (.slice hy.aa ya.length hy.ca) ∧ ((((((((w5.setCell ⟨wP.heap.size, 0, none⟩ (.int .i64 zk)).setCell ⟨wP.heap.size, 1, none⟩ (.int .i64 zm)).setCell ⟨wP.heap.size, 2, none⟩ (.int .i64 zu)).setCell ⟨wP.heap.size, 3, none⟩ (.int .i64 zg)).setCell ⟨wP.heap.size, 4, none⟩ (.bool zo)).setCell ⟨wP.heap.size, 5, none⟩ (.slice h'.aa za.length h'.ca)).setCell ⟨wP.heap.size, 6, none⟩ (.string zd)).setCell ⟨wP.heap.size, 7, none⟩ (.slice h'.ak zs.length h'.ck)).cell? ⟨bx, 6, none⟩ = some (.string yd) ∧ ((((((((w5.setCell ⟨wP.heap.size, 0, none⟩ (.int .i64 zk)).setCell ⟨wP.heap.size, 1, none⟩ (.int .i64 zm)).setCell ⟨wP.heap.size, 2, none⟩ (.int .i64 zu)).setCell ⟨wP.heap.size, 3, none⟩ (.int .i64 zg)).setCell ⟨wP.heap.size, 4, none⟩ (.bool zo)).setCell ⟨wP.heap.size, 5, none⟩ (.slice h'.aa za.length h'.ca)).setCell ⟨wP.heap.size, 6, none⟩ (.string zd)).setCell ⟨wP.heap.size, 7, none⟩ (.slice h'.ak zs.length h'.ck)).cell? ⟨bx, 7, none⟩ = some (.slice hy.ak ys.length hy.ck)) ∧ NBw w5 wP.heap.size zN zH ∧ NBw (stB w5 wP.heap.size (.mk zk zm zu zg zo za zd zs) h') wP.heap.size (.mk zk zm zu zg zo za zd zs) h' ∧ UpI W (stB w5 wP.heap.size (.mk zk zm zu zg zo za zd zs) h') nb S ua ga us.length gs.length uc gc (.mk k m u g o at_ d ks) hV ∧ NdV (offS (stB w5 wP.heap.size (.mk zk zm zu zg zo za zd zs) h').cell? (fun k => k == W.heap.size || k == W.heap.size + 1 || k == nb || S k)) (.mk zk zm zu zg zo za zd zs) h') := by
          intro w5 h' b5 hn5
          have b4 := (alloc_bel wP (.cells #[.int .i64 0, .int .i64 0, .int .i64 0, .int .i64 0, .bool false, .slice none 0 0, .string ⟨#[]⟩, .slice none 0 0] 25)).drew
          have b45 : Below wP.heap.size wP w5 := b4.trans (b5.mono b4.size)
          have hQ5 := ZQA.below b5
          have bY : But wP.heap.size w5 (stB w5 wP.heap.size (.mk zk zm zu zg zo za zd zs) h') := stB_but
          have b46 : Below wP.heap.size wP (stB w5 wP.heap.size (.mk zk zm zu zg zo za zd zs) h') := b45.trans (bY.below (Nat.le_refl _) b45.size)
          exact ⟨HTB.out w5 b45, HTB.out _ b46, hQ5, hQ5.store (.mk zk zm zu zg zo za zd zs) h', HUP2.out.below b46, hn5.on (mle_step fun q hq hs => by
            rw [Bool.or_eq_false_iff] at hs
            exact ⟨hs.2, bY.block q hq (by simpa using hs.1)⟩)⟩
        have h0j : (0 : Int) ≤ (j : Int) + 1 := by omega
        have htn : ((j : Int) + 1).toNat = j + 1 := by omega
        have HSZP : Hid (nb < wP.heap.size) := by show _ < _; omega
        clear HTB T4 HPUT UIP HYP hlowA hmA hszA YBP ZQA hszP hszO
        go_region_held3 (fun w' => w'.cell? ⟨nb, 0, none⟩ = some (.int .i64 k) ∧ w'.cell? ⟨nb, 1, none⟩ = some (.int .i64 m) ∧ w'.cell? ⟨nb, 2, none⟩ = some (.int .i64 u) ∧ w'.cell? ⟨nb, 3, none⟩ = some (.int .i64 g) ∧ w'.cell? ⟨nb, 4, none⟩ = some (.bool o) ∧ w'.cell? ⟨nb, 5, none⟩ = some (.slice hV.aa at_.length hV.ca) ∧ w'.cell? ⟨nb, 6, none⟩ = some (.string d) ∧ w'.cell? ⟨nb, 7, none⟩ = some (.slice hV.ak ks.length hV.ck) ∧ w'.cell? ⟨bx, 0, none⟩ = some (.int .i64 yk) ∧ w'.cell? ⟨bx, 1, none⟩ = some (.int .i64 ym) ∧ w'.cell? ⟨bx, 2, none⟩ = some (.int .i64 yu) ∧ w'.cell? ⟨bx, 3, none⟩ = some (.int .i64 yg) ∧ w'.cell? ⟨bx, 4, none⟩ = some (.bool yo) ∧ w'.cell? ⟨bx, 5, none⟩ = some (.slice hy.aa ya.length hy.ca) ∧ w'.cell? ⟨bx, 6, none⟩ = some (.string yd) ∧ w'.cell? ⟨bx, 7, none⟩ = some (.slice hy.ak ys.length hy.ck)) (first | with_reducible exact T5 | with_reducible exact T10 | with_reducible exact T11 | with_reducible exact T12 | with_reducible exact T5a) (first | (go_at_call 92; (with_reducible refine Calls.mono HC1.out ?_); rintro e w5 ⟨⟨h', rfl, hn5⟩, b5⟩; obtain ⟨T10, T11, T12, YB8, UI8, hn8, hlt8⟩ := HK1.out w5 h' b5 hn5) | (go_at_call 92; (with_reducible refine Calls.mono HC2.out ?_); rintro e w5 ⟨⟨h', rfl, hn5⟩, b5⟩; obtain ⟨T10, T12, hQ5, YB8, UI8, hn8⟩ := HK2.out w5 h' b5 hn5; obtain ⟨⟨z0, z1, z2, z3, z4, z5, z6, z7⟩, z8⟩ := id hQ5; clear hQ5))
        · have HNZ : Hid (NdV (offS (w5.alloc (.cells #[.int .i64 zk, .int .i64 zm, .int .i64 zu, .int .i64 zg, .bool zo, .slice h'.aa za.length h'.ca, .string zd, .slice h'.ak zs.length h'.ck] 25)).cell? (fun k => k == W.heap.size || k == W.heap.size + 1 || k == nb || S k)) (.mk zk zm zu zg zo za zd zs) h') := hn8
          clear T5 T5a T10 T11 T12 HC1 HC2 HK1 HK2 hn5 b5 hn8
          generalize w5.alloc (.cells #[.int .i64 zk, .int .i64 zm, .int .i64 zu, .int .i64 zg, .bool zo, .slice h'.aa za.length h'.ca, .string zd, .slice h'.ak zs.length h'.ck] 25) = w8 at HNZ YB8 UI8 ⊢
          generalize w5.heap.size = b18 at YB8 hlt8 ⊢
          cases R with
          | error f =>
            have HF : Hid (FN = f) := HFN.out.symm
            have hfp := (chg_err7 HRR.out).1
            have hF : FN = f := HF.out
            subst hF
            have dF : decide (0 < FN) = true := decide_eq_true hfp
            have HEE : Hid (upN us gs xs names U names.length = .error FN) := by
              have e := upN_err (HSTEP.out.trans HRR.out) (names.length - (j + 1))
              rw [show j + 1 + (names.length - (j + 1)) = names.length by have := HN.out; omega] at e
              exact e
            rw [HN.out] at HEE
            have hB8 := UI8.low
            have RB8 := UI8.rb
            clear UI8 HNZ HYN HFN HF HSTEP HRR hfp
            have R3 := NBw.store RB8 zN zH
            have hB3 : Below W.heap.size W (stB w8 (W.heap.size + 1) zN zH) := hB8.trans (stB_but.below (by omega) hB8.size)
            have z0 := RB8.2 0
            have z1 := RB8.2 1
            have z2 := RB8.2 2
            have z3 := RB8.2 3
            have z4 := RB8.2 4
            have z5 := RB8.2 5
            have z6 := RB8.2 6
            have z7 := RB8.2 7
            obtain ⟨f0, f1, f2, f3, f4, f5, f6, f7⟩ := RB8.1
            go_wp2
            obtain ⟨W6, HW6⟩ : ∃ W6, Hid (stB w8 (W.heap.size + 1) zN zH = W6) := ⟨_, rfl⟩
            rw [HW6.out] at R3 hB3
            have hw6 := HW6.out
            simp only [stB, zN, zH] at hw6
            simp only [List.length_nil] at hw6
            rw [hw6]
            obtain ⟨r0, r1, r2, r3, r4, r5, r6, r7⟩ := R3.1
            refine bodyPost_ret (v := .tuple #[ndV zN zH, .int .i64 FN]) (by simp [results, Try.results48, go_sem, ndV, zN, zH, r0, r1, r2, r3, r4, r5, r6, r7]) rfl (rdE_err HEE.out hB3)
          | ok V' =>
            have hF : FN = 0 := HFN.out.symm
            subst hF
            have HV' : Hid ((.mk zk zm zu zg zo za zd zs) = V') := HYN.out.symm
            have HC' : Hid (cnt V' ≤ cnt U + (j + 1)) := by
              have e := chg_cnt HRR.out
              have e1 : cntO (some (.mk yk ym yu yg yo ya yd ys)) = 1 := HCY.out
              have e2 := HCV.out
              show cnt V' ≤ _
              omega
            have HUP : Hid (upN us gs xs names U (j + 1) = .ok V') := HSTEP.out.trans HRR.out
            have UB9 := UI8.ub.store (.mk zk zm zu zg zo za zd zs) h'
            have b9 : But nb w8 (stB w8 nb (.mk zk zm zu zg zo za zd zs) h') := stB_but
            have UI9 : UpI W (stB w8 nb (.mk zk zm zu zg zo za zd zs) h') nb S ua ga us.length gs.length uc gc (.mk zk zm zu zg zo za zd zs) h' := ⟨UI8.low.trans (b9.below (by omega) UI8.low.size), (b9.cell (p := ⟨W.heap.size, 0, none⟩) (World.block_lt_of_cell? _ _ UI8.m0) (by show W.heap.size ≠ nb; omega)).trans UI8.m0, (b9.cell (p := ⟨W.heap.size, 1, none⟩) (World.block_lt_of_cell? _ _ UI8.m1) (by show W.heap.size ≠ nb; omega)).trans UI8.m1, UI8.rb.but b9 (by omega), UB9, HNZ.out.on (mle_step fun q hq hs => ⟨hs, b9.block q hq (by simp at hs; exact hs.1.2)⟩)⟩
            have HUI : Hid _ := UI9
            have z0 := UI8.ub.2 0
            have z1 := UI8.ub.2 1
            have z2 := UI8.ub.2 2
            have z3 := UI8.ub.2 3
            have z4 := UI8.ub.2 4
            have z5 := UI8.ub.2 5
            have z6 := UI8.ub.2 6
            have z7 := UI8.ub.2 7
            obtain ⟨f0, f1, f2, f3, f4, f5, f6, f7⟩ := UI8.ub.1
            obtain ⟨y0, y1, y2, y3, y4, y5, y6, y7⟩ := YB8.1
            clear UI8 HNZ HYN HFN HSTEP HRR UB9 b9 UI9
            go_wp2
            go_roundw
            case rel =>
              have e := HV'.out
              rw [← e] at HUP HC'
              exact ⟨j + 1, (.mk zk zm zu zg zo za zd zs), h', by omega, by go_num, HUP.out, HC'.out, HUI.out⟩
            case measure => (simp [intOf]; try omega)
        · have HNZ : Hid (NdV (offS (stB w5 wP.heap.size (.mk zk zm zu zg zo za zd zs) h').cell? (fun k => k == W.heap.size || k == W.heap.size + 1 || k == nb || S k)) (.mk zk zm zu zg zo za zd zs) h') := hn8
          have hlt8 : nb < wP.heap.size := HSZP.out
          clear T5 T5a T10 T12 HC1 HC2 HK1 HK2 hn5 b5 hn8 z0 z1 z2 z3 z4 z5 z6 z7 z8
          have UI8 : UpI W ((((((((w5.setCell ⟨wP.heap.size, 0, none⟩ (.int .i64 zk)).setCell ⟨wP.heap.size, 1, none⟩ (.int .i64 zm)).setCell ⟨wP.heap.size, 2, none⟩ (.int .i64 zu)).setCell ⟨wP.heap.size, 3, none⟩ (.int .i64 zg)).setCell ⟨wP.heap.size, 4, none⟩ (.bool zo)).setCell ⟨wP.heap.size, 5, none⟩ (.slice h'.aa za.length h'.ca)).setCell ⟨wP.heap.size, 6, none⟩ (.string zd)).setCell ⟨wP.heap.size, 7, none⟩ (.slice h'.ak zs.length h'.ck)) nb S ua ga us.length gs.length uc gc (.mk k m u g o at_ d ks) hV := UI8
          have YB8 : NBw ((((((((w5.setCell ⟨wP.heap.size, 0, none⟩ (.int .i64 zk)).setCell ⟨wP.heap.size, 1, none⟩ (.int .i64 zm)).setCell ⟨wP.heap.size, 2, none⟩ (.int .i64 zu)).setCell ⟨wP.heap.size, 3, none⟩ (.int .i64 zg)).setCell ⟨wP.heap.size, 4, none⟩ (.bool zo)).setCell ⟨wP.heap.size, 5, none⟩ (.slice h'.aa za.length h'.ca)).setCell ⟨wP.heap.size, 6, none⟩ (.string zd)).setCell ⟨wP.heap.size, 7, none⟩ (.slice h'.ak zs.length h'.ck)) wP.heap.size (.mk zk zm zu zg zo za zd zs) h' := YB8
          have HNZ : Hid (NdV (offS ((((((((w5.setCell ⟨wP.heap.size, 0, none⟩ (.int .i64 zk)).setCell ⟨wP.heap.size, 1, none⟩ (.int .i64 zm)).setCell ⟨wP.heap.size, 2, none⟩ (.int .i64 zu)).setCell ⟨wP.heap.size, 3, none⟩ (.int .i64 zg)).setCell ⟨wP.heap.size, 4, none⟩ (.bool zo)).setCell ⟨wP.heap.size, 5, none⟩ (.slice h'.aa za.length h'.ca)).setCell ⟨wP.heap.size, 6, none⟩ (.string zd)).setCell ⟨wP.heap.size, 7, none⟩ (.slice h'.ak zs.length h'.ck)).cell? (fun k => k == W.heap.size || k == W.heap.size + 1 || k == nb || S k)) (.mk zk zm zu zg zo za zd zs) h') := HNZ
          generalize ((((((((w5.setCell ⟨wP.heap.size, 0, none⟩ (.int .i64 zk)).setCell ⟨wP.heap.size, 1, none⟩ (.int .i64 zm)).setCell ⟨wP.heap.size, 2, none⟩ (.int .i64 zu)).setCell ⟨wP.heap.size, 3, none⟩ (.int .i64 zg)).setCell ⟨wP.heap.size, 4, none⟩ (.bool zo)).setCell ⟨wP.heap.size, 5, none⟩ (.slice h'.aa za.length h'.ca)).setCell ⟨wP.heap.size, 6, none⟩ (.string zd)).setCell ⟨wP.heap.size, 7, none⟩ (.slice h'.ak zs.length h'.ck)) = w8 at HNZ YB8 UI8 ⊢
          generalize wP.heap.size = b18 at YB8 hlt8 ⊢
          cases R with
          | error f =>
            have HF : Hid (FN = f) := HFN.out.symm
            have hfp := (chg_err7 HRR.out).1
            have hF : FN = f := HF.out
            subst hF
            have dF : decide (0 < FN) = true := decide_eq_true hfp
            have HEE : Hid (upN us gs xs names U names.length = .error FN) := by
              have e := upN_err (HSTEP.out.trans HRR.out) (names.length - (j + 1))
              rw [show j + 1 + (names.length - (j + 1)) = names.length by have := HN.out; omega] at e
              exact e
            rw [HN.out] at HEE
            have hB8 := UI8.low
            have RB8 := UI8.rb
            clear UI8 HNZ HYN HFN HF HSTEP HRR hfp
            have R3 := NBw.store RB8 zN zH
            have hB3 : Below W.heap.size W (stB w8 (W.heap.size + 1) zN zH) := hB8.trans (stB_but.below (by omega) hB8.size)
            have z0 := RB8.2 0
            have z1 := RB8.2 1
            have z2 := RB8.2 2
            have z3 := RB8.2 3
            have z4 := RB8.2 4
            have z5 := RB8.2 5
            have z6 := RB8.2 6
            have z7 := RB8.2 7
            obtain ⟨f0, f1, f2, f3, f4, f5, f6, f7⟩ := RB8.1
            go_wp2
            obtain ⟨W6, HW6⟩ : ∃ W6, Hid (stB w8 (W.heap.size + 1) zN zH = W6) := ⟨_, rfl⟩
            rw [HW6.out] at R3 hB3
            have hw6 := HW6.out
            simp only [stB, zN, zH] at hw6
            simp only [List.length_nil] at hw6
            rw [hw6]
            obtain ⟨r0, r1, r2, r3, r4, r5, r6, r7⟩ := R3.1
            refine bodyPost_ret (v := .tuple #[ndV zN zH, .int .i64 FN]) (by simp [results, Try.results48, go_sem, ndV, zN, zH, r0, r1, r2, r3, r4, r5, r6, r7]) rfl (rdE_err HEE.out hB3)
          | ok V' =>
            have hF : FN = 0 := HFN.out.symm
            subst hF
            have HV' : Hid ((.mk zk zm zu zg zo za zd zs) = V') := HYN.out.symm
            have HC' : Hid (cnt V' ≤ cnt U + (j + 1)) := by
              have e := chg_cnt HRR.out
              have e1 : cntO (some (.mk yk ym yu yg yo ya yd ys)) = 1 := HCY.out
              have e2 := HCV.out
              show cnt V' ≤ _
              omega
            have HUP : Hid (upN us gs xs names U (j + 1) = .ok V') := HSTEP.out.trans HRR.out
            have UB9 := UI8.ub.store (.mk zk zm zu zg zo za zd zs) h'
            have b9 : But nb w8 (stB w8 nb (.mk zk zm zu zg zo za zd zs) h') := stB_but
            have UI9 : UpI W (stB w8 nb (.mk zk zm zu zg zo za zd zs) h') nb S ua ga us.length gs.length uc gc (.mk zk zm zu zg zo za zd zs) h' := ⟨UI8.low.trans (b9.below (by omega) UI8.low.size), (b9.cell (p := ⟨W.heap.size, 0, none⟩) (World.block_lt_of_cell? _ _ UI8.m0) (by show W.heap.size ≠ nb; omega)).trans UI8.m0, (b9.cell (p := ⟨W.heap.size, 1, none⟩) (World.block_lt_of_cell? _ _ UI8.m1) (by show W.heap.size ≠ nb; omega)).trans UI8.m1, UI8.rb.but b9 (by omega), UB9, HNZ.out.on (mle_step fun q hq hs => ⟨hs, b9.block q hq (by simp at hs; exact hs.1.2)⟩)⟩
            have HUI : Hid _ := UI9
            have z0 := UI8.ub.2 0
            have z1 := UI8.ub.2 1
            have z2 := UI8.ub.2 2
            have z3 := UI8.ub.2 3
            have z4 := UI8.ub.2 4
            have z5 := UI8.ub.2 5
            have z6 := UI8.ub.2 6
            have z7 := UI8.ub.2 7
            obtain ⟨f0, f1, f2, f3, f4, f5, f6, f7⟩ := UI8.ub.1
            obtain ⟨y0, y1, y2, y3, y4, y5, y6, y7⟩ := YB8.1
            clear UI8 HNZ HYN HFN HSTEP HRR UB9 b9 UI9
            go_wp2
            go_roundw
            case rel =>
              have e := HV'.out
              rw [← e] at HUP HC'
              exact ⟨j + 1, (.mk zk zm zu zg zo za zd zs), h', by omega, by go_num, HUP.out, HC'.out, HUI.out⟩
            case measure => (simp [intOf]; try omega)
end Go.Proofs.Ytkkhfnkmfkdhiab
