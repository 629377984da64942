/-
  MergeSays: the walk.
-/
import Derived.Test.YtgmeecfdkcbggaaGlX
namespace Go.Proofs.Ytgmeecfdkcbggaa
open Go.RowKit
theorem few_len {l : List ByteArray} (h : fewB l = true) : l.length ≤ 12 := by
  unfold fewB at h
  rw [Bool.and_eq_true] at h
  exact of_decide_eq_true h.1
theorem lights_tot {xs : List Nd} (h : lightsB xs = true) : tot (layP xs) ≤ 400 ∧ ∀ x ∈ xs, Lim x ∧ cnt x ≤ 1000 := by
  unfold lightsB at h
  rw [Bool.and_eq_true] at h
  have h5 : xs.length ≤ 5 := of_decide_eq_true h.1
  have ha : ∀ x ∈ xs, Lil x ∧ cnt x ≤ 80 := fun x hx => by
    have e2 := of_decide_eq_true (List.all_eq_true.1 h.2 x hx)
    have e3 := light_lil x 80 e2
    exact ⟨e3.1, by have := e3.2; omega⟩
  have ht : ∀ l : Fls, (∀ q ∈ l, cnt q.1 ≤ 80) → tot l ≤ 80 * l.length := fun l => by
    induction l with
    | nil => intro _; exact Nat.le_refl _
    | cons q r ih =>
      intro hq
      have h1 := ih fun p hp => hq p (List.mem_cons_of_mem _ hp)
      have h2 := hq q (List.mem_cons_self ..)
      rw [tot, List.length_cons]
      omega
  have := ht (layP xs) fun q hq => (ha q.1 (layP_mem hq)).2
  rw [layP_len] at this
  exact ⟨by omega, fun x hx => ⟨lim_of x (by have := (ha x hx).2; omega) (ha x hx).1, by have := (ha x hx).2; omega⟩⟩
theorem flat_lim {xs : List Nd} (h : LaysOk xs) : Lim (flat0 (shP (layP xs))) := by
  by_cases hne : shP (layP xs) = []
  · rw [hne]
    show Lim zN
    unfold zN
    rw [Lim]
    exact ⟨Nat.zero_le _, Nat.zero_le _, by rw [LimL]; trivial⟩
  · have h1 := h.flat hne
    have h2 := h1.tot
    rw [tot_one] at h2
    exact lim_of _ h2 (h1.lil _ (List.mem_singleton.2 rfl))
set_option maxRecDepth 100000 in
set_option maxHeartbeats 16000000 in
theorem mergesays_any {W : World} {a : Option Addr} {cap : Nat} {xs : List Nd} (hx : NsV W.cell? a xs) (hxc : xs.length ≤ cap ∧ cap ≤ 9223372036854775807) (an : Option Addr) (capn : Nat) (names : List ByteArray) (hs : Strs W.cell? an names) (hcn : names.length ≤ capn ∧ capn ≤ 9223372036854775807) :
    Calls Try.prog 3 #[.slice a xs.length cap, .slice an names.length capn] W fun e W' => e = .returned (.bool true) ∧ Below W.heap.size W W' := by
  obtain ⟨LB, HLB⟩ : ∃ B, Hid (lightsB xs = B) := ⟨_, rfl⟩
  obtain ⟨FB, HFB⟩ : ∃ B, Hid (fewB names = B) := ⟨_, rfl⟩
  have HX : Hid (NsV W.cell? a xs) := hx
  have HS : Hid (Strs W.cell? an names) := hs
  have HXC : Hid (xs.length ≤ cap ∧ cap ≤ 9223372036854775807) := hxc
  have HNC : Hid (names.length ≤ capn ∧ capn ≤ 9223372036854775807) := hcn
  clear hx hs hxc hcn
  go_enter Try.func3, Try.ntmps3
  go_wp2_with fail
  refine Calls.mono (shows_any _) ?_
  rintro e w1 ⟨rfl, hB⟩
  have HL1 := lights_any (w := w1) (cap := cap) (HX.out.on (mle_below hB)) (Nat.le_trans HXC.out.1 HXC.out.2)
  rw [HLB.out] at HL1
  go_wp2_with fail
  refine Calls.mono HL1 ?_
  rintro e w2 ⟨rfl, hq⟩
  replace hB := hB.trans (hq.mono hB.size)
  clear HL1 hq
  cases LB with
  | false =>
    go_wp2
    go_ret
    exact ⟨rfl, hB⟩
  | true =>
    have HF1 := few_any an capn names w2 (HS.out.on (mle_below hB)) (Nat.le_trans HNC.out.1 HNC.out.2)
    rw [HFB.out] at HF1
    go_wp2_with fail
    refine Calls.mono HF1 ?_
    rintro e w3 ⟨rfl, rfl⟩
    clear HF1
    cases FB with
    | false =>
      go_wp2
      go_ret
      exact ⟨rfl, hB⟩
    | true =>
      have hnl := few_len HFB.out
      obtain ⟨hok, hx5⟩ := lights_ok HLB.out
      obtain ⟨ht4, hAL⟩ := lights_tot HLB.out
      have HOK : Hid (LaysOk xs) := hok
      have HAL : Hid (∀ x ∈ xs, Lim x ∧ cnt x ≤ 1000) := hAL
      clear hok hAL
      go_wp2_with fail
      refine Calls.mono (copies_any (cap := cap) (HX.out.on (mle_below hB)) hx5 HAL.out) ?_
      rintro e w5 ⟨oa, oc, rfl, hoc, hown, hq⟩
      replace hB := hB.trans (hq.mono hB.size)
      obtain ⟨W5, hW5⟩ : ∃ W5, W5 = w5 := ⟨w5, rfl⟩
      have hB5 : Below W5.heap.size W5 w5 := by rw [hW5]; exact Below.refl _ _
      rw [← hW5] at hown
      have HOWN : Hid (NsV W5.cell? oa xs) := hown
      have HB5 : Hid (Below W.heap.size W W5) := by rw [hW5]; exact hB
      clear hW5 hq hown
      obtain ⟨SX, HSX⟩ : ∃ X, Hid (lkX (stackP xs names) = X) := ⟨_, rfl⟩
      obtain ⟨SL, HSL⟩ : ∃ X, Hid (lkL (stackP xs names) = X) := ⟨_, rfl⟩
      obtain ⟨SB, HSB⟩ : ∃ X, Hid (lkB (stackP xs names) = X) := ⟨_, rfl⟩
      obtain ⟨FX, HFX⟩ : ∃ X, Hid (flat0 (shP (layP xs)) = X) := ⟨_, rfl⟩
      obtain ⟨TB, HTB⟩ : ∃ X, Hid (lkB (shP (layP xs)) = X) := ⟨_, rfl⟩
      obtain ⟨BP, HBP⟩ : ∃ X, Hid (belP xs names = X) := ⟨_, rfl⟩
      obtain ⟨LS, HLS⟩ : ∃ X, Hid (listP (stackP xs names) = X) := ⟨_, rfl⟩
      have HLX : Hid (Lim SX) := by rw [← HSX.out]; exact lkX_lim HOK.out names
      have HLF : Hid (Lim FX) := by rw [← HFX.out]; exact flat_lim HOK.out
      obtain ⟨ck, cm, cg, co, ca, cd, cs, hcx⟩ := lay_user (xs := xs)
      have HCX : Hid (flatD layF (shP (layP xs)) = .mk ck cm 0 cg co ca cd cs) := hcx
      have HLL : Hid (LS.length ≤ 1000) := by
        show _ ≤ _
        rw [← HLS.out]
        have h1 := listP_len (stackP xs names)
        by_cases hst : (stackP xs names) = []
        · rw [hst]; exact Nat.zero_le _
        · have := (HOK.out.stack names hst).tot; omega
      clear hcx
      obtain ⟨k, m, u, g, o, at_, d, ks⟩ := SX
      obtain ⟨fk, fm, fu, fg, fo, fa, fd, fs⟩ := FX
      have HC1 : Hid (Calls Try.prog 9 #[.slice oa xs.length oc, .slice an names.length capn] w5 fun e W' => (∃ h : Hd, e = .returned (.tuple #[.agg #[.int .i64 k, .int .i64 m, .int .i64 u, .int .i64 g, .bool o, .slice h.aa at_.length h.ca, .string d, .slice h.ak ks.length h.ck], .int .i64 SL, .bool SB]) ∧ NdV W'.cell? (.mk k m u g o at_ d ks) h) ∧ Below w5.heap.size w5 W') := by
        have e := look_one (w := w5) (S := fun _ => false) (cap := oc) (capn := capn) (names := names) (fun _ hk => by cases hk) (by rw [offS_no]; exact HOWN.out.on (mle_below hB5)) (by rw [offS_no]; exact HS.out.on (mle_below hB)) HOK.out (by omega)
        rw [HSX.out, HSL.out, HSB.out] at e
        exact Calls.mono e fun e W' he => ⟨he.1.imp fun h q => ⟨q.1, q.2.on (offS_le _ _)⟩, he.2⟩
      go_wp2_with fail
      with_reducible refine Calls.mono HC1.out ?_
      rintro e w5' ⟨⟨h1, rfl, n1⟩, hq⟩
      replace hB := hB.trans (hq.mono hB.size)
      replace hB5 := hB5.trans (hq.mono hB5.size)
      have X7 := NBw.new w5' k m u g o at_ d ks h1
      have hq2 := alloc_bel2 w5' (.cells #[.int .i64 k, .int .i64 m, .int .i64 u, .int .i64 g, .bool o, .slice h1.aa at_.length h1.ca, .string d, .slice h1.ak ks.length h1.ck] 31)
      replace hB := hB.trans (hq2.mono hB.size)
      replace hB5 := hB5.trans (hq2.mono hB5.size)
      replace n1 := n1.ab hq2
      clear hq hq2 HC1
      go_upto_region 6 with fail
      generalize w5'.alloc (.cells #[.int .i64 k, .int .i64 m, .int .i64 u, .int .i64 g, .bool o, .slice h1.aa at_.length h1.ca, .string d, .slice h1.ak ks.length h1.ck] 31) = w6 at hB hB5 n1 X7   ⊢
      generalize w5'.heap.size = qX7 at X7 ⊢
      have HC2 : Hid (Calls Try.prog 10 #[.slice a xs.length cap, .slice an names.length capn] w6 fun e W' => (∃ h : Hd, e = .returned (.tuple #[.agg #[.int .i64 k, .int .i64 m, .int .i64 u, .int .i64 g, .bool o, .slice h.aa at_.length h.ca, .string d, .slice h.ak ks.length h.ck], .int .i64 SL, .bool SB]) ∧ NdV W'.cell? (.mk k m u g o at_ d ks) h) ∧ Below w6.heap.size w6 W') := by
        have e := rlook_one (w := w6) (S := fun _ => false) (cap := cap) (capn := capn) (names := names) (fun _ hk => by cases hk) (by rw [offS_no]; exact HX.out.on (mle_below hB)) (HS.out.on (mle_below hB)) HOK.out (by omega)
        rw [HSX.out, HSL.out, HSB.out] at e
        exact Calls.mono e fun e W' he => ⟨he.1.imp fun h q => ⟨q.1, q.2.on (offS_le _ _)⟩, he.2⟩
      go_wp2_with fail
      with_reducible refine Calls.mono HC2.out ?_
      rintro e w6' ⟨⟨h2, rfl, n2⟩, hq⟩
      replace hB := hB.trans (hq.mono hB.size)
      replace hB5 := hB5.trans (hq.mono hB5.size)
      replace n1 := n1.ab hq
      replace X7 := X7.below hq
      have X10 := NBw.new w6' k m u g o at_ d ks h2
      have hq2 := alloc_bel2 w6' (.cells #[.int .i64 k, .int .i64 m, .int .i64 u, .int .i64 g, .bool o, .slice h2.aa at_.length h2.ca, .string d, .slice h2.ak ks.length h2.ck] 31)
      replace hB := hB.trans (hq2.mono hB.size)
      replace hB5 := hB5.trans (hq2.mono hB5.size)
      replace n1 := n1.ab hq2
      replace n2 := n2.ab hq2
      replace X7 := X7.below hq2
      clear hq hq2 HC2
      go_upto_region 7 with fail
      generalize w6'.alloc (.cells #[.int .i64 k, .int .i64 m, .int .i64 u, .int .i64 g, .bool o, .slice h2.aa at_.length h2.ca, .string d, .slice h2.ak ks.length h2.ck] 31) = w7 at hB hB5 n2 X10 n1 X7 ⊢
      generalize w6'.heap.size = qX10 at X10 ⊢
      obtain ⟨y0, y1, y2, y3, y4, y5, y6, y7⟩ := id X7.1
      obtain ⟨v0, v1, v2, v3, v4, v5, v6, v7⟩ := id X10.1
      have hSB : (SB != SB) = false := by cases SB <;> rfl
      have hSL : ((SL : Int) != (SL : Int)) = false := by simp
      have hBP : (BP != BP) = false := by cases BP <;> rfl
      have HSN : Hid (Calls Try.prog 11 #[.agg #[.int .i64 k, .int .i64 m, .int .i64 u, .int .i64 g, .bool o, .slice h1.aa at_.length h1.ca, .string d, .slice h1.ak ks.length h1.ck], .agg #[.int .i64 k, .int .i64 m, .int .i64 u, .int .i64 g, .bool o, .slice h2.aa at_.length h2.ca, .string d, .slice h2.ak ks.length h2.ck]] w7 fun e W' => e = .returned (.bool true) ∧ Below w7.heap.size w7 W') := sameNode_yes n1 h2 w7 HLX.out n2 (Below.refl _ _)
      go_wp2_with fail
      with_reducible refine Calls.mono HSN.out ?_
      rintro e w8 ⟨rfl, hq⟩
      replace hB := hB.trans (hq.mono hB.size)
      replace hB5 := hB5.trans (hq.mono hB5.size)
      clear hq HSN y0 y1 y2 y3 y4 y5 y6 y7 v0 v1 v2 v3 v4 v5 v6 v7 X7 X10 n1 n2
      have HB1 : Hid (Calls Try.prog 12 #[.slice oa xs.length oc, .slice an names.length capn] w8 fun e w' => e = .returned (.bool BP) ∧ Below w8.heap.size w8 w') := by
        have e := mbelow_any (w := w8) (S := fun _ => false) (cap := oc) (capn := capn) (names := names) (fun _ hk => by cases hk) (by rw [offS_no]; exact HOWN.out.on (mle_below hB5)) (by rw [offS_no]; exact HS.out.on (mle_below hB)) HOK.out (by omega) HNC.out
        rw [HBP.out] at e
        exact e
      go_wp2_with fail
      with_reducible refine Calls.mono HB1.out ?_
      rintro e w9 ⟨rfl, hq⟩
      replace hB := hB.trans (hq.mono hB.size)
      replace hB5 := hB5.trans (hq.mono hB5.size)
      clear hq HB1
      have HB2 : Hid (Calls Try.prog 13 #[.slice a xs.length cap, .slice an names.length capn] w9 fun e w' => e = .returned (.bool BP) ∧ Below w9.heap.size w9 w') := by
        have e := rbelow_any (w := w9) (S := fun _ => false) (cap := cap) (capn := capn) (names := names) (by rw [offS_no]; exact HX.out.on (mle_below hB)) (HS.out.on (mle_below hB)) HOK.out (by omega)
        rw [HBP.out] at e
        exact e
      go_wp2_with fail
      with_reducible refine Calls.mono HB2.out ?_
      rintro e w10 ⟨rfl, hq⟩
      replace hB := hB.trans (hq.mono hB.size)
      replace hB5 := hB5.trans (hq.mono hB5.size)
      clear hq HB2
      have HM1 : Hid (Calls Try.prog 15 #[.slice oa xs.length oc, .slice an names.length capn] w10 fun e W' => (∃ a' c', e = .returned (.slice a' LS.length c') ∧ Strs W'.cell? a' LS) ∧ Below w10.heap.size w10 W') := by
        have e := mlist_any (w := w10) (S := fun _ => false) (cap := oc) (capn := capn) (names := names) (fun _ hk => by cases hk) (by rw [offS_no]; exact HOWN.out.on (mle_below hB5)) (by rw [offS_no]; exact HS.out.on (mle_below hB)) HOK.out (by omega)
        rw [HLS.out] at e
        refine Calls.mono e fun e W' he => ?_
        obtain ⟨⟨a', c', e1, _, _, e2⟩, e3⟩ := he
        exact ⟨⟨a', c', e1, e2.on (offS_le _ _)⟩, e3⟩
      go_wp2_with fail
      with_reducible refine Calls.mono HM1.out ?_
      rintro e w11 ⟨⟨a1, c1, rfl, st1⟩, hq⟩
      replace hB := hB.trans (hq.mono hB.size)
      replace hB5 := hB5.trans (hq.mono hB5.size)
      clear hq HM1
      have HM2 : Hid (Calls Try.prog 16 #[.slice a xs.length cap, .slice an names.length capn] w11 fun e W' => (∃ a' c', e = .returned (.slice a' LS.length c') ∧ Strs W'.cell? a' LS) ∧ Below w11.heap.size w11 W') := by
        have e := rlist_any (w := w11) (S := fun _ => false) (cap := cap) (capn := capn) (names := names) (by rw [offS_no]; exact HX.out.on (mle_below hB)) (HS.out.on (mle_below hB)) HOK.out (by omega) HNC.out
        rw [HLS.out] at e
        refine Calls.mono e fun e W' he => ?_
        obtain ⟨⟨a', c', e1, _, _, e2⟩, e3⟩ := he
        exact ⟨⟨a', c', e1, (e2 (fun _ => false) (fun _ hk => by cases hk)).on (offS_le _ _)⟩, e3⟩
      go_wp2_with fail
      with_reducible refine Calls.mono HM2.out ?_
      rintro e w12 ⟨⟨a2, c2, rfl, st2⟩, hq⟩
      replace hB := hB.trans (hq.mono hB.size)
      replace hB5 := hB5.trans (hq.mono hB5.size)
      replace st1 := st1.on (mle_below hq)
      clear hq HM2
      have HSS : Hid (Calls Try.prog 14 #[.slice a1 LS.length c1, .slice a2 LS.length c2] w12 fun e W' => e = .returned (.bool true) ∧ Below w12.heap.size w12 W') := sameNames_yes a1 a2 c1 c2 LS.length LS w12 rfl HLL.out st1 st2
      go_wp2_with fail
      with_reducible refine Calls.mono HSS.out ?_
      rintro e w13 ⟨rfl, hq⟩
      replace hB := hB.trans (hq.mono hB.size)
      replace hB5 := hB5.trans (hq.mono hB5.size)
      clear hq HSS st1 st2 hSB hSL hBP
      go_upto_region 9 with fail
      have HC3 : Hid (Calls Try.prog 17 #[.slice oa xs.length oc, .nilFunc] w13 fun e W' => (∃ h : Hd, e = .returned (.tuple #[.agg #[.int .i64 fk, .int .i64 fm, .int .i64 fu, .int .i64 fg, .bool fo, .slice h.aa fa.length h.ca, .string fd, .slice h.ak fs.length h.ck], .bool TB]) ∧ NdV W'.cell? (.mk fk fm fu fg fo fa fd fs) h) ∧ Below w13.heap.size w13 W') := by
        have e := mflat_one (w := w13) (S := fun _ => false) (cap := oc) (fv := .nilFunc) (F := idF) (fun _ hk => by cases hk) (by rw [offS_no]; exact HOWN.out.on (mle_below hB5)) HOK.out (.inl ⟨rfl, rfl⟩)
        rw [show flatD idF (shP (layP xs)) = (.mk fk fm fu fg fo fa fd fs) from HFX.out, HTB.out] at e
        exact Calls.mono e fun e W' he => ⟨he.1.imp fun h q => ⟨q.1, q.2.on (offS_le _ _)⟩, he.2⟩
      go_wp2_with fail
      with_reducible refine Calls.mono HC3.out ?_
      rintro e w13' ⟨⟨h3, rfl, n3⟩, hq⟩
      replace hB := hB.trans (hq.mono hB.size)
      replace hB5 := hB5.trans (hq.mono hB5.size)
      have X13 := NBw.new w13' fk fm fu fg fo fa fd fs h3
      have hq2 := alloc_bel2 w13' (.cells #[.int .i64 fk, .int .i64 fm, .int .i64 fu, .int .i64 fg, .bool fo, .slice h3.aa fa.length h3.ca, .string fd, .slice h3.ak fs.length h3.ck] 31)
      replace hB := hB.trans (hq2.mono hB.size)
      replace hB5 := hB5.trans (hq2.mono hB5.size)
      replace n3 := n3.ab hq2
      clear hq hq2 HC3
      go_upto_region 10 with fail
      generalize w13'.alloc (.cells #[.int .i64 fk, .int .i64 fm, .int .i64 fu, .int .i64 fg, .bool fo, .slice h3.aa fa.length h3.ca, .string fd, .slice h3.ak fs.length h3.ck] 31) = w14 at hB hB5 n3 X13   ⊢
      generalize w13'.heap.size = qX13 at X13 ⊢
      have HC4 : Hid (Calls Try.prog 18 #[.slice a xs.length cap, .slice none 0 0, .agg #[.slice none 0 0, .slice none 0 0], .bool false] w14 fun e W' => (∃ h : Hd, e = .returned (.tuple #[.agg #[.int .i64 fk, .int .i64 fm, .int .i64 fu, .int .i64 fg, .bool fo, .slice h.aa fa.length h.ca, .string fd, .slice h.ak fs.length h.ck], .bool TB]) ∧ NdV W'.cell? (.mk fk fm fu fg fo fa fd fs) h) ∧ Below w14.heap.size w14 W') := by
        have e := rflat_any (a := a) (cap := cap) HOK.out (tot (stackP xs [])) w14 (fun _ => false) none 0 [] (Nat.le_refl _) (by have h1 := tot_shP (layP xs); show 0 + tot (shP (layP xs)) ≤ 900; omega) (fun _ hk => by cases hk) (by rw [offS_no]; exact HX.out.on (mle_below hB)) (.inl rfl) ⟨Nat.le_refl _, by decide⟩
        rw [show flat0 (stackP xs []) = (.mk fk fm fu fg fo fa fd fs) from HFX.out, show lkB (stackP xs []) = TB from HTB.out] at e
        exact Calls.mono e fun e W' he => ⟨he.1.imp fun h q => ⟨q.1, q.2.on (offS_le _ _)⟩, he.2⟩
      go_wp2_with fail
      with_reducible refine Calls.mono HC4.out ?_
      rintro e w14' ⟨⟨h4, rfl, n4⟩, hq⟩
      replace hB := hB.trans (hq.mono hB.size)
      replace hB5 := hB5.trans (hq.mono hB5.size)
      replace n3 := n3.ab hq
      replace X13 := X13.below hq
      have X15 := NBw.new w14' fk fm fu fg fo fa fd fs h4
      have hq2 := alloc_bel2 w14' (.cells #[.int .i64 fk, .int .i64 fm, .int .i64 fu, .int .i64 fg, .bool fo, .slice h4.aa fa.length h4.ca, .string fd, .slice h4.ak fs.length h4.ck] 31)
      replace hB := hB.trans (hq2.mono hB.size)
      replace hB5 := hB5.trans (hq2.mono hB5.size)
      replace n3 := n3.ab hq2
      replace n4 := n4.ab hq2
      replace X13 := X13.below hq2
      clear hq hq2 HC4
      go_upto_region 11 with fail
      generalize w14'.alloc (.cells #[.int .i64 fk, .int .i64 fm, .int .i64 fu, .int .i64 fg, .bool fo, .slice h4.aa fa.length h4.ca, .string fd, .slice h4.ak fs.length h4.ck] 31) = w15 at hB hB5 n4 X15 n3 X13 ⊢
      generalize w14'.heap.size = qX15 at X15 ⊢
      obtain ⟨y0, y1, y2, y3, y4, y5, y6, y7⟩ := id X13.1
      obtain ⟨v0, v1, v2, v3, v4, v5, v6, v7⟩ := id X15.1
      have hTB : (TB != TB) = false := by cases TB <;> rfl
      have HSN : Hid (Calls Try.prog 11 #[.agg #[.int .i64 fk, .int .i64 fm, .int .i64 fu, .int .i64 fg, .bool fo, .slice h3.aa fa.length h3.ca, .string fd, .slice h3.ak fs.length h3.ck], .agg #[.int .i64 fk, .int .i64 fm, .int .i64 fu, .int .i64 fg, .bool fo, .slice h4.aa fa.length h4.ca, .string fd, .slice h4.ak fs.length h4.ck]] w15 fun e W' => e = .returned (.bool true) ∧ Below w15.heap.size w15 W') := sameNode_yes n3 h4 w15 HLF.out n4 (Below.refl _ _)
      go_wp2_with fail
      with_reducible refine Calls.mono HSN.out ?_
      rintro e w16 ⟨rfl, hq⟩
      replace hB := hB.trans (hq.mono hB.size)
      replace hB5 := hB5.trans (hq.mono hB5.size)
      clear hq HSN y0 y1 y2 y3 y4 y5 y6 y7 v0 v1 v2 v3 v4 v5 v6 v7 X13 X15 n3 n4 hTB
      go_upto_region 13 with fail
      have HC5 : Hid (Calls Try.prog 17 #[.slice oa xs.length oc, .func (.func 19) #[] #[]] w16 fun e W' => (∃ h : Hd, e = .returned (.tuple #[.agg #[.int .i64 ck, .int .i64 cm, .int .i64 0, .int .i64 cg, .bool co, .slice h.aa ca.length h.ca, .string cd, .slice h.ak cs.length h.ck], .bool TB]) ∧ NdV W'.cell? (.mk ck cm 0 cg co ca cd cs) h) ∧ Below w16.heap.size w16 W') := by
        have e := mflat_one (w := w16) (S := fun _ => false) (cap := oc) (fv := .func (.func 19) #[] #[]) (F := layF) (fun _ hk => by cases hk) (by rw [offS_no]; exact HOWN.out.on (mle_below hB5)) HOK.out (.inr ⟨19, #[], rfl, enters_of Try.func19 (by kernel_rfl) rfl, fun W S k m u g o at_ d aa ca ly _ hS h1 h2 h3 hk => ms1_any hS h1 h2 h3 hk⟩)
        rw [HCX.out, HTB.out] at e
        exact Calls.mono e fun e W' he => ⟨he.1.imp fun h q => ⟨q.1, q.2.on (offS_le _ _)⟩, he.2⟩
      go_wp2_with fail
      with_reducible refine Calls.mono HC5.out ?_
      rintro e w16' ⟨⟨h5, rfl, n5⟩, hq⟩
      replace hB := hB.trans (hq.mono hB.size)
      replace hB5 := hB5.trans (hq.mono hB5.size)
      have X17 := NBw.new w16' ck cm 0 cg co ca cd cs h5
      have hq2 := alloc_bel2 w16' (.cells #[.int .i64 ck, .int .i64 cm, .int .i64 0, .int .i64 cg, .bool co, .slice h5.aa ca.length h5.ca, .string cd, .slice h5.ak cs.length h5.ck] 31)
      replace hB := hB.trans (hq2.mono hB.size)
      replace hB5 := hB5.trans (hq2.mono hB5.size)
      replace n5 := n5.ab hq2
      clear hq hq2 HC5
      go_upto_region 14 with fail
      generalize w16'.alloc (.cells #[.int .i64 ck, .int .i64 cm, .int .i64 0, .int .i64 cg, .bool co, .slice h5.aa ca.length h5.ca, .string cd, .slice h5.ak cs.length h5.ck] 31) = w17 at hB hB5 n5 X17   ⊢
      generalize w16'.heap.size = qX17 at X17 ⊢
      obtain ⟨y0, y1, y2, y3, y4, y5, y6, y7⟩ := id X17.1
      have HSM : Hid (Calls Try.prog 20 #[.slice oa xs.length oc, .slice a xs.length cap] w17 fun e W' => e = .returned (.bool true) ∧ Below w17.heap.size w17 W') := sameNodes_any HOWN.out (HX.out.on (mle_below HB5.out)) hB5 (by omega) (fun x hx => (HAL.out x hx).1)
      cases TB with
      | false =>
        go_wp2_with fail
        with_reducible refine Calls.mono HSM.out ?_
        rintro e w18 ⟨rfl, hq⟩
        replace hB := hB.trans (hq.mono hB.size)
        go_wp2
        go_ret
        exact ⟨rfl, hB⟩
      | true =>
        go_wp2_with fail
        with_reducible refine Calls.mono HSM.out ?_
        rintro e w18 ⟨rfl, hq⟩
        replace hB := hB.trans (hq.mono hB.size)
        go_wp2
        go_ret
        exact ⟨rfl, hB⟩
end Go.Proofs.Ytgmeecfdkcbggaa
