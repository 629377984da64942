/-
  CopySays: the walk.
-/
import Derived.Test.YtkkhfnkmfkdhiabPaX
import Derived.Test.YtkkhfnkmfkdhiabUcX
import Derived.Test.YtkkhfnkmfkdhiabZfY
import Derived.Test.YtkkhfnkmfkdhiabZpaY
namespace Go.Proofs.Ytkkhfnkmfkdhiab
open Go.RowKit

set_option maxHeartbeats 400000 in
theorem same_zero (n : Int) (w : World) : Calls Try.prog 14 #[.iface 96 (.int .i64 n), .int .i64 0] w fun e w' => e = .returned (.bool false) ∧ w = w' := by
  have ha := assert87
  go_enter Try.func14, Try.ntmps14
  go_wp2
  go_ret
  exact ⟨rfl, rfl⟩
/-- Either answer, as a node and an error, or a bool. -/
def opN (o : Option Nd) : Nd := o.getD zN
theorem mvE_one {W W' : World} {S : Nat → Bool} {e : Ending} {o : Option Nd} (h : MvE W W' S e o) : (∃ h', e = .returned (.tuple #[ndV (opN o) h', if o.isSome = true then .nilIface else .iface 96 (.int .i64 11)]) ∧ NdV (offS W'.cell? S) (opN o) h') ∧ Below W.heap.size W W' := by
  cases o with
  | none => exact ⟨⟨zH, h.1, nZ _⟩, h.2⟩
  | some y => exact h
theorem mvR_one {W W' : World} {S : Nat → Bool} {e : Ending} {o : Option Nd} (h : MvR W W' S e o) : (∃ h', e = .returned (.tuple #[ndV (opN o) h', .bool o.isSome]) ∧ NdV (offS W'.cell? S) (opN o) h') ∧ Below W.heap.size W W' := by
  cases o with
  | none => exact ⟨⟨zH, h.1, nZ _⟩, h.2⟩
  | some y => exact h
theorem opN_lim {out : Bool} {us gs : List Rg} {x : Nd} (h : Lim x) : Lim (opN (mvF out us gs x)) := by
  cases hm : mvF out us gs x with
  | none => exact zN_lim
  | some y =>
    show Lim y
    obtain ⟨k, m, u, g, o, at_, d, ks⟩ := x
    rw [mvF] at hm
    split at hm
    · cases hm; exact lim_ids h
    · cases hm
theorem upN_lim {us gs : List Rg} {xs : List Nd} {names : List ByteArray} {U : Nd} (hlm : LimP (layP xs)) (hU : At1 U) : ∀ {k : Nat} {V : Nd}, upN us gs xs names U k = .ok V → At1 V ∧ cnt V ≤ cnt U + k
  | 0, V, h => by cases h; exact ⟨hU, Nat.le_refl _⟩
  | k + 1, V, h => by
    rw [upN] at h
    cases hk : upN us gs xs names U k with
    | error f => rw [hk] at h; cases h
    | ok V' =>
      rw [hk] at h
      obtain ⟨h1, h2⟩ := upN_lim hlm hU hk
      dsimp only at h
      cases hs : stackP xs (names.take (k + 1)) with
      | nil => rw [hs] at h; cases h; exact ⟨h1, by omega⟩
      | cons q r =>
        rw [hs] at h
        dsimp only at h
        by_cases hz : q.2 = 0
        · rw [if_pos hz] at h; cases h; exact ⟨h1, by omega⟩
        · rw [if_neg hz] at h
          cases hm : mvF true us gs (bareN q.1) with
          | none => rw [hm] at h; cases h
          | some y =>
            rw [hm] at h
            dsimp only at h
            have hq : Lim q.1 := stackP_lim hlm _ q (by rw [hs]; exact List.mem_cons_self ..)
            have c := chg_cnt h
            have e : cntO (some y) = 1 := (cnt_mv hm).trans (cnt_bare _)
            exact ⟨chg_at1 h (fun z e => by cases e; exact at1_mv hm (at1_bare hq)) h1, by omega⟩
theorem upR_lim {us gs : List Rg} {xs : List Nd} {names : List ByteArray} {U : Nd} (hlm : LimP (layP xs)) (hU : At1 U) (hc : cnt U + names.length ≤ 1000) : Lim (xNd (UpR us gs xs names U)) := by
  unfold UpR
  split
  · exact zN_lim
  · cases hr : upN us gs xs names U names.length with
    | error f => exact zN_lim
    | ok V =>
      obtain ⟨h1, h2⟩ := upN_lim hlm hU hr
      exact lim_at V h1 (by omega)
theorem upN_pos {us gs : List Rg} {xs : List Nd} {names : List ByteArray} {U : Nd} {f : Int} : ∀ {k : Nat}, upN us gs xs names U k = .error f → 0 ≤ f
  | 0, h => by cases h
  | k + 1, h => by
    rw [upN] at h
    cases hk : upN us gs xs names U k with
    | error f' => rw [hk] at h; cases h; exact upN_pos hk
    | ok V' =>
      rw [hk] at h
      dsimp only at h
      cases hs : stackP xs (names.take (k + 1)) with
      | nil => rw [hs] at h; cases h
      | cons q r =>
        rw [hs] at h
        dsimp only at h
        by_cases hz : q.2 = 0
        · rw [if_pos hz] at h; cases h
        · rw [if_neg hz] at h
          cases hm : mvF true us gs (bareN q.1) with
          | none => rw [hm] at h; cases h; decide
          | some y =>
            rw [hm] at h
            exact Int.le_of_lt (chg_err7 h).1
theorem upR_pos (us gs : List Rg) (xs : List Nd) (names : List ByteArray) (U : Nd) : 0 ≤ xErr (UpR us gs xs names U) := by
  unfold UpR
  split
  · show (0 : Int) ≤ 5; decide
  · cases hr : upN us gs xs names U names.length with
    | error f => exact upN_pos hr
    | ok V => exact Int.le_refl _

set_option maxRecDepth 100000 in
set_option maxHeartbeats 40000000 in
theorem copysays_any {W : World} {a : Option Addr} {cap : Nat} {xs : List Nd} (hx : NsV W.cell? a xs) (hxi : ∀ x ∈ xs, IdN x) (hxc : xs.length ≤ 9223372036854775807) {M : MapsV} (hu : Rgs W M.ua M.us) (hg : Rgs W M.ga M.gs) (hcu : M.us.length ≤ M.uc) (hcg : M.gs.length ≤ M.gc) (hou : ∀ r ∈ M.us, r.ok) (hog : ∀ r ∈ M.gs, r.ok) (an : Option Addr) (capn : Nat) (names : List ByteArray) (hs : Strs W.cell? an names) (hcn : names.length ≤ capn ∧ capn ≤ 9223372036854775807) {x : Nd} {h : Hd} (hN : NdV W.cell? x h) (hxn : IdN x) :
    Calls Try.prog 8 #[.slice a xs.length cap, M.v, .slice an names.length capn, ndV x h] W fun e W' => e = .returned (.bool true) ∧ Below W.heap.size W W' := by
  obtain ⟨ua, ga, uc, gc, us, gs⟩ := M
  dsimp only at hu hg hcu hcg hou hog
  obtain ⟨LB, HLB⟩ : ∃ B, Hid (lightsB xs = B) := ⟨_, rfl⟩
  obtain ⟨FB, HFB⟩ : ∃ B, Hid (fewB names = B) := ⟨_, rfl⟩
  obtain ⟨LF, HLF⟩ : ∃ B, Hid (lightF x 80 = B) := ⟨_, rfl⟩
  have HX : Hid (NsV W.cell? a xs) := hx
  have HXI : Hid (∀ x ∈ xs, IdN x) := hxi
  have HU : Hid (Rgs W ua us) := hu
  have HG : Hid (Rgs W ga gs) := hg
  have HOU : Hid (∀ r ∈ us, r.ok) := hou
  have HOG : Hid (∀ r ∈ gs, r.ok) := hog
  have HS : Hid (Strs W.cell? an names) := hs
  have HNN : Hid (NdV W.cell? x h) := hN
  have HXN : Hid (IdN x) := hxn
  obtain ⟨k, m, u, g, o, at_, d, ks⟩ := x
  obtain ⟨c0, c1, NB, hB, hz2⟩ := two_boxes W _ _ ua ga us.length gs.length uc gc k m u g o at_ d ks h rfl rfl
  have HNL : Hid (names.length ≤ 9223372036854775807) := by show _ ≤ _; omega
  have HNC : Hid (names.length ≤ capn ∧ capn ≤ 9223372036854775807) := hcn
  have HXC : Hid (xs.length ≤ 9223372036854775807) := hxc
  have HCU : Hid (us.length ≤ uc ∧ gs.length ≤ gc) := ⟨hcu, hcg⟩
  show Calls Try.prog 8 #[.slice a xs.length cap, .agg #[.slice ua us.length uc, .slice ga gs.length gc], .slice an names.length capn, .agg #[.int .i64 k, .int .i64 m, .int .i64 u, .int .i64 g, .bool o, .slice h.aa at_.length h.ca, .string d, .slice h.ak ks.length h.ck]] W _
  clear hx hxi hu hg hou hog hs hN hxn hz2 hcn hxc hcu hcg
  have HB0 : Hid (Below W.heap.size W ((W.alloc (.cells #[.slice ua us.length uc, .slice ga gs.length gc] 62)).alloc (.cells #[.int .i64 k, .int .i64 m, .int .i64 u, .int .i64 g, .bool o, .slice h.aa at_.length h.ca, .string d, .slice h.ak ks.length h.ck] 25))) := hB
  go_enter Try.func8, Try.ntmps8
  go_wp2_with fail
  refine Calls.mono (comes_any _) ?_
  rintro e w1 ⟨rfl, hq⟩
  replace hB := hB.trans (hq.mono hB.size)
  replace c0 := mle_below hq _ _ c0
  replace c1 := mle_below hq _ _ c1
  replace NB := NB.below hq
  clear hq
  go_wp2_with fail
  have HL1 := lights_any (cap := cap) (HX.out.on (mle_below hB)) HXC.out
  rw [HLB.out] at HL1
  refine Calls.mono HL1 ?_
  rintro e w2 ⟨rfl, hq⟩
  replace hB := hB.trans (hq.mono hB.size)
  replace c0 := mle_below hq _ _ c0
  replace c1 := mle_below hq _ _ c1
  replace NB := NB.below hq
  clear hq
  clear HL1
  cases LB with
  | false =>
    go_wp2
    go_ret
    exact ⟨rfl, hB⟩
  | true =>
    by_cases hul : 6 < us.length
    · have d1 : decide ((6 : Int) < (us.length : Int)) = true := decide_eq_true (by omega)
      go_wp2
      go_ret
      exact ⟨rfl, hB⟩
    have d1 : decide ((6 : Int) < (us.length : Int)) = false := decide_eq_false (by omega)
    by_cases hgl : 6 < gs.length
    · have d2 : decide ((6 : Int) < (gs.length : Int)) = true := decide_eq_true (by omega)
      go_wp2
      go_ret
      exact ⟨rfl, hB⟩
    have d2 : decide ((6 : Int) < (gs.length : Int)) = false := decide_eq_false (by omega)
    go_wp2_with fail
    have HF1 := few_any an capn names w2 (HS.out.on (mle_below hB)) HNL.out
    rw [HFB.out] at HF1
    refine Calls.mono HF1 ?_
    rintro e w3 ⟨rfl, rfl⟩
    clear HF1
    cases FB with
    | false =>
      go_wp2
      go_ret
      exact ⟨rfl, hB⟩
    | true =>
      obtain ⟨y0, y1, y2, y3, y4, y5, y6, y7⟩ := id NB.1
      go_wp2_with fail
      have HL2 := Light_any (HNN.out.ab hB)
      rw [HLF.out] at HL2
      refine Calls.mono HL2 ?_
      rintro e w4 ⟨rfl, hq⟩
      replace hB := hB.trans (hq.mono hB.size)
      replace c0 := mle_below hq _ _ c0
      replace c1 := mle_below hq _ _ c1
      replace NB := NB.below hq
      clear hq
      clear HL2 y0 y1 y2 y3 y4 y5 y6 y7
      by_cases hlf : 0 < LF
      rotate_left
      · have d3 : decide (0 < LF) = false := decide_eq_false hlf
        rw [d3]
        go_wp2
        go_ret
        exact ⟨rfl, hB⟩
      have d3 : decide (0 < LF) = true := decide_eq_true hlf
      rw [d3]
      have HLIX : Hid (Lil (.mk k m u g o at_ d ks) ∧ cnt (.mk k m u g o at_ d ks) ≤ 80) := by
        have e := light_lil (.mk k m u g o at_ d ks) 80 (by rw [HLF.out]; exact hlf)
        exact ⟨e.1, by have := e.2; rw [HLF.out] at this; omega⟩
      have HALL : Hid (xs.length ≤ 5 ∧ ∀ x ∈ xs, Lil x ∧ cnt x ≤ 80) := by
        have e := HLB.out
        unfold lightsB at e
        rw [Bool.and_eq_true] at e
        refine ⟨of_decide_eq_true e.1, fun x hx => ?_⟩
        have e2 := of_decide_eq_true (List.all_eq_true.1 e.2 x hx)
        have e3 := light_lil x 80 e2
        exact ⟨e3.1, by have := e3.2; omega⟩
      have HFEW : Hid (names.length ≤ 12 ∧ ∀ s ∈ names, s.size ≤ 60) := few_facts HFB.out
      have HLX : Hid (Lim (.mk k m u g o at_ d ks)) := lim_of _ (by have := HLIX.out.2; omega) HLIX.out.1
      have HAL : Hid (∀ x ∈ xs, Lim x ∧ cnt x ≤ 1000) := fun x hx => ⟨lim_of x (by have := (HALL.out.2 x hx).2; omega) (HALL.out.2 x hx).1, by have := (HALL.out.2 x hx).2; omega⟩
      clear hlf d3
      go_wp2_with fail
      refine Calls.mono (copies_any (cap := cap) (HX.out.on (mle_below hB)) HALL.out.1 HAL.out) ?_
      rintro e w5 ⟨oa, oc, rfl, hoc, hown, hq⟩
      have HOWN : Hid (NsV w5.cell? oa xs) := hown
      replace hB := hB.trans (hq.mono hB.size)
      replace c0 := mle_below hq _ _ c0
      replace c1 := mle_below hq _ _ c1
      replace NB := NB.below hq
      clear hq
      clear hown
      have HMO : Hid (∀ w', Below W.heap.size W w' → MapsOk w' ⟨ua, ga, uc, gc, us, gs⟩) := fun w' hb => ⟨(HU.out.below hb), (HG.out.below hb), by show us.length ≤ 100; omega, by show gs.length ≤ 100; omega, HCU.out.1, HCU.out.2, HOU.out, HOG.out⟩
      obtain ⟨W5, hW5⟩ : ∃ W5, W5 = w5 := ⟨w5, rfl⟩
      have hB5 : Below W5.heap.size W5 w5 := by rw [hW5]; exact Below.refl _ _
      rw [← hW5] at HOWN
      have HB5 : Hid (Below W.heap.size W W5) := by rw [hW5]; exact hB
      clear hW5
      obtain ⟨OI, HOI⟩ : ∃ O, Hid (mvF false us gs (.mk k m u g o at_ d ks) = O) := ⟨_, rfl⟩
      obtain ⟨OO, HOO⟩ : ∃ O, Hid (mvF true us gs (.mk k m u g o at_ d ks) = O) := ⟨_, rfl⟩
      have HLI : Hid (Lim (opN OI)) := by rw [← HOI.out]; exact opN_lim HLX.out
      have HLO : Hid (Lim (opN OO)) := by rw [← HOO.out]; exact opN_lim HLX.out
      obtain ⟨ZI, HZOI⟩ : ∃ Z, Hid (opN OI = Z) := ⟨_, rfl⟩
      obtain ⟨ZO, HZOO⟩ : ∃ Z, Hid (opN OO = Z) := ⟨_, rfl⟩
      rw [HZOI.out] at HLI
      rw [HZOO.out] at HLO
      obtain ⟨jk, jm, ju, jg, jo, ja, jd, js⟩ := ZI
      obtain ⟨zk, zm, zu, zg, zo, za, zd, zs⟩ := ZO
      have hxT : IdT (.mk k m u g o at_ d ks) := idT_of HXN.out
      obtain ⟨VI, HVOI⟩ : ∃ V : Value, Hid ((if OI.isSome = true then .nilIface else .iface 96 (.int .i64 11)) = V) := ⟨_, rfl⟩
      obtain ⟨VO, HVOO⟩ : ∃ V : Value, Hid ((if OO.isSome = true then .nilIface else .iface 96 (.int .i64 11)) = V) := ⟨_, rfl⟩
      obtain ⟨BI, HBOI⟩ : ∃ V, Hid (OI.isSome = V) := ⟨_, rfl⟩
      obtain ⟨BO, HBOO⟩ : ∃ V, Hid (OO.isSome = V) := ⟨_, rfl⟩
      obtain ⟨y0, y1, y2, y3, y4, y5, y6, y7⟩ := id NB.1
      have HC : Hid (Calls Try.prog 42 #[.agg #[.slice ua us.length uc, .slice ga gs.length gc], .agg #[.int .i64 k, .int .i64 m, .int .i64 u, .int .i64 g, .bool o, .slice h.aa at_.length h.ca, .string d, .slice h.ak ks.length h.ck]] w5 fun e W' => (∃ h', e = .returned (.tuple #[.agg #[.int .i64 jk, .int .i64 jm, .int .i64 ju, .int .i64 jg, .bool jo, .slice h'.aa ja.length h'.ca, .string jd, .slice h'.ak js.length h'.ck], VI]) ∧ NdV W'.cell? (.mk jk jm ju jg jo ja jd js) h') ∧ Below w5.heap.size w5 W') := by
        have e := inside_co (W := w5) (S := fun _ => false) (M := ⟨ua, ga, uc, gc, us, gs⟩) (fun _ hk => by cases hk) (by rw [offS_no]; exact HNN.out.ab hB) HLX.out (by have := HLIX.out.2; omega) hxT (HMO.out _ hB)
        rw [HOI.out] at e
        refine Calls.mono e fun e W' he => ?_
        have he2 := mvE_one he
        rw [HZOI.out, HVOI.out] at he2
        exact ⟨he2.1.imp fun h' q => ⟨q.1, q.2.on (offS_le _ _)⟩, he2.2⟩
      go_wp2_with fail
      with_reducible refine Calls.mono HC.out ?_
      rintro e w5' ⟨⟨hi, rfl, ni⟩, hq⟩
      replace hB := hB.trans (hq.mono hB.size)
      replace c0 := mle_below hq _ _ c0
      replace c1 := mle_below hq _ _ c1
      replace NB := NB.below hq
      replace hB5 := hB5.trans (hq.mono hB5.size)
      clear hq
      have X11 := NBw.new w5' jk jm ju jg jo ja jd js hi
      have hq := alloc_bel2 w5' (.cells #[.int .i64 jk, .int .i64 jm, .int .i64 ju, .int .i64 jg, .bool jo, .slice hi.aa ja.length hi.ca, .string jd, .slice hi.ak js.length hi.ck] 25)
      replace hB := hB.trans (hq.mono hB.size)
      replace c0 := mle_below hq _ _ c0
      replace c1 := mle_below hq _ _ c1
      replace NB := NB.below hq
      replace ni := ni.ab hq
      replace hB5 := hB5.trans (hq.mono hB5.size)
      clear hq
      clear HC y0 y1 y2 y3 y4 y5 y6 y7
      go_upto_region 6 with fail
      generalize w5'.alloc (.cells #[.int .i64 jk, .int .i64 jm, .int .i64 ju, .int .i64 jg, .bool jo, .slice hi.aa ja.length hi.ca, .string jd, .slice hi.ak js.length hi.ck] 25) = w6 at c0 c1 NB hB hB5 X11   ni ⊢
      generalize w5'.heap.size = qX11 at X11 ⊢
      obtain ⟨y0, y1, y2, y3, y4, y5, y6, y7⟩ := id NB.1
      have HC : Hid (Calls Try.prog 43 #[.agg #[.slice ua us.length uc, .slice ga gs.length gc], .agg #[.int .i64 k, .int .i64 m, .int .i64 u, .int .i64 g, .bool o, .slice h.aa at_.length h.ca, .string d, .slice h.ak ks.length h.ck]] w6 fun e W' => (∃ h', e = .returned (.tuple #[.agg #[.int .i64 zk, .int .i64 zm, .int .i64 zu, .int .i64 zg, .bool zo, .slice h'.aa za.length h'.ca, .string zd, .slice h'.ak zs.length h'.ck], VO]) ∧ NdV W'.cell? (.mk zk zm zu zg zo za zd zs) h') ∧ Below w6.heap.size w6 W') := by
        have e := outside_co (W := w6) (S := fun _ => false) (M := ⟨ua, ga, uc, gc, us, gs⟩) (fun _ hk => by cases hk) (by rw [offS_no]; exact HNN.out.ab hB) HLX.out (by have := HLIX.out.2; omega) hxT (HMO.out _ hB)
        rw [HOO.out] at e
        refine Calls.mono e fun e W' he => ?_
        have he2 := mvE_one he
        rw [HZOO.out, HVOO.out] at he2
        exact ⟨he2.1.imp fun h' q => ⟨q.1, q.2.on (offS_le _ _)⟩, he2.2⟩
      go_wp2_with fail
      with_reducible refine Calls.mono HC.out ?_
      rintro e w6' ⟨⟨hz, rfl, nz⟩, hq⟩
      replace hB := hB.trans (hq.mono hB.size)
      replace c0 := mle_below hq _ _ c0
      replace c1 := mle_below hq _ _ c1
      replace NB := NB.below hq
      replace X11 := X11.below hq
      replace ni := ni.ab hq
      replace hB5 := hB5.trans (hq.mono hB5.size)
      clear hq
      have X13 := NBw.new w6' zk zm zu zg zo za zd zs hz
      have hq := alloc_bel2 w6' (.cells #[.int .i64 zk, .int .i64 zm, .int .i64 zu, .int .i64 zg, .bool zo, .slice hz.aa za.length hz.ca, .string zd, .slice hz.ak zs.length hz.ck] 25)
      replace hB := hB.trans (hq.mono hB.size)
      replace c0 := mle_below hq _ _ c0
      replace c1 := mle_below hq _ _ c1
      replace NB := NB.below hq
      replace X11 := X11.below hq
      replace ni := ni.ab hq
      replace nz := nz.ab hq
      replace hB5 := hB5.trans (hq.mono hB5.size)
      clear hq
      clear HC y0 y1 y2 y3 y4 y5 y6 y7
      go_upto_region 7 with fail
      generalize w6'.alloc (.cells #[.int .i64 zk, .int .i64 zm, .int .i64 zu, .int .i64 zg, .bool zo, .slice hz.aa za.length hz.ca, .string zd, .slice hz.ak zs.length hz.ck] 25) = w7 at c0 c1 NB hB hB5 X13 X11 ni nz ⊢
      generalize w6'.heap.size = qX13 at X13 ⊢
      obtain ⟨y0, y1, y2, y3, y4, y5, y6, y7⟩ := id NB.1
      have HC : Hid (Calls Try.prog 44 #[.agg #[.slice ua us.length uc, .slice ga gs.length gc], .agg #[.int .i64 k, .int .i64 m, .int .i64 u, .int .i64 g, .bool o, .slice h.aa at_.length h.ca, .string d, .slice h.ak ks.length h.ck], .bool false] w7 fun e W' => (∃ h', e = .returned (.tuple #[.agg #[.int .i64 jk, .int .i64 jm, .int .i64 ju, .int .i64 jg, .bool jo, .slice h'.aa ja.length h'.ca, .string jd, .slice h'.ak js.length h'.ck], .bool BI]) ∧ NdV W'.cell? (.mk jk jm ju jg jo ja jd js) h') ∧ Below w7.heap.size w7 W') := by
        have e := rmoved_false (W := w7) (S := fun _ => false) (M := ⟨ua, ga, uc, gc, us, gs⟩) (by rw [offS_no]; exact HNN.out.ab hB) (fun _ hk => by cases hk) hxT (HMO.out _ hB)
        rw [HOI.out] at e
        refine Calls.mono e fun e W' he => ?_
        have he2 := mvR_one he
        rw [HZOI.out, HBOI.out] at he2
        exact ⟨he2.1.imp fun h' q => ⟨q.1, q.2.on (offS_le _ _)⟩, he2.2⟩
      go_wp2_with fail
      with_reducible refine Calls.mono HC.out ?_
      rintro e w7' ⟨⟨hi2, rfl, ni2⟩, hq⟩
      replace hB := hB.trans (hq.mono hB.size)
      replace c0 := mle_below hq _ _ c0
      replace c1 := mle_below hq _ _ c1
      replace NB := NB.below hq
      replace X11 := X11.below hq
      replace X13 := X13.below hq
      replace ni := ni.ab hq
      replace nz := nz.ab hq
      replace hB5 := hB5.trans (hq.mono hB5.size)
      clear hq
      have X15 := NBw.new w7' jk jm ju jg jo ja jd js hi2
      have hq := alloc_bel2 w7' (.cells #[.int .i64 jk, .int .i64 jm, .int .i64 ju, .int .i64 jg, .bool jo, .slice hi2.aa ja.length hi2.ca, .string jd, .slice hi2.ak js.length hi2.ck] 25)
      replace hB := hB.trans (hq.mono hB.size)
      replace c0 := mle_below hq _ _ c0
      replace c1 := mle_below hq _ _ c1
      replace NB := NB.below hq
      replace X11 := X11.below hq
      replace X13 := X13.below hq
      replace ni := ni.ab hq
      replace nz := nz.ab hq
      replace ni2 := ni2.ab hq
      replace hB5 := hB5.trans (hq.mono hB5.size)
      clear hq
      clear HC y0 y1 y2 y3 y4 y5 y6 y7
      go_upto_region 8 with fail
      generalize w7'.alloc (.cells #[.int .i64 jk, .int .i64 jm, .int .i64 ju, .int .i64 jg, .bool jo, .slice hi2.aa ja.length hi2.ca, .string jd, .slice hi2.ak js.length hi2.ck] 25) = w8 at c0 c1 NB hB hB5 X15 X11 X13 ni nz ni2 ⊢
      generalize w7'.heap.size = qX15 at X15 ⊢
      obtain ⟨y0, y1, y2, y3, y4, y5, y6, y7⟩ := id NB.1
      have HC : Hid (Calls Try.prog 44 #[.agg #[.slice ua us.length uc, .slice ga gs.length gc], .agg #[.int .i64 k, .int .i64 m, .int .i64 u, .int .i64 g, .bool o, .slice h.aa at_.length h.ca, .string d, .slice h.ak ks.length h.ck], .bool true] w8 fun e W' => (∃ h', e = .returned (.tuple #[.agg #[.int .i64 zk, .int .i64 zm, .int .i64 zu, .int .i64 zg, .bool zo, .slice h'.aa za.length h'.ca, .string zd, .slice h'.ak zs.length h'.ck], .bool BO]) ∧ NdV W'.cell? (.mk zk zm zu zg zo za zd zs) h') ∧ Below w8.heap.size w8 W') := by
        have e := rmoved_true (W := w8) (S := fun _ => false) (M := ⟨ua, ga, uc, gc, us, gs⟩) (by rw [offS_no]; exact HNN.out.ab hB) (fun _ hk => by cases hk) hxT (HMO.out _ hB)
        rw [HOO.out] at e
        refine Calls.mono e fun e W' he => ?_
        have he2 := mvR_one he
        rw [HZOO.out, HBOO.out] at he2
        exact ⟨he2.1.imp fun h' q => ⟨q.1, q.2.on (offS_le _ _)⟩, he2.2⟩
      go_wp2_with fail
      with_reducible refine Calls.mono HC.out ?_
      rintro e w8' ⟨⟨hz2, rfl, nz2⟩, hq⟩
      replace hB := hB.trans (hq.mono hB.size)
      replace c0 := mle_below hq _ _ c0
      replace c1 := mle_below hq _ _ c1
      replace NB := NB.below hq
      replace X11 := X11.below hq
      replace X13 := X13.below hq
      replace X15 := X15.below hq
      replace ni := ni.ab hq
      replace nz := nz.ab hq
      replace ni2 := ni2.ab hq
      replace hB5 := hB5.trans (hq.mono hB5.size)
      clear hq
      have X17 := NBw.new w8' zk zm zu zg zo za zd zs hz2
      have hq := alloc_bel2 w8' (.cells #[.int .i64 zk, .int .i64 zm, .int .i64 zu, .int .i64 zg, .bool zo, .slice hz2.aa za.length hz2.ca, .string zd, .slice hz2.ak zs.length hz2.ck] 25)
      replace hB := hB.trans (hq.mono hB.size)
      replace c0 := mle_below hq _ _ c0
      replace c1 := mle_below hq _ _ c1
      replace NB := NB.below hq
      replace X11 := X11.below hq
      replace X13 := X13.below hq
      replace X15 := X15.below hq
      replace ni := ni.ab hq
      replace nz := nz.ab hq
      replace ni2 := ni2.ab hq
      replace nz2 := nz2.ab hq
      replace hB5 := hB5.trans (hq.mono hB5.size)
      clear hq
      clear HC y0 y1 y2 y3 y4 y5 y6 y7
      go_upto_region 9 with fail
      generalize w8'.alloc (.cells #[.int .i64 zk, .int .i64 zm, .int .i64 zu, .int .i64 zg, .bool zo, .slice hz2.aa za.length hz2.ca, .string zd, .slice hz2.ak zs.length hz2.ck] 25) = w9 at c0 c1 NB hB hB5 X17 X11 X13 X15 ni nz ni2 nz2 ⊢
      generalize w8'.heap.size = qX17 at X17 ⊢
      obtain ⟨kb, su1, sg1, sb1, su2, sg2, sb2, hT1, hT2⟩ : ∃ kb su1 sg1 sb1 su2 sg2 sb2, thingV true us gs (.mk k m u g o at_ d ks) = (.agg #[.bool kb, .int .i64 m, .int .i64 su1, .int .i64 sg1, .bool sb1]) ∧ thingV false us gs (.mk k m u g o at_ d ks) = (.agg #[.bool kb, .int .i64 m, .int .i64 su2, .int .i64 sg2, .bool sb2]) := ⟨_, _, _, _, _, _, _, rfl, rfl⟩
      have HSE1 : Hid (∀ w' : World, Below W.heap.size W w' → Calls Try.prog 45 #[.agg #[.slice ua us.length uc, .slice ga gs.length gc], .agg #[.int .i64 k, .int .i64 m, .int .i64 u, .int .i64 g, .bool o, .slice h.aa at_.length h.ca, .string d, .slice h.ak ks.length h.ck], .bool true] w' fun e W' => e = .returned (.agg #[.bool kb, .int .i64 m, .int .i64 su1, .int .i64 sg1, .bool sb1]) ∧ Below w'.heap.size w' W') := fun w' hb => by
        have e := seen_true (W := w') (h := h) (M := ⟨ua, ga, uc, gc, us, gs⟩) hxT (HMO.out w' hb)
        rw [hT1] at e
        exact e
      have HSE2 : Hid (∀ w' : World, Below W.heap.size W w' → Calls Try.prog 46 #[.agg #[.slice ua us.length uc, .slice ga gs.length gc], .agg #[.int .i64 k, .int .i64 m, .int .i64 u, .int .i64 g, .bool o, .slice h.aa at_.length h.ca, .string d, .slice h.ak ks.length h.ck], .bool true] w' fun e W' => e = .returned (.agg #[.bool kb, .int .i64 m, .int .i64 su1, .int .i64 sg1, .bool sb1]) ∧ Below w'.heap.size w' W') := fun w' hb => by
        have e := rseen_true (W := w') (h := h) (M := ⟨ua, ga, uc, gc, us, gs⟩) hxT (HMO.out w' hb)
        rw [hT1] at e
        exact e
      have HSE3 : Hid (∀ w' : World, Below W.heap.size W w' → Calls Try.prog 45 #[.agg #[.slice ua us.length uc, .slice ga gs.length gc], .agg #[.int .i64 k, .int .i64 m, .int .i64 u, .int .i64 g, .bool o, .slice h.aa at_.length h.ca, .string d, .slice h.ak ks.length h.ck], .bool false] w' fun e W' => e = .returned (.agg #[.bool kb, .int .i64 m, .int .i64 su2, .int .i64 sg2, .bool sb2]) ∧ Below w'.heap.size w' W') := fun w' hb => by
        have e := seen_false (W := w') (h := h) (M := ⟨ua, ga, uc, gc, us, gs⟩) hxT (HMO.out w' hb)
        rw [hT2] at e
        exact e
      have HSE4 : Hid (∀ w' : World, Below W.heap.size W w' → Calls Try.prog 46 #[.agg #[.slice ua us.length uc, .slice ga gs.length gc], .agg #[.int .i64 k, .int .i64 m, .int .i64 u, .int .i64 g, .bool o, .slice h.aa at_.length h.ca, .string d, .slice h.ak ks.length h.ck], .bool false] w' fun e W' => e = .returned (.agg #[.bool kb, .int .i64 m, .int .i64 su2, .int .i64 sg2, .bool sb2]) ∧ Below w'.heap.size w' W') := fun w' hb => by
        have e := rseen_false (W := w') (h := h) (M := ⟨ua, ga, uc, gc, us, gs⟩) hxT (HMO.out w' hb)
        rw [hT2] at e
        exact e
      clear hT1 hT2 hxT
      obtain ⟨U, HUD⟩ : ∃ U : Nd, Hid ((xs[0]?).getD zN = U) := ⟨(xs[0]?).getD zN, rfl⟩
      have HUF : Hid (∀ x, xs[0]? = some x → x = U) := fun x hx => by rw [← HUD.out, hx]; rfl
      have HUU : Hid (At1 U ∧ cnt U ≤ 80) := by
        rw [← HUD.out]
        cases hx0 : xs[0]? with
        | none => exact ⟨by show At1 zN; unfold zN; rw [At1]; exact ⟨Nat.zero_le _, by rw [At1L]; trivial⟩, by show cnt zN ≤ _; unfold zN; rw [cnt, cntL]; omega⟩
        | some x => exact ⟨at_lil x (HALL.out.2 x (List.mem_of_getElem? hx0)).1, (HALL.out.2 x (List.mem_of_getElem? hx0)).2⟩
      have HAU1 : Hid (At1 U) := HUU.out.1
      have HCU1 : Hid (cnt U ≤ 400) := by have := HUU.out.2; show _ ≤ _; omega
      have HLAY : Hid (∀ q ∈ layP xs, q.1 ∈ xs) := fun q hq => List.mem_of_getElem? (List.mem_zipIdx_iff_getElem?.1 hq)
      have HSML : Hid (SmallP (layP xs)) := ⟨by rw [show (layP xs).length = xs.length from List.length_zipIdx]; have := HALL.out.1; omega, fun q hq => (HAL.out q.1 (HLAY.out q hq)).2⟩
      have HLML : Hid (LimP (layP xs)) := fun q hq => (HAL.out q.1 (HLAY.out q hq)).1
      have HIDL : Hid (IdP (layP xs)) := fun q hq => HXI.out q.1 (HLAY.out q hq)
      obtain ⟨RR, HRR⟩ : ∃ R, Hid (UpR us gs xs names U = R) := ⟨_, rfl⟩
      have HLR0 : Hid (Lim (xNd RR)) := by rw [← HRR.out]; exact upR_lim HLML.out HAU1.out (by have := HUU.out.2; have := HFEW.out.1; omega)
      have HPR0 : Hid (0 ≤ xErr RR) := by rw [← HRR.out]; exact upR_pos _ _ _ _ _
      obtain ⟨RN, HRN⟩ : ∃ R, Hid (xNd RR = R) := ⟨_, rfl⟩
      obtain ⟨FR, HRF⟩ : ∃ F, Hid (xErr RR = F) := ⟨_, rfl⟩
      obtain ⟨EVR, HRV⟩ : ∃ E, Hid (errV (xErr RR) = E) := ⟨_, rfl⟩
      rw [HRN.out] at HLR0
      obtain ⟨ek, em, eu, eg, eo, ea, ed, es⟩ := RN
      have HLR : Hid (Lim (.mk ek em eu eg eo ea ed es)) := HLR0.out
      have HSR : Hid (∀ w' : World, Calls Try.prog 14 #[EVR, .int .i64 FR] w' fun e W' => e = .returned (.bool true) ∧ w' = W') := fun w' => by
        have e := same_errV (xErr RR) HPR0.out w'
        rw [HRV.out, HRF.out] at e
        exact e
      have hVI : VI = if BI = true then .nilIface else .iface 96 (.int .i64 11) := by rw [← HVOI.out, HBOI.out]
      have hVO : VO = if BO = true then .nilIface else .iface 96 (.int .i64 11) := by rw [← HVOO.out, HBOO.out]
      clear HVOI HVOO HBOI HBOO HZOI HZOO HOI HOO
      cases BI with
      | true =>
        rw [if_pos rfl] at hVI
        subst hVI
        cases BO with
        | true =>
          rw [if_pos rfl] at hVO
          subst hVO
          go_wp2_with fail
          refine Calls.mono (same_nil _) ?_
          rintro e wq ⟨rfl, rfl⟩
          go_wp2_with fail
          refine Calls.mono (same_nil _) ?_
          rintro e wq ⟨rfl, rfl⟩
          obtain ⟨y0, y1, y2, y3, y4, y5, y6, y7⟩ := id X11.1
          obtain ⟨v0, v1, v2, v3, v4, v5, v6, v7⟩ := id X15.1
          have HSN : Hid (Calls Try.prog 17 #[.agg #[.int .i64 jk, .int .i64 jm, .int .i64 ju, .int .i64 jg, .bool jo, .slice hi.aa ja.length hi.ca, .string jd, .slice hi.ak js.length hi.ck], .agg #[.int .i64 jk, .int .i64 jm, .int .i64 ju, .int .i64 jg, .bool jo, .slice hi2.aa ja.length hi2.ca, .string jd, .slice hi2.ak js.length hi2.ck]] w9 fun e W' => e = .returned (.bool true) ∧ Below w9.heap.size w9 W') := sameNode_yes ni hi2 w9 HLI.out ni2 (Below.refl _ _)
          go_wp2_with fail
          with_reducible refine Calls.mono HSN.out ?_
          rintro e w10 ⟨rfl, hq⟩
          replace hB := hB.trans (hq.mono hB.size)
          replace c0 := mle_below hq _ _ c0
          replace c1 := mle_below hq _ _ c1
          replace NB := NB.below hq
          replace X11 := X11.below hq
          replace X13 := X13.below hq
          replace X15 := X15.below hq
          replace X17 := X17.below hq
          replace ni := ni.ab hq
          replace nz := nz.ab hq
          replace ni2 := ni2.ab hq
          replace nz2 := nz2.ab hq
          replace hB5 := hB5.trans (hq.mono hB5.size)
          clear hq
          clear HSN y0 y1 y2 y3 y4 y5 y6 y7 v0 v1 v2 v3 v4 v5 v6 v7
          obtain ⟨y0, y1, y2, y3, y4, y5, y6, y7⟩ := id X13.1
          obtain ⟨v0, v1, v2, v3, v4, v5, v6, v7⟩ := id X17.1
          have HSN : Hid (Calls Try.prog 17 #[.agg #[.int .i64 zk, .int .i64 zm, .int .i64 zu, .int .i64 zg, .bool zo, .slice hz.aa za.length hz.ca, .string zd, .slice hz.ak zs.length hz.ck], .agg #[.int .i64 zk, .int .i64 zm, .int .i64 zu, .int .i64 zg, .bool zo, .slice hz2.aa za.length hz2.ca, .string zd, .slice hz2.ak zs.length hz2.ck]] w10 fun e W' => e = .returned (.bool true) ∧ Below w10.heap.size w10 W') := sameNode_yes nz hz2 w10 HLO.out nz2 (Below.refl _ _)
          go_wp2_with fail
          with_reducible refine Calls.mono HSN.out ?_
          rintro e w11 ⟨rfl, hq⟩
          replace hB := hB.trans (hq.mono hB.size)
          replace c0 := mle_below hq _ _ c0
          replace c1 := mle_below hq _ _ c1
          replace NB := NB.below hq
          replace hB5 := hB5.trans (hq.mono hB5.size)
          clear hq
          clear HSN y0 y1 y2 y3 y4 y5 y6 y7 v0 v1 v2 v3 v4 v5 v6 v7
          clear X11 X13 X15 X17 ni nz ni2 nz2
          have T4 : w11.cell? ⟨W.heap.size, 0, none⟩ = some (.slice ua us.length uc) ∧ w11.cell? ⟨W.heap.size, 1, none⟩ = some (.slice ga gs.length gc) ∧ w11.cell? ⟨W.heap.size + 1, 0, none⟩ = some (.int .i64 k) ∧ w11.cell? ⟨W.heap.size + 1, 1, none⟩ = some (.int .i64 m) ∧ w11.cell? ⟨W.heap.size + 1, 2, none⟩ = some (.int .i64 u) ∧ w11.cell? ⟨W.heap.size + 1, 3, none⟩ = some (.int .i64 g) ∧ w11.cell? ⟨W.heap.size + 1, 4, none⟩ = some (.bool o) ∧ w11.cell? ⟨W.heap.size + 1, 5, none⟩ = some (.slice h.aa at_.length h.ca) ∧ w11.cell? ⟨W.heap.size + 1, 6, none⟩ = some (.string d) ∧ w11.cell? ⟨W.heap.size + 1, 7, none⟩ = some (.slice h.ak ks.length h.ck) := by
            obtain ⟨e0, e1, e2, e3, e4, e5, e6, e7⟩ := NB.1
            exact ⟨c0, c1, e0, e1, e2, e3, e4, e5, e6, e7⟩
          have HTB : Hid (∀ w' : World, Below w11.heap.size w11 w' → w'.cell? ⟨W.heap.size, 0, none⟩ = some (.slice ua us.length uc) ∧ w'.cell? ⟨W.heap.size, 1, none⟩ = some (.slice ga gs.length gc) ∧ w'.cell? ⟨W.heap.size + 1, 0, none⟩ = some (.int .i64 k) ∧ w'.cell? ⟨W.heap.size + 1, 1, none⟩ = some (.int .i64 m) ∧ w'.cell? ⟨W.heap.size + 1, 2, none⟩ = some (.int .i64 u) ∧ w'.cell? ⟨W.heap.size + 1, 3, none⟩ = some (.int .i64 g) ∧ w'.cell? ⟨W.heap.size + 1, 4, none⟩ = some (.bool o) ∧ w'.cell? ⟨W.heap.size + 1, 5, none⟩ = some (.slice h.aa at_.length h.ca) ∧ w'.cell? ⟨W.heap.size + 1, 6, none⟩ = some (.string d) ∧ w'.cell? ⟨W.heap.size + 1, 7, none⟩ = some (.slice h.ak ks.length h.ck)) := fun w' hb => ⟨mle_below hb _ _ T4.1, mle_below hb _ _ T4.2.1, mle_below hb _ _ T4.2.2.1, mle_below hb _ _ T4.2.2.2.1, mle_below hb _ _ T4.2.2.2.2.1, mle_below hb _ _ T4.2.2.2.2.2.1, mle_below hb _ _ T4.2.2.2.2.2.2.1, mle_below hb _ _ T4.2.2.2.2.2.2.2.1, mle_below hb _ _ T4.2.2.2.2.2.2.2.2.1, mle_below hb _ _ T4.2.2.2.2.2.2.2.2.2⟩
          have T5 : w11.drew.cell? ⟨W.heap.size, 0, none⟩ = some (.slice ua us.length uc) ∧ w11.drew.cell? ⟨W.heap.size, 1, none⟩ = some (.slice ga gs.length gc) ∧ w11.drew.cell? ⟨W.heap.size + 1, 0, none⟩ = some (.int .i64 k) ∧ w11.drew.cell? ⟨W.heap.size + 1, 1, none⟩ = some (.int .i64 m) ∧ w11.drew.cell? ⟨W.heap.size + 1, 2, none⟩ = some (.int .i64 u) ∧ w11.drew.cell? ⟨W.heap.size + 1, 3, none⟩ = some (.int .i64 g) ∧ w11.drew.cell? ⟨W.heap.size + 1, 4, none⟩ = some (.bool o) ∧ w11.drew.cell? ⟨W.heap.size + 1, 5, none⟩ = some (.slice h.aa at_.length h.ca) ∧ w11.drew.cell? ⟨W.heap.size + 1, 6, none⟩ = some (.string d) ∧ w11.drew.cell? ⟨W.heap.size + 1, 7, none⟩ = some (.slice h.ak ks.length h.ck) := T4
          have hBd : Below w11.heap.size w11 w11.drew := (Below.refl _ w11).drew
          have HS1 : Hid (∀ w' : World, Below w11.heap.size w11 w' → Calls Try.prog 45 #[.agg #[.slice ua us.length uc, .slice ga gs.length gc], .agg #[.int .i64 k, .int .i64 m, .int .i64 u, .int .i64 g, .bool o, .slice h.aa at_.length h.ca, .string d, .slice h.ak ks.length h.ck], .bool true] w' fun e W' => e = .returned (.agg #[.bool kb, .int .i64 m, .int .i64 su1, .int .i64 sg1, .bool sb1]) ∧ Below w'.heap.size w' W') := fun w' hb => HSE1.out w' (hB.trans (hb.mono hB.size))
          have HS2 : Hid (∀ w' : World, Below w11.heap.size w11 w' → Calls Try.prog 46 #[.agg #[.slice ua us.length uc, .slice ga gs.length gc], .agg #[.int .i64 k, .int .i64 m, .int .i64 u, .int .i64 g, .bool o, .slice h.aa at_.length h.ca, .string d, .slice h.ak ks.length h.ck], .bool true] w' fun e W' => e = .returned (.agg #[.bool kb, .int .i64 m, .int .i64 su1, .int .i64 sg1, .bool sb1]) ∧ Below w'.heap.size w' W') := fun w' hb => HSE2.out w' (hB.trans (hb.mono hB.size))
          have HS3 : Hid (∀ w' : World, Below w11.heap.size w11 w' → Calls Try.prog 45 #[.agg #[.slice ua us.length uc, .slice ga gs.length gc], .agg #[.int .i64 k, .int .i64 m, .int .i64 u, .int .i64 g, .bool o, .slice h.aa at_.length h.ca, .string d, .slice h.ak ks.length h.ck], .bool false] w' fun e W' => e = .returned (.agg #[.bool kb, .int .i64 m, .int .i64 su2, .int .i64 sg2, .bool sb2]) ∧ Below w'.heap.size w' W') := fun w' hb => HSE3.out w' (hB.trans (hb.mono hB.size))
          have HS4 : Hid (∀ w' : World, Below w11.heap.size w11 w' → Calls Try.prog 46 #[.agg #[.slice ua us.length uc, .slice ga gs.length gc], .agg #[.int .i64 k, .int .i64 m, .int .i64 u, .int .i64 g, .bool o, .slice h.aa at_.length h.ca, .string d, .slice h.ak ks.length h.ck], .bool false] w' fun e W' => e = .returned (.agg #[.bool kb, .int .i64 m, .int .i64 su2, .int .i64 sg2, .bool sb2]) ∧ Below w'.heap.size w' W') := fun w' hb => HSE4.out w' (hB.trans (hb.mono hB.size))
          clear T4
          go_upto_region 11 with fail
          go_region_held3 (fun w' => w'.cell? ⟨W.heap.size, 0, none⟩ = some (.slice ua us.length uc) ∧ w'.cell? ⟨W.heap.size, 1, none⟩ = some (.slice ga gs.length gc) ∧ w'.cell? ⟨W.heap.size + 1, 0, none⟩ = some (.int .i64 k) ∧ w'.cell? ⟨W.heap.size + 1, 1, none⟩ = some (.int .i64 m) ∧ w'.cell? ⟨W.heap.size + 1, 2, none⟩ = some (.int .i64 u) ∧ w'.cell? ⟨W.heap.size + 1, 3, none⟩ = some (.int .i64 g) ∧ w'.cell? ⟨W.heap.size + 1, 4, none⟩ = some (.bool o) ∧ w'.cell? ⟨W.heap.size + 1, 5, none⟩ = some (.slice h.aa at_.length h.ca) ∧ w'.cell? ⟨W.heap.size + 1, 6, none⟩ = some (.string d) ∧ w'.cell? ⟨W.heap.size + 1, 7, none⟩ = some (.slice h.ak ks.length h.ck)) (first | with_reducible exact T5 | with_reducible exact Ta | with_reducible exact Tb | with_reducible exact Tc | with_reducible exact Td) (first | (go_at_call 45; (with_reducible refine Calls.mono (HS1.out w11.drew hBd) ?_); rintro e wa ⟨rfl, hba⟩; have hba := hBd.trans (hba.mono hBd.size); have Ta := HTB.out wa hba) | (go_at_call 46; (with_reducible refine Calls.mono (HS2.out wa hba) ?_); rintro e wb ⟨rfl, hbb⟩; have hbb := hba.trans (hbb.mono hba.size); have Tb := HTB.out wb hbb) | (go_at_call 45; (with_reducible refine Calls.mono (HS3.out wb hbb) ?_); rintro e wc ⟨rfl, hbc⟩; have hbc := hbb.trans (hbc.mono hbb.size); have Tc := HTB.out wc hbc) | (go_at_call 46; (with_reducible refine Calls.mono (HS4.out wc hbc) ?_); rintro e wd ⟨rfl, hbd⟩; have hbd := hbc.trans (hbd.mono hbc.size); have Td := HTB.out wd hbd))
          clear T5 Ta Tb Tc Td HS1 HS2 HS3 HS4 HTB hba hbb hbc hBd
          replace hB := hB.trans (hbd.mono hB.size)
          replace c0 := mle_below hbd _ _ c0
          replace c1 := mle_below hbd _ _ c1
          replace NB := NB.below hbd
          replace hB5 := hB5.trans (hbd.mono hB5.size)
          clear hbd
          have HUP1 : Hid (Calls Try.prog 47 #[.slice oa xs.length oc, .agg #[.slice ua us.length uc, .slice ga gs.length gc], .slice an names.length capn] wd fun e W' => (∃ h', e = .returned (.tuple #[.agg #[.int .i64 ek, .int .i64 em, .int .i64 eu, .int .i64 eg, .bool eo, .slice h'.aa ea.length h'.ca, .string ed, .slice h'.ak es.length h'.ck], EVR]) ∧ NdV W'.cell? (.mk ek em eu eg eo ea ed es) h') ∧ Below wd.heap.size wd W') := by
            have e := up_any (W := wd) (S := fun _ => false) (M := ⟨ua, ga, uc, gc, us, gs⟩) (cap := oc) (capn := capn) (names := names) (fun _ hk => by cases hk) (by rw [offS_no]; exact HOWN.out.on (mle_below hB5)) (by rw [offS_no]; exact HS.out.on (mle_below hB)) (by have := HALL.out.1; omega) (by have := HFEW.out.1; omega) HNC.out HSML.out HLML.out HIDL.out (HMO.out _ hB) HUF.out HCU1.out HAU1.out
            refine Calls.mono e fun e W' he => ?_
            unfold NdE at he
            dsimp only at he
            rw [HRR.out, HRN.out, HRV.out, offS_no] at he
            exact he
          go_wp2_with fail
          with_reducible refine Calls.mono HUP1.out ?_
          rintro e we ⟨⟨h9, rfl, n9⟩, hq⟩
          replace hB := hB.trans (hq.mono hB.size)
          replace c0 := mle_below hq _ _ c0
          replace c1 := mle_below hq _ _ c1
          replace NB := NB.below hq
          replace hB5 := hB5.trans (hq.mono hB5.size)
          clear hq
          have X19 := NBw.new we ek em eu eg eo ea ed es h9
          have hq := alloc_bel2 we (.cells #[.int .i64 ek, .int .i64 em, .int .i64 eu, .int .i64 eg, .bool eo, .slice h9.aa ea.length h9.ca, .string ed, .slice h9.ak es.length h9.ck] 25)
          replace hB := hB.trans (hq.mono hB.size)
          replace c0 := mle_below hq _ _ c0
          replace c1 := mle_below hq _ _ c1
          replace NB := NB.below hq
          replace n9 := n9.ab hq
          replace hB5 := hB5.trans (hq.mono hB5.size)
          clear hq
          clear HUP1
          go_upto_region 14 with fail
          generalize we.alloc (.cells #[.int .i64 ek, .int .i64 em, .int .i64 eu, .int .i64 eg, .bool eo, .slice h9.aa ea.length h9.ca, .string ed, .slice h9.ak es.length h9.ck] 25) = wf at c0 c1 NB hB hB5 X19 n9 ⊢
          generalize we.heap.size = q19 at X19 ⊢
          have HUP2 : Hid (Calls Try.prog 48 #[.slice a xs.length cap, .agg #[.slice ua us.length uc, .slice ga gs.length gc], .slice an names.length capn] wf fun e W' => (∃ h', e = .returned (.tuple #[.agg #[.int .i64 ek, .int .i64 em, .int .i64 eu, .int .i64 eg, .bool eo, .slice h'.aa ea.length h'.ca, .string ed, .slice h'.ak es.length h'.ck], .int .i64 FR]) ∧ NdV W'.cell? (.mk ek em eu eg eo ea ed es) h') ∧ Below wf.heap.size wf W') := by
            have e := rup_any (W := wf) (S := fun _ => false) (M := ⟨ua, ga, uc, gc, us, gs⟩) (cap := cap) (capn := capn) (names := names) (fun _ hk => by cases hk) (by rw [offS_no]; exact HX.out.on (mle_below hB)) (HS.out.on (mle_below hB)) (by have := HALL.out.1; omega) (by have := HFEW.out.1; omega) HNC.out.1 HSML.out HIDL.out (HMO.out _ hB) HUF.out (by have := HCU1.out; have := HFEW.out.1; omega) (fun s hs => by have := HFEW.out.2 s hs; omega)
            refine Calls.mono e fun e W' he => ?_
            unfold RdE at he
            dsimp only at he
            rw [HRR.out, HRN.out, HRF.out, offS_no] at he
            exact he
          go_wp2_with fail
          with_reducible refine Calls.mono HUP2.out ?_
          rintro e wg ⟨⟨h10, rfl, n10⟩, hq⟩
          replace hB := hB.trans (hq.mono hB.size)
          replace c0 := mle_below hq _ _ c0
          replace c1 := mle_below hq _ _ c1
          replace NB := NB.below hq
          replace X19 := X19.below hq
          replace n9 := n9.ab hq
          replace hB5 := hB5.trans (hq.mono hB5.size)
          clear hq
          have X21 := NBw.new wg ek em eu eg eo ea ed es h10
          have hq := alloc_bel2 wg (.cells #[.int .i64 ek, .int .i64 em, .int .i64 eu, .int .i64 eg, .bool eo, .slice h10.aa ea.length h10.ca, .string ed, .slice h10.ak es.length h10.ck] 25)
          replace hB := hB.trans (hq.mono hB.size)
          replace c0 := mle_below hq _ _ c0
          replace c1 := mle_below hq _ _ c1
          replace NB := NB.below hq
          replace X19 := X19.below hq
          replace n9 := n9.ab hq
          replace n10 := n10.ab hq
          replace hB5 := hB5.trans (hq.mono hB5.size)
          clear hq
          clear HUP2
          go_upto_region 15 with fail
          generalize wg.alloc (.cells #[.int .i64 ek, .int .i64 em, .int .i64 eu, .int .i64 eg, .bool eo, .slice h10.aa ea.length h10.ca, .string ed, .slice h10.ak es.length h10.ck] 25) = wh at c0 c1 NB hB hB5 X19 X21 n9 n10 ⊢
          generalize wg.heap.size = q21 at X21 ⊢
          go_wp2_with fail
          with_reducible refine Calls.mono (HSR.out wh) ?_
          rintro e wq ⟨rfl, rfl⟩
          obtain ⟨y0, y1, y2, y3, y4, y5, y6, y7⟩ := id X19.1
          obtain ⟨v0, v1, v2, v3, v4, v5, v6, v7⟩ := id X21.1
          have HSN : Hid (Calls Try.prog 17 #[.agg #[.int .i64 ek, .int .i64 em, .int .i64 eu, .int .i64 eg, .bool eo, .slice h9.aa ea.length h9.ca, .string ed, .slice h9.ak es.length h9.ck], .agg #[.int .i64 ek, .int .i64 em, .int .i64 eu, .int .i64 eg, .bool eo, .slice h10.aa ea.length h10.ca, .string ed, .slice h10.ak es.length h10.ck]] wh fun e W' => e = .returned (.bool true) ∧ Below wh.heap.size wh W') := sameNode_yes n9 h10 wh HLR.out n10 (Below.refl _ _)
          go_wp2_with fail
          with_reducible refine Calls.mono HSN.out ?_
          rintro e wi ⟨rfl, hq⟩
          replace hB := hB.trans (hq.mono hB.size)
          replace c0 := mle_below hq _ _ c0
          replace c1 := mle_below hq _ _ c1
          replace NB := NB.below hq
          replace hB5 := hB5.trans (hq.mono hB5.size)
          clear hq
          clear HSN y0 y1 y2 y3 y4 y5 y6 y7 v0 v1 v2 v3 v4 v5 v6 v7
          have HSS : Hid (Calls Try.prog 39 #[.slice oa xs.length oc, .slice a xs.length cap] wi fun e W' => e = .returned (.bool true) ∧ Below wi.heap.size wi W') := sameNodes_any HOWN.out (HX.out.on (mle_below HB5.out)) hB5 (by have := HALL.out.1; omega) (fun x hx => (HAL.out x hx).1)
          go_wp2_with fail
          with_reducible refine Calls.mono HSS.out ?_
          rintro e wj ⟨rfl, hq⟩
          replace hB := hB.trans (hq.mono hB.size)
          clear HSS hq
          go_wp2
          go_ret
          exact ⟨rfl, hB⟩
        | false =>
          rw [if_neg (by decide)] at hVO
          subst hVO
          go_wp2_with fail
          refine Calls.mono (same_nil _) ?_
          rintro e wq ⟨rfl, rfl⟩
          go_wp2_with fail
          refine Calls.mono (same_zero 11 _) ?_
          rintro e wq ⟨rfl, rfl⟩
          go_wp2_with fail
          refine Calls.mono (same_err 11 (by decide) _) ?_
          rintro e wq ⟨rfl, rfl⟩
          obtain ⟨y0, y1, y2, y3, y4, y5, y6, y7⟩ := id X11.1
          obtain ⟨v0, v1, v2, v3, v4, v5, v6, v7⟩ := id X15.1
          have HSN : Hid (Calls Try.prog 17 #[.agg #[.int .i64 jk, .int .i64 jm, .int .i64 ju, .int .i64 jg, .bool jo, .slice hi.aa ja.length hi.ca, .string jd, .slice hi.ak js.length hi.ck], .agg #[.int .i64 jk, .int .i64 jm, .int .i64 ju, .int .i64 jg, .bool jo, .slice hi2.aa ja.length hi2.ca, .string jd, .slice hi2.ak js.length hi2.ck]] w9 fun e W' => e = .returned (.bool true) ∧ Below w9.heap.size w9 W') := sameNode_yes ni hi2 w9 HLI.out ni2 (Below.refl _ _)
          go_wp2_with fail
          with_reducible refine Calls.mono HSN.out ?_
          rintro e w10 ⟨rfl, hq⟩
          replace hB := hB.trans (hq.mono hB.size)
          replace c0 := mle_below hq _ _ c0
          replace c1 := mle_below hq _ _ c1
          replace NB := NB.below hq
          replace X11 := X11.below hq
          replace X13 := X13.below hq
          replace X15 := X15.below hq
          replace X17 := X17.below hq
          replace ni := ni.ab hq
          replace nz := nz.ab hq
          replace ni2 := ni2.ab hq
          replace nz2 := nz2.ab hq
          replace hB5 := hB5.trans (hq.mono hB5.size)
          clear hq
          clear HSN y0 y1 y2 y3 y4 y5 y6 y7 v0 v1 v2 v3 v4 v5 v6 v7
          obtain ⟨y0, y1, y2, y3, y4, y5, y6, y7⟩ := id X13.1
          obtain ⟨v0, v1, v2, v3, v4, v5, v6, v7⟩ := id X17.1
          have HSN : Hid (Calls Try.prog 17 #[.agg #[.int .i64 zk, .int .i64 zm, .int .i64 zu, .int .i64 zg, .bool zo, .slice hz.aa za.length hz.ca, .string zd, .slice hz.ak zs.length hz.ck], .agg #[.int .i64 zk, .int .i64 zm, .int .i64 zu, .int .i64 zg, .bool zo, .slice hz2.aa za.length hz2.ca, .string zd, .slice hz2.ak zs.length hz2.ck]] w10 fun e W' => e = .returned (.bool true) ∧ Below w10.heap.size w10 W') := sameNode_yes nz hz2 w10 HLO.out nz2 (Below.refl _ _)
          go_wp2_with fail
          with_reducible refine Calls.mono HSN.out ?_
          rintro e w11 ⟨rfl, hq⟩
          replace hB := hB.trans (hq.mono hB.size)
          replace c0 := mle_below hq _ _ c0
          replace c1 := mle_below hq _ _ c1
          replace NB := NB.below hq
          replace hB5 := hB5.trans (hq.mono hB5.size)
          clear hq
          clear HSN y0 y1 y2 y3 y4 y5 y6 y7 v0 v1 v2 v3 v4 v5 v6 v7
          clear X11 X13 X15 X17 ni nz ni2 nz2
          have T4 : w11.cell? ⟨W.heap.size, 0, none⟩ = some (.slice ua us.length uc) ∧ w11.cell? ⟨W.heap.size, 1, none⟩ = some (.slice ga gs.length gc) ∧ w11.cell? ⟨W.heap.size + 1, 0, none⟩ = some (.int .i64 k) ∧ w11.cell? ⟨W.heap.size + 1, 1, none⟩ = some (.int .i64 m) ∧ w11.cell? ⟨W.heap.size + 1, 2, none⟩ = some (.int .i64 u) ∧ w11.cell? ⟨W.heap.size + 1, 3, none⟩ = some (.int .i64 g) ∧ w11.cell? ⟨W.heap.size + 1, 4, none⟩ = some (.bool o) ∧ w11.cell? ⟨W.heap.size + 1, 5, none⟩ = some (.slice h.aa at_.length h.ca) ∧ w11.cell? ⟨W.heap.size + 1, 6, none⟩ = some (.string d) ∧ w11.cell? ⟨W.heap.size + 1, 7, none⟩ = some (.slice h.ak ks.length h.ck) := by
            obtain ⟨e0, e1, e2, e3, e4, e5, e6, e7⟩ := NB.1
            exact ⟨c0, c1, e0, e1, e2, e3, e4, e5, e6, e7⟩
          have HTB : Hid (∀ w' : World, Below w11.heap.size w11 w' → w'.cell? ⟨W.heap.size, 0, none⟩ = some (.slice ua us.length uc) ∧ w'.cell? ⟨W.heap.size, 1, none⟩ = some (.slice ga gs.length gc) ∧ w'.cell? ⟨W.heap.size + 1, 0, none⟩ = some (.int .i64 k) ∧ w'.cell? ⟨W.heap.size + 1, 1, none⟩ = some (.int .i64 m) ∧ w'.cell? ⟨W.heap.size + 1, 2, none⟩ = some (.int .i64 u) ∧ w'.cell? ⟨W.heap.size + 1, 3, none⟩ = some (.int .i64 g) ∧ w'.cell? ⟨W.heap.size + 1, 4, none⟩ = some (.bool o) ∧ w'.cell? ⟨W.heap.size + 1, 5, none⟩ = some (.slice h.aa at_.length h.ca) ∧ w'.cell? ⟨W.heap.size + 1, 6, none⟩ = some (.string d) ∧ w'.cell? ⟨W.heap.size + 1, 7, none⟩ = some (.slice h.ak ks.length h.ck)) := fun w' hb => ⟨mle_below hb _ _ T4.1, mle_below hb _ _ T4.2.1, mle_below hb _ _ T4.2.2.1, mle_below hb _ _ T4.2.2.2.1, mle_below hb _ _ T4.2.2.2.2.1, mle_below hb _ _ T4.2.2.2.2.2.1, mle_below hb _ _ T4.2.2.2.2.2.2.1, mle_below hb _ _ T4.2.2.2.2.2.2.2.1, mle_below hb _ _ T4.2.2.2.2.2.2.2.2.1, mle_below hb _ _ T4.2.2.2.2.2.2.2.2.2⟩
          have T5 : w11.drew.cell? ⟨W.heap.size, 0, none⟩ = some (.slice ua us.length uc) ∧ w11.drew.cell? ⟨W.heap.size, 1, none⟩ = some (.slice ga gs.length gc) ∧ w11.drew.cell? ⟨W.heap.size + 1, 0, none⟩ = some (.int .i64 k) ∧ w11.drew.cell? ⟨W.heap.size + 1, 1, none⟩ = some (.int .i64 m) ∧ w11.drew.cell? ⟨W.heap.size + 1, 2, none⟩ = some (.int .i64 u) ∧ w11.drew.cell? ⟨W.heap.size + 1, 3, none⟩ = some (.int .i64 g) ∧ w11.drew.cell? ⟨W.heap.size + 1, 4, none⟩ = some (.bool o) ∧ w11.drew.cell? ⟨W.heap.size + 1, 5, none⟩ = some (.slice h.aa at_.length h.ca) ∧ w11.drew.cell? ⟨W.heap.size + 1, 6, none⟩ = some (.string d) ∧ w11.drew.cell? ⟨W.heap.size + 1, 7, none⟩ = some (.slice h.ak ks.length h.ck) := T4
          have hBd : Below w11.heap.size w11 w11.drew := (Below.refl _ w11).drew
          have HS1 : Hid (∀ w' : World, Below w11.heap.size w11 w' → Calls Try.prog 45 #[.agg #[.slice ua us.length uc, .slice ga gs.length gc], .agg #[.int .i64 k, .int .i64 m, .int .i64 u, .int .i64 g, .bool o, .slice h.aa at_.length h.ca, .string d, .slice h.ak ks.length h.ck], .bool true] w' fun e W' => e = .returned (.agg #[.bool kb, .int .i64 m, .int .i64 su1, .int .i64 sg1, .bool sb1]) ∧ Below w'.heap.size w' W') := fun w' hb => HSE1.out w' (hB.trans (hb.mono hB.size))
          have HS2 : Hid (∀ w' : World, Below w11.heap.size w11 w' → Calls Try.prog 46 #[.agg #[.slice ua us.length uc, .slice ga gs.length gc], .agg #[.int .i64 k, .int .i64 m, .int .i64 u, .int .i64 g, .bool o, .slice h.aa at_.length h.ca, .string d, .slice h.ak ks.length h.ck], .bool true] w' fun e W' => e = .returned (.agg #[.bool kb, .int .i64 m, .int .i64 su1, .int .i64 sg1, .bool sb1]) ∧ Below w'.heap.size w' W') := fun w' hb => HSE2.out w' (hB.trans (hb.mono hB.size))
          have HS3 : Hid (∀ w' : World, Below w11.heap.size w11 w' → Calls Try.prog 45 #[.agg #[.slice ua us.length uc, .slice ga gs.length gc], .agg #[.int .i64 k, .int .i64 m, .int .i64 u, .int .i64 g, .bool o, .slice h.aa at_.length h.ca, .string d, .slice h.ak ks.length h.ck], .bool false] w' fun e W' => e = .returned (.agg #[.bool kb, .int .i64 m, .int .i64 su2, .int .i64 sg2, .bool sb2]) ∧ Below w'.heap.size w' W') := fun w' hb => HSE3.out w' (hB.trans (hb.mono hB.size))
          have HS4 : Hid (∀ w' : World, Below w11.heap.size w11 w' → Calls Try.prog 46 #[.agg #[.slice ua us.length uc, .slice ga gs.length gc], .agg #[.int .i64 k, .int .i64 m, .int .i64 u, .int .i64 g, .bool o, .slice h.aa at_.length h.ca, .string d, .slice h.ak ks.length h.ck], .bool false] w' fun e W' => e = .returned (.agg #[.bool kb, .int .i64 m, .int .i64 su2, .int .i64 sg2, .bool sb2]) ∧ Below w'.heap.size w' W') := fun w' hb => HSE4.out w' (hB.trans (hb.mono hB.size))
          clear T4
          go_upto_region 11 with fail
          go_region_held3 (fun w' => w'.cell? ⟨W.heap.size, 0, none⟩ = some (.slice ua us.length uc) ∧ w'.cell? ⟨W.heap.size, 1, none⟩ = some (.slice ga gs.length gc) ∧ w'.cell? ⟨W.heap.size + 1, 0, none⟩ = some (.int .i64 k) ∧ w'.cell? ⟨W.heap.size + 1, 1, none⟩ = some (.int .i64 m) ∧ w'.cell? ⟨W.heap.size + 1, 2, none⟩ = some (.int .i64 u) ∧ w'.cell? ⟨W.heap.size + 1, 3, none⟩ = some (.int .i64 g) ∧ w'.cell? ⟨W.heap.size + 1, 4, none⟩ = some (.bool o) ∧ w'.cell? ⟨W.heap.size + 1, 5, none⟩ = some (.slice h.aa at_.length h.ca) ∧ w'.cell? ⟨W.heap.size + 1, 6, none⟩ = some (.string d) ∧ w'.cell? ⟨W.heap.size + 1, 7, none⟩ = some (.slice h.ak ks.length h.ck)) (first | with_reducible exact T5 | with_reducible exact Ta | with_reducible exact Tb | with_reducible exact Tc | with_reducible exact Td) (first | (go_at_call 45; (with_reducible refine Calls.mono (HS1.out w11.drew hBd) ?_); rintro e wa ⟨rfl, hba⟩; have hba := hBd.trans (hba.mono hBd.size); have Ta := HTB.out wa hba) | (go_at_call 46; (with_reducible refine Calls.mono (HS2.out wa hba) ?_); rintro e wb ⟨rfl, hbb⟩; have hbb := hba.trans (hbb.mono hba.size); have Tb := HTB.out wb hbb) | (go_at_call 45; (with_reducible refine Calls.mono (HS3.out wb hbb) ?_); rintro e wc ⟨rfl, hbc⟩; have hbc := hbb.trans (hbc.mono hbb.size); have Tc := HTB.out wc hbc) | (go_at_call 46; (with_reducible refine Calls.mono (HS4.out wc hbc) ?_); rintro e wd ⟨rfl, hbd⟩; have hbd := hbc.trans (hbd.mono hbc.size); have Td := HTB.out wd hbd))
          clear T5 Ta Tb Tc Td HS1 HS2 HS3 HS4 HTB hba hbb hbc hBd
          replace hB := hB.trans (hbd.mono hB.size)
          replace c0 := mle_below hbd _ _ c0
          replace c1 := mle_below hbd _ _ c1
          replace NB := NB.below hbd
          replace hB5 := hB5.trans (hbd.mono hB5.size)
          clear hbd
          have HUP1 : Hid (Calls Try.prog 47 #[.slice oa xs.length oc, .agg #[.slice ua us.length uc, .slice ga gs.length gc], .slice an names.length capn] wd fun e W' => (∃ h', e = .returned (.tuple #[.agg #[.int .i64 ek, .int .i64 em, .int .i64 eu, .int .i64 eg, .bool eo, .slice h'.aa ea.length h'.ca, .string ed, .slice h'.ak es.length h'.ck], EVR]) ∧ NdV W'.cell? (.mk ek em eu eg eo ea ed es) h') ∧ Below wd.heap.size wd W') := by
            have e := up_any (W := wd) (S := fun _ => false) (M := ⟨ua, ga, uc, gc, us, gs⟩) (cap := oc) (capn := capn) (names := names) (fun _ hk => by cases hk) (by rw [offS_no]; exact HOWN.out.on (mle_below hB5)) (by rw [offS_no]; exact HS.out.on (mle_below hB)) (by have := HALL.out.1; omega) (by have := HFEW.out.1; omega) HNC.out HSML.out HLML.out HIDL.out (HMO.out _ hB) HUF.out HCU1.out HAU1.out
            refine Calls.mono e fun e W' he => ?_
            unfold NdE at he
            dsimp only at he
            rw [HRR.out, HRN.out, HRV.out, offS_no] at he
            exact he
          go_wp2_with fail
          with_reducible refine Calls.mono HUP1.out ?_
          rintro e we ⟨⟨h9, rfl, n9⟩, hq⟩
          replace hB := hB.trans (hq.mono hB.size)
          replace c0 := mle_below hq _ _ c0
          replace c1 := mle_below hq _ _ c1
          replace NB := NB.below hq
          replace hB5 := hB5.trans (hq.mono hB5.size)
          clear hq
          have X19 := NBw.new we ek em eu eg eo ea ed es h9
          have hq := alloc_bel2 we (.cells #[.int .i64 ek, .int .i64 em, .int .i64 eu, .int .i64 eg, .bool eo, .slice h9.aa ea.length h9.ca, .string ed, .slice h9.ak es.length h9.ck] 25)
          replace hB := hB.trans (hq.mono hB.size)
          replace c0 := mle_below hq _ _ c0
          replace c1 := mle_below hq _ _ c1
          replace NB := NB.below hq
          replace n9 := n9.ab hq
          replace hB5 := hB5.trans (hq.mono hB5.size)
          clear hq
          clear HUP1
          go_upto_region 14 with fail
          generalize we.alloc (.cells #[.int .i64 ek, .int .i64 em, .int .i64 eu, .int .i64 eg, .bool eo, .slice h9.aa ea.length h9.ca, .string ed, .slice h9.ak es.length h9.ck] 25) = wf at c0 c1 NB hB hB5 X19 n9 ⊢
          generalize we.heap.size = q19 at X19 ⊢
          have HUP2 : Hid (Calls Try.prog 48 #[.slice a xs.length cap, .agg #[.slice ua us.length uc, .slice ga gs.length gc], .slice an names.length capn] wf fun e W' => (∃ h', e = .returned (.tuple #[.agg #[.int .i64 ek, .int .i64 em, .int .i64 eu, .int .i64 eg, .bool eo, .slice h'.aa ea.length h'.ca, .string ed, .slice h'.ak es.length h'.ck], .int .i64 FR]) ∧ NdV W'.cell? (.mk ek em eu eg eo ea ed es) h') ∧ Below wf.heap.size wf W') := by
            have e := rup_any (W := wf) (S := fun _ => false) (M := ⟨ua, ga, uc, gc, us, gs⟩) (cap := cap) (capn := capn) (names := names) (fun _ hk => by cases hk) (by rw [offS_no]; exact HX.out.on (mle_below hB)) (HS.out.on (mle_below hB)) (by have := HALL.out.1; omega) (by have := HFEW.out.1; omega) HNC.out.1 HSML.out HIDL.out (HMO.out _ hB) HUF.out (by have := HCU1.out; have := HFEW.out.1; omega) (fun s hs => by have := HFEW.out.2 s hs; omega)
            refine Calls.mono e fun e W' he => ?_
            unfold RdE at he
            dsimp only at he
            rw [HRR.out, HRN.out, HRF.out, offS_no] at he
            exact he
          go_wp2_with fail
          with_reducible refine Calls.mono HUP2.out ?_
          rintro e wg ⟨⟨h10, rfl, n10⟩, hq⟩
          replace hB := hB.trans (hq.mono hB.size)
          replace c0 := mle_below hq _ _ c0
          replace c1 := mle_below hq _ _ c1
          replace NB := NB.below hq
          replace X19 := X19.below hq
          replace n9 := n9.ab hq
          replace hB5 := hB5.trans (hq.mono hB5.size)
          clear hq
          have X21 := NBw.new wg ek em eu eg eo ea ed es h10
          have hq := alloc_bel2 wg (.cells #[.int .i64 ek, .int .i64 em, .int .i64 eu, .int .i64 eg, .bool eo, .slice h10.aa ea.length h10.ca, .string ed, .slice h10.ak es.length h10.ck] 25)
          replace hB := hB.trans (hq.mono hB.size)
          replace c0 := mle_below hq _ _ c0
          replace c1 := mle_below hq _ _ c1
          replace NB := NB.below hq
          replace X19 := X19.below hq
          replace n9 := n9.ab hq
          replace n10 := n10.ab hq
          replace hB5 := hB5.trans (hq.mono hB5.size)
          clear hq
          clear HUP2
          go_upto_region 15 with fail
          generalize wg.alloc (.cells #[.int .i64 ek, .int .i64 em, .int .i64 eu, .int .i64 eg, .bool eo, .slice h10.aa ea.length h10.ca, .string ed, .slice h10.ak es.length h10.ck] 25) = wh at c0 c1 NB hB hB5 X19 X21 n9 n10 ⊢
          generalize wg.heap.size = q21 at X21 ⊢
          go_wp2_with fail
          with_reducible refine Calls.mono (HSR.out wh) ?_
          rintro e wq ⟨rfl, rfl⟩
          obtain ⟨y0, y1, y2, y3, y4, y5, y6, y7⟩ := id X19.1
          obtain ⟨v0, v1, v2, v3, v4, v5, v6, v7⟩ := id X21.1
          have HSN : Hid (Calls Try.prog 17 #[.agg #[.int .i64 ek, .int .i64 em, .int .i64 eu, .int .i64 eg, .bool eo, .slice h9.aa ea.length h9.ca, .string ed, .slice h9.ak es.length h9.ck], .agg #[.int .i64 ek, .int .i64 em, .int .i64 eu, .int .i64 eg, .bool eo, .slice h10.aa ea.length h10.ca, .string ed, .slice h10.ak es.length h10.ck]] wh fun e W' => e = .returned (.bool true) ∧ Below wh.heap.size wh W') := sameNode_yes n9 h10 wh HLR.out n10 (Below.refl _ _)
          go_wp2_with fail
          with_reducible refine Calls.mono HSN.out ?_
          rintro e wi ⟨rfl, hq⟩
          replace hB := hB.trans (hq.mono hB.size)
          replace c0 := mle_below hq _ _ c0
          replace c1 := mle_below hq _ _ c1
          replace NB := NB.below hq
          replace hB5 := hB5.trans (hq.mono hB5.size)
          clear hq
          clear HSN y0 y1 y2 y3 y4 y5 y6 y7 v0 v1 v2 v3 v4 v5 v6 v7
          have HSS : Hid (Calls Try.prog 39 #[.slice oa xs.length oc, .slice a xs.length cap] wi fun e W' => e = .returned (.bool true) ∧ Below wi.heap.size wi W') := sameNodes_any HOWN.out (HX.out.on (mle_below HB5.out)) hB5 (by have := HALL.out.1; omega) (fun x hx => (HAL.out x hx).1)
          go_wp2_with fail
          with_reducible refine Calls.mono HSS.out ?_
          rintro e wj ⟨rfl, hq⟩
          replace hB := hB.trans (hq.mono hB.size)
          clear HSS hq
          go_wp2
          go_ret
          exact ⟨rfl, hB⟩
      | false =>
        rw [if_neg (by decide)] at hVI
        subst hVI
        cases BO with
        | true =>
          rw [if_pos rfl] at hVO
          subst hVO
          go_wp2_with fail
          refine Calls.mono (same_zero 11 _) ?_
          rintro e wq ⟨rfl, rfl⟩
          go_wp2_with fail
          refine Calls.mono (same_err 11 (by decide) _) ?_
          rintro e wq ⟨rfl, rfl⟩
          go_wp2_with fail
          refine Calls.mono (same_nil _) ?_
          rintro e wq ⟨rfl, rfl⟩
          obtain ⟨y0, y1, y2, y3, y4, y5, y6, y7⟩ := id X11.1
          obtain ⟨v0, v1, v2, v3, v4, v5, v6, v7⟩ := id X15.1
          have HSN : Hid (Calls Try.prog 17 #[.agg #[.int .i64 jk, .int .i64 jm, .int .i64 ju, .int .i64 jg, .bool jo, .slice hi.aa ja.length hi.ca, .string jd, .slice hi.ak js.length hi.ck], .agg #[.int .i64 jk, .int .i64 jm, .int .i64 ju, .int .i64 jg, .bool jo, .slice hi2.aa ja.length hi2.ca, .string jd, .slice hi2.ak js.length hi2.ck]] w9 fun e W' => e = .returned (.bool true) ∧ Below w9.heap.size w9 W') := sameNode_yes ni hi2 w9 HLI.out ni2 (Below.refl _ _)
          go_wp2_with fail
          with_reducible refine Calls.mono HSN.out ?_
          rintro e w10 ⟨rfl, hq⟩
          replace hB := hB.trans (hq.mono hB.size)
          replace c0 := mle_below hq _ _ c0
          replace c1 := mle_below hq _ _ c1
          replace NB := NB.below hq
          replace X11 := X11.below hq
          replace X13 := X13.below hq
          replace X15 := X15.below hq
          replace X17 := X17.below hq
          replace ni := ni.ab hq
          replace nz := nz.ab hq
          replace ni2 := ni2.ab hq
          replace nz2 := nz2.ab hq
          replace hB5 := hB5.trans (hq.mono hB5.size)
          clear hq
          clear HSN y0 y1 y2 y3 y4 y5 y6 y7 v0 v1 v2 v3 v4 v5 v6 v7
          obtain ⟨y0, y1, y2, y3, y4, y5, y6, y7⟩ := id X13.1
          obtain ⟨v0, v1, v2, v3, v4, v5, v6, v7⟩ := id X17.1
          have HSN : Hid (Calls Try.prog 17 #[.agg #[.int .i64 zk, .int .i64 zm, .int .i64 zu, .int .i64 zg, .bool zo, .slice hz.aa za.length hz.ca, .string zd, .slice hz.ak zs.length hz.ck], .agg #[.int .i64 zk, .int .i64 zm, .int .i64 zu, .int .i64 zg, .bool zo, .slice hz2.aa za.length hz2.ca, .string zd, .slice hz2.ak zs.length hz2.ck]] w10 fun e W' => e = .returned (.bool true) ∧ Below w10.heap.size w10 W') := sameNode_yes nz hz2 w10 HLO.out nz2 (Below.refl _ _)
          go_wp2_with fail
          with_reducible refine Calls.mono HSN.out ?_
          rintro e w11 ⟨rfl, hq⟩
          replace hB := hB.trans (hq.mono hB.size)
          replace c0 := mle_below hq _ _ c0
          replace c1 := mle_below hq _ _ c1
          replace NB := NB.below hq
          replace hB5 := hB5.trans (hq.mono hB5.size)
          clear hq
          clear HSN y0 y1 y2 y3 y4 y5 y6 y7 v0 v1 v2 v3 v4 v5 v6 v7
          clear X11 X13 X15 X17 ni nz ni2 nz2
          have T4 : w11.cell? ⟨W.heap.size, 0, none⟩ = some (.slice ua us.length uc) ∧ w11.cell? ⟨W.heap.size, 1, none⟩ = some (.slice ga gs.length gc) ∧ w11.cell? ⟨W.heap.size + 1, 0, none⟩ = some (.int .i64 k) ∧ w11.cell? ⟨W.heap.size + 1, 1, none⟩ = some (.int .i64 m) ∧ w11.cell? ⟨W.heap.size + 1, 2, none⟩ = some (.int .i64 u) ∧ w11.cell? ⟨W.heap.size + 1, 3, none⟩ = some (.int .i64 g) ∧ w11.cell? ⟨W.heap.size + 1, 4, none⟩ = some (.bool o) ∧ w11.cell? ⟨W.heap.size + 1, 5, none⟩ = some (.slice h.aa at_.length h.ca) ∧ w11.cell? ⟨W.heap.size + 1, 6, none⟩ = some (.string d) ∧ w11.cell? ⟨W.heap.size + 1, 7, none⟩ = some (.slice h.ak ks.length h.ck) := by
            obtain ⟨e0, e1, e2, e3, e4, e5, e6, e7⟩ := NB.1
            exact ⟨c0, c1, e0, e1, e2, e3, e4, e5, e6, e7⟩
          have HTB : Hid (∀ w' : World, Below w11.heap.size w11 w' → w'.cell? ⟨W.heap.size, 0, none⟩ = some (.slice ua us.length uc) ∧ w'.cell? ⟨W.heap.size, 1, none⟩ = some (.slice ga gs.length gc) ∧ w'.cell? ⟨W.heap.size + 1, 0, none⟩ = some (.int .i64 k) ∧ w'.cell? ⟨W.heap.size + 1, 1, none⟩ = some (.int .i64 m) ∧ w'.cell? ⟨W.heap.size + 1, 2, none⟩ = some (.int .i64 u) ∧ w'.cell? ⟨W.heap.size + 1, 3, none⟩ = some (.int .i64 g) ∧ w'.cell? ⟨W.heap.size + 1, 4, none⟩ = some (.bool o) ∧ w'.cell? ⟨W.heap.size + 1, 5, none⟩ = some (.slice h.aa at_.length h.ca) ∧ w'.cell? ⟨W.heap.size + 1, 6, none⟩ = some (.string d) ∧ w'.cell? ⟨W.heap.size + 1, 7, none⟩ = some (.slice h.ak ks.length h.ck)) := fun w' hb => ⟨mle_below hb _ _ T4.1, mle_below hb _ _ T4.2.1, mle_below hb _ _ T4.2.2.1, mle_below hb _ _ T4.2.2.2.1, mle_below hb _ _ T4.2.2.2.2.1, mle_below hb _ _ T4.2.2.2.2.2.1, mle_below hb _ _ T4.2.2.2.2.2.2.1, mle_below hb _ _ T4.2.2.2.2.2.2.2.1, mle_below hb _ _ T4.2.2.2.2.2.2.2.2.1, mle_below hb _ _ T4.2.2.2.2.2.2.2.2.2⟩
          have T5 : w11.drew.cell? ⟨W.heap.size, 0, none⟩ = some (.slice ua us.length uc) ∧ w11.drew.cell? ⟨W.heap.size, 1, none⟩ = some (.slice ga gs.length gc) ∧ w11.drew.cell? ⟨W.heap.size + 1, 0, none⟩ = some (.int .i64 k) ∧ w11.drew.cell? ⟨W.heap.size + 1, 1, none⟩ = some (.int .i64 m) ∧ w11.drew.cell? ⟨W.heap.size + 1, 2, none⟩ = some (.int .i64 u) ∧ w11.drew.cell? ⟨W.heap.size + 1, 3, none⟩ = some (.int .i64 g) ∧ w11.drew.cell? ⟨W.heap.size + 1, 4, none⟩ = some (.bool o) ∧ w11.drew.cell? ⟨W.heap.size + 1, 5, none⟩ = some (.slice h.aa at_.length h.ca) ∧ w11.drew.cell? ⟨W.heap.size + 1, 6, none⟩ = some (.string d) ∧ w11.drew.cell? ⟨W.heap.size + 1, 7, none⟩ = some (.slice h.ak ks.length h.ck) := T4
          have hBd : Below w11.heap.size w11 w11.drew := (Below.refl _ w11).drew
          have HS1 : Hid (∀ w' : World, Below w11.heap.size w11 w' → Calls Try.prog 45 #[.agg #[.slice ua us.length uc, .slice ga gs.length gc], .agg #[.int .i64 k, .int .i64 m, .int .i64 u, .int .i64 g, .bool o, .slice h.aa at_.length h.ca, .string d, .slice h.ak ks.length h.ck], .bool true] w' fun e W' => e = .returned (.agg #[.bool kb, .int .i64 m, .int .i64 su1, .int .i64 sg1, .bool sb1]) ∧ Below w'.heap.size w' W') := fun w' hb => HSE1.out w' (hB.trans (hb.mono hB.size))
          have HS2 : Hid (∀ w' : World, Below w11.heap.size w11 w' → Calls Try.prog 46 #[.agg #[.slice ua us.length uc, .slice ga gs.length gc], .agg #[.int .i64 k, .int .i64 m, .int .i64 u, .int .i64 g, .bool o, .slice h.aa at_.length h.ca, .string d, .slice h.ak ks.length h.ck], .bool true] w' fun e W' => e = .returned (.agg #[.bool kb, .int .i64 m, .int .i64 su1, .int .i64 sg1, .bool sb1]) ∧ Below w'.heap.size w' W') := fun w' hb => HSE2.out w' (hB.trans (hb.mono hB.size))
          have HS3 : Hid (∀ w' : World, Below w11.heap.size w11 w' → Calls Try.prog 45 #[.agg #[.slice ua us.length uc, .slice ga gs.length gc], .agg #[.int .i64 k, .int .i64 m, .int .i64 u, .int .i64 g, .bool o, .slice h.aa at_.length h.ca, .string d, .slice h.ak ks.length h.ck], .bool false] w' fun e W' => e = .returned (.agg #[.bool kb, .int .i64 m, .int .i64 su2, .int .i64 sg2, .bool sb2]) ∧ Below w'.heap.size w' W') := fun w' hb => HSE3.out w' (hB.trans (hb.mono hB.size))
          have HS4 : Hid (∀ w' : World, Below w11.heap.size w11 w' → Calls Try.prog 46 #[.agg #[.slice ua us.length uc, .slice ga gs.length gc], .agg #[.int .i64 k, .int .i64 m, .int .i64 u, .int .i64 g, .bool o, .slice h.aa at_.length h.ca, .string d, .slice h.ak ks.length h.ck], .bool false] w' fun e W' => e = .returned (.agg #[.bool kb, .int .i64 m, .int .i64 su2, .int .i64 sg2, .bool sb2]) ∧ Below w'.heap.size w' W') := fun w' hb => HSE4.out w' (hB.trans (hb.mono hB.size))
          clear T4
          go_upto_region 11 with fail
          go_region_held3 (fun w' => w'.cell? ⟨W.heap.size, 0, none⟩ = some (.slice ua us.length uc) ∧ w'.cell? ⟨W.heap.size, 1, none⟩ = some (.slice ga gs.length gc) ∧ w'.cell? ⟨W.heap.size + 1, 0, none⟩ = some (.int .i64 k) ∧ w'.cell? ⟨W.heap.size + 1, 1, none⟩ = some (.int .i64 m) ∧ w'.cell? ⟨W.heap.size + 1, 2, none⟩ = some (.int .i64 u) ∧ w'.cell? ⟨W.heap.size + 1, 3, none⟩ = some (.int .i64 g) ∧ w'.cell? ⟨W.heap.size + 1, 4, none⟩ = some (.bool o) ∧ w'.cell? ⟨W.heap.size + 1, 5, none⟩ = some (.slice h.aa at_.length h.ca) ∧ w'.cell? ⟨W.heap.size + 1, 6, none⟩ = some (.string d) ∧ w'.cell? ⟨W.heap.size + 1, 7, none⟩ = some (.slice h.ak ks.length h.ck)) (first | with_reducible exact T5 | with_reducible exact Ta | with_reducible exact Tb | with_reducible exact Tc | with_reducible exact Td) (first | (go_at_call 45; (with_reducible refine Calls.mono (HS1.out w11.drew hBd) ?_); rintro e wa ⟨rfl, hba⟩; have hba := hBd.trans (hba.mono hBd.size); have Ta := HTB.out wa hba) | (go_at_call 46; (with_reducible refine Calls.mono (HS2.out wa hba) ?_); rintro e wb ⟨rfl, hbb⟩; have hbb := hba.trans (hbb.mono hba.size); have Tb := HTB.out wb hbb) | (go_at_call 45; (with_reducible refine Calls.mono (HS3.out wb hbb) ?_); rintro e wc ⟨rfl, hbc⟩; have hbc := hbb.trans (hbc.mono hbb.size); have Tc := HTB.out wc hbc) | (go_at_call 46; (with_reducible refine Calls.mono (HS4.out wc hbc) ?_); rintro e wd ⟨rfl, hbd⟩; have hbd := hbc.trans (hbd.mono hbc.size); have Td := HTB.out wd hbd))
          clear T5 Ta Tb Tc Td HS1 HS2 HS3 HS4 HTB hba hbb hbc hBd
          replace hB := hB.trans (hbd.mono hB.size)
          replace c0 := mle_below hbd _ _ c0
          replace c1 := mle_below hbd _ _ c1
          replace NB := NB.below hbd
          replace hB5 := hB5.trans (hbd.mono hB5.size)
          clear hbd
          have HUP1 : Hid (Calls Try.prog 47 #[.slice oa xs.length oc, .agg #[.slice ua us.length uc, .slice ga gs.length gc], .slice an names.length capn] wd fun e W' => (∃ h', e = .returned (.tuple #[.agg #[.int .i64 ek, .int .i64 em, .int .i64 eu, .int .i64 eg, .bool eo, .slice h'.aa ea.length h'.ca, .string ed, .slice h'.ak es.length h'.ck], EVR]) ∧ NdV W'.cell? (.mk ek em eu eg eo ea ed es) h') ∧ Below wd.heap.size wd W') := by
            have e := up_any (W := wd) (S := fun _ => false) (M := ⟨ua, ga, uc, gc, us, gs⟩) (cap := oc) (capn := capn) (names := names) (fun _ hk => by cases hk) (by rw [offS_no]; exact HOWN.out.on (mle_below hB5)) (by rw [offS_no]; exact HS.out.on (mle_below hB)) (by have := HALL.out.1; omega) (by have := HFEW.out.1; omega) HNC.out HSML.out HLML.out HIDL.out (HMO.out _ hB) HUF.out HCU1.out HAU1.out
            refine Calls.mono e fun e W' he => ?_
            unfold NdE at he
            dsimp only at he
            rw [HRR.out, HRN.out, HRV.out, offS_no] at he
            exact he
          go_wp2_with fail
          with_reducible refine Calls.mono HUP1.out ?_
          rintro e we ⟨⟨h9, rfl, n9⟩, hq⟩
          replace hB := hB.trans (hq.mono hB.size)
          replace c0 := mle_below hq _ _ c0
          replace c1 := mle_below hq _ _ c1
          replace NB := NB.below hq
          replace hB5 := hB5.trans (hq.mono hB5.size)
          clear hq
          have X19 := NBw.new we ek em eu eg eo ea ed es h9
          have hq := alloc_bel2 we (.cells #[.int .i64 ek, .int .i64 em, .int .i64 eu, .int .i64 eg, .bool eo, .slice h9.aa ea.length h9.ca, .string ed, .slice h9.ak es.length h9.ck] 25)
          replace hB := hB.trans (hq.mono hB.size)
          replace c0 := mle_below hq _ _ c0
          replace c1 := mle_below hq _ _ c1
          replace NB := NB.below hq
          replace n9 := n9.ab hq
          replace hB5 := hB5.trans (hq.mono hB5.size)
          clear hq
          clear HUP1
          go_upto_region 14 with fail
          generalize we.alloc (.cells #[.int .i64 ek, .int .i64 em, .int .i64 eu, .int .i64 eg, .bool eo, .slice h9.aa ea.length h9.ca, .string ed, .slice h9.ak es.length h9.ck] 25) = wf at c0 c1 NB hB hB5 X19 n9 ⊢
          generalize we.heap.size = q19 at X19 ⊢
          have HUP2 : Hid (Calls Try.prog 48 #[.slice a xs.length cap, .agg #[.slice ua us.length uc, .slice ga gs.length gc], .slice an names.length capn] wf fun e W' => (∃ h', e = .returned (.tuple #[.agg #[.int .i64 ek, .int .i64 em, .int .i64 eu, .int .i64 eg, .bool eo, .slice h'.aa ea.length h'.ca, .string ed, .slice h'.ak es.length h'.ck], .int .i64 FR]) ∧ NdV W'.cell? (.mk ek em eu eg eo ea ed es) h') ∧ Below wf.heap.size wf W') := by
            have e := rup_any (W := wf) (S := fun _ => false) (M := ⟨ua, ga, uc, gc, us, gs⟩) (cap := cap) (capn := capn) (names := names) (fun _ hk => by cases hk) (by rw [offS_no]; exact HX.out.on (mle_below hB)) (HS.out.on (mle_below hB)) (by have := HALL.out.1; omega) (by have := HFEW.out.1; omega) HNC.out.1 HSML.out HIDL.out (HMO.out _ hB) HUF.out (by have := HCU1.out; have := HFEW.out.1; omega) (fun s hs => by have := HFEW.out.2 s hs; omega)
            refine Calls.mono e fun e W' he => ?_
            unfold RdE at he
            dsimp only at he
            rw [HRR.out, HRN.out, HRF.out, offS_no] at he
            exact he
          go_wp2_with fail
          with_reducible refine Calls.mono HUP2.out ?_
          rintro e wg ⟨⟨h10, rfl, n10⟩, hq⟩
          replace hB := hB.trans (hq.mono hB.size)
          replace c0 := mle_below hq _ _ c0
          replace c1 := mle_below hq _ _ c1
          replace NB := NB.below hq
          replace X19 := X19.below hq
          replace n9 := n9.ab hq
          replace hB5 := hB5.trans (hq.mono hB5.size)
          clear hq
          have X21 := NBw.new wg ek em eu eg eo ea ed es h10
          have hq := alloc_bel2 wg (.cells #[.int .i64 ek, .int .i64 em, .int .i64 eu, .int .i64 eg, .bool eo, .slice h10.aa ea.length h10.ca, .string ed, .slice h10.ak es.length h10.ck] 25)
          replace hB := hB.trans (hq.mono hB.size)
          replace c0 := mle_below hq _ _ c0
          replace c1 := mle_below hq _ _ c1
          replace NB := NB.below hq
          replace X19 := X19.below hq
          replace n9 := n9.ab hq
          replace n10 := n10.ab hq
          replace hB5 := hB5.trans (hq.mono hB5.size)
          clear hq
          clear HUP2
          go_upto_region 15 with fail
          generalize wg.alloc (.cells #[.int .i64 ek, .int .i64 em, .int .i64 eu, .int .i64 eg, .bool eo, .slice h10.aa ea.length h10.ca, .string ed, .slice h10.ak es.length h10.ck] 25) = wh at c0 c1 NB hB hB5 X19 X21 n9 n10 ⊢
          generalize wg.heap.size = q21 at X21 ⊢
          go_wp2_with fail
          with_reducible refine Calls.mono (HSR.out wh) ?_
          rintro e wq ⟨rfl, rfl⟩
          obtain ⟨y0, y1, y2, y3, y4, y5, y6, y7⟩ := id X19.1
          obtain ⟨v0, v1, v2, v3, v4, v5, v6, v7⟩ := id X21.1
          have HSN : Hid (Calls Try.prog 17 #[.agg #[.int .i64 ek, .int .i64 em, .int .i64 eu, .int .i64 eg, .bool eo, .slice h9.aa ea.length h9.ca, .string ed, .slice h9.ak es.length h9.ck], .agg #[.int .i64 ek, .int .i64 em, .int .i64 eu, .int .i64 eg, .bool eo, .slice h10.aa ea.length h10.ca, .string ed, .slice h10.ak es.length h10.ck]] wh fun e W' => e = .returned (.bool true) ∧ Below wh.heap.size wh W') := sameNode_yes n9 h10 wh HLR.out n10 (Below.refl _ _)
          go_wp2_with fail
          with_reducible refine Calls.mono HSN.out ?_
          rintro e wi ⟨rfl, hq⟩
          replace hB := hB.trans (hq.mono hB.size)
          replace c0 := mle_below hq _ _ c0
          replace c1 := mle_below hq _ _ c1
          replace NB := NB.below hq
          replace hB5 := hB5.trans (hq.mono hB5.size)
          clear hq
          clear HSN y0 y1 y2 y3 y4 y5 y6 y7 v0 v1 v2 v3 v4 v5 v6 v7
          have HSS : Hid (Calls Try.prog 39 #[.slice oa xs.length oc, .slice a xs.length cap] wi fun e W' => e = .returned (.bool true) ∧ Below wi.heap.size wi W') := sameNodes_any HOWN.out (HX.out.on (mle_below HB5.out)) hB5 (by have := HALL.out.1; omega) (fun x hx => (HAL.out x hx).1)
          go_wp2_with fail
          with_reducible refine Calls.mono HSS.out ?_
          rintro e wj ⟨rfl, hq⟩
          replace hB := hB.trans (hq.mono hB.size)
          clear HSS hq
          go_wp2
          go_ret
          exact ⟨rfl, hB⟩
        | false =>
          rw [if_neg (by decide)] at hVO
          subst hVO
          go_wp2_with fail
          refine Calls.mono (same_zero 11 _) ?_
          rintro e wq ⟨rfl, rfl⟩
          go_wp2_with fail
          refine Calls.mono (same_err 11 (by decide) _) ?_
          rintro e wq ⟨rfl, rfl⟩
          go_wp2_with fail
          refine Calls.mono (same_zero 11 _) ?_
          rintro e wq ⟨rfl, rfl⟩
          go_wp2_with fail
          refine Calls.mono (same_err 11 (by decide) _) ?_
          rintro e wq ⟨rfl, rfl⟩
          obtain ⟨y0, y1, y2, y3, y4, y5, y6, y7⟩ := id X11.1
          obtain ⟨v0, v1, v2, v3, v4, v5, v6, v7⟩ := id X15.1
          have HSN : Hid (Calls Try.prog 17 #[.agg #[.int .i64 jk, .int .i64 jm, .int .i64 ju, .int .i64 jg, .bool jo, .slice hi.aa ja.length hi.ca, .string jd, .slice hi.ak js.length hi.ck], .agg #[.int .i64 jk, .int .i64 jm, .int .i64 ju, .int .i64 jg, .bool jo, .slice hi2.aa ja.length hi2.ca, .string jd, .slice hi2.ak js.length hi2.ck]] w9 fun e W' => e = .returned (.bool true) ∧ Below w9.heap.size w9 W') := sameNode_yes ni hi2 w9 HLI.out ni2 (Below.refl _ _)
          go_wp2_with fail
          with_reducible refine Calls.mono HSN.out ?_
          rintro e w10 ⟨rfl, hq⟩
          replace hB := hB.trans (hq.mono hB.size)
          replace c0 := mle_below hq _ _ c0
          replace c1 := mle_below hq _ _ c1
          replace NB := NB.below hq
          replace X11 := X11.below hq
          replace X13 := X13.below hq
          replace X15 := X15.below hq
          replace X17 := X17.below hq
          replace ni := ni.ab hq
          replace nz := nz.ab hq
          replace ni2 := ni2.ab hq
          replace nz2 := nz2.ab hq
          replace hB5 := hB5.trans (hq.mono hB5.size)
          clear hq
          clear HSN y0 y1 y2 y3 y4 y5 y6 y7 v0 v1 v2 v3 v4 v5 v6 v7
          obtain ⟨y0, y1, y2, y3, y4, y5, y6, y7⟩ := id X13.1
          obtain ⟨v0, v1, v2, v3, v4, v5, v6, v7⟩ := id X17.1
          have HSN : Hid (Calls Try.prog 17 #[.agg #[.int .i64 zk, .int .i64 zm, .int .i64 zu, .int .i64 zg, .bool zo, .slice hz.aa za.length hz.ca, .string zd, .slice hz.ak zs.length hz.ck], .agg #[.int .i64 zk, .int .i64 zm, .int .i64 zu, .int .i64 zg, .bool zo, .slice hz2.aa za.length hz2.ca, .string zd, .slice hz2.ak zs.length hz2.ck]] w10 fun e W' => e = .returned (.bool true) ∧ Below w10.heap.size w10 W') := sameNode_yes nz hz2 w10 HLO.out nz2 (Below.refl _ _)
          go_wp2_with fail
          with_reducible refine Calls.mono HSN.out ?_
          rintro e w11 ⟨rfl, hq⟩
          replace hB := hB.trans (hq.mono hB.size)
          replace c0 := mle_below hq _ _ c0
          replace c1 := mle_below hq _ _ c1
          replace NB := NB.below hq
          replace hB5 := hB5.trans (hq.mono hB5.size)
          clear hq
          clear HSN y0 y1 y2 y3 y4 y5 y6 y7 v0 v1 v2 v3 v4 v5 v6 v7
          clear X11 X13 X15 X17 ni nz ni2 nz2
          have T4 : w11.cell? ⟨W.heap.size, 0, none⟩ = some (.slice ua us.length uc) ∧ w11.cell? ⟨W.heap.size, 1, none⟩ = some (.slice ga gs.length gc) ∧ w11.cell? ⟨W.heap.size + 1, 0, none⟩ = some (.int .i64 k) ∧ w11.cell? ⟨W.heap.size + 1, 1, none⟩ = some (.int .i64 m) ∧ w11.cell? ⟨W.heap.size + 1, 2, none⟩ = some (.int .i64 u) ∧ w11.cell? ⟨W.heap.size + 1, 3, none⟩ = some (.int .i64 g) ∧ w11.cell? ⟨W.heap.size + 1, 4, none⟩ = some (.bool o) ∧ w11.cell? ⟨W.heap.size + 1, 5, none⟩ = some (.slice h.aa at_.length h.ca) ∧ w11.cell? ⟨W.heap.size + 1, 6, none⟩ = some (.string d) ∧ w11.cell? ⟨W.heap.size + 1, 7, none⟩ = some (.slice h.ak ks.length h.ck) := by
            obtain ⟨e0, e1, e2, e3, e4, e5, e6, e7⟩ := NB.1
            exact ⟨c0, c1, e0, e1, e2, e3, e4, e5, e6, e7⟩
          have HTB : Hid (∀ w' : World, Below w11.heap.size w11 w' → w'.cell? ⟨W.heap.size, 0, none⟩ = some (.slice ua us.length uc) ∧ w'.cell? ⟨W.heap.size, 1, none⟩ = some (.slice ga gs.length gc) ∧ w'.cell? ⟨W.heap.size + 1, 0, none⟩ = some (.int .i64 k) ∧ w'.cell? ⟨W.heap.size + 1, 1, none⟩ = some (.int .i64 m) ∧ w'.cell? ⟨W.heap.size + 1, 2, none⟩ = some (.int .i64 u) ∧ w'.cell? ⟨W.heap.size + 1, 3, none⟩ = some (.int .i64 g) ∧ w'.cell? ⟨W.heap.size + 1, 4, none⟩ = some (.bool o) ∧ w'.cell? ⟨W.heap.size + 1, 5, none⟩ = some (.slice h.aa at_.length h.ca) ∧ w'.cell? ⟨W.heap.size + 1, 6, none⟩ = some (.string d) ∧ w'.cell? ⟨W.heap.size + 1, 7, none⟩ = some (.slice h.ak ks.length h.ck)) := fun w' hb => ⟨mle_below hb _ _ T4.1, mle_below hb _ _ T4.2.1, mle_below hb _ _ T4.2.2.1, mle_below hb _ _ T4.2.2.2.1, mle_below hb _ _ T4.2.2.2.2.1, mle_below hb _ _ T4.2.2.2.2.2.1, mle_below hb _ _ T4.2.2.2.2.2.2.1, mle_below hb _ _ T4.2.2.2.2.2.2.2.1, mle_below hb _ _ T4.2.2.2.2.2.2.2.2.1, mle_below hb _ _ T4.2.2.2.2.2.2.2.2.2⟩
          have T5 : w11.drew.cell? ⟨W.heap.size, 0, none⟩ = some (.slice ua us.length uc) ∧ w11.drew.cell? ⟨W.heap.size, 1, none⟩ = some (.slice ga gs.length gc) ∧ w11.drew.cell? ⟨W.heap.size + 1, 0, none⟩ = some (.int .i64 k) ∧ w11.drew.cell? ⟨W.heap.size + 1, 1, none⟩ = some (.int .i64 m) ∧ w11.drew.cell? ⟨W.heap.size + 1, 2, none⟩ = some (.int .i64 u) ∧ w11.drew.cell? ⟨W.heap.size + 1, 3, none⟩ = some (.int .i64 g) ∧ w11.drew.cell? ⟨W.heap.size + 1, 4, none⟩ = some (.bool o) ∧ w11.drew.cell? ⟨W.heap.size + 1, 5, none⟩ = some (.slice h.aa at_.length h.ca) ∧ w11.drew.cell? ⟨W.heap.size + 1, 6, none⟩ = some (.string d) ∧ w11.drew.cell? ⟨W.heap.size + 1, 7, none⟩ = some (.slice h.ak ks.length h.ck) := T4
          have hBd : Below w11.heap.size w11 w11.drew := (Below.refl _ w11).drew
          have HS1 : Hid (∀ w' : World, Below w11.heap.size w11 w' → Calls Try.prog 45 #[.agg #[.slice ua us.length uc, .slice ga gs.length gc], .agg #[.int .i64 k, .int .i64 m, .int .i64 u, .int .i64 g, .bool o, .slice h.aa at_.length h.ca, .string d, .slice h.ak ks.length h.ck], .bool true] w' fun e W' => e = .returned (.agg #[.bool kb, .int .i64 m, .int .i64 su1, .int .i64 sg1, .bool sb1]) ∧ Below w'.heap.size w' W') := fun w' hb => HSE1.out w' (hB.trans (hb.mono hB.size))
          have HS2 : Hid (∀ w' : World, Below w11.heap.size w11 w' → Calls Try.prog 46 #[.agg #[.slice ua us.length uc, .slice ga gs.length gc], .agg #[.int .i64 k, .int .i64 m, .int .i64 u, .int .i64 g, .bool o, .slice h.aa at_.length h.ca, .string d, .slice h.ak ks.length h.ck], .bool true] w' fun e W' => e = .returned (.agg #[.bool kb, .int .i64 m, .int .i64 su1, .int .i64 sg1, .bool sb1]) ∧ Below w'.heap.size w' W') := fun w' hb => HSE2.out w' (hB.trans (hb.mono hB.size))
          have HS3 : Hid (∀ w' : World, Below w11.heap.size w11 w' → Calls Try.prog 45 #[.agg #[.slice ua us.length uc, .slice ga gs.length gc], .agg #[.int .i64 k, .int .i64 m, .int .i64 u, .int .i64 g, .bool o, .slice h.aa at_.length h.ca, .string d, .slice h.ak ks.length h.ck], .bool false] w' fun e W' => e = .returned (.agg #[.bool kb, .int .i64 m, .int .i64 su2, .int .i64 sg2, .bool sb2]) ∧ Below w'.heap.size w' W') := fun w' hb => HSE3.out w' (hB.trans (hb.mono hB.size))
          have HS4 : Hid (∀ w' : World, Below w11.heap.size w11 w' → Calls Try.prog 46 #[.agg #[.slice ua us.length uc, .slice ga gs.length gc], .agg #[.int .i64 k, .int .i64 m, .int .i64 u, .int .i64 g, .bool o, .slice h.aa at_.length h.ca, .string d, .slice h.ak ks.length h.ck], .bool false] w' fun e W' => e = .returned (.agg #[.bool kb, .int .i64 m, .int .i64 su2, .int .i64 sg2, .bool sb2]) ∧ Below w'.heap.size w' W') := fun w' hb => HSE4.out w' (hB.trans (hb.mono hB.size))
          clear T4
          go_upto_region 11 with fail
          go_region_held3 (fun w' => w'.cell? ⟨W.heap.size, 0, none⟩ = some (.slice ua us.length uc) ∧ w'.cell? ⟨W.heap.size, 1, none⟩ = some (.slice ga gs.length gc) ∧ w'.cell? ⟨W.heap.size + 1, 0, none⟩ = some (.int .i64 k) ∧ w'.cell? ⟨W.heap.size + 1, 1, none⟩ = some (.int .i64 m) ∧ w'.cell? ⟨W.heap.size + 1, 2, none⟩ = some (.int .i64 u) ∧ w'.cell? ⟨W.heap.size + 1, 3, none⟩ = some (.int .i64 g) ∧ w'.cell? ⟨W.heap.size + 1, 4, none⟩ = some (.bool o) ∧ w'.cell? ⟨W.heap.size + 1, 5, none⟩ = some (.slice h.aa at_.length h.ca) ∧ w'.cell? ⟨W.heap.size + 1, 6, none⟩ = some (.string d) ∧ w'.cell? ⟨W.heap.size + 1, 7, none⟩ = some (.slice h.ak ks.length h.ck)) (first | with_reducible exact T5 | with_reducible exact Ta | with_reducible exact Tb | with_reducible exact Tc | with_reducible exact Td) (first | (go_at_call 45; (with_reducible refine Calls.mono (HS1.out w11.drew hBd) ?_); rintro e wa ⟨rfl, hba⟩; have hba := hBd.trans (hba.mono hBd.size); have Ta := HTB.out wa hba) | (go_at_call 46; (with_reducible refine Calls.mono (HS2.out wa hba) ?_); rintro e wb ⟨rfl, hbb⟩; have hbb := hba.trans (hbb.mono hba.size); have Tb := HTB.out wb hbb) | (go_at_call 45; (with_reducible refine Calls.mono (HS3.out wb hbb) ?_); rintro e wc ⟨rfl, hbc⟩; have hbc := hbb.trans (hbc.mono hbb.size); have Tc := HTB.out wc hbc) | (go_at_call 46; (with_reducible refine Calls.mono (HS4.out wc hbc) ?_); rintro e wd ⟨rfl, hbd⟩; have hbd := hbc.trans (hbd.mono hbc.size); have Td := HTB.out wd hbd))
          clear T5 Ta Tb Tc Td HS1 HS2 HS3 HS4 HTB hba hbb hbc hBd
          replace hB := hB.trans (hbd.mono hB.size)
          replace c0 := mle_below hbd _ _ c0
          replace c1 := mle_below hbd _ _ c1
          replace NB := NB.below hbd
          replace hB5 := hB5.trans (hbd.mono hB5.size)
          clear hbd
          have HUP1 : Hid (Calls Try.prog 47 #[.slice oa xs.length oc, .agg #[.slice ua us.length uc, .slice ga gs.length gc], .slice an names.length capn] wd fun e W' => (∃ h', e = .returned (.tuple #[.agg #[.int .i64 ek, .int .i64 em, .int .i64 eu, .int .i64 eg, .bool eo, .slice h'.aa ea.length h'.ca, .string ed, .slice h'.ak es.length h'.ck], EVR]) ∧ NdV W'.cell? (.mk ek em eu eg eo ea ed es) h') ∧ Below wd.heap.size wd W') := by
            have e := up_any (W := wd) (S := fun _ => false) (M := ⟨ua, ga, uc, gc, us, gs⟩) (cap := oc) (capn := capn) (names := names) (fun _ hk => by cases hk) (by rw [offS_no]; exact HOWN.out.on (mle_below hB5)) (by rw [offS_no]; exact HS.out.on (mle_below hB)) (by have := HALL.out.1; omega) (by have := HFEW.out.1; omega) HNC.out HSML.out HLML.out HIDL.out (HMO.out _ hB) HUF.out HCU1.out HAU1.out
            refine Calls.mono e fun e W' he => ?_
            unfold NdE at he
            dsimp only at he
            rw [HRR.out, HRN.out, HRV.out, offS_no] at he
            exact he
          go_wp2_with fail
          with_reducible refine Calls.mono HUP1.out ?_
          rintro e we ⟨⟨h9, rfl, n9⟩, hq⟩
          replace hB := hB.trans (hq.mono hB.size)
          replace c0 := mle_below hq _ _ c0
          replace c1 := mle_below hq _ _ c1
          replace NB := NB.below hq
          replace hB5 := hB5.trans (hq.mono hB5.size)
          clear hq
          have X19 := NBw.new we ek em eu eg eo ea ed es h9
          have hq := alloc_bel2 we (.cells #[.int .i64 ek, .int .i64 em, .int .i64 eu, .int .i64 eg, .bool eo, .slice h9.aa ea.length h9.ca, .string ed, .slice h9.ak es.length h9.ck] 25)
          replace hB := hB.trans (hq.mono hB.size)
          replace c0 := mle_below hq _ _ c0
          replace c1 := mle_below hq _ _ c1
          replace NB := NB.below hq
          replace n9 := n9.ab hq
          replace hB5 := hB5.trans (hq.mono hB5.size)
          clear hq
          clear HUP1
          go_upto_region 14 with fail
          generalize we.alloc (.cells #[.int .i64 ek, .int .i64 em, .int .i64 eu, .int .i64 eg, .bool eo, .slice h9.aa ea.length h9.ca, .string ed, .slice h9.ak es.length h9.ck] 25) = wf at c0 c1 NB hB hB5 X19 n9 ⊢
          generalize we.heap.size = q19 at X19 ⊢
          have HUP2 : Hid (Calls Try.prog 48 #[.slice a xs.length cap, .agg #[.slice ua us.length uc, .slice ga gs.length gc], .slice an names.length capn] wf fun e W' => (∃ h', e = .returned (.tuple #[.agg #[.int .i64 ek, .int .i64 em, .int .i64 eu, .int .i64 eg, .bool eo, .slice h'.aa ea.length h'.ca, .string ed, .slice h'.ak es.length h'.ck], .int .i64 FR]) ∧ NdV W'.cell? (.mk ek em eu eg eo ea ed es) h') ∧ Below wf.heap.size wf W') := by
            have e := rup_any (W := wf) (S := fun _ => false) (M := ⟨ua, ga, uc, gc, us, gs⟩) (cap := cap) (capn := capn) (names := names) (fun _ hk => by cases hk) (by rw [offS_no]; exact HX.out.on (mle_below hB)) (HS.out.on (mle_below hB)) (by have := HALL.out.1; omega) (by have := HFEW.out.1; omega) HNC.out.1 HSML.out HIDL.out (HMO.out _ hB) HUF.out (by have := HCU1.out; have := HFEW.out.1; omega) (fun s hs => by have := HFEW.out.2 s hs; omega)
            refine Calls.mono e fun e W' he => ?_
            unfold RdE at he
            dsimp only at he
            rw [HRR.out, HRN.out, HRF.out, offS_no] at he
            exact he
          go_wp2_with fail
          with_reducible refine Calls.mono HUP2.out ?_
          rintro e wg ⟨⟨h10, rfl, n10⟩, hq⟩
          replace hB := hB.trans (hq.mono hB.size)
          replace c0 := mle_below hq _ _ c0
          replace c1 := mle_below hq _ _ c1
          replace NB := NB.below hq
          replace X19 := X19.below hq
          replace n9 := n9.ab hq
          replace hB5 := hB5.trans (hq.mono hB5.size)
          clear hq
          have X21 := NBw.new wg ek em eu eg eo ea ed es h10
          have hq := alloc_bel2 wg (.cells #[.int .i64 ek, .int .i64 em, .int .i64 eu, .int .i64 eg, .bool eo, .slice h10.aa ea.length h10.ca, .string ed, .slice h10.ak es.length h10.ck] 25)
          replace hB := hB.trans (hq.mono hB.size)
          replace c0 := mle_below hq _ _ c0
          replace c1 := mle_below hq _ _ c1
          replace NB := NB.below hq
          replace X19 := X19.below hq
          replace n9 := n9.ab hq
          replace n10 := n10.ab hq
          replace hB5 := hB5.trans (hq.mono hB5.size)
          clear hq
          clear HUP2
          go_upto_region 15 with fail
          generalize wg.alloc (.cells #[.int .i64 ek, .int .i64 em, .int .i64 eu, .int .i64 eg, .bool eo, .slice h10.aa ea.length h10.ca, .string ed, .slice h10.ak es.length h10.ck] 25) = wh at c0 c1 NB hB hB5 X19 X21 n9 n10 ⊢
          generalize wg.heap.size = q21 at X21 ⊢
          go_wp2_with fail
          with_reducible refine Calls.mono (HSR.out wh) ?_
          rintro e wq ⟨rfl, rfl⟩
          obtain ⟨y0, y1, y2, y3, y4, y5, y6, y7⟩ := id X19.1
          obtain ⟨v0, v1, v2, v3, v4, v5, v6, v7⟩ := id X21.1
          have HSN : Hid (Calls Try.prog 17 #[.agg #[.int .i64 ek, .int .i64 em, .int .i64 eu, .int .i64 eg, .bool eo, .slice h9.aa ea.length h9.ca, .string ed, .slice h9.ak es.length h9.ck], .agg #[.int .i64 ek, .int .i64 em, .int .i64 eu, .int .i64 eg, .bool eo, .slice h10.aa ea.length h10.ca, .string ed, .slice h10.ak es.length h10.ck]] wh fun e W' => e = .returned (.bool true) ∧ Below wh.heap.size wh W') := sameNode_yes n9 h10 wh HLR.out n10 (Below.refl _ _)
          go_wp2_with fail
          with_reducible refine Calls.mono HSN.out ?_
          rintro e wi ⟨rfl, hq⟩
          replace hB := hB.trans (hq.mono hB.size)
          replace c0 := mle_below hq _ _ c0
          replace c1 := mle_below hq _ _ c1
          replace NB := NB.below hq
          replace hB5 := hB5.trans (hq.mono hB5.size)
          clear hq
          clear HSN y0 y1 y2 y3 y4 y5 y6 y7 v0 v1 v2 v3 v4 v5 v6 v7
          have HSS : Hid (Calls Try.prog 39 #[.slice oa xs.length oc, .slice a xs.length cap] wi fun e W' => e = .returned (.bool true) ∧ Below wi.heap.size wi W') := sameNodes_any HOWN.out (HX.out.on (mle_below HB5.out)) hB5 (by have := HALL.out.1; omega) (fun x hx => (HAL.out x hx).1)
          go_wp2_with fail
          with_reducible refine Calls.mono HSS.out ?_
          rintro e wj ⟨rfl, hq⟩
          replace hB := hB.trans (hq.mono hB.size)
          clear HSS hq
          go_wp2
          go_ret
          exact ⟨rfl, hB⟩
end Go.Proofs.Ytkkhfnkmfkdhiab
