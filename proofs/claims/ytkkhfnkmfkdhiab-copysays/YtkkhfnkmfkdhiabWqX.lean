/-
  WHAT change DOES, by the closures of Put and Cut: the walks.
  WHAT change DOES, by the closure of Put: the walk.
  WHAT Put, Cut AND Find DO: the walks.
-/
import Derived.Test.YtkkhfnkmfkdhiabWnX
import Derived.Test.YtkkhfnkmfkdhiabWlY
namespace Go.Proofs.Ytkkhfnkmfkdhiab
open Go.RowKit

/-- A node and an error that are answered. -/
def NdE (W W' : World) (S : Nat → Bool) (e : Ending) (R : Except Int Nd) : Prop := (∃ h', e = .returned (.tuple #[ndV (xNd R) h', errV (xErr R)]) ∧ NdV (offS W'.cell? S) (xNd R) h') ∧ Below W.heap.size W W'
theorem zN_in (c : Mem) : NdV c zN zH := ndV_iff.2 ⟨.inl rfl, ⟨Nat.le_refl _, by show (0 : Nat) ≤ _; omega⟩, ⟨Nat.le_refl _, by show (0 : Nat) ≤ _; omega⟩, .inl rfl⟩
theorem kids_le {y : Nd} {n : Nat} (h : cnt y ≤ n) : y.kids.length ≤ n := by
  have h1 := cntL_len y.kids
  have h2 := cnt_kids y
  omega
theorem errV_iface {f : Int} (h : f ≠ 0) : (.iface 96 (.int .i64 f) : Value) = errV f := (errV_of rfl h).symm

set_option maxRecDepth 100000 in
set_option maxHeartbeats 4000000 in
theorem changeCut_any {W : World} {S : Nat → Bool} (hS0 : ∀ k, S k = true → k < W.heap.size) {x0 : Nd} {h : Hd} (hN : NdV (offS W.cell? S) x0 h) (a : Option Addr) (cl : Nat) (l : List ByteArray) (hS : Strs W.cell? a l) (hll : l.length ≤ 1000) (hcl : l.length ≤ cl ∧ cl ≤ 9223372036854775807) (hcnt : cnt x0 ≤ 800) (hres : ∀ r, chgF none l x0 = .ok r → Lim r ∧ cnt r ≤ 1000) :
    Calls Try.prog 70 #[ndV x0 h, .slice a l.length cl, .func (.func 75) #[] #[]] W fun e W' => NdE W W' S e (chgF none l x0) := by
  obtain ⟨RR, HRR⟩ : ∃ RR, Hid (chgF none l x0 = RR) := ⟨_, rfl⟩
  have HRES : Hid (∀ r, RR = .ok r → Lim r ∧ cnt r ≤ 1000) := by rw [← HRR.out]; exact hres
  clear hres
  obtain ⟨k, m, u, g, o, at_, d, ks⟩ := x0
  have B0 := NBw.new W k m u g o at_ d ks h
  have hB0 : Below W.heap.size W (W.alloc (.cells #[.int .i64 k, .int .i64 m, .int .i64 u, .int .i64 g, .bool o, .slice h.aa at_.length h.ca, .string d, .slice h.ak ks.length h.ck] 25)) := (Below.refl _ _).alloc (Nat.le_refl _) _
  have R1 := NBw.zero (W.alloc (.cells #[.int .i64 k, .int .i64 m, .int .i64 u, .int .i64 g, .bool o, .slice h.aa at_.length h.ca, .string d, .slice h.ak ks.length h.ck] 25))
  rw [World.size_alloc] at R1
  have B1 := B0.below ((Below.refl _ _).alloc (Nat.le_refl _) (.cells #[.int .i64 0, .int .i64 0, .int .i64 0, .int .i64 0, .bool false, .slice none 0 0, .string ⟨#[]⟩, .slice none 0 0] 25))
  have hB1 : Below W.heap.size W ((W.alloc (.cells #[.int .i64 k, .int .i64 m, .int .i64 u, .int .i64 g, .bool o, .slice h.aa at_.length h.ca, .string d, .slice h.ak ks.length h.ck] 25)).alloc (.cells #[.int .i64 0, .int .i64 0, .int .i64 0, .int .i64 0, .bool false, .slice none 0 0, .string ⟨#[]⟩, .slice none 0 0] 25)) := hB0.alloc hB0.size _
  show Calls Try.prog 70 #[.agg #[.int .i64 k, .int .i64 m, .int .i64 u, .int .i64 g, .bool o, .slice h.aa at_.length h.ca, .string d, .slice h.ak ks.length h.ck], .slice a l.length cl, .func (.func 75) #[] #[]] _ _
  rw [HRR.out]
  by_cases hnil : l = []
  · subst hnil
    have HE : Hid (RR = .error 7) := by show _ = _; rw [← HRR.out, chgF]
    obtain ⟨z8, r0, r1, r2, r3, r4, r5, r6, r7⟩ : (∀ j, ((W.alloc (.cells #[.int .i64 k, .int .i64 m, .int .i64 u, .int .i64 g, .bool o, .slice h.aa at_.length h.ca, .string d, .slice h.ak ks.length h.ck] 25)).alloc (.cells #[.int .i64 0, .int .i64 0, .int .i64 0, .int .i64 0, .bool false, .slice none 0 0, .string ⟨#[]⟩, .slice none 0 0] 25)).frozen? ⟨W.heap.size + 1, j, none⟩ = false) ∧ NBox ((W.alloc (.cells #[.int .i64 k, .int .i64 m, .int .i64 u, .int .i64 g, .bool o, .slice h.aa at_.length h.ca, .string d, .slice h.ak ks.length h.ck] 25)).alloc (.cells #[.int .i64 0, .int .i64 0, .int .i64 0, .int .i64 0, .bool false, .slice none 0 0, .string ⟨#[]⟩, .slice none 0 0] 25)) (W.heap.size + 1) zN zH := ⟨R1.2, R1.1⟩
    clear B0 hB0 B1 R1
    go_enter Try.func70, Try.ntmps70
    go_wp2
    refine bodyPost_ret (v := .tuple #[ndV zN zH, errV 7]) (by simp [results, Try.results70, go_sem, ndV, zN, zH, errV]) rfl ⟨⟨zH, by rw [HE.out]; rfl, by rw [HE.out]; exact zN_in _⟩, ?_⟩
    exact hB1
  obtain ⟨b, off, rfl, hst⟩ : ∃ b off, a = some ⟨b, off, none⟩ ∧ ∀ i s, l[i]? = some s → W.cell? ⟨b, off + i, none⟩ = some (.string s) := by
    rcases hS with e | e
    · exact absurd e hnil
    · exact e
  have HST : Hid (∀ i s, l[i]? = some s → W.cell? ⟨b, off + i, none⟩ = some (.string s)) := hst
  obtain ⟨n, hn⟩ : ∃ n, l.length = n + 1 := ⟨l.length - 1, by have := List.length_pos_iff.2 hnil; omega⟩
  have HN1 : Hid (l.length = n + 1) := hn
  have hn2 : n < l.length := by omega
  have hn3 : n ≤ cl := by omega
  have hn4 : n ≤ 1000 := by omega
  have dw : IntKind.i64.wrap ((l.length : Int) - 1) = (n : Int) := (wrap_small (by omega) (by omega)).trans (by omega)
  have dj : (l.length : Int) - 1 = (n : Int) := by omega
  have dz : ((l.length : Int) == 0) = false := by simp; omega
  have hsp : Spine W ((W.alloc (.cells #[.int .i64 k, .int .i64 m, .int .i64 u, .int .i64 g, .bool o, .slice h.aa at_.length h.ca, .string d, .slice h.ak ks.length h.ck] 25)).alloc (.cells #[.int .i64 0, .int .i64 0, .int .i64 0, .int .i64 0, .bool false, .slice none 0 0, .string ⟨#[]⟩, .slice none 0 0] 25)) S W.heap.size (.mk k m u g o at_ d ks) none l l W.heap.size 0 (.mk k m u g o at_ d ks) h := Spine.start hB1 rfl R1 B1 hS0 hN
  clear hst hS hnil hn B0 hB0 B1 R1 hB1
  go_enter Try.func70, Try.ntmps70
  go_wp2
  generalize (W.alloc (.cells #[.int .i64 k, .int .i64 m, .int .i64 u, .int .i64 g, .bool o, .slice h.aa at_.length h.ca, .string d, .slice h.ak ks.length h.ck] 25)).alloc (.cells #[.int .i64 0, .int .i64 0, .int .i64 0, .int .i64 0, .bool false, .slice none 0 0, .string ⟨#[]⟩, .slice none 0 0] 25) = w1 at hsp ⊢
  generalize hsz : W.heap.size = nb at hsp ⊢
  clear dw dj dz
  go_loopw [27, 8] (fun i v wr => ∃ (j ab ap : Nat) (y : Nd) (hy : Hd), j ≤ n ∧ i = .int .i64 j ∧ v = .pointer (some ⟨ab, ap, none⟩) ∧ Spine W wr S nb (.mk k m u g o at_ d ks) none l (l.drop j) ab ap y hy ∧ cnt y ≤ 800) (fun i _ _ => n - (intOf i).toNat)
  case atStart => exact ⟨0, nb, 0, _, h, Nat.zero_le _, rfl, rfl, hsp, hcnt⟩
  case round =>
    obtain ⟨j, ab, ap, y, hy, hj, rfl, rfl, hsp, hcy⟩ := hrel
    have hkl : y.kids.length ≤ 800 := kids_le hcy
    obtain ⟨L, hL, hKH⟩ := ksV_ksH (show KsV (offS W.cell? S) hy.ak y.kids by
      have ht := hsp.tree
      obtain ⟨k', m', u', g', o', at', d', ks'⟩ := y
      exact (ndV_iff.1 ht).2.2.2)
    have hll2 : y.kids.length = L.length := by rw [← hL, bare_length]
    have hcap : y.kids.length ≤ hy.ck ∧ hy.ck ≤ 9223372036854775807 := by
      have ht := hsp.tree
      obtain ⟨k', m', u', g', o', at', d', ks'⟩ := y
      exact (ndV_iff.1 ht).2.2.1
    have HL : Hid (bare L = y.kids) := hL
    have HLL : Hid (y.kids.length = L.length) := hll2
    have hKw : KsH wr.cell? hy.ak L := (hKH.on (offS_le _ _)).on (mle_below hsp.low)
    have hR := hsp.res
    have R6 := hR.store zN zH
    have b6 : But (nb + 1) wr (stB wr (nb + 1) zN zH) := stB_but
    have hB6 := hsp.low.trans (b6.below (B := W.heap.size) (by omega) hsp.low.size)
    obtain ⟨⟨z0, z1, z2, z3, z4, z5, z6, z7⟩, z8⟩ := id hR
    have hat := hsp.atc
    have hfz := hsp.fz 
    have HSP : Hid (Spine W wr S nb (.mk k m u g o at_ d ks) none l (l.drop j) ab ap y hy) := hsp
    have HEZ : Hid (∀ f, f ≠ 0 → RR = .error f → NdE W (stB wr (nb + 1) zN zH) S (.returned (.tuple #[ndV zN zH, errV f])) RR) := by
      intro f _ hf
      rw [hf]
      exact ⟨⟨zH, rfl, zN_in _⟩, hB6⟩
    generalize hw6 : stB wr (nb + 1) zN zH = w6 at R6 HEZ
    have HW6 : Hid (stB wr (nb + 1) zN zH = w6) := hw6
    have hwr : Below W.heap.size W wr := hsp.low
    clear hw6 b6 hB6 hR hL hll2 hsp
    by_cases hjn : j < n
    rotate_left
    · -- at the end
      have ej : j = n := by omega
      subst ej
      have hji : decide ((j : Int) < (j : Int)) = false := decide_eq_false (by omega)
      obtain ⟨nm, hnm⟩ : ∃ s, l[j]? = some s := ⟨l[j]'(by omega), List.getElem?_eq_getElem _⟩
      have HDR : Hid (l.drop j = [nm]) := by
        show _ = _
        rw [List.drop_eq_getElem_cons (by omega), List.drop_of_length_le (by have := HN1.out; omega)]
        rw [List.getElem?_eq_getElem (by omega)] at hnm
        simp at hnm; rw [hnm]
      rw [HDR.out] at HSP
      have c0 : wr.cell? ⟨b, off + j, none⟩ = some (.string nm) := (hwr.cell (p := ⟨b, off + j, none⟩) (World.block_lt_of_cell? _ _ (HST.out j nm hnm))).trans (HST.out j nm hnm)
      have HRL : Hid (∃ plug : Nd → Nd, RR = (chgF none [nm] y).map plug) := by
        obtain ⟨plug, q, _⟩ := HSP.out.wand
        exact ⟨plug, by rw [← HRR.out]; exact q⟩
      clear hnm HDR
      obtain ⟨k', m', u', g', o', at', d', ks'⟩ := y
      obtain ⟨y0, y1, y2, y3, y4, y5, y6, y7⟩ := hat
      have hji2 : (j : Int) < (l.length : Int) := by omega
      by_cases hk2 : k' = 2
      rotate_left
      · have bk : (k' != 2) = true := bne_iff_ne.2 hk2
        have HE : Hid (RR = .error 7) := by
          obtain ⟨plug, q⟩ := HRL.out
          show _ = _
          rw [q, chgF, if_pos (by exact hk2)]; rfl
        clear hk2
        go_wp2
        have hw6 := HW6.out
        simp only [stB, zN, zH] at hw6
        simp only [List.length_nil] at hw6
        rw [hw6]
        obtain ⟨r0, r1, r2, r3, r4, r5, r6, r7⟩ := R6.1
        refine bodyPost_ret (v := .tuple #[ndV zN zH, errV 7]) (by simp [results, Try.results70, go_sem, ndV, zN, zH, errV, r0, r1, r2, r3, r4, r5, r6, r7]) rfl (HEZ.out 7 (by decide) HE.out)
      subst hk2
      have bk : ((2 : Int) != 2) = false := rfl
      have hq5 : Below wr.heap.size wr wr.drew := below_drewN (Below.refl _ _) 1
      have hAl := cut1_any hy.ak hy.ck L nm wr.drew (by have := HLL.out; omega) (by have := HLL.out; have := hcap.1; omega) hcap.2 (hKw.on (mle_below hq5))
      rw [← HLL.out] at hAl
      have HAL2 : Hid (lastF none nm ks' = match altL none nm L with | .error f => .error f | .ok M => .ok (bare M)) := by
        have q := alt_last none nm L
        rw [HL.out] at q
        exact q
      cases hA : altL none nm L with
      | error f =>
        rw [hA] at HAL2
        have hAl2 : Calls Try.prog 75 #[.slice hy.ak ks'.length hy.ck, .string nm] wr.drew fun e w' => (f ≠ 0 ∧ e = .returned (.tuple #[.slice none 0 0, .iface 96 (.int .i64 f)])) ∧ Below wr.drew.heap.size wr.drew w' := by
          refine hAl.mono ?_
          rintro e w' ⟨q | ⟨M, v, q, _⟩, hb⟩
          · obtain ⟨f', q1, q2, q3⟩ := q
            rw [hA] at q1
            simp only [Except.error.injEq] at q1
            subst q1
            exact ⟨⟨q2, q3⟩, hb⟩
          · rw [hA] at q; cases q
        have HE : Hid (RR = .error f) := by
          obtain ⟨plug, q⟩ := HRL.out
          show _ = _
          rw [q, chgF, if_neg (by show ¬ (2 : Int) ≠ 2; simp)]
          show Except.map plug (Except.map _ (lastF none nm ks')) = _
          rw [HAL2.out]; rfl
        have T5 : wr.drew.cell? ⟨ab, ap + 7, none⟩ = some (.slice hy.ak ks'.length hy.ck) ∧ wr.drew.cell? ⟨b, off + j, none⟩ = some (.string nm) := ⟨y7, c0⟩
        have HAC : Hid _ := hAl2
        clear hA hAl hAl2 HAL2
        go_wp2
        go_region_held3 (fun w' => w'.cell? ⟨ab, ap + 7, none⟩ = some (.slice hy.ak ks'.length hy.ck) ∧ w'.cell? ⟨b, off + j, none⟩ = some (.string nm)) (first | exact T5 | exact T6) (first | (go_at_call 75; refine Calls.mono HAC.out ?_; rintro e w2 ⟨⟨hf0, rfl⟩, hB4⟩; have T6 : w2.cell? ⟨ab, ap + 7, none⟩ = some (.slice hy.ak ks'.length hy.ck) ∧ w2.cell? ⟨b, off + j, none⟩ = some (.string nm) := ⟨(hB4.cell (p := ⟨ab, ap + 7, none⟩) (World.block_lt_of_cell? _ _ T5.1)).trans T5.1, (hB4.cell (p := ⟨b, off + j, none⟩) (World.block_lt_of_cell? _ _ T5.2)).trans T5.2⟩))
        all_goals
          have b2 : Below wr.heap.size wr w2 := hq5.trans hB4
          have hR2 := HSP.out.res.below b2
          have hwr2 := hwr.trans (b2.mono hwr.size)
          have R7 := hR2.store zN zH
          have b7 : But (nb + 1) w2 (stB w2 (nb + 1) zN zH) := stB_but
          have hB7 := hwr2.trans (b7.below (B := W.heap.size) (by omega) hwr2.size)
          generalize hw7 : stB w2 (nb + 1) zN zH = w7 at R7 hB7
          have HW7 : Hid (stB w2 (nb + 1) zN zH = w7) := hw7
          clear hw7 b7 y0 y1 y2 y3 y4 y5 y6 y7 z0 z1 z2 z3 z4 z5 z6 z7 z8 c0 hB4 T5 T6 hwr hwr2 hq5 b2 R6 HW6 HEZ HAC hfz
          obtain ⟨⟨z0, z1, z2, z3, z4, z5, z6, z7⟩, z8⟩ := id hR2
          go_wp2
          have hw7 := HW7.out
          simp only [stB, zN, zH, List.length_nil] at hw7
          rw [hw7]
          obtain ⟨r0, r1, r2, r3, r4, r5, r6, r7⟩ := R7.1
          refine bodyPost_ret (v := .tuple #[ndV zN zH, .iface 96 (.int .i64 f)]) (by simp [results, Try.results70, go_sem, ndV, zN, zH, r0, r1, r2, r3, r4, r5, r6, r7]) rfl ⟨⟨zH, by rw [HE.out, errV_iface hf0]; rfl, by rw [HE.out]; exact zN_in _⟩, hB7⟩
      | ok M =>
        rw [hA] at HAL2
        have hAl2 : Calls Try.prog 75 #[.slice hy.ak ks'.length hy.ck, .string nm] wr.drew fun e w' => (∃ ak ck, e = .returned (.tuple #[.slice ak M.length ck, .nilIface]) ∧ w'.ownsRow wr.heap.size 102 9 (.slice ak M.length ck) M.length (kfl M)) ∧ Below wr.drew.heap.size wr.drew w' := by
          refine hAl.mono ?_
          rintro e w' ⟨⟨f, q, _⟩ | ⟨M', v, q, rfl, q2⟩, hb⟩
          · rw [hA] at q; cases q
          · rw [hA] at q
            simp only [Except.ok.injEq] at q
            subst q
            obtain ⟨ak, ck, hv, _⟩ := owns_cells q2
            subst hv
            exact ⟨⟨ak, ck, rfl, q2⟩, hb⟩
        have HMN : Hid (∀ e ∈ M, NdV (offS W.cell? S) e.2.1 e.2.2) := by
          intro e he
          simp only [altL] at hA
          split at hA
          · cases hA
          · simp only [Except.ok.injEq] at hA
            subst hA
            exact hKH.2 e (mem_cut he)
        have T5 : wr.drew.cell? ⟨ab, ap + 7, none⟩ = some (.slice hy.ak ks'.length hy.ck) ∧ wr.drew.cell? ⟨b, off + j, none⟩ = some (.string nm) := ⟨y7, c0⟩
        have HAC : Hid _ := hAl2
        clear hA hAl hAl2
        go_wp2
        go_region_held3 (fun w' => w'.cell? ⟨ab, ap + 7, none⟩ = some (.slice hy.ak ks'.length hy.ck) ∧ w'.cell? ⟨b, off + j, none⟩ = some (.string nm)) (first | exact T5 | exact T6) (first | (go_at_call 75; refine Calls.mono HAC.out ?_; rintro e w2 ⟨⟨ak, ck, rfl, hrow⟩, hB4⟩; have T6 : w2.cell? ⟨ab, ap + 7, none⟩ = some (.slice hy.ak ks'.length hy.ck) ∧ w2.cell? ⟨b, off + j, none⟩ = some (.string nm) := ⟨(hB4.cell (p := ⟨ab, ap + 7, none⟩) (World.block_lt_of_cell? _ _ T5.1)).trans T5.1, (hB4.cell (p := ⟨b, off + j, none⟩) (World.block_lt_of_cell? _ _ T5.2)).trans T5.2⟩))
        all_goals
          have b2 : Below wr.heap.size wr w2 := hq5.trans hB4
          obtain ⟨r, hr, q1, q2, q3, q4, q5⟩ := HSP.out.fin b2 (Nat.le_refl _) HMN.out rfl HAL2.out rfl hrow
          have hfz2 : w2.frozen? ⟨ab, ap + 7, none⟩ = false := (b2.frozen (p := ⟨ab, ap + 7, none⟩) HSP.out.atc.lt).trans (hfz _)
          have HE : Hid (RR = .ok r) := by show _ = _; rw [← HRR.out]; exact q1
          obtain ⟨hlr, hcr⟩ := HRES.out r HE.out
          have s7 := T6.1
          clear q1 y0 y1 y2 y3 y4 y5 y6 y7 z0 z1 z2 z3 z4 z5 z6 z7 z8 c0 hB4 T5 T6 hwr hq5 b2 R6 HW6 HEZ HAC hfz hrow
          have ho := own_any (S := upS nb S) (fun k hk => by
            simp [upS] at hk
            rcases hk with hk | hk
            · have := q5.1.lt; omega
            · have := HSP.out.hS k hk; have := q4.size; omega) q3 hlr hcr
          have HO : Hid _ := ho
          clear ho
          generalize hw3 : w2.setCell ⟨ab, ap + 7, none⟩ (.slice ak M.length ck) = w3 at q2 q3 q4 q5 HO
          have HW3 : Hid (w2.setCell ⟨ab, ap + 7, none⟩ (.slice ak M.length ck) = w3) := hw3
          obtain ⟨k2, m2, u2, g2, o2, at2, d2, ks2⟩ := r
          obtain ⟨x0, x1, x2, x3, x4, x5, x6, x7⟩ := id q2
          go_wp2_with fail
          refine Calls.mono HO.out ?_
          rintro e w4 ⟨⟨h', rfl, hN4⟩, b4⟩
          have R4 := q5.below b4
          have hB4 := q4.trans (b4.mono q4.size)
          have R7 := R4.store (.mk k2 m2 u2 g2 o2 at2 d2 ks2) h'
          have b7 : But (nb + 1) w4 (stB w4 (nb + 1) (.mk k2 m2 u2 g2 o2 at2 d2 ks2) h') := stB_but
          have hB7 := hB4.trans (b7.below (B := W.heap.size) (by omega) hB4.size)
          have step : MLe (offS w4.cell? (upS nb S)) (offS (stB w4 (nb + 1) (.mk k2 m2 u2 g2 o2 at2 d2 ks2) h').cell? S) := mle_step fun q hq hs => ⟨(upS_no.1 hs).2, b7.block q hq (upS_no.1 hs).1⟩
          have ev : ndV (.mk k2 m2 u2 g2 o2 at2 d2 ks2) h' = .agg #[.int .i64 k2, .int .i64 m2, .int .i64 u2, .int .i64 g2, .bool o2, .slice h'.aa at2.length h'.ca, .string d2, .slice h'.ak ks2.length h'.ck] := rfl
          rw [ev]
          generalize hw7 : stB w4 (nb + 1) (.mk k2 m2 u2 g2 o2 at2 d2 ks2) h' = w7 at R7 b7 hB7 step
          have HW7 : Hid (stB w4 (nb + 1) (.mk k2 m2 u2 g2 o2 at2 d2 ks2) h' = w7) := hw7
          clear hw7 hw3 x0 x1 x2 x3 x4 x5 x6 x7 HO q2 q3 q4 q5 b4 hfz2 s7 b7
          obtain ⟨⟨z0, z1, z2, z3, z4, z5, z6, z7⟩, z8⟩ := id R4
          go_wp2
          have hw7 := HW7.out
          simp only [stB] at hw7
          rw [hw7]
          obtain ⟨r0, r1, r2, r3, r4, r5, r6, r7⟩ := R7.1
          refine bodyPost_ret (v := .tuple #[ndV (.mk k2 m2 u2 g2 o2 at2 d2 ks2) h', .nilIface]) (by simp [results, Try.results70, go_sem, ndV, r0, r1, r2, r3, r4, r5, r6, r7]) rfl ⟨⟨h', by rw [HE.out]; rfl, ?_⟩, hB7⟩
          rw [HE.out]
          exact hN4.on step
    -- one step down
    have hji : (j : Int) < (n : Int) := by omega
    obtain ⟨nm, hnm⟩ : ∃ s, l[j]? = some s := ⟨l[j]'(by omega), List.getElem?_eq_getElem _⟩
    obtain ⟨nm2, hnm2⟩ : ∃ s, l[j + 1]? = some s := ⟨l[j + 1]'(by omega), List.getElem?_eq_getElem _⟩
    have HDR1 : Hid (l.drop (j + 1) = nm2 :: l.drop (j + 2)) := by
      show _ = _
      rw [List.drop_eq_getElem_cons (by omega)]
      rw [List.getElem?_eq_getElem (by omega)] at hnm2
      simp at hnm2; rw [hnm2]
    have HDR : Hid (l.drop j = nm :: nm2 :: l.drop (j + 2)) := by
      show _ = _
      rw [List.drop_eq_getElem_cons (by omega), HDR1.out]
      rw [List.getElem?_eq_getElem (by omega)] at hnm
      simp at hnm; rw [hnm]
    rw [HDR.out] at HSP
    have c0 : wr.cell? ⟨b, off + j, none⟩ = some (.string nm) := (hwr.cell (p := ⟨b, off + j, none⟩) (World.block_lt_of_cell? _ _ (HST.out j nm hnm))).trans (HST.out j nm hnm)
    have HRL : Hid (∃ plug : Nd → Nd, RR = (chgF none (nm :: nm2 :: l.drop (j + 2)) y).map plug) := by
      obtain ⟨plug, q, _⟩ := HSP.out.wand
      exact ⟨plug, by rw [← HRR.out]; exact q⟩
    clear hnm hnm2 HDR
    have habl : ab < wr.heap.size := HSP.out.atc.lt
    obtain ⟨k', m', u', g', o', at', d', ks'⟩ := y
    obtain ⟨y0, y1, y2, y3, y4, y5, y6, y7⟩ := hat
    by_cases hk2 : k' = 2
    rotate_left
    · have bk : (k' != 2) = true := bne_iff_ne.2 hk2
      have HE : Hid (RR = .error 7) := by
        obtain ⟨plug, q⟩ := HRL.out
        show _ = _
        rw [q, chgF, if_pos (by exact hk2)]; rfl
      clear hk2
      go_wp2
      have hw6 := HW6.out
      simp only [stB, zN, zH] at hw6
      simp only [List.length_nil] at hw6
      rw [hw6]
      obtain ⟨r0, r1, r2, r3, r4, r5, r6, r7⟩ := R6.1
      refine bodyPost_ret (v := .tuple #[ndV zN zH, errV 7]) (by simp [results, Try.results70, go_sem, ndV, zN, zH, errV, r0, r1, r2, r3, r4, r5, r6, r7]) rfl (HEZ.out 7 (by decide) HE.out)
    subst hk2
    have bk : ((2 : Int) != 2) = false := rfl
    have hpl : Calls Try.prog 68 #[.slice hy.ak ks'.length hy.ck, .string nm] wr fun e w' => e = .returned (.int .i64 (kidI nm ks' 0)) ∧ Below wr.heap.size wr w' := place_any hy.ak hy.ck ks' nm wr (by exact Nat.le_trans hkl (by decide)) (by
      have q := ksH_ksV hKw
      rw [HL.out] at q
      exact q)
    have HPL : Hid _ := hpl
    clear hpl
    rcases kidI_at nm ks' 0 with ⟨hn0, _⟩ | ⟨p, z, hp, hx, _⟩
    · have HKI : Hid (kidI nm ks' 0 = -1) := hn0
      have HE : Hid (RR = .error 5) := by
        obtain ⟨plug, q⟩ := HRL.out
        show _ = _
        rw [q, chgF, if_neg (by show ¬ (2 : Int) ≠ 2; simp), if_pos (by show kidI nm ks' 0 < 0; rw [hn0]; decide)]; rfl
      clear hn0
      go_wp2_with fail
      refine Calls.mono HPL.out ?_
      rintro e w2 ⟨rfl, b2⟩
      rw [HKI.out]
      have hR2 := HSP.out.res.below b2
      have hwr2 := hwr.trans (b2.mono hwr.size)
      have R7 := hR2.store zN zH
      have b7 : But (nb + 1) w2 (stB w2 (nb + 1) zN zH) := stB_but
      have hB7 := hwr2.trans (b7.below (B := W.heap.size) (by omega) hwr2.size)
      generalize hw7 : stB w2 (nb + 1) zN zH = w7 at R7 hB7
      have HW7 : Hid (stB w2 (nb + 1) zN zH = w7) := hw7
      clear hw7 b7 y0 y1 y2 y3 y4 y5 y6 y7 z0 z1 z2 z3 z4 z5 z6 z7 z8 c0 hwr hwr2 b2 R6 HW6 HEZ hfz HPL
      obtain ⟨⟨z0, z1, z2, z3, z4, z5, z6, z7⟩, z8⟩ := id hR2
      go_wp2
      have hw7 := HW7.out
      simp only [stB, zN, zH, List.length_nil] at hw7
      rw [hw7]
      obtain ⟨r0, r1, r2, r3, r4, r5, r6, r7⟩ := R7.1
      refine bodyPost_ret (v := .tuple #[ndV zN zH, .iface 96 (.int .i64 5)]) (by simp [results, Try.results70, go_sem, ndV, zN, zH, r0, r1, r2, r3, r4, r5, r6, r7]) rfl ⟨⟨zH, by rw [HE.out]; rfl, by rw [HE.out]; exact zN_in _⟩, hB7⟩
    rw [Nat.zero_add] at hp
    have HKI : Hid (kidI nm ks' 0 = (p : Int)) := hp
    have hplt : p < ks'.length := (List.getElem?_eq_some_iff.1 hx).1
    have hcz : cnt z ≤ 800 := by
      have q1 := cntL_get hx
      rw [cnt] at hcy
      omega
    obtain ⟨⟨n3, z3', hz⟩, hLp⟩ : ∃ e, L[p]? = some e := ⟨L[p]'(by have := HLL.out; simp only [Nd.kids] at this; omega), List.getElem?_eq_getElem _⟩
    have hLp2 : n3 = nm ∧ z3' = z := by
      have q := HL.out
      have q2 : (bare L)[p]? = some (nm, z) := by rw [q]; exact hx
      unfold bare at q2
      rw [List.getElem?_map, hLp] at q2
      simpa using q2
    obtain ⟨rfl, rfl⟩ := hLp2
    have HLP : Hid (L[p]? = some (n3, z3', hz)) := hLp
    have hLL : L.length ≤ 1000 := by rw [← HLL.out]; exact Nat.le_trans hkl (by decide)
    clear hp hx hLp
    have hpi : decide ((p : Int) < 0) = false := decide_eq_false (by omega)
    have hpi2 : (p : Int) < (ks'.length : Int) := by omega
    go_wp2_with fail
    refine Calls.mono HPL.out ?_
    rintro e w2 ⟨rfl, b2⟩
    rw [HKI.out]
    have s7 : w2.cell? ⟨ab, ap + 7, none⟩ = some (.slice hy.ak ks'.length hy.ck) := (b2.cell (p := ⟨ab, ap + 7, none⟩) habl).trans y7
    have hK2 := hKw.on (mle_below b2)
    have hcK := cloneK_any hy.ak hy.ck L w2 hLL hK2
    have hlk : L.length = ks'.length := HLL.out.symm
    rw [hlk] at hcK
    have HCK : Hid _ := hcK
    clear hcK hlk y0 y1 y2 y3 y4 y5 y6 y7 z0 z1 z2 z3 z4 z5 z6 z7 z8 c0 R6 HW6 HEZ HPL hK2
    go_wp2_with fail
    refine Calls.mono HCK.out ?_
    rintro e w3 ⟨⟨v, rfl, hrow⟩, b3⟩
    obtain ⟨a3, c3, hv, _, _, hf3⟩ := owns_cells hrow
    rcases hf3 with ⟨_, q, _⟩ | ⟨g3, rfl, hg3, _, _, _⟩
    · omega
    rw [hv] at hrow ⊢
    clear hv
    have b23 := b2.trans (b3.mono b2.size)
    have s8 : w3.cell? ⟨ab, ap + 7, none⟩ = some (.slice hy.ak ks'.length hy.ck) := (b3.cell (p := ⟨ab, ap + 7, none⟩) (World.block_lt_of_cell? _ _ s7)).trans s7
    have hfz3 : w3.frozen? ⟨ab, ap + 7, none⟩ = false := (b23.frozen (p := ⟨ab, ap + 7, none⟩) habl).trans (hfz _)
    have hsp3 := HSP.out.step b23 b2.size HL.out hKH.2 rfl HKI.out HLP.out hrow
    have s9 : (w3.setCell ⟨ab, ap + 7, none⟩ (.slice (some ⟨g3, 0, none⟩) ks'.length c3)).cell? ⟨ab, ap + 7, none⟩ = some (.slice (some ⟨g3, 0, none⟩) ks'.length c3) := World.cell?_setCell_same _ _ _ s8
    rw [← HDR1.out] at hsp3
    change Spine W (w3.setCell ⟨ab, ap + 7, none⟩ (.slice (some ⟨g3, 0, none⟩) ks'.length c3)) S nb _ _ _ _ _ _ _ _ at hsp3
    generalize hw4 : w3.setCell ⟨ab, ap + 7, none⟩ (.slice (some ⟨g3, 0, none⟩) ks'.length c3) = w4 at hsp3 s9
    clear hrow b2 b3 b23 s7 HCK hfz
    go_wp2
    clear hw4 s8 s9 hfz3
    go_roundw
    case rel => exact ⟨j + 1, g3, p * 9 + 1, z3', hz, by omega, by go_num, by first | rfl | simp, hsp3, hcz⟩
    case measure => simp [intOf]; omega
end Go.Proofs.Ytkkhfnkmfkdhiab

namespace Go.Proofs.Ytkkhfnkmfkdhiab
open Go.RowKit

set_option maxRecDepth 100000 in
set_option maxHeartbeats 4000000 in
theorem changePut_any {W : World} {S : Nat → Bool} (hS0 : ∀ k, S k = true → k < W.heap.size) {x0 : Nd} {h : Hd} (hN : NdV (offS W.cell? S) x0 h) (a : Option Addr) (cl : Nat) (l : List ByteArray) (hS : Strs W.cell? a l) (hll : l.length ≤ 1000) (hcl : l.length ≤ cl ∧ cl ≤ 9223372036854775807) (hcnt : cnt x0 ≤ 800) (bx : Nat) (xp : Nd) (hxp : Hd) (hX : NBox W bx xp hxp) (hXN : NdV (offS W.cell? S) xp hxp) (hres : ∀ r, chgF (some xp) l x0 = .ok r → Lim r ∧ cnt r ≤ 1000) :
    Calls Try.prog 70 #[ndV x0 h, .slice a l.length cl, .func (.func 71) #[] #[.pointer (some ⟨bx, 0, none⟩)]] W fun e W' => NdE W W' S e (chgF (some xp) l x0) := by
  obtain ⟨RR, HRR⟩ : ∃ RR, Hid (chgF (some xp) l x0 = RR) := ⟨_, rfl⟩
  have HRES : Hid (∀ r, RR = .ok r → Lim r ∧ cnt r ≤ 1000) := by rw [← HRR.out]; exact hres
  clear hres
  obtain ⟨k, m, u, g, o, at_, d, ks⟩ := x0
  have B0 := NBw.new W k m u g o at_ d ks h
  have hB0 : Below W.heap.size W (W.alloc (.cells #[.int .i64 k, .int .i64 m, .int .i64 u, .int .i64 g, .bool o, .slice h.aa at_.length h.ca, .string d, .slice h.ak ks.length h.ck] 25)) := (Below.refl _ _).alloc (Nat.le_refl _) _
  have R1 := NBw.zero (W.alloc (.cells #[.int .i64 k, .int .i64 m, .int .i64 u, .int .i64 g, .bool o, .slice h.aa at_.length h.ca, .string d, .slice h.ak ks.length h.ck] 25))
  rw [World.size_alloc] at R1
  have B1 := B0.below ((Below.refl _ _).alloc (Nat.le_refl _) (.cells #[.int .i64 0, .int .i64 0, .int .i64 0, .int .i64 0, .bool false, .slice none 0 0, .string ⟨#[]⟩, .slice none 0 0] 25))
  have hB1 : Below W.heap.size W ((W.alloc (.cells #[.int .i64 k, .int .i64 m, .int .i64 u, .int .i64 g, .bool o, .slice h.aa at_.length h.ca, .string d, .slice h.ak ks.length h.ck] 25)).alloc (.cells #[.int .i64 0, .int .i64 0, .int .i64 0, .int .i64 0, .bool false, .slice none 0 0, .string ⟨#[]⟩, .slice none 0 0] 25)) := hB0.alloc hB0.size _
  show Calls Try.prog 70 #[.agg #[.int .i64 k, .int .i64 m, .int .i64 u, .int .i64 g, .bool o, .slice h.aa at_.length h.ca, .string d, .slice h.ak ks.length h.ck], .slice a l.length cl, .func (.func 71) #[] #[.pointer (some ⟨bx, 0, none⟩)]] _ _
  rw [HRR.out]
  by_cases hnil : l = []
  · subst hnil
    have HE : Hid (RR = .error 7) := by show _ = _; rw [← HRR.out, chgF]
    obtain ⟨z8, r0, r1, r2, r3, r4, r5, r6, r7⟩ : (∀ j, ((W.alloc (.cells #[.int .i64 k, .int .i64 m, .int .i64 u, .int .i64 g, .bool o, .slice h.aa at_.length h.ca, .string d, .slice h.ak ks.length h.ck] 25)).alloc (.cells #[.int .i64 0, .int .i64 0, .int .i64 0, .int .i64 0, .bool false, .slice none 0 0, .string ⟨#[]⟩, .slice none 0 0] 25)).frozen? ⟨W.heap.size + 1, j, none⟩ = false) ∧ NBox ((W.alloc (.cells #[.int .i64 k, .int .i64 m, .int .i64 u, .int .i64 g, .bool o, .slice h.aa at_.length h.ca, .string d, .slice h.ak ks.length h.ck] 25)).alloc (.cells #[.int .i64 0, .int .i64 0, .int .i64 0, .int .i64 0, .bool false, .slice none 0 0, .string ⟨#[]⟩, .slice none 0 0] 25)) (W.heap.size + 1) zN zH := ⟨R1.2, R1.1⟩
    clear B0 hB0 B1 R1
    go_enter Try.func70, Try.ntmps70
    go_wp2
    refine bodyPost_ret (v := .tuple #[ndV zN zH, errV 7]) (by simp [results, Try.results70, go_sem, ndV, zN, zH, errV]) rfl ⟨⟨zH, by rw [HE.out]; rfl, by rw [HE.out]; exact zN_in _⟩, ?_⟩
    exact hB1
  obtain ⟨b, off, rfl, hst⟩ : ∃ b off, a = some ⟨b, off, none⟩ ∧ ∀ i s, l[i]? = some s → W.cell? ⟨b, off + i, none⟩ = some (.string s) := by
    rcases hS with e | e
    · exact absurd e hnil
    · exact e
  have HST : Hid (∀ i s, l[i]? = some s → W.cell? ⟨b, off + i, none⟩ = some (.string s)) := hst
  obtain ⟨n, hn⟩ : ∃ n, l.length = n + 1 := ⟨l.length - 1, by have := List.length_pos_iff.2 hnil; omega⟩
  have HN1 : Hid (l.length = n + 1) := hn
  have hn2 : n < l.length := by omega
  have hn3 : n ≤ cl := by omega
  have hn4 : n ≤ 1000 := by omega
  have dw : IntKind.i64.wrap ((l.length : Int) - 1) = (n : Int) := (wrap_small (by omega) (by omega)).trans (by omega)
  have dj : (l.length : Int) - 1 = (n : Int) := by omega
  have dz : ((l.length : Int) == 0) = false := by simp; omega
  have hsp : Spine W ((W.alloc (.cells #[.int .i64 k, .int .i64 m, .int .i64 u, .int .i64 g, .bool o, .slice h.aa at_.length h.ca, .string d, .slice h.ak ks.length h.ck] 25)).alloc (.cells #[.int .i64 0, .int .i64 0, .int .i64 0, .int .i64 0, .bool false, .slice none 0 0, .string ⟨#[]⟩, .slice none 0 0] 25)) S W.heap.size (.mk k m u g o at_ d ks) (some xp) l l W.heap.size 0 (.mk k m u g o at_ d ks) h := Spine.start hB1 rfl R1 B1 hS0 hN
  clear hst hS hnil hn B0 hB0 B1 R1 hB1
  go_enter Try.func70, Try.ntmps70
  go_wp2
  generalize (W.alloc (.cells #[.int .i64 k, .int .i64 m, .int .i64 u, .int .i64 g, .bool o, .slice h.aa at_.length h.ca, .string d, .slice h.ak ks.length h.ck] 25)).alloc (.cells #[.int .i64 0, .int .i64 0, .int .i64 0, .int .i64 0, .bool false, .slice none 0 0, .string ⟨#[]⟩, .slice none 0 0] 25) = w1 at hsp ⊢
  generalize hsz : W.heap.size = nb at hsp ⊢
  clear dw dj dz
  go_loopw [27, 8] (fun i v wr => ∃ (j ab ap : Nat) (y : Nd) (hy : Hd), j ≤ n ∧ i = .int .i64 j ∧ v = .pointer (some ⟨ab, ap, none⟩) ∧ Spine W wr S nb (.mk k m u g o at_ d ks) (some xp) l (l.drop j) ab ap y hy ∧ cnt y ≤ 800) (fun i _ _ => n - (intOf i).toNat)
  case atStart => exact ⟨0, nb, 0, _, h, Nat.zero_le _, rfl, rfl, hsp, hcnt⟩
  case round =>
    obtain ⟨j, ab, ap, y, hy, hj, rfl, rfl, hsp, hcy⟩ := hrel
    have hkl : y.kids.length ≤ 800 := kids_le hcy
    obtain ⟨L, hL, hKH⟩ := ksV_ksH (show KsV (offS W.cell? S) hy.ak y.kids by
      have ht := hsp.tree
      obtain ⟨k', m', u', g', o', at', d', ks'⟩ := y
      exact (ndV_iff.1 ht).2.2.2)
    have hll2 : y.kids.length = L.length := by rw [← hL, bare_length]
    have hcap : y.kids.length ≤ hy.ck ∧ hy.ck ≤ 9223372036854775807 := by
      have ht := hsp.tree
      obtain ⟨k', m', u', g', o', at', d', ks'⟩ := y
      exact (ndV_iff.1 ht).2.2.1
    have HL : Hid (bare L = y.kids) := hL
    have HLL : Hid (y.kids.length = L.length) := hll2
    have hKw : KsH wr.cell? hy.ak L := (hKH.on (offS_le _ _)).on (mle_below hsp.low)
    have hR := hsp.res
    have R6 := hR.store zN zH
    have b6 : But (nb + 1) wr (stB wr (nb + 1) zN zH) := stB_but
    have hB6 := hsp.low.trans (b6.below (B := W.heap.size) (by omega) hsp.low.size)
    obtain ⟨⟨z0, z1, z2, z3, z4, z5, z6, z7⟩, z8⟩ := id hR
    have hat := hsp.atc
    have hfz := hsp.fz 
    have HSP : Hid (Spine W wr S nb (.mk k m u g o at_ d ks) (some xp) l (l.drop j) ab ap y hy) := hsp
    have HEZ : Hid (∀ f, f ≠ 0 → RR = .error f → NdE W (stB wr (nb + 1) zN zH) S (.returned (.tuple #[ndV zN zH, errV f])) RR) := by
      intro f _ hf
      rw [hf]
      exact ⟨⟨zH, rfl, zN_in _⟩, hB6⟩
    generalize hw6 : stB wr (nb + 1) zN zH = w6 at R6 HEZ
    have HW6 : Hid (stB wr (nb + 1) zN zH = w6) := hw6
    have hwr : Below W.heap.size W wr := hsp.low
    clear hw6 b6 hB6 hR hL hll2 hsp
    by_cases hjn : j < n
    rotate_left
    · -- at the end
      have ej : j = n := by omega
      subst ej
      have hji : decide ((j : Int) < (j : Int)) = false := decide_eq_false (by omega)
      obtain ⟨nm, hnm⟩ : ∃ s, l[j]? = some s := ⟨l[j]'(by omega), List.getElem?_eq_getElem _⟩
      have HDR : Hid (l.drop j = [nm]) := by
        show _ = _
        rw [List.drop_eq_getElem_cons (by omega), List.drop_of_length_le (by have := HN1.out; omega)]
        rw [List.getElem?_eq_getElem (by omega)] at hnm
        simp at hnm; rw [hnm]
      rw [HDR.out] at HSP
      have c0 : wr.cell? ⟨b, off + j, none⟩ = some (.string nm) := (hwr.cell (p := ⟨b, off + j, none⟩) (World.block_lt_of_cell? _ _ (HST.out j nm hnm))).trans (HST.out j nm hnm)
      have HRL : Hid (∃ plug : Nd → Nd, RR = (chgF (some xp) [nm] y).map plug) := by
        obtain ⟨plug, q, _⟩ := HSP.out.wand
        exact ⟨plug, by rw [← HRR.out]; exact q⟩
      clear hnm HDR
      obtain ⟨k', m', u', g', o', at', d', ks'⟩ := y
      obtain ⟨y0, y1, y2, y3, y4, y5, y6, y7⟩ := hat
      have hji2 : (j : Int) < (l.length : Int) := by omega
      by_cases hk2 : k' = 2
      rotate_left
      · have bk : (k' != 2) = true := bne_iff_ne.2 hk2
        have HE : Hid (RR = .error 7) := by
          obtain ⟨plug, q⟩ := HRL.out
          show _ = _
          rw [q, chgF, if_pos (by exact hk2)]; rfl
        clear hk2
        go_wp2
        have hw6 := HW6.out
        simp only [stB, zN, zH] at hw6
        simp only [List.length_nil] at hw6
        rw [hw6]
        obtain ⟨r0, r1, r2, r3, r4, r5, r6, r7⟩ := R6.1
        refine bodyPost_ret (v := .tuple #[ndV zN zH, errV 7]) (by simp [results, Try.results70, go_sem, ndV, zN, zH, errV, r0, r1, r2, r3, r4, r5, r6, r7]) rfl (HEZ.out 7 (by decide) HE.out)
      subst hk2
      have bk : ((2 : Int) != 2) = false := rfl
      have hq5 : Below wr.heap.size wr wr.drew := below_drewN (Below.refl _ _) 1
      have hAl := put1_any hy.ak hy.ck bx xp hxp L nm wr.drew (by have := HLL.out; omega) (by have := HLL.out; have := hcap.1; omega) hcap.2 (hKw.on (mle_below hq5)) (hX.below (hwr.trans (hq5.mono hwr.size))) ((hXN.on (offS_le _ _)).ab (hwr.trans (hq5.mono hwr.size)))
      rw [← HLL.out] at hAl
      have HAL2 : Hid (lastF (some xp) nm ks' = match altL (some (xp, hxp)) nm L with | .error f => .error f | .ok M => .ok (bare M)) := by
        have q := alt_last (some (xp, hxp)) nm L
        rw [HL.out] at q
        exact q
      cases hA : altL (some (xp, hxp)) nm L with
      | error f =>
        rw [hA] at HAL2
        have hAl2 : Calls Try.prog 71 #[.slice hy.ak ks'.length hy.ck, .string nm, .pointer (some ⟨bx, 0, none⟩)] wr.drew fun e w' => (f ≠ 0 ∧ e = .returned (.tuple #[.slice none 0 0, .iface 96 (.int .i64 f)])) ∧ Below wr.drew.heap.size wr.drew w' := by
          refine hAl.mono ?_
          rintro e w' ⟨q | ⟨M, v, q, _⟩, hb⟩
          · obtain ⟨f', q1, q2, q3⟩ := q
            rw [hA] at q1
            simp only [Except.error.injEq] at q1
            subst q1
            exact ⟨⟨q2, q3⟩, hb⟩
          · rw [hA] at q; cases q
        have HE : Hid (RR = .error f) := by
          obtain ⟨plug, q⟩ := HRL.out
          show _ = _
          rw [q, chgF, if_neg (by show ¬ (2 : Int) ≠ 2; simp)]
          show Except.map plug (Except.map _ (lastF (some xp) nm ks')) = _
          rw [HAL2.out]; rfl
        have T5 : wr.drew.cell? ⟨ab, ap + 7, none⟩ = some (.slice hy.ak ks'.length hy.ck) ∧ wr.drew.cell? ⟨b, off + j, none⟩ = some (.string nm) := ⟨y7, c0⟩
        have HAC : Hid _ := hAl2
        clear hA hAl hAl2 HAL2
        go_wp2
        go_region_held3 (fun w' => w'.cell? ⟨ab, ap + 7, none⟩ = some (.slice hy.ak ks'.length hy.ck) ∧ w'.cell? ⟨b, off + j, none⟩ = some (.string nm)) (first | exact T5 | exact T6) (first | (go_at_call 71; refine Calls.mono HAC.out ?_; rintro e w2 ⟨⟨hf0, rfl⟩, hB4⟩; have T6 : w2.cell? ⟨ab, ap + 7, none⟩ = some (.slice hy.ak ks'.length hy.ck) ∧ w2.cell? ⟨b, off + j, none⟩ = some (.string nm) := ⟨(hB4.cell (p := ⟨ab, ap + 7, none⟩) (World.block_lt_of_cell? _ _ T5.1)).trans T5.1, (hB4.cell (p := ⟨b, off + j, none⟩) (World.block_lt_of_cell? _ _ T5.2)).trans T5.2⟩))
        all_goals
          have b2 : Below wr.heap.size wr w2 := hq5.trans hB4
          have hR2 := HSP.out.res.below b2
          have hwr2 := hwr.trans (b2.mono hwr.size)
          have R7 := hR2.store zN zH
          have b7 : But (nb + 1) w2 (stB w2 (nb + 1) zN zH) := stB_but
          have hB7 := hwr2.trans (b7.below (B := W.heap.size) (by omega) hwr2.size)
          generalize hw7 : stB w2 (nb + 1) zN zH = w7 at R7 hB7
          have HW7 : Hid (stB w2 (nb + 1) zN zH = w7) := hw7
          clear hw7 b7 y0 y1 y2 y3 y4 y5 y6 y7 z0 z1 z2 z3 z4 z5 z6 z7 z8 c0 hB4 T5 T6 hwr hwr2 hq5 b2 R6 HW6 HEZ HAC hfz
          obtain ⟨⟨z0, z1, z2, z3, z4, z5, z6, z7⟩, z8⟩ := id hR2
          go_wp2
          have hw7 := HW7.out
          simp only [stB, zN, zH, List.length_nil] at hw7
          rw [hw7]
          obtain ⟨r0, r1, r2, r3, r4, r5, r6, r7⟩ := R7.1
          refine bodyPost_ret (v := .tuple #[ndV zN zH, .iface 96 (.int .i64 f)]) (by simp [results, Try.results70, go_sem, ndV, zN, zH, r0, r1, r2, r3, r4, r5, r6, r7]) rfl ⟨⟨zH, by rw [HE.out, errV_iface hf0]; rfl, by rw [HE.out]; exact zN_in _⟩, hB7⟩
      | ok M =>
        rw [hA] at HAL2
        have hAl2 : Calls Try.prog 71 #[.slice hy.ak ks'.length hy.ck, .string nm, .pointer (some ⟨bx, 0, none⟩)] wr.drew fun e w' => (∃ ak ck, e = .returned (.tuple #[.slice ak M.length ck, .nilIface]) ∧ w'.ownsRow wr.heap.size 102 9 (.slice ak M.length ck) M.length (kfl M)) ∧ Below wr.drew.heap.size wr.drew w' := by
          refine hAl.mono ?_
          rintro e w' ⟨⟨f, q, _⟩ | ⟨M', v, q, rfl, q2⟩, hb⟩
          · rw [hA] at q; cases q
          · rw [hA] at q
            simp only [Except.ok.injEq] at q
            subst q
            obtain ⟨ak, ck, hv, _⟩ := owns_cells q2
            subst hv
            exact ⟨⟨ak, ck, rfl, q2⟩, hb⟩
        have HMN : Hid (∀ e ∈ M, NdV (offS W.cell? S) e.2.1 e.2.2) := by
          intro e he
          simp only [altL] at hA
          split at hA
          · cases hA
          · simp only [Except.ok.injEq] at hA
            subst hA
            rcases mem_put he with q | q
            · rw [q]; exact hXN
            · exact hKH.2 e q
        have T5 : wr.drew.cell? ⟨ab, ap + 7, none⟩ = some (.slice hy.ak ks'.length hy.ck) ∧ wr.drew.cell? ⟨b, off + j, none⟩ = some (.string nm) := ⟨y7, c0⟩
        have HAC : Hid _ := hAl2
        clear hA hAl hAl2
        go_wp2
        go_region_held3 (fun w' => w'.cell? ⟨ab, ap + 7, none⟩ = some (.slice hy.ak ks'.length hy.ck) ∧ w'.cell? ⟨b, off + j, none⟩ = some (.string nm)) (first | exact T5 | exact T6) (first | (go_at_call 71; refine Calls.mono HAC.out ?_; rintro e w2 ⟨⟨ak, ck, rfl, hrow⟩, hB4⟩; have T6 : w2.cell? ⟨ab, ap + 7, none⟩ = some (.slice hy.ak ks'.length hy.ck) ∧ w2.cell? ⟨b, off + j, none⟩ = some (.string nm) := ⟨(hB4.cell (p := ⟨ab, ap + 7, none⟩) (World.block_lt_of_cell? _ _ T5.1)).trans T5.1, (hB4.cell (p := ⟨b, off + j, none⟩) (World.block_lt_of_cell? _ _ T5.2)).trans T5.2⟩))
        all_goals
          have b2 : Below wr.heap.size wr w2 := hq5.trans hB4
          obtain ⟨r, hr, q1, q2, q3, q4, q5⟩ := HSP.out.fin b2 (Nat.le_refl _) HMN.out rfl HAL2.out rfl hrow
          have hfz2 : w2.frozen? ⟨ab, ap + 7, none⟩ = false := (b2.frozen (p := ⟨ab, ap + 7, none⟩) HSP.out.atc.lt).trans (hfz _)
          have HE : Hid (RR = .ok r) := by show _ = _; rw [← HRR.out]; exact q1
          obtain ⟨hlr, hcr⟩ := HRES.out r HE.out
          have s7 := T6.1
          clear q1 y0 y1 y2 y3 y4 y5 y6 y7 z0 z1 z2 z3 z4 z5 z6 z7 z8 c0 hB4 T5 T6 hwr hq5 b2 R6 HW6 HEZ HAC hfz hrow
          have ho := own_any (S := upS nb S) (fun k hk => by
            simp [upS] at hk
            rcases hk with hk | hk
            · have := q5.1.lt; omega
            · have := HSP.out.hS k hk; have := q4.size; omega) q3 hlr hcr
          have HO : Hid _ := ho
          clear ho
          generalize hw3 : w2.setCell ⟨ab, ap + 7, none⟩ (.slice ak M.length ck) = w3 at q2 q3 q4 q5 HO
          have HW3 : Hid (w2.setCell ⟨ab, ap + 7, none⟩ (.slice ak M.length ck) = w3) := hw3
          obtain ⟨k2, m2, u2, g2, o2, at2, d2, ks2⟩ := r
          obtain ⟨x0, x1, x2, x3, x4, x5, x6, x7⟩ := id q2
          go_wp2_with fail
          refine Calls.mono HO.out ?_
          rintro e w4 ⟨⟨h', rfl, hN4⟩, b4⟩
          have R4 := q5.below b4
          have hB4 := q4.trans (b4.mono q4.size)
          have R7 := R4.store (.mk k2 m2 u2 g2 o2 at2 d2 ks2) h'
          have b7 : But (nb + 1) w4 (stB w4 (nb + 1) (.mk k2 m2 u2 g2 o2 at2 d2 ks2) h') := stB_but
          have hB7 := hB4.trans (b7.below (B := W.heap.size) (by omega) hB4.size)
          have step : MLe (offS w4.cell? (upS nb S)) (offS (stB w4 (nb + 1) (.mk k2 m2 u2 g2 o2 at2 d2 ks2) h').cell? S) := mle_step fun q hq hs => ⟨(upS_no.1 hs).2, b7.block q hq (upS_no.1 hs).1⟩
          have ev : ndV (.mk k2 m2 u2 g2 o2 at2 d2 ks2) h' = .agg #[.int .i64 k2, .int .i64 m2, .int .i64 u2, .int .i64 g2, .bool o2, .slice h'.aa at2.length h'.ca, .string d2, .slice h'.ak ks2.length h'.ck] := rfl
          rw [ev]
          generalize hw7 : stB w4 (nb + 1) (.mk k2 m2 u2 g2 o2 at2 d2 ks2) h' = w7 at R7 b7 hB7 step
          have HW7 : Hid (stB w4 (nb + 1) (.mk k2 m2 u2 g2 o2 at2 d2 ks2) h' = w7) := hw7
          clear hw7 hw3 x0 x1 x2 x3 x4 x5 x6 x7 HO q2 q3 q4 q5 b4 hfz2 s7 b7
          obtain ⟨⟨z0, z1, z2, z3, z4, z5, z6, z7⟩, z8⟩ := id R4
          go_wp2
          have hw7 := HW7.out
          simp only [stB] at hw7
          rw [hw7]
          obtain ⟨r0, r1, r2, r3, r4, r5, r6, r7⟩ := R7.1
          refine bodyPost_ret (v := .tuple #[ndV (.mk k2 m2 u2 g2 o2 at2 d2 ks2) h', .nilIface]) (by simp [results, Try.results70, go_sem, ndV, r0, r1, r2, r3, r4, r5, r6, r7]) rfl ⟨⟨h', by rw [HE.out]; rfl, ?_⟩, hB7⟩
          rw [HE.out]
          exact hN4.on step
    -- one step down
    have hji : (j : Int) < (n : Int) := by omega
    obtain ⟨nm, hnm⟩ : ∃ s, l[j]? = some s := ⟨l[j]'(by omega), List.getElem?_eq_getElem _⟩
    obtain ⟨nm2, hnm2⟩ : ∃ s, l[j + 1]? = some s := ⟨l[j + 1]'(by omega), List.getElem?_eq_getElem _⟩
    have HDR1 : Hid (l.drop (j + 1) = nm2 :: l.drop (j + 2)) := by
      show _ = _
      rw [List.drop_eq_getElem_cons (by omega)]
      rw [List.getElem?_eq_getElem (by omega)] at hnm2
      simp at hnm2; rw [hnm2]
    have HDR : Hid (l.drop j = nm :: nm2 :: l.drop (j + 2)) := by
      show _ = _
      rw [List.drop_eq_getElem_cons (by omega), HDR1.out]
      rw [List.getElem?_eq_getElem (by omega)] at hnm
      simp at hnm; rw [hnm]
    rw [HDR.out] at HSP
    have c0 : wr.cell? ⟨b, off + j, none⟩ = some (.string nm) := (hwr.cell (p := ⟨b, off + j, none⟩) (World.block_lt_of_cell? _ _ (HST.out j nm hnm))).trans (HST.out j nm hnm)
    have HRL : Hid (∃ plug : Nd → Nd, RR = (chgF (some xp) (nm :: nm2 :: l.drop (j + 2)) y).map plug) := by
      obtain ⟨plug, q, _⟩ := HSP.out.wand
      exact ⟨plug, by rw [← HRR.out]; exact q⟩
    clear hnm hnm2 HDR
    have habl : ab < wr.heap.size := HSP.out.atc.lt
    obtain ⟨k', m', u', g', o', at', d', ks'⟩ := y
    obtain ⟨y0, y1, y2, y3, y4, y5, y6, y7⟩ := hat
    by_cases hk2 : k' = 2
    rotate_left
    · have bk : (k' != 2) = true := bne_iff_ne.2 hk2
      have HE : Hid (RR = .error 7) := by
        obtain ⟨plug, q⟩ := HRL.out
        show _ = _
        rw [q, chgF, if_pos (by exact hk2)]; rfl
      clear hk2
      go_wp2
      have hw6 := HW6.out
      simp only [stB, zN, zH] at hw6
      simp only [List.length_nil] at hw6
      rw [hw6]
      obtain ⟨r0, r1, r2, r3, r4, r5, r6, r7⟩ := R6.1
      refine bodyPost_ret (v := .tuple #[ndV zN zH, errV 7]) (by simp [results, Try.results70, go_sem, ndV, zN, zH, errV, r0, r1, r2, r3, r4, r5, r6, r7]) rfl (HEZ.out 7 (by decide) HE.out)
    subst hk2
    have bk : ((2 : Int) != 2) = false := rfl
    have hpl : Calls Try.prog 68 #[.slice hy.ak ks'.length hy.ck, .string nm] wr fun e w' => e = .returned (.int .i64 (kidI nm ks' 0)) ∧ Below wr.heap.size wr w' := place_any hy.ak hy.ck ks' nm wr (by exact Nat.le_trans hkl (by decide)) (by
      have q := ksH_ksV hKw
      rw [HL.out] at q
      exact q)
    have HPL : Hid _ := hpl
    clear hpl
    rcases kidI_at nm ks' 0 with ⟨hn0, _⟩ | ⟨p, z, hp, hx, _⟩
    · have HKI : Hid (kidI nm ks' 0 = -1) := hn0
      have HE : Hid (RR = .error 5) := by
        obtain ⟨plug, q⟩ := HRL.out
        show _ = _
        rw [q, chgF, if_neg (by show ¬ (2 : Int) ≠ 2; simp), if_pos (by show kidI nm ks' 0 < 0; rw [hn0]; decide)]; rfl
      clear hn0
      go_wp2_with fail
      refine Calls.mono HPL.out ?_
      rintro e w2 ⟨rfl, b2⟩
      rw [HKI.out]
      have hR2 := HSP.out.res.below b2
      have hwr2 := hwr.trans (b2.mono hwr.size)
      have R7 := hR2.store zN zH
      have b7 : But (nb + 1) w2 (stB w2 (nb + 1) zN zH) := stB_but
      have hB7 := hwr2.trans (b7.below (B := W.heap.size) (by omega) hwr2.size)
      generalize hw7 : stB w2 (nb + 1) zN zH = w7 at R7 hB7
      have HW7 : Hid (stB w2 (nb + 1) zN zH = w7) := hw7
      clear hw7 b7 y0 y1 y2 y3 y4 y5 y6 y7 z0 z1 z2 z3 z4 z5 z6 z7 z8 c0 hwr hwr2 b2 R6 HW6 HEZ hfz HPL
      obtain ⟨⟨z0, z1, z2, z3, z4, z5, z6, z7⟩, z8⟩ := id hR2
      go_wp2
      have hw7 := HW7.out
      simp only [stB, zN, zH, List.length_nil] at hw7
      rw [hw7]
      obtain ⟨r0, r1, r2, r3, r4, r5, r6, r7⟩ := R7.1
      refine bodyPost_ret (v := .tuple #[ndV zN zH, .iface 96 (.int .i64 5)]) (by simp [results, Try.results70, go_sem, ndV, zN, zH, r0, r1, r2, r3, r4, r5, r6, r7]) rfl ⟨⟨zH, by rw [HE.out]; rfl, by rw [HE.out]; exact zN_in _⟩, hB7⟩
    rw [Nat.zero_add] at hp
    have HKI : Hid (kidI nm ks' 0 = (p : Int)) := hp
    have hplt : p < ks'.length := (List.getElem?_eq_some_iff.1 hx).1
    have hcz : cnt z ≤ 800 := by
      have q1 := cntL_get hx
      rw [cnt] at hcy
      omega
    obtain ⟨⟨n3, z3', hz⟩, hLp⟩ : ∃ e, L[p]? = some e := ⟨L[p]'(by have := HLL.out; simp only [Nd.kids] at this; omega), List.getElem?_eq_getElem _⟩
    have hLp2 : n3 = nm ∧ z3' = z := by
      have q := HL.out
      have q2 : (bare L)[p]? = some (nm, z) := by rw [q]; exact hx
      unfold bare at q2
      rw [List.getElem?_map, hLp] at q2
      simpa using q2
    obtain ⟨rfl, rfl⟩ := hLp2
    have HLP : Hid (L[p]? = some (n3, z3', hz)) := hLp
    have hLL : L.length ≤ 1000 := by rw [← HLL.out]; exact Nat.le_trans hkl (by decide)
    clear hp hx hLp
    have hpi : decide ((p : Int) < 0) = false := decide_eq_false (by omega)
    have hpi2 : (p : Int) < (ks'.length : Int) := by omega
    go_wp2_with fail
    refine Calls.mono HPL.out ?_
    rintro e w2 ⟨rfl, b2⟩
    rw [HKI.out]
    have s7 : w2.cell? ⟨ab, ap + 7, none⟩ = some (.slice hy.ak ks'.length hy.ck) := (b2.cell (p := ⟨ab, ap + 7, none⟩) habl).trans y7
    have hK2 := hKw.on (mle_below b2)
    have hcK := cloneK_any hy.ak hy.ck L w2 hLL hK2
    have hlk : L.length = ks'.length := HLL.out.symm
    rw [hlk] at hcK
    have HCK : Hid _ := hcK
    clear hcK hlk y0 y1 y2 y3 y4 y5 y6 y7 z0 z1 z2 z3 z4 z5 z6 z7 z8 c0 R6 HW6 HEZ HPL hK2
    go_wp2_with fail
    refine Calls.mono HCK.out ?_
    rintro e w3 ⟨⟨v, rfl, hrow⟩, b3⟩
    obtain ⟨a3, c3, hv, _, _, hf3⟩ := owns_cells hrow
    rcases hf3 with ⟨_, q, _⟩ | ⟨g3, rfl, hg3, _, _, _⟩
    · omega
    rw [hv] at hrow ⊢
    clear hv
    have b23 := b2.trans (b3.mono b2.size)
    have s8 : w3.cell? ⟨ab, ap + 7, none⟩ = some (.slice hy.ak ks'.length hy.ck) := (b3.cell (p := ⟨ab, ap + 7, none⟩) (World.block_lt_of_cell? _ _ s7)).trans s7
    have hfz3 : w3.frozen? ⟨ab, ap + 7, none⟩ = false := (b23.frozen (p := ⟨ab, ap + 7, none⟩) habl).trans (hfz _)
    have hsp3 := HSP.out.step b23 b2.size HL.out hKH.2 rfl HKI.out HLP.out hrow
    have s9 : (w3.setCell ⟨ab, ap + 7, none⟩ (.slice (some ⟨g3, 0, none⟩) ks'.length c3)).cell? ⟨ab, ap + 7, none⟩ = some (.slice (some ⟨g3, 0, none⟩) ks'.length c3) := World.cell?_setCell_same _ _ _ s8
    rw [← HDR1.out] at hsp3
    change Spine W (w3.setCell ⟨ab, ap + 7, none⟩ (.slice (some ⟨g3, 0, none⟩) ks'.length c3)) S nb _ _ _ _ _ _ _ _ at hsp3
    generalize hw4 : w3.setCell ⟨ab, ap + 7, none⟩ (.slice (some ⟨g3, 0, none⟩) ks'.length c3) = w4 at hsp3 s9
    clear hrow b2 b3 b23 s7 HCK hfz
    go_wp2
    clear hw4 s8 s9 hfz3
    go_roundw
    case rel => exact ⟨j + 1, g3, p * 9 + 1, z3', hz, by omega, by go_num, by first | rfl | simp, hsp3, hcz⟩
    case measure => simp [intOf]; omega
end Go.Proofs.Ytkkhfnkmfkdhiab

namespace Go.Proofs.Ytkkhfnkmfkdhiab
open Go.RowKit

/-- A node and an error that are answered, by their values. -/
def NdR (W W' : World) (e : Ending) (R : Except Int Nd) : Prop := (∃ h', e = .returned (.tuple #[ndV (xNd R) h', errV (xErr R)]) ∧ NdV W'.cell? (xNd R) h') ∧ Below W.heap.size W W'

set_option maxRecDepth 100000 in
set_option maxHeartbeats 2000000 in
theorem tcut_any {W : World} {x0 : Nd} {h : Hd} (hN : NdV W.cell? x0 h) (a : Option Addr) (cl : Nat) (l : List ByteArray) (hSt : Strs W.cell? a l) (hll : l.length ≤ 1000) (hcl : l.length ≤ cl ∧ cl ≤ 9223372036854775807) (hcnt : cnt x0 ≤ 800) (hres : ∀ r, chgF none l x0 = .ok r → Lim r ∧ cnt r ≤ 1000) :
    Calls Try.prog 24 #[ndV x0 h, .slice a l.length cl] W fun e W' => NdR W W' e (chgF none l x0) := by
  obtain ⟨RR, HRR⟩ : ∃ RR, Hid (chgF none l x0 = RR) := ⟨_, rfl⟩
  obtain ⟨k, m, u, g, o, at_, d, ks⟩ := x0
  have B0 := NBw.new W k m u g o at_ d ks h
  have hB0 : Below W.heap.size W (W.alloc (.cells #[.int .i64 k, .int .i64 m, .int .i64 u, .int .i64 g, .bool o, .slice h.aa at_.length h.ca, .string d, .slice h.ak ks.length h.ck] 25)) := (Below.refl _ _).alloc (Nat.le_refl _) _
  have R1 := NBw.zero (W.alloc (.cells #[.int .i64 k, .int .i64 m, .int .i64 u, .int .i64 g, .bool o, .slice h.aa at_.length h.ca, .string d, .slice h.ak ks.length h.ck] 25))
  rw [World.size_alloc] at R1
  have q2 := (Below.refl _ (W.alloc (.cells #[.int .i64 k, .int .i64 m, .int .i64 u, .int .i64 g, .bool o, .slice h.aa at_.length h.ca, .string d, .slice h.ak ks.length h.ck] 25))).alloc (Nat.le_refl _) (.cells #[.int .i64 0, .int .i64 0, .int .i64 0, .int .i64 0, .bool false, .slice none 0 0, .string ⟨#[]⟩, .slice none 0 0] 25)
  have B1 := B0.below q2
  have hB1 : Below W.heap.size W ((W.alloc (.cells #[.int .i64 k, .int .i64 m, .int .i64 u, .int .i64 g, .bool o, .slice h.aa at_.length h.ca, .string d, .slice h.ak ks.length h.ck] 25)).alloc (.cells #[.int .i64 0, .int .i64 0, .int .i64 0, .int .i64 0, .bool false, .slice none 0 0, .string ⟨#[]⟩, .slice none 0 0] 25)) := hB0.alloc hB0.size _
  have mle : MLe W.cell? (offS ((W.alloc (.cells #[.int .i64 k, .int .i64 m, .int .i64 u, .int .i64 g, .bool o, .slice h.aa at_.length h.ca, .string d, .slice h.ak ks.length h.ck] 25)).alloc (.cells #[.int .i64 0, .int .i64 0, .int .i64 0, .int .i64 0, .bool false, .slice none 0 0, .string ⟨#[]⟩, .slice none 0 0] 25)).cell? (fun q => q == (W.heap.size + 1))) := mle_offS hB1 (fun q hq => by simp; omega)
  have hC : Calls Try.prog 70 #[ndV (.mk k m u g o at_ d ks) h, .slice a l.length cl, .func (.func 75) #[] #[]] ((W.alloc (.cells #[.int .i64 k, .int .i64 m, .int .i64 u, .int .i64 g, .bool o, .slice h.aa at_.length h.ca, .string d, .slice h.ak ks.length h.ck] 25)).alloc (.cells #[.int .i64 0, .int .i64 0, .int .i64 0, .int .i64 0, .bool false, .slice none 0 0, .string ⟨#[]⟩, .slice none 0 0] 25)) fun e W' => NdE ((W.alloc (.cells #[.int .i64 k, .int .i64 m, .int .i64 u, .int .i64 g, .bool o, .slice h.aa at_.length h.ca, .string d, .slice h.ak ks.length h.ck] 25)).alloc (.cells #[.int .i64 0, .int .i64 0, .int .i64 0, .int .i64 0, .bool false, .slice none 0 0, .string ⟨#[]⟩, .slice none 0 0] 25)) W' (fun q => q == (W.heap.size + 1)) e RR := by
    rw [← HRR.out]
    exact changeCut_any (S := fun q => q == (W.heap.size + 1)) (fun q hq => by simp at hq; rw [hq]; exact R1.1.lt) (hN.on mle) a cl l (hSt.on (mle_below hB1)) hll hcl hcnt hres
  have HC : Hid _ := hC
  rw [HRR.out]
  show Calls Try.prog 24 #[.agg #[.int .i64 k, .int .i64 m, .int .i64 u, .int .i64 g, .bool o, .slice h.aa at_.length h.ca, .string d, .slice h.ak ks.length h.ck], .slice a l.length cl] _ _
  obtain ⟨⟨y0, y1, y2, y3, y4, y5, y6, y7⟩, y8⟩ := id B1
  clear hC hres mle hSt hN
  go_enter Try.func24, Try.ntmps24
  go_wp2_with fail
  refine Calls.mono HC.out ?_
  rintro e w2 ⟨⟨h', rfl, hN2⟩, b2⟩
  have R2 := R1.below b2
  have hB2 := hB1.trans (b2.mono hB1.size)
  clear y0 y1 y2 y3 y4 y5 y6 y7 y8 HC B0 B1 R1 hB0 hB1 b2 q2 
  generalize hrb : (W.heap.size + 1) = rb at R2 hN2 ⊢
  generalize hr : xNd RR = r at hN2 ⊢
  have HXN : Hid (xNd RR = r) := hr
  clear hr
  obtain ⟨k2, m2, u2, g2, o2, at2, d2, ks2⟩ := r
  have R7 := R2.store (.mk k2 m2 u2 g2 o2 at2 d2 ks2) h'
  have b7 : But rb w2 (stB w2 rb (.mk k2 m2 u2 g2 o2 at2 d2 ks2) h') := stB_but
  have hB7 := hB2.trans (b7.below (B := W.heap.size) (by omega) hB2.size)
  have step : MLe (offS w2.cell? (fun q => q == rb)) (stB w2 rb (.mk k2 m2 u2 g2 o2 at2 d2 ks2) h').cell? := (mle_step (S' := fun _ => false) fun q hq hs => ⟨rfl, b7.block q hq (by simpa using hs)⟩).trans (offS_le _ _)
  have hN7 := hN2.on step
  generalize hw7 : stB w2 rb (.mk k2 m2 u2 g2 o2 at2 d2 ks2) h' = w7 at R7 hB7 hN7
  have HW7 : Hid (stB w2 rb (.mk k2 m2 u2 g2 o2 at2 d2 ks2) h' = w7) := hw7
  have ev : ndV (.mk k2 m2 u2 g2 o2 at2 d2 ks2) h' = .agg #[.int .i64 k2, .int .i64 m2, .int .i64 u2, .int .i64 g2, .bool o2, .slice h'.aa at2.length h'.ca, .string d2, .slice h'.ak ks2.length h'.ck] := rfl
  rw [ev]
  obtain ⟨⟨z0, z1, z2, z3, z4, z5, z6, z7⟩, z8⟩ := id R2
  clear hw7 step b7 hN2 ev
  generalize hev : errV (xErr RR) = ev
  have HEV : Hid (errV (xErr RR) = ev) := hev
  clear hev
  go_wp2
  have hw7 := HW7.out
  simp only [stB] at hw7
  rw [hw7]
  obtain ⟨r0, r1, r2, r3, r4, r5, r6, r7⟩ := R7.1
  refine bodyPost_ret (v := .tuple #[ndV (.mk k2 m2 u2 g2 o2 at2 d2 ks2) h', ev]) (by simp [results, Try.results24, go_sem, ndV, r0, r1, r2, r3, r4, r5, r6, r7]) rfl ⟨⟨h', by rw [HXN.out, HEV.out], by rw [HXN.out]; exact hN7⟩, hB7⟩

set_option maxRecDepth 100000 in
set_option maxHeartbeats 2000000 in
theorem tput_any {W : World} {x0 : Nd} {h : Hd} (hN : NdV W.cell? x0 h) (a : Option Addr) (cl : Nat) (l : List ByteArray) (hSt : Strs W.cell? a l) (hll : l.length ≤ 1000) (hcl : l.length ≤ cl ∧ cl ≤ 9223372036854775807) (hcnt : cnt x0 ≤ 800) (xp : Nd) (hx : Hd) (hXN : NdV W.cell? xp hx) (hres : ∀ r, chgF (some xp) l x0 = .ok r → Lim r ∧ cnt r ≤ 1000) :
    Calls Try.prog 23 #[ndV x0 h, .slice a l.length cl, ndV xp hx] W fun e W' => NdR W W' e (chgF (some xp) l x0) := by
  obtain ⟨RR, HRR⟩ : ∃ RR, Hid (chgF (some xp) l x0 = RR) := ⟨_, rfl⟩
  obtain ⟨kx, mx, ux, gx, ox, atx, dx, ksx⟩ := xp
  obtain ⟨k, m, u, g, o, at_, d, ks⟩ := x0
  have B0 := NBw.new W k m u g o at_ d ks h
  have hB0 : Below W.heap.size W (W.alloc (.cells #[.int .i64 k, .int .i64 m, .int .i64 u, .int .i64 g, .bool o, .slice h.aa at_.length h.ca, .string d, .slice h.ak ks.length h.ck] 25)) := (Below.refl _ _).alloc (Nat.le_refl _) _
  have X0 := NBw.new (W.alloc (.cells #[.int .i64 k, .int .i64 m, .int .i64 u, .int .i64 g, .bool o, .slice h.aa at_.length h.ca, .string d, .slice h.ak ks.length h.ck] 25)) kx mx ux gx ox atx dx ksx hx
  rw [World.size_alloc] at X0
  have hBx : Below W.heap.size W ((W.alloc (.cells #[.int .i64 k, .int .i64 m, .int .i64 u, .int .i64 g, .bool o, .slice h.aa at_.length h.ca, .string d, .slice h.ak ks.length h.ck] 25)).alloc (.cells #[.int .i64 kx, .int .i64 mx, .int .i64 ux, .int .i64 gx, .bool ox, .slice hx.aa atx.length hx.ca, .string dx, .slice hx.ak ksx.length hx.ck] 25)) := hB0.alloc hB0.size _
  have R1 := NBw.zero ((W.alloc (.cells #[.int .i64 k, .int .i64 m, .int .i64 u, .int .i64 g, .bool o, .slice h.aa at_.length h.ca, .string d, .slice h.ak ks.length h.ck] 25)).alloc (.cells #[.int .i64 kx, .int .i64 mx, .int .i64 ux, .int .i64 gx, .bool ox, .slice hx.aa atx.length hx.ca, .string dx, .slice hx.ak ksx.length hx.ck] 25))
  rw [World.size_alloc, World.size_alloc] at R1
  have q1 := (Below.refl _ (W.alloc (.cells #[.int .i64 k, .int .i64 m, .int .i64 u, .int .i64 g, .bool o, .slice h.aa at_.length h.ca, .string d, .slice h.ak ks.length h.ck] 25))).alloc (Nat.le_refl _) (.cells #[.int .i64 kx, .int .i64 mx, .int .i64 ux, .int .i64 gx, .bool ox, .slice hx.aa atx.length hx.ca, .string dx, .slice hx.ak ksx.length hx.ck] 25)
  have q2 := (Below.refl _ ((W.alloc (.cells #[.int .i64 k, .int .i64 m, .int .i64 u, .int .i64 g, .bool o, .slice h.aa at_.length h.ca, .string d, .slice h.ak ks.length h.ck] 25)).alloc (.cells #[.int .i64 kx, .int .i64 mx, .int .i64 ux, .int .i64 gx, .bool ox, .slice hx.aa atx.length hx.ca, .string dx, .slice hx.ak ksx.length hx.ck] 25))).alloc (Nat.le_refl _) (.cells #[.int .i64 0, .int .i64 0, .int .i64 0, .int .i64 0, .bool false, .slice none 0 0, .string ⟨#[]⟩, .slice none 0 0] 25)
  have B1 := (B0.below q1).below q2
  have X1 := X0.below q2
  have hB1 : Below W.heap.size W (((W.alloc (.cells #[.int .i64 k, .int .i64 m, .int .i64 u, .int .i64 g, .bool o, .slice h.aa at_.length h.ca, .string d, .slice h.ak ks.length h.ck] 25)).alloc (.cells #[.int .i64 kx, .int .i64 mx, .int .i64 ux, .int .i64 gx, .bool ox, .slice hx.aa atx.length hx.ca, .string dx, .slice hx.ak ksx.length hx.ck] 25)).alloc (.cells #[.int .i64 0, .int .i64 0, .int .i64 0, .int .i64 0, .bool false, .slice none 0 0, .string ⟨#[]⟩, .slice none 0 0] 25)) := hBx.alloc hBx.size _
  have mle : MLe W.cell? (offS (((W.alloc (.cells #[.int .i64 k, .int .i64 m, .int .i64 u, .int .i64 g, .bool o, .slice h.aa at_.length h.ca, .string d, .slice h.ak ks.length h.ck] 25)).alloc (.cells #[.int .i64 kx, .int .i64 mx, .int .i64 ux, .int .i64 gx, .bool ox, .slice hx.aa atx.length hx.ca, .string dx, .slice hx.ak ksx.length hx.ck] 25)).alloc (.cells #[.int .i64 0, .int .i64 0, .int .i64 0, .int .i64 0, .bool false, .slice none 0 0, .string ⟨#[]⟩, .slice none 0 0] 25)).cell? (fun q => q == (W.heap.size + 1 + 1))) := mle_offS hB1 (fun q hq => by simp; omega)
  have hC : Calls Try.prog 70 #[ndV (.mk k m u g o at_ d ks) h, .slice a l.length cl, .func (.func 71) #[] #[.pointer (some ⟨W.heap.size + 1, 0, none⟩)]] (((W.alloc (.cells #[.int .i64 k, .int .i64 m, .int .i64 u, .int .i64 g, .bool o, .slice h.aa at_.length h.ca, .string d, .slice h.ak ks.length h.ck] 25)).alloc (.cells #[.int .i64 kx, .int .i64 mx, .int .i64 ux, .int .i64 gx, .bool ox, .slice hx.aa atx.length hx.ca, .string dx, .slice hx.ak ksx.length hx.ck] 25)).alloc (.cells #[.int .i64 0, .int .i64 0, .int .i64 0, .int .i64 0, .bool false, .slice none 0 0, .string ⟨#[]⟩, .slice none 0 0] 25)) fun e W' => NdE (((W.alloc (.cells #[.int .i64 k, .int .i64 m, .int .i64 u, .int .i64 g, .bool o, .slice h.aa at_.length h.ca, .string d, .slice h.ak ks.length h.ck] 25)).alloc (.cells #[.int .i64 kx, .int .i64 mx, .int .i64 ux, .int .i64 gx, .bool ox, .slice hx.aa atx.length hx.ca, .string dx, .slice hx.ak ksx.length hx.ck] 25)).alloc (.cells #[.int .i64 0, .int .i64 0, .int .i64 0, .int .i64 0, .bool false, .slice none 0 0, .string ⟨#[]⟩, .slice none 0 0] 25)) W' (fun q => q == (W.heap.size + 1 + 1)) e RR := by
    rw [← HRR.out]
    exact changePut_any (S := fun q => q == (W.heap.size + 1 + 1)) (fun q hq => by simp at hq; rw [hq]; exact R1.1.lt) (hN.on mle) a cl l (hSt.on (mle_below hB1)) hll hcl hcnt (W.heap.size + 1) (.mk kx mx ux gx ox atx dx ksx) hx X1.1 (hXN.on mle) hres
  have HC : Hid _ := hC
  rw [HRR.out]
  show Calls Try.prog 23 #[.agg #[.int .i64 k, .int .i64 m, .int .i64 u, .int .i64 g, .bool o, .slice h.aa at_.length h.ca, .string d, .slice h.ak ks.length h.ck], .slice a l.length cl, .agg #[.int .i64 kx, .int .i64 mx, .int .i64 ux, .int .i64 gx, .bool ox, .slice hx.aa atx.length hx.ca, .string dx, .slice hx.ak ksx.length hx.ck]] _ _
  obtain ⟨⟨y0, y1, y2, y3, y4, y5, y6, y7⟩, y8⟩ := id B1
  clear hC hres mle hSt hN
  go_enter Try.func23, Try.ntmps23
  go_wp2_with fail
  refine Calls.mono HC.out ?_
  rintro e w2 ⟨⟨h', rfl, hN2⟩, b2⟩
  have R2 := R1.below b2
  have hB2 := hB1.trans (b2.mono hB1.size)
  clear y0 y1 y2 y3 y4 y5 y6 y7 y8 HC B0 B1 R1 hB0 hB1 b2 q2 X0 X1 hBx q1 hXN
  generalize hrb : (W.heap.size + 1 + 1) = rb at R2 hN2 ⊢
  generalize hr : xNd RR = r at hN2 ⊢
  have HXN : Hid (xNd RR = r) := hr
  clear hr
  obtain ⟨k2, m2, u2, g2, o2, at2, d2, ks2⟩ := r
  have R7 := R2.store (.mk k2 m2 u2 g2 o2 at2 d2 ks2) h'
  have b7 : But rb w2 (stB w2 rb (.mk k2 m2 u2 g2 o2 at2 d2 ks2) h') := stB_but
  have hB7 := hB2.trans (b7.below (B := W.heap.size) (by omega) hB2.size)
  have step : MLe (offS w2.cell? (fun q => q == rb)) (stB w2 rb (.mk k2 m2 u2 g2 o2 at2 d2 ks2) h').cell? := (mle_step (S' := fun _ => false) fun q hq hs => ⟨rfl, b7.block q hq (by simpa using hs)⟩).trans (offS_le _ _)
  have hN7 := hN2.on step
  generalize hw7 : stB w2 rb (.mk k2 m2 u2 g2 o2 at2 d2 ks2) h' = w7 at R7 hB7 hN7
  have HW7 : Hid (stB w2 rb (.mk k2 m2 u2 g2 o2 at2 d2 ks2) h' = w7) := hw7
  have ev : ndV (.mk k2 m2 u2 g2 o2 at2 d2 ks2) h' = .agg #[.int .i64 k2, .int .i64 m2, .int .i64 u2, .int .i64 g2, .bool o2, .slice h'.aa at2.length h'.ca, .string d2, .slice h'.ak ks2.length h'.ck] := rfl
  rw [ev]
  obtain ⟨⟨z0, z1, z2, z3, z4, z5, z6, z7⟩, z8⟩ := id R2
  clear hw7 step b7 hN2 ev
  generalize hev : errV (xErr RR) = ev
  have HEV : Hid (errV (xErr RR) = ev) := hev
  clear hev
  go_wp2
  have hw7 := HW7.out
  simp only [stB] at hw7
  rw [hw7]
  obtain ⟨r0, r1, r2, r3, r4, r5, r6, r7⟩ := R7.1
  refine bodyPost_ret (v := .tuple #[ndV (.mk k2 m2 u2 g2 o2 at2 d2 ks2) h', ev]) (by simp [results, Try.results23, go_sem, ndV, r0, r1, r2, r3, r4, r5, r6, r7]) rfl ⟨⟨h', by rw [HXN.out, HEV.out], by rw [HXN.out]; exact hN7⟩, hB7⟩

end Go.Proofs.Ytkkhfnkmfkdhiab
