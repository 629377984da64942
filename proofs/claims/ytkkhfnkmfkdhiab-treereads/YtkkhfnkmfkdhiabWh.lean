/-
  WHAT checker.node AND Check DO: the walks.
-/
import Derived.Test.YtkkhfnkmfkdhiabWg
import Derived.Deep.RegionHeld3
namespace Go.Proofs.Ytkkhfnkmfkdhiab
open Go.RowKit

/-- A node's box, and the checker's first cell. -/
def NUp (w : World) (nb bc : Nat) (up : Bool) : Nd → Hd → Prop
  | .mk k m u g o at_ d ks, h => w.cell? ⟨nb, 0, none⟩ = some (.int .i64 k) ∧ w.cell? ⟨nb, 1, none⟩ = some (.int .i64 m) ∧ w.cell? ⟨nb, 2, none⟩ = some (.int .i64 u) ∧ w.cell? ⟨nb, 3, none⟩ = some (.int .i64 g) ∧
    w.cell? ⟨nb, 4, none⟩ = some (.bool o) ∧ w.cell? ⟨nb, 5, none⟩ = some (.slice h.aa at_.length h.ca) ∧ w.cell? ⟨nb, 6, none⟩ = some (.string d) ∧ w.cell? ⟨nb, 7, none⟩ = some (.slice h.ak ks.length h.ck) ∧ w.cell? ⟨bc, 0, none⟩ = some (.bool up)
theorem NUp.of {w : World} {nb bc : Nat} {up : Bool} {s : Value} {x : Nd} {h : Hd} (h1 : NBox w nb x h) (h2 : TBox w bc (.bool up) s) : NUp w nb bc up x h := by
  obtain ⟨k, m, u, g, o, at_, d, ks⟩ := x
  obtain ⟨e0, e1, e2, e3, e4, e5, e6, e7⟩ := h1
  exact ⟨e0, e1, e2, e3, e4, e5, e6, e7, h2.1⟩

set_option maxRecDepth 100000 in
set_option maxHeartbeats 4000000 in
theorem node_any (up : Bool) {w : World} {bc : Nat} (_hbc : bc < w.heap.size) {x : Nd} {h : Hd} (hN : NdV (offB w.cell? bc) x h) : Lil x → cnt x ≤ 1000 → NodeSays up w bc x h := by
  induction hN with
  | @mk k m u g o at_ d ks h b off f ha hca hck hak hc hr ih =>
    intro hlil hcnt W deep seen hW hT hdeep hseen
    rw [Lil] at hlil
    rw [cnt] at hcnt
    obtain ⟨hla, hld, hlk⟩ := hlil
    obtain ⟨hl8, hlow⟩ := hla
    have hlen : ks.length ≤ 1000 := by have := cntL_len ks; omega
    have hbW : bc < W.heap.size := hT.lt
    have HF : Hid (wlkN up (.mk k m u g o at_ d ks) deep seen = if 60 ≤ seen ∨ 6 < deep then (2, seen) else if nfF up (decide (deep = 0)) (.mk k m u g o at_ d ks) ≠ 0 then (nfF up (decide (deep = 0)) (.mk k m u g o at_ d ks), seen + 1) else wlkL up none ks (deep + 1) (seen + 1)) := by show _ = _; rw [wlkN]
    obtain ⟨R, HR⟩ : ∃ R, Hid (wlkN up (.mk k m u g o at_ d ks) deep seen = R) := ⟨_, rfl⟩
    rw [HR.out] at HF
    rw [HR.out]
    have HKA : Hid (∀ (W : World) (deep seen : Nat), But bc w W → TBox W bc (.bool up) (.int .i64 seen) → deep ≤ 7 → seen ≤ 60 → Calls Try.prog 105 #[.pointer (some ⟨bc, 0, none⟩), .slice h.ak ks.length h.ck, .int .i64 deep] W fun e W' => e = .returned (errV (wlkL up none ks deep seen).1) ∧ But bc W W' ∧ TBox W' bc (.bool up) (.int .i64 (wlkL up none ks deep seen).2)) :=
      fun W deep seen q1 q2 q3 q4 => kids_any up h.ak h.ck b off f ks hak hlen (fun i n x hi => (lilL_get hlk hi).1) hc (fun i n x hi => ih i n x hi (lilL_get hlk hi).2 (by have := cntL_get hi; omega)) W deep seen q1 q2 q3 q4
    clear hc hr ih hak hlk hcnt hld
    show Calls Try.prog 67 #[.pointer (some ⟨bc, 0, none⟩), .agg #[.int .i64 k, .int .i64 m, .int .i64 u, .int .i64 g, .bool o, .slice h.aa at_.length h.ca, .string d, .slice h.ak ks.length h.ck], .int .i64 deep] _ _
    by_cases hmany : 60 ≤ seen ∨ 6 < deep
    · have HN : Hid (R = (2, seen)) := by show _ = _; rw [HF.out, if_pos hmany]
      have HM : Hid (60 ≤ seen ∨ 6 < deep) := hmany
      have hB1 : But bc W (W.alloc (.cells #[.int .i64 k, .int .i64 m, .int .i64 u, .int .i64 g, .bool o, .slice h.aa at_.length h.ca, .string d, .slice h.ak ks.length h.ck] 25)) := (But.refl _ _).alloc _
      have hT1 := hT.below ((Below.refl _ _).alloc (Nat.le_refl _) (.cells #[.int .i64 k, .int .i64 m, .int .i64 u, .int .i64 g, .bool o, .slice h.aa at_.length h.ca, .string d, .slice h.ak ks.length h.ck] 25))
      have hT2 := hT1
      obtain ⟨t0, t1, t2, t3⟩ := hT2
      clear hmany
      by_cases h60 : seen = 60
      · subst h60
        go_enter Try.func67, Try.ntmps67
        go_wp2
        go_ret
        exact ⟨ret_val (errV_of (by rw [HN.out]) (by decide)).symm, hB1, by rw [HN.out]; exact hT1⟩
      · have d60 : ((seen : Int) == 60) = false := by simp; omega
        have d6 : decide (6 < (deep : Int)) = true := decide_eq_true (by rcases HM.out with e | e <;> omega)
        clear h60
        go_enter Try.func67, Try.ntmps67
        go_wp2
        go_ret
        exact ⟨ret_val (errV_of (by rw [HN.out]) (by decide)).symm, hB1, by rw [HN.out]; exact hT1⟩
    have hs60 : seen < 60 := by omega
    have hd6 : deep ≤ 6 := by omega
    have d60 : ((seen : Int) == 60) = false := by simp; omega
    have dd : decide (6 < (deep : Int)) = false := decide_eq_false (by omega)
    obtain ⟨rt, hrt⟩ : ∃ rt, ((deep : Int) == 0) = rt := ⟨_, rfl⟩
    have HRT : Hid (decide (deep = 0) = rt) := by
      show _ = _
      rw [← hrt]
      by_cases e : deep = 0
      · subst e; rfl
      · rw [decide_eq_false e]; symm; simpa using e
    have HF2 : Hid (R = if nfF up rt (.mk k m u g o at_ d ks) ≠ 0 then (nfF up rt (.mk k m u g o at_ d ks), seen + 1) else wlkL up none ks (deep + 1) (seen + 1)) := by
      show _ = _
      rw [HF.out, if_neg hmany, HRT.out]
    have HPT : Hid (nfF up rt (.mk k m u g o at_ d ks) = if bdF (.mk k m u g o at_ d ks) ≠ 0 then bdF (.mk k m u g o at_ d ks) else if misF up rt (.mk k m u g o at_ d ks) = true then 3 else 0) := nfF_parts up rt _
    clear HF hmany HR HRT
    obtain ⟨c, HC0⟩ : ∃ c, Hid (bdF (.mk k m u g o at_ d ks) = c) := ⟨_, rfl⟩
    rw [HC0.out] at HPT
    have HKK : Hid (c = 0 → 1 ≤ k ∧ k ≤ 3) := by
      intro e
      have := HC0.out
      rw [e, bdF] at this
      by_cases q : k < 1 ∨ 3 < k
      · rw [if_pos q] at this; cases this
      · omega
    -- the worlds
    have hTs := hT.set1 (.int .i64 ((seen : Int) + 1))
    have hBs : But bc W (W.setCell ⟨bc, 1, none⟩ (.int .i64 ((seen : Int) + 1))) := (But.refl _ _).setCell 1 none _
    have NB := NBox.new (W.setCell ⟨bc, 1, none⟩ (.int .i64 ((seen : Int) + 1))) k m u g o at_ d ks h
    rw [World.size_setCell] at NB
    have hB1 : Below (W.setCell ⟨bc, 1, none⟩ (.int .i64 ((seen : Int) + 1))).heap.size (W.setCell ⟨bc, 1, none⟩ (.int .i64 ((seen : Int) + 1))) ((W.setCell ⟨bc, 1, none⟩ (.int .i64 ((seen : Int) + 1))).alloc (.cells #[.int .i64 k, .int .i64 m, .int .i64 u, .int .i64 g, .bool o, .slice h.aa at_.length h.ca, .string d, .slice h.ak ks.length h.ck] 25)) := (Below.refl _ _).alloc (Nat.le_refl _) _
    have hT1 := hTs.below hB1
    have hBW := hBs.then hB1
    have hA1 := (ha.on (hW.trans hBW).mle).on (offB_le _ _)
    have hT0 := hT.below ((Below.refl _ _).alloc (Nat.le_refl _) (.cells #[.int .i64 k, .int .i64 m, .int .i64 u, .int .i64 g, .bool o, .slice h.aa at_.length h.ca, .string d, .slice h.ak ks.length h.ck] 25))
    obtain ⟨s0, s1, s2, s3⟩ := hT
    obtain ⟨t0, t1, t2, t3⟩ := hT0
    have NB2 := NB
    obtain ⟨y0, y1, y2, y3, y4, y5, y6, y7⟩ := NB2
    clear hTs hBs
    go_enter Try.func67, Try.ntmps67
    go_wp2_with fail
    refine (bounds_any k m u g o at_ d ks h _ (by omega) hlow hA1).mono ?_
    rintro e w2 ⟨rfl, c2⟩
    rw [HC0.out]
    have NB3 := NB.below c2
    have hT3 := hT1.below c2
    have hB3 := hBW.then c2
    clear y0 y1 y2 y3 y4 y5 y6 y7 s0 s1 s2 s3 t0 t1 t2 t3 NB hT1 hBW c2 hB1 hA1
    generalize hnb : W.heap.size = nb at NB3 ⊢
    have hTn : TBox w2 bc (.bool up) (.int .i64 ((seen + 1 : Nat) : Int)) := by
      have e : ((seen + 1 : Nat) : Int) = (seen : Int) + 1 := by omega
      rw [e]; exact hT3
    by_cases hc0 : c = 0
    rotate_left
    · have HN : Hid (R = (c, seen + 1)) := by show _ = _; rw [HF2.out, HPT.out, if_pos hc0, if_pos hc0]
      have HZ : Hid (c ≠ 0) := hc0
      rw [errV_of rfl hc0]
      clear hc0
      go_wp2
      go_ret
      exact ⟨ret_val (errV_of (by rw [HN.out]) HZ.out).symm, hB3, by rw [HN.out]; exact hTn⟩
    have hkk := HKK.out hc0
    subst hc0
    rw [errV_nil rfl]
    have HPT2 : Hid (nfF up rt (.mk k m u g o at_ d ks) = if misF up rt (.mk k m u g o at_ d ks) = true then 3 else 0) := by show _ = _; rw [HPT.out, if_neg (by simp)]
    obtain ⟨tm, htm⟩ : ∃ t, misF up rt (.mk k m u g o at_ d ks) = t := ⟨_, rfl⟩
    have HTM : Hid (misF up rt (.mk k m u g o at_ d ks) = tm) := htm
    rw [htm] at HPT2
    clear htm HPT HC0 HKK hT3
    have hNU := NUp.of NB3 hTn
    have hq5 : Below w2.heap.size w2 w2.drew := below_drewN (Below.refl _ _) 1
    have T5 : NUp w2.drew nb bc up (.mk k m u g o at_ d ks) h := NUp.of (NB3.below hq5) (hTn.below hq5)
    have NB5 := NB3.below hq5
    have hTn5 := hTn.below hq5
    have hB5 := hB3.then hq5
    obtain ⟨y0, y1, y2, y3, y4, y5, y6, y7, y8⟩ := hNU
    go_wp2
    go_region_held3 (fun w' => w'.cell? ⟨nb, 0, none⟩ = some (.int .i64 k) ∧ w'.cell? ⟨nb, 1, none⟩ = some (.int .i64 m) ∧ w'.cell? ⟨nb, 2, none⟩ = some (.int .i64 u) ∧ w'.cell? ⟨nb, 3, none⟩ = some (.int .i64 g) ∧ w'.cell? ⟨nb, 4, none⟩ = some (.bool o) ∧ w'.cell? ⟨nb, 5, none⟩ = some (.slice h.aa at_.length h.ca) ∧ w'.cell? ⟨nb, 6, none⟩ = some (.string d) ∧ w'.cell? ⟨nb, 7, none⟩ = some (.slice h.ak ks.length h.ck) ∧ w'.cell? ⟨bc, 0, none⟩ = some (.bool up)) (first | exact T5 | exact T6) (first | (go_at_call 104; refine (misshaped_any k m u g o at_ d ks h up rt _ hkk).mono ?_; rintro e w6 ⟨rfl, c6⟩; have T6 := NUp.of (NB5.below c6) (hTn5.below c6)))
    all_goals
      have NB6 := NB5.below c6
      have hT6 := hTn5.below c6
      have hB6 := hB5.then c6
      have hW6 : But bc w w6 := hW.trans hB6
      rw [HTM.out]
      clear y0 y1 y2 y3 y4 y5 y6 y7 y8 c6 NB5 hTn5 hB5 T5 NB3 hTn hB3 hq5
      cases tm
      · have HN : Hid (R = wlkL up none ks (deep + 1) (seen + 1)) := by show _ = _; rw [HF2.out, HPT2.out]; rfl
        clear HF2 HPT2
        obtain ⟨y0, y1, y2, y3, y4, y5, y6, y7⟩ := NB6
        go_wp2_with fail
        refine (HKA.out _ (deep + 1) (seen + 1) hW6 hT6 (by omega) (by omega)).mono ?_
        rintro e w7 ⟨rfl, c7, hT7⟩
        have hB7 := hB6.trans c7
        rw [← HN.out] at hT7 ⊢
        clear y0 y1 y2 y3 y4 y5 y6 y7 c7 hB6 hT6 hW6
        go_wp2
        go_ret
        exact ⟨rfl, hB7, hT7⟩
      · have HN : Hid (R = (3, seen + 1)) := by show _ = _; rw [HF2.out, HPT2.out]; rfl
        go_wp2
        go_ret
        exact ⟨ret_val (errV_of (by rw [HN.out]) (by decide)).symm, hB6, by rw [HN.out]; exact hT6⟩

set_option maxRecDepth 100000 in
set_option maxHeartbeats 1000000 in
theorem tcheck_any (up : Bool) {w : World} {x : Nd} {h : Hd} (hN : NdV w.cell? x h) (hlil : Lil x) (hcnt : cnt x ≤ 1000) :
    Calls Try.prog 20 #[ndV x h, .bool up] w fun e W' => e = .returned (errV (tfF up x)) ∧ Below w.heap.size w W' := by
  obtain ⟨R, HR⟩ : ∃ R, Hid (tfF up x = R) := ⟨_, rfl⟩
  rw [HR.out]
  obtain ⟨k, m, u, g, o, at_, d, ks⟩ := x
  have HF : Hid (R = if k ≠ 2 then 7 else (wlkN up (.mk k m u g o at_ d ks) 0 0).1) := by show _ = _; rw [← HR.out, tfF]
  have NB := NBox.new w k m u g o at_ d ks h
  have hB1 : Below w.heap.size w (w.alloc (.cells #[.int .i64 k, .int .i64 m, .int .i64 u, .int .i64 g, .bool o, .slice h.aa at_.length h.ca, .string d, .slice h.ak ks.length h.ck] 25)) := (Below.refl _ _).alloc (Nat.le_refl _) _
  by_cases hk : k = 2
  rotate_left
  · have bk : (k != 2) = true := bne_iff_ne.2 hk
    have HN : Hid (R = 7) := by show _ = _; rw [HF.out, if_pos hk]
    clear hk
    show Calls Try.prog 20 #[.agg #[.int .i64 k, .int .i64 m, .int .i64 u, .int .i64 g, .bool o, .slice h.aa at_.length h.ca, .string d, .slice h.ak ks.length h.ck], .bool up] _ _
    obtain ⟨y0, y1, y2, y3, y4, y5, y6, y7⟩ := NB
    go_enter Try.func20, Try.ntmps20
    go_wp2
    go_ret
    exact ⟨ret_val (errV_of HN.out (by decide)).symm, hB1⟩
  subst hk
  have HN : Hid (R = (wlkN up (.mk 2 m u g o at_ d ks) 0 0).1) := by show _ = _; rw [HF.out, if_neg (by decide)]
  clear HF HR
  have hB2 : Below w.heap.size w ((w.alloc (.cells #[.int .i64 2, .int .i64 m, .int .i64 u, .int .i64 g, .bool o, .slice h.aa at_.length h.ca, .string d, .slice h.ak ks.length h.ck] 25)).alloc (.cells #[.bool up, .int .i64 0] 111)) := hB1.alloc hB1.size _
  have hT := TBox.new (w.alloc (.cells #[.int .i64 2, .int .i64 m, .int .i64 u, .int .i64 g, .bool o, .slice h.aa at_.length h.ca, .string d, .slice h.ak ks.length h.ck] 25)) (.bool up) (.int .i64 0) 111
  rw [World.size_alloc] at hT
  have NB2 := NB.below ((Below.refl _ _).alloc (Nat.le_refl _) (.cells #[.bool up, .int .i64 0] 111))
  have HO : Hid (∀ W', But (w.heap.size + 1) ((w.alloc (.cells #[.int .i64 2, .int .i64 m, .int .i64 u, .int .i64 g, .bool o, .slice h.aa at_.length h.ca, .string d, .slice h.ak ks.length h.ck] 25)).alloc (.cells #[.bool up, .int .i64 0] 111)) W' → TBox W' (w.heap.size + 1) (.bool up) (.int .i64 0) → Calls Try.prog 67 #[.pointer (some ⟨w.heap.size + 1, 0, none⟩), ndV (.mk 2 m u g o at_ d ks) h, .int .i64 0] W' fun e W2 => e = .returned (errV (wlkN up (.mk 2 m u g o at_ d ks) 0 0).1) ∧ But (w.heap.size + 1) W' W2 ∧ TBox W2 (w.heap.size + 1) (.bool up) (.int .i64 (wlkN up (.mk 2 m u g o at_ d ks) 0 0).2)) :=
    fun W' q1 q2 => node_any up (w := ((w.alloc (.cells #[.int .i64 2, .int .i64 m, .int .i64 u, .int .i64 g, .bool o, .slice h.aa at_.length h.ca, .string d, .slice h.ak ks.length h.ck] 25)).alloc (.cells #[.bool up, .int .i64 0] 111))) (bc := w.heap.size + 1) hT.lt (hN.on (mle_off hB2 (by omega))) hlil hcnt W' 0 0 q1 q2 (by omega) (by omega)
  clear hN hlil hcnt
  show Calls Try.prog 20 #[.agg #[.int .i64 2, .int .i64 m, .int .i64 u, .int .i64 g, .bool o, .slice h.aa at_.length h.ca, .string d, .slice h.ak ks.length h.ck], .bool up] _ _
  obtain ⟨y0, y1, y2, y3, y4, y5, y6, y7⟩ := NB
  obtain ⟨z0, z1, z2, z3, z4, z5, z6, z7⟩ := NB2
  go_enter Try.func20, Try.ntmps20
  go_wp2_with fail
  refine (HO.out _ (But.refl _ _) hT).mono ?_
  rintro e w2 ⟨rfl, c2, _⟩
  have hB3 := hB2.trans (c2.below (B := w.heap.size) (by omega) (by simp; omega))
  clear y0 y1 y2 y3 y4 y5 y6 y7 z0 z1 z2 z3 z4 z5 z6 z7 c2 hB2 hT hB1
  rw [← HN.out]
  go_wp2
  go_ret
  exact ⟨rfl, hB3⟩
end Go.Proofs.Ytkkhfnkmfkdhiab
