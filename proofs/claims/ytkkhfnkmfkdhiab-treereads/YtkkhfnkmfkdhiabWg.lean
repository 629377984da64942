/-
  WHAT checker.kids, checker.node AND Check DO: the walks.
-/
import Derived.Test.YtkkhfnkmfkdhiabWf
namespace Go.Proofs.Ytkkhfnkmfkdhiab
open Go.RowKit

/-- A kid's box. -/
def KBx (w : World) (b : Nat) (n : ByteArray) : Nd → Hd → Prop
  | .mk k m u g o at_ d ks, h => w.cell? ⟨b, 0, none⟩ = some (.string n) ∧ w.cell? ⟨b, 1, none⟩ = some (.int .i64 k) ∧ w.cell? ⟨b, 2, none⟩ = some (.int .i64 m) ∧ w.cell? ⟨b, 3, none⟩ = some (.int .i64 u) ∧ w.cell? ⟨b, 4, none⟩ = some (.int .i64 g) ∧
    w.cell? ⟨b, 5, none⟩ = some (.bool o) ∧ w.cell? ⟨b, 6, none⟩ = some (.slice h.aa at_.length h.ca) ∧ w.cell? ⟨b, 7, none⟩ = some (.string d) ∧ w.cell? ⟨b, 8, none⟩ = some (.slice h.ak ks.length h.ck)
theorem KBx.new (w : World) (n : ByteArray) (k m u g : Int) (o : Bool) (at_ : List Kv) (d : ByteArray) (ks : Kds) (h : Hd) (t : TypeId) :
    KBx (w.alloc (.cells #[.string n, .int .i64 k, .int .i64 m, .int .i64 u, .int .i64 g, .bool o, .slice h.aa at_.length h.ca, .string d, .slice h.ak ks.length h.ck] t)) w.heap.size n (.mk k m u g o at_ d ks) h :=
  ⟨World.cell?_alloc_at _ _ _ _ rfl, World.cell?_alloc_at _ _ _ _ rfl, World.cell?_alloc_at _ _ _ _ rfl, World.cell?_alloc_at _ _ _ _ rfl, World.cell?_alloc_at _ _ _ _ rfl, World.cell?_alloc_at _ _ _ _ rfl, World.cell?_alloc_at _ _ _ _ rfl, World.cell?_alloc_at _ _ _ _ rfl, World.cell?_alloc_at _ _ _ _ rfl⟩

/-- What checker.node answers of a tree. -/
def NodeSays (up : Bool) (w : World) (bc : Nat) (x : Nd) (h : Hd) : Prop := ∀ (W : World) (deep seen : Nat), But bc w W → TBox W bc (.bool up) (.int .i64 seen) → deep ≤ 7 → seen ≤ 60 →
    Calls Try.prog 67 #[.pointer (some ⟨bc, 0, none⟩), ndV x h, .int .i64 deep] W fun e W' => e = .returned (errV (wlkN up x deep seen).1) ∧ But bc W W' ∧ TBox W' bc (.bool up) (.int .i64 (wlkN up x deep seen).2)

set_option maxRecDepth 100000 in
set_option maxHeartbeats 4000000 in
theorem kids_any (up : Bool) {w : World} {bc : Nat} (ak : Option Addr) (cap b off : Nat) (f : Nat → Hd) (ks : Kds) (hak : ks = [] ∨ ak = some ⟨b, off, none⟩) (hlen : ks.length ≤ 1000) (hnm : ∀ (i : Nat) (n : ByteArray) (x : Nd), ks[i]? = some (n, x) → n.size ≤ 255)
    (hc : ∀ i n x, ks[i]? = some (n, x) → KdAt (offB w.cell? bc) b (off + i * 9) n x (f i)) (hi : ∀ i n x, ks[i]? = some (n, x) → NodeSays up w bc x (f i)) (W : World) (deep seen : Nat) (hW : But bc w W) (hT : TBox W bc (.bool up) (.int .i64 seen)) (hdeep : deep ≤ 7) (hseen : seen ≤ 60) :
    Calls Try.prog 105 #[.pointer (some ⟨bc, 0, none⟩), .slice ak ks.length cap, .int .i64 deep] W fun e W' => e = .returned (errV (wlkL up none ks deep seen).1) ∧ But bc W W' ∧ TBox W' bc (.bool up) (.int .i64 (wlkL up none ks deep seen).2) := by
  obtain ⟨R, HR⟩ : ∃ R, Hid (wlkL up none ks deep seen = R) := ⟨_, rfl⟩
  rw [HR.out]
  have HC : Hid (∀ i n x, ks[i]? = some (n, x) → KdAt (offB w.cell? bc) b (off + i * 9) n x (f i)) := hc
  have HI : Hid (∀ i n x, ks[i]? = some (n, x) → NodeSays up w bc x (f i)) := hi
  have HNM : Hid (∀ (i : Nat) (n : ByteArray) (x : Nd), ks[i]? = some (n, x) → n.size ≤ 255) := hnm
  have HAK : Hid (ks = [] ∨ ak = some ⟨b, off, none⟩) := hak
  clear hc hi hnm hak
  go_enter Try.func105, Try.ntmps105
  go_wp2
  go_loopw [12] (fun i wr => ∃ (j s : Nat), j ≤ ks.length ∧ i = .int .i64 j ∧ s ≤ 60 ∧ Hid (R = wlkL up (ahead ks j) (ks.drop j) deep s) ∧ TBox wr bc (.bool up) (.int .i64 s) ∧ But bc W wr) (fun i _ => ks.length - (intOf i).toNat)
  case atStart => exact ⟨0, seen, Nat.zero_le _, rfl, hseen, HR.out.symm, hT, But.refl _ _⟩
  case round =>
    obtain ⟨j, s, hj, rfl, hs, HJ, hTr, hBr⟩ := hrel
    clear HR hT
    by_cases hjl : j < ks.length
    rotate_left
    · have hji : decide ((j : Int) < (ks.length : Int)) = false := decide_eq_false (by omega)
      have HE : Hid (R = (0, s)) := by show _ = _; rw [HJ.out, List.drop_of_length_le (by omega), wlkL]
      go_wp2
      go_ret
      exact ⟨ret_val (errV_nil (by rw [HE.out])).symm, hBr, by rw [HE.out]; exact hTr⟩
    have hji : (j : Int) < (ks.length : Int) := by omega
    obtain ⟨⟨n, x⟩, hx⟩ : ∃ x, ks[j]? = some x := ⟨ks[j], by simp [hjl]⟩
    have hWr : But bc w wr := hW.trans hBr
    have hK : KdAt wr.cell? b (off + j * 9) n x (f j) := ((HC.out j n x hx).on hWr.mle).on (offB_le _ _)
    have HRD : Hid (R = if nameB n = false then (4, s) else if upB (ahead ks j) n = false then (3, s) else if (wlkN up x deep s).1 ≠ 0 then wlkN up x deep s else wlkL up (ahead ks (j + 1)) (ks.drop (j + 1)) deep (wlkN up x deep s).2) := HJ.out.trans (wlkL_drop hx)
    have HI2 : Hid (NodeSays up w bc x (f j)) := HI.out j n x hx
    have hrg := wlkN_range up x deep s hs
    have hn60 : n.size ≤ 255 := HNM.out j n x hx
    have HX : Hid (ks[j]? = some (n, x)) := hx
    clear hx HJ
    rcases HAK.out with hnil | rfl
    · rw [hnil] at hjl; simp at hjl
    generalize f j = hd1 at hK HI2
    have HI3 : Hid (∀ (W : World), But bc w W → TBox W bc (.bool up) (.int .i64 s) → Calls Try.prog 67 #[.pointer (some ⟨bc, 0, none⟩), ndV x hd1, .int .i64 deep] W fun e W' => e = .returned (errV (wlkN up x deep s).1) ∧ But bc W W' ∧ TBox W' bc (.bool up) (.int .i64 (wlkN up x deep s).2)) := fun W q1 q2 => HI2.out W deep s q1 q2 hdeep hs
    clear HI2
    obtain ⟨RX, HRX⟩ : ∃ RX, Hid (wlkN up x deep s = RX) := ⟨_, rfl⟩
    rw [HRX.out] at HRD HI3 hrg
    obtain ⟨fx, sx⟩ := RX
    dsimp only at HRD HI3 hrg
    obtain ⟨t, ht⟩ : ∃ t, nameB n = t := ⟨_, rfl⟩
    have HT : Hid (nameB n = t) := ht
    rw [ht] at HRD
    clear ht HRX
    obtain ⟨k', m', u', g', o', at', d', ks'⟩ := x
    obtain ⟨p0, p1, p2, p3, p4, p5, p6, p7, p8⟩ := hK.nine
    clear hK
    have KB := KBx.new wr n k' m' u' g' o' at' d' ks' hd1 102
    have hB1 : Below wr.heap.size wr (wr.alloc (.cells #[.string n, .int .i64 k', .int .i64 m', .int .i64 u', .int .i64 g', .bool o', .slice hd1.aa at'.length hd1.ca, .string d', .slice hd1.ak ks'.length hd1.ck] 102)) := (Below.refl _ _).alloc (Nat.le_refl _) _
    go_wp2_with fail
    refine (name_any n _).mono ?_
    rintro e w' ⟨rfl, rfl⟩
    rw [HT.out]
    have hT1 := hTr.below hB1
    have hW1 := hWr.then hB1
    have hBW := hBr.then hB1
    have Hq : Hid (∀ i pn px, ks[i]? = some (pn, px) → (wr.alloc (.cells #[.string n, .int .i64 k', .int .i64 m', .int .i64 u', .int .i64 g', .bool o', .slice hd1.aa at'.length hd1.ca, .string d', .slice hd1.ak ks'.length hd1.ck] 102)).cell? ⟨b, off + i * 9, none⟩ = some (.string pn)) :=
      fun i pn px hp => (((HC.out i pn px hp).on hW1.mle).on (offB_le _ _)).1
    clear p0 p1 p2 p3 p4 p5 p6 p7 p8 hB1 hTr hWr hBr
    generalize wr.alloc (.cells #[.string n, .int .i64 k', .int .i64 m', .int .i64 u', .int .i64 g', .bool o', .slice hd1.aa at'.length hd1.ca, .string d', .slice hd1.ak ks'.length hd1.ck] 102) = w1 at KB hT1 hW1 hBW Hq ⊢
    generalize wr.heap.size = rb at KB ⊢
    obtain ⟨y0, y1, y2, y3, y4, y5, y6, y7, y8⟩ := KB
    cases t
    · have HN : Hid (R = (4, s)) := by show _ = _; rw [HRD.out, if_pos rfl]
      go_wp2
      go_ret
      exact ⟨ret_val (errV_of (by rw [HN.out]) (by decide)).symm, hBW, by rw [HN.out]; exact hT1⟩
    have HRD2 : Hid (R = if upB (ahead ks j) n = false then (3, s) else if fx ≠ 0 then (fx, sx) else wlkL up (ahead ks (j + 1)) (ks.drop (j + 1)) deep sx) := by show _ = _; rw [HRD.out, if_neg (by simp)]
    clear HRD HT
    by_cases hj0 : j = 0
    · subst hj0
      have HR3 : Hid (R = if fx ≠ 0 then (fx, sx) else wlkL up (ahead ks (0 + 1)) (ks.drop (0 + 1)) deep sx) := by show _ = _; rw [HRD2.out, if_neg (by simp [ahead, upB])]
      clear HRD2 Hq
      go_wp2
      go_quiet (fail)
      have hT5 : TBox (w1.drewN nq) bc (.bool up) (.int .i64 s) := hT1
      have hW5 : But bc w (w1.drewN nq) := hW1.drewN nq
      have hB5 : But bc W (w1.drewN nq) := hBW.drewN nq
      change (w1.drewN nq).cell? _ = _ at y1
      change (w1.drewN nq).cell? _ = _ at y2
      change (w1.drewN nq).cell? _ = _ at y3
      change (w1.drewN nq).cell? _ = _ at y4
      change (w1.drewN nq).cell? _ = _ at y5
      change (w1.drewN nq).cell? _ = _ at y6
      change (w1.drewN nq).cell? _ = _ at y7
      change (w1.drewN nq).cell? _ = _ at y8
      clear hT1 hW1 hBW y0
      generalize w1.drewN nq = w5 at hT5 hW5 hB5 y1 y2 y3 y4 y5 y6 y7 y8 ⊢
      go_wp2_with fail
      refine (HI3.out _ hW5 hT5).mono ?_
      rintro e w6 ⟨rfl, c6, hT6⟩
      have hB6 := hB5.trans c6
      clear y1 y2 y3 y4 y5 y6 y7 y8 c6 hT5 hW5 hB5
      by_cases e : fx = 0
      · rw [errV_nil e]
        have HN : Hid (R = wlkL up (ahead ks (0 + 1)) (ks.drop (0 + 1)) deep sx) := by show _ = _; rw [HR3.out, if_neg (by simp [e])]
        clear e HR3
        go_wp2
        go_roundw
        case rel => exact ⟨0 + 1, sx, by omega, by go_num, hrg.2, HN.out, hT6, hB6⟩
        case measure => simp [intOf]; omega
      · rw [errV_of rfl e]
        have HN : Hid (R = (fx, sx)) := by show _ = _; rw [HR3.out, if_pos e]
        have HZ : Hid (fx ≠ 0) := e
        clear e HR3
        go_wp2
        go_ret
        exact ⟨ret_val (errV_of (by rw [HN.out]) HZ.out).symm, hB6, by rw [HN.out]; exact hT6⟩
    · obtain ⟨i, hi⟩ : ∃ i, j = i + 1 := ⟨j - 1, by omega⟩
      obtain ⟨⟨pn, px⟩, hp⟩ : ∃ p, ks[i]? = some p := ⟨ks[i]'(by omega), List.getElem?_eq_getElem _⟩
      have q0 := Hq.out i pn px hp
      have HA : Hid (ahead ks j = some pn) := by show _ = _; rw [hi]; simp [ahead, hp]
      rw [HA.out] at HRD2
      have d0 : decide (0 < j) = true := decide_eq_true (by omega)
      have dw : IntKind.i64.wrap ((j : Int) - 1) = (i : Int) := (wrap_small (by omega) (by omega)).trans (by omega)
      have dj : (j : Int) - 1 = (i : Int) := by omega
      have dl : (i : Int) < (ks.length : Int) := by omega
      obtain ⟨t, ht⟩ : ∃ t, ltB pn n = t := ⟨_, rfl⟩
      have hle : (Op.bytesLess n.toList pn.toList || n.toList == pn.toList) = !t := by rw [leq_eq, ht]
      have HU : Hid (upB (some pn) n = t) := ht
      rw [HU.out] at HRD2
      have hip : 0 < j := by omega
      clear hi hp ht HA HU hj0 Hq
      cases t
      · have HN : Hid (R = (3, s)) := by show _ = _; rw [HRD2.out, if_pos rfl]
        go_wp2
        go_quiet (fail)
        go_wp2
        go_ret
        exact ⟨ret_val (errV_of (by rw [HN.out]) (by decide)).symm, hBW.drewN _, by rw [HN.out]; exact hT1⟩
      have HR3 : Hid (R = if fx ≠ 0 then (fx, sx) else wlkL up (ahead ks (j + 1)) (ks.drop (j + 1)) deep sx) := by show _ = _; rw [HRD2.out, if_neg (by simp)]
      clear HRD2
      go_wp2
      go_quiet (fail)
      clear q0
      have hT5 : TBox (w1.drewN nq) bc (.bool up) (.int .i64 s) := hT1
      have hW5 : But bc w (w1.drewN nq) := hW1.drewN nq
      have hB5 : But bc W (w1.drewN nq) := hBW.drewN nq
      change (w1.drewN nq).cell? _ = _ at y1
      change (w1.drewN nq).cell? _ = _ at y2
      change (w1.drewN nq).cell? _ = _ at y3
      change (w1.drewN nq).cell? _ = _ at y4
      change (w1.drewN nq).cell? _ = _ at y5
      change (w1.drewN nq).cell? _ = _ at y6
      change (w1.drewN nq).cell? _ = _ at y7
      change (w1.drewN nq).cell? _ = _ at y8
      clear hT1 hW1 hBW y0
      generalize w1.drewN nq = w5 at hT5 hW5 hB5 y1 y2 y3 y4 y5 y6 y7 y8 ⊢
      go_wp2_with fail
      refine (HI3.out _ hW5 hT5).mono ?_
      rintro e w6 ⟨rfl, c6, hT6⟩
      have hB6 := hB5.trans c6
      clear y1 y2 y3 y4 y5 y6 y7 y8 c6 hT5 hW5 hB5
      by_cases e : fx = 0
      · rw [errV_nil e]
        have HN : Hid (R = wlkL up (ahead ks (j + 1)) (ks.drop (j + 1)) deep sx) := by show _ = _; rw [HR3.out, if_neg (by simp [e])]
        clear e HR3
        go_wp2
        go_roundw
        case rel => exact ⟨j + 1, sx, by omega, by go_num, hrg.2, HN.out, hT6, hB6⟩
        case measure => simp [intOf]; omega
      · rw [errV_of rfl e]
        have HN : Hid (R = (fx, sx)) := by show _ = _; rw [HR3.out, if_pos e]
        have HZ : Hid (fx ≠ 0) := e
        clear e HR3
        go_wp2
        go_ret
        exact ⟨ret_val (errV_of (by rw [HN.out]) HZ.out).symm, hB6, by rw [HN.out]; exact hT6⟩
end Go.Proofs.Ytkkhfnkmfkdhiab
