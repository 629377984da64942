/-
  A NODE's BOX; WHAT light AND Light DO: the walks.
-/
import Derived.Test.YtlbabnffiibnpaaGreatNpX
import Derived.Deep.QuietTactic
import Derived.BigQuiet
namespace Go.Proofs.YtlbabnffiibnpaaGreat
open Go.RowKit
/-- A node's eight cells, from a block's head. -/
def NBox (w : World) (b : Nat) : Nd → Hd → Prop
  | .mk k m u g o at_ d ks, h => w.cell? ⟨b, 0, none⟩ = some (.int .i64 k) ∧ w.cell? ⟨b, 1, none⟩ = some (.int .i64 m) ∧ w.cell? ⟨b, 2, none⟩ = some (.int .i64 u) ∧ w.cell? ⟨b, 3, none⟩ = some (.int .i64 g) ∧
    w.cell? ⟨b, 4, none⟩ = some (.bool o) ∧ w.cell? ⟨b, 5, none⟩ = some (.slice h.aa at_.length h.ca) ∧ w.cell? ⟨b, 6, none⟩ = some (.string d) ∧ w.cell? ⟨b, 7, none⟩ = some (.slice h.ak ks.length h.ck)
theorem NBox.new (w : World) (k m u g : Int) (o : Bool) (at_ : List Kv) (d : ByteArray) (ks : List (ByteArray × Nd)) (h : Hd) :
    NBox (w.alloc (.cells #[.int .i64 k, .int .i64 m, .int .i64 u, .int .i64 g, .bool o, .slice h.aa at_.length h.ca, .string d, .slice h.ak ks.length h.ck] 34)) w.heap.size (.mk k m u g o at_ d ks) h :=
  ⟨World.cell?_alloc_at _ _ _ _ rfl, World.cell?_alloc_at _ _ _ _ rfl, World.cell?_alloc_at _ _ _ _ rfl, World.cell?_alloc_at _ _ _ _ rfl, World.cell?_alloc_at _ _ _ _ rfl, World.cell?_alloc_at _ _ _ _ rfl, World.cell?_alloc_at _ _ _ _ rfl, World.cell?_alloc_at _ _ _ _ rfl⟩
theorem NBox.below {w w' : World} {b : Nat} {x : Nd} {h : Hd} (hk : NBox w b x h) (hb : Below w.heap.size w w') : NBox w' b x h := by
  obtain ⟨k, m, u, g, o, at_, d, ks⟩ := x
  obtain ⟨h0, h1, h2, h3, h4, h5, h6, h7⟩ := hk
  have hl : b < w.heap.size := World.block_lt_of_cell? _ _ h0
  exact ⟨(hb.cell (p := ⟨b, 0, none⟩) hl).trans h0, (hb.cell (p := ⟨b, 1, none⟩) hl).trans h1, (hb.cell (p := ⟨b, 2, none⟩) hl).trans h2, (hb.cell (p := ⟨b, 3, none⟩) hl).trans h3, (hb.cell (p := ⟨b, 4, none⟩) hl).trans h4,
    (hb.cell (p := ⟨b, 5, none⟩) hl).trans h5, (hb.cell (p := ⟨b, 6, none⟩) hl).trans h6, (hb.cell (p := ⟨b, 7, none⟩) hl).trans h7⟩
theorem NBox.at {w : World} {b : Nat} {x : Nd} {h : Hd} (hb : NBox w b x h) : NAt w.cell? b 0 x h := by
  obtain ⟨k, m, u, g, o, at_, d, ks⟩ := x
  exact hb
theorem NAt.box {w : World} {b : Nat} {x : Nd} {h : Hd} (hb : NAt w.cell? b 0 x h) : NBox w b x h := by
  obtain ⟨k, m, u, g, o, at_, d, ks⟩ := x
  exact hb
theorem KdAt.nine {c : Mem} {b p : Nat} {n : ByteArray} {k m u g : Int} {o : Bool} {at_ : List Kv} {d : ByteArray} {ks : Kds} {h : Hd} (hk : KdAt c b p n (.mk k m u g o at_ d ks) h) : c ⟨b, p, none⟩ = some (.string n) ∧ c ⟨b, p + 1, none⟩ = some (.int .i64 k) ∧ c ⟨b, p + 2, none⟩ = some (.int .i64 m) ∧ c ⟨b, p + 3, none⟩ = some (.int .i64 u) ∧ c ⟨b, p + 4, none⟩ = some (.int .i64 g) ∧
    c ⟨b, p + 5, none⟩ = some (.bool o) ∧ c ⟨b, p + 6, none⟩ = some (.slice h.aa at_.length h.ca) ∧ c ⟨b, p + 7, none⟩ = some (.string d) ∧ c ⟨b, p + 8, none⟩ = some (.slice h.ak ks.length h.ck) := hk
set_option maxRecDepth 100000 in
set_option maxHeartbeats 1000000 in
theorem light_any {w : World} {x : Nd} {h : Hd} (hN : NdV w.cell? x h) : ∀ (W : World) (left : Int), Below w.heap.size w W → left ≤ 1000 →
    Calls Tryz.prog 22 #[ndV x h, .int .i64 left] W fun e W' => e = .returned (.int .i64 (lightF x left)) ∧ Below W.heap.size W W' := by
  induction hN with
  | @mk k m u g o at_ d ks h b off f ha hca hck hak hc hr ih =>
    intro W left hW hl
    have HF : Hid (lightF (.mk k m u g o at_ d ks) left = if left ≤ 0 ∨ lightB at_ = false ∨ 300 < d.size ∨ left < (ks.length : Int) then 0 else lightL ks (left - 1)) := by show _ = _; rw [lightF]
    have HC : Hid (∀ i n x, ks[i]? = some (n, x) → KdAt w.cell? b (off + i * 9) n x (f i)) := hc
    have HI : Hid (∀ i n x, ks[i]? = some (n, x) → ∀ (W : World) (left : Int), Below w.heap.size w W → left ≤ 1000 → Calls Tryz.prog 22 #[ndV x (f i), .int .i64 left] W fun e W' => e = .returned (.int .i64 (lightF x left)) ∧ Below W.heap.size W W') := ih
    have HAK : Hid (ks = [] ∨ h.ak = some ⟨b, off, none⟩) := hak
    clear hc hr ih hak
    show Calls Tryz.prog 22 #[.agg #[.int .i64 k, .int .i64 m, .int .i64 u, .int .i64 g, .bool o, .slice h.aa at_.length h.ca, .string d, .slice h.ak ks.length h.ck], .int .i64 left] _ _
    obtain ⟨R, HR⟩ : ∃ R, Hid (lightF (.mk k m u g o at_ d ks) left = R) := ⟨_, rfl⟩
    rw [HR.out]
    have NB := NBox.new W k m u g o at_ d ks h
    have hB1 : Below W.heap.size W (W.alloc (.cells #[.int .i64 k, .int .i64 m, .int .i64 u, .int .i64 g, .bool o, .slice h.aa at_.length h.ca, .string d, .slice h.ak ks.length h.ck] 34)) := (Below.refl _ _).alloc (Nat.le_refl _) _
    have hA1 := (ha.below hW).below hB1
    by_cases hz : left ≤ 0
    · have dz : decide (left ≤ 0) = true := decide_eq_true hz
      have HR2 : Hid (R = 0) := by show _ = _; rw [← HR.out, HF.out, if_pos (.inl hz)]
      clear NB hA1
      go_enter Tryz.func22, Tryz.ntmps22
      go_wp2
      go_ret
      exact ⟨ret_num HR2.out.symm, hB1⟩
    have dz : decide (left ≤ 0) = false := decide_eq_false hz
    obtain ⟨t, ht⟩ : ∃ t, lightB at_ = t := ⟨_, rfl⟩
    have HT : Hid (lightB at_ = t) := ht
    clear ht
    cases t
    · have HR2 : Hid (R = 0) := by show _ = _; rw [← HR.out, HF.out, if_pos (.inr (.inl HT.out))]
      go_enter Tryz.func22, Tryz.ntmps22
      go_wp2_with fail
      refine (lightAttrs_any h.aa h.ca at_ _ hA1).mono ?_
      rintro e w' ⟨rfl, rfl⟩
      rw [HT.out]
      go_wp2
      go_ret
      exact ⟨ret_num HR2.out.symm, hB1⟩
    by_cases hd : 300 < d.size
    · have dd : decide (300 < (d.size : Int)) = true := decide_eq_true (by omega)
      have HR2 : Hid (R = 0) := by show _ = _; rw [← HR.out, HF.out, if_pos (.inr (.inr (.inl hd)))]
      clear hd
      go_enter Tryz.func22, Tryz.ntmps22
      go_wp2_with fail
      refine (lightAttrs_any h.aa h.ca at_ _ hA1).mono ?_
      rintro e w' ⟨rfl, rfl⟩
      rw [HT.out]
      obtain ⟨y0, y1, y2, y3, y4, y5, y6, y7⟩ := NB
      go_wp2
      go_ret
      exact ⟨ret_num HR2.out.symm, hB1⟩
    have dd : decide (300 < (d.size : Int)) = false := decide_eq_false (by omega)
    by_cases hk : left < (ks.length : Int)
    · have dk : decide (left < (ks.length : Int)) = true := decide_eq_true hk
      have HR2 : Hid (R = 0) := by show _ = _; rw [← HR.out, HF.out, if_pos (.inr (.inr (.inr hk)))]
      clear hd
      go_enter Tryz.func22, Tryz.ntmps22
      go_wp2_with fail
      refine (lightAttrs_any h.aa h.ca at_ _ hA1).mono ?_
      rintro e w' ⟨rfl, rfl⟩
      rw [HT.out]
      obtain ⟨y0, y1, y2, y3, y4, y5, y6, y7⟩ := NB
      go_wp2
      go_ret
      exact ⟨ret_num HR2.out.symm, hB1⟩
    have dk : decide (left < (ks.length : Int)) = false := decide_eq_false hk
    have HR2 : Hid (R = lightL ks (left - 1)) := by show _ = _; rw [← HR.out, HF.out, if_neg (by rw [HT.out]; simp; omega)]
    have hks : ks.length ≤ 1000 := by omega
    clear HR HF
    go_enter Tryz.func22, Tryz.ntmps22
    go_wp2_with fail
    refine (lightAttrs_any h.aa h.ca at_ _ hA1).mono ?_
    rintro e w' ⟨rfl, rfl⟩
    rw [HT.out]
    have hW1 := hW.trans (hB1.mono hW.size)
    have NB2 := NB
    obtain ⟨y0, y1, y2, y3, y4, y5, y6, y7⟩ := NB2
    go_wp2
    clear y0 y1 y2 y3 y4 y5 y6 y7
    generalize W.alloc (.cells #[.int .i64 k, .int .i64 m, .int .i64 u, .int .i64 g, .bool o, .slice h.aa at_.length h.ca, .string d, .slice h.ak ks.length h.ck] 34) = W1 at NB hB1 hA1 hW1 ⊢
    generalize hsb : W.heap.size = sb at NB ⊢
    go_loopw [1, 5] (fun l_ i wr => ∃ (j : Nat) (lf : Int), j ≤ ks.length ∧ i = .int .i64 j ∧ l_ = .int .i64 lf ∧ lf ≤ 1000 ∧ Hid (R = lightL (ks.drop j) lf) ∧ NBox wr sb (.mk k m u g o at_ d ks) h ∧ Below W.heap.size W wr) (fun _ i _ => ks.length - (intOf i).toNat)
    case atStart => exact ⟨0, left - 1, Nat.zero_le _, rfl, by go_num, by omega, HR2.out, NB, hB1⟩
    case round =>
      obtain ⟨j, lf, hj, rfl, rfl, hlf, HJ, NB3, hB3⟩ := hrel
      have NB4 := NB3
      obtain ⟨y0, y1, y2, y3, y4, y5, y6, y7⟩ := NB4
      by_cases hp : lf ≤ 0
      · have dp : decide (0 < lf) = false := decide_eq_false (by omega)
        have HR3 : Hid (R = lf) := by show _ = _; rw [HJ.out]; exact lightL_stop hp
        clear hp
        by_cases hjl : j < ks.length
        · have hji : (j : Int) < (ks.length : Int) := by omega
          go_wp2
          go_ret
          exact ⟨ret_num HR3.out.symm, by first | exact hB3 | (rw [← hsb]; exact hB3)⟩
        · have hji : decide ((j : Int) < (ks.length : Int)) = false := decide_eq_false (by omega)
          go_wp2
          go_ret
          exact ⟨ret_num HR3.out.symm, by first | exact hB3 | (rw [← hsb]; exact hB3)⟩
      have dp : decide (0 < lf) = true := decide_eq_true (by omega)
      by_cases hjl : j < ks.length
      · have hji : (j : Int) < (ks.length : Int) := by omega
        obtain ⟨⟨n, x⟩, hx⟩ : ∃ x, ks[j]? = some x := ⟨ks[j], by simp [hjl]⟩
        have hWr : Below w.heap.size w wr := hW.trans (hB3.mono hW.size)
        have hK := (HC.out j n x hx).below hWr
        have HD : Hid (lightL (ks.drop j) lf = if 60 < n.size then 0 else lightL (ks.drop (j + 1)) (lightF x lf)) := lightL_drop hx (by omega)
        have HI2 : Hid (∀ (W : World) (left : Int), Below w.heap.size w W → left ≤ 1000 → Calls Tryz.prog 22 #[ndV x (f j), .int .i64 left] W fun e W' => e = .returned (.int .i64 (lightF x left)) ∧ Below W.heap.size W W') := HI.out j n x hx
        rcases HAK.out with hnil | hak
        · rw [hnil] at hjl; simp at hjl
        rw [hak] at y7
        clear hak
        have hlx := lightF_le x lf
        generalize hh : f j = hd' at hK HI2
        obtain ⟨lx, HLX⟩ : ∃ lx, Hid (lightF x lf = lx) := ⟨_, rfl⟩
        rw [HLX.out] at hlx HD
        obtain ⟨k', m', u', g', o', at', d', ks'⟩ := x
        obtain ⟨z0, z1, z2, z3, z4, z5, z6, z7, z8⟩ := hK.nine
        by_cases hn : 60 < n.size
        · have dn : decide (60 < (n.size : Int)) = true := decide_eq_true (by omega)
          have HR3 : Hid (R = 0) := by show _ = _; rw [HJ.out, HD.out, if_pos hn]
          clear hx hh HI2 z1 z2 z3 z4 z5 z6 z7 z8
          go_wp2
          go_ret
          exact ⟨ret_num HR3.out.symm, by first | exact hB3 | (rw [← hsb]; exact hB3)⟩
        · have dn : decide (60 < (n.size : Int)) = false := decide_eq_false (by omega)
          have HR3 : Hid (R = lightL (ks.drop (j + 1)) lx) := by show _ = _; rw [HJ.out, HD.out, if_neg hn]
          clear hx hh
          go_wp2_with fail
          refine (HI2.out _ lf hWr hlf).mono ?_
          rintro e w3 ⟨rfl, c3⟩
          rw [HLX.out]
          have NB5 := NB3.below c3
          have hB5 := hB3.trans (c3.mono hB3.size)
          clear y0 y1 y2 y3 y4 y5 y6 y7 z0 z1 z2 z3 z4 z5 z6 z7 z8 c3 NB3 hB3
          go_wp2
          go_roundw
          case rel => exact ⟨j + 1, lx, by omega, by go_num, rfl, by omega, HR3.out, NB5, hB5⟩
          case measure => simp [intOf]; omega
      · have hji : decide ((j : Int) < (ks.length : Int)) = false := decide_eq_false (by omega)
        have HR3 : Hid (R = lf) := by show _ = _; rw [HJ.out, List.drop_of_length_le (by omega), lightL]
        go_wp2
        go_ret
        exact ⟨ret_num HR3.out.symm, by first | exact hB3 | (rw [← hsb]; exact hB3)⟩
set_option maxHeartbeats 1000000 in
theorem Light_any {w : World} {x : Nd} {h : Hd} (hN : NdV w.cell? x h) : Calls Tryz.prog 11 #[ndV x h] w fun e W' => e = .returned (.bool (decide (0 < lightF x 80))) ∧ Below w.heap.size w W' := by
  have hL := light_any hN
  obtain ⟨R, HR⟩ : ∃ R, Hid (lightF x 80 = R) := ⟨_, rfl⟩
  rw [HR.out]
  obtain ⟨k, m, u, g, o, at_, d, ks⟩ := x
  have NB := NBox.new w k m u g o at_ d ks h
  have hB1 : Below w.heap.size w (w.alloc (.cells #[.int .i64 k, .int .i64 m, .int .i64 u, .int .i64 g, .bool o, .slice h.aa at_.length h.ca, .string d, .slice h.ak ks.length h.ck] 34)) := (Below.refl _ _).alloc (Nat.le_refl _) _
  have HL : Hid (∀ (W : World) (left : Int), Below w.heap.size w W → left ≤ 1000 → Calls Tryz.prog 22 #[ndV (.mk k m u g o at_ d ks) h, .int .i64 left] W fun e W' => e = .returned (.int .i64 (lightF (.mk k m u g o at_ d ks) left)) ∧ Below W.heap.size W W') := hL
  clear hL
  show Calls Tryz.prog 11 #[.agg #[.int .i64 k, .int .i64 m, .int .i64 u, .int .i64 g, .bool o, .slice h.aa at_.length h.ca, .string d, .slice h.ak ks.length h.ck]] _ _
  obtain ⟨y0, y1, y2, y3, y4, y5, y6, y7⟩ := NB
  go_enter Tryz.func11, Tryz.ntmps11
  go_wp2_with fail
  refine (HL.out _ 80 hB1 (by decide)).mono ?_
  rintro e w' ⟨rfl, c2⟩
  rw [HR.out]
  have hB2 := hB1.trans (c2.mono hB1.size)
  clear y0 y1 y2 y3 y4 y5 y6 y7 c2 hB1
  go_wp2
  go_ret
  exact ⟨rfl, hB2⟩
end Go.Proofs.YtlbabnffiibnpaaGreat
