/-
  WHAT SameNode DOES of two trees that are the same: the walk.
-/
import Derived.Test.YtlbabnffiibnpaaGreatWaY
import Derived.Deep.RegionHeld3
namespace Go.Proofs.YtlbabnffiibnpaaGreat
open Go.RowKit
mutual
/-- No list in it is longer than that. -/
def Lim : Nd → Prop
  | .mk _ _ _ _ _ at_ _ ks => at_.length ≤ 1000 ∧ ks.length ≤ 1000 ∧ LimL ks
def LimL : List (ByteArray × Nd) → Prop
  | [] => True
  | (_, x) :: l => Lim x ∧ LimL l
end
theorem limL_get : ∀ {ks : List (ByteArray × Nd)} {i : Nat} {n : ByteArray} {x : Nd}, LimL ks → ks[i]? = some (n, x) → Lim x
  | [], _, _, _, _, h => by simp at h
  | (m, y) :: l, 0, n, x, hl, h => by simp at h; rw [LimL] at hl; rw [← h.2]; exact hl.1
  | (m, y) :: l, i + 1, n, x, hl, h => by rw [LimL] at hl; exact limL_get hl.2 (by simpa using h)
mutual
theorem lim_of : ∀ (x : Nd), cnt x ≤ 1000 → Lil x → Lim x
  | .mk _ _ _ _ _ at_ d ks, hc, hl => by
    rw [cnt] at hc
    rw [Lil] at hl
    rw [Lim]
    have := hl.1.1
    have := cntL_len ks
    exact ⟨by omega, by omega, limL_of ks (by omega) hl.2.2⟩
theorem limL_of : ∀ (l : Kds), cntL l ≤ 1000 → LilL l → LimL l
  | [], _, _ => by rw [LimL]; trivial
  | (n, x) :: l, hc, hl => by
    rw [cntL] at hc
    rw [LilL] at hl
    rw [LimL]
    exact ⟨lim_of x (by omega) hl.2.1, limL_of l (by omega) hl.2.2⟩
end
/-- The cells that two kids of one place are read from. -/
def TwoK (w : World) (s b off b' off' j c : Nat) (h h' h1 h2 : Hd) (k' m' u' g' : Int) (o' : Bool) (at' : List Kv) (d' : ByteArray) (ks' : List (ByteArray × Nd)) : Prop :=
  w.cell? ⟨s, 7, none⟩ = some (Value.slice (some ⟨b, off, none⟩) c h.ck) ∧ w.cell? ⟨s + 1, 7, none⟩ = some (Value.slice (some ⟨b', off', none⟩) c h'.ck) ∧ w.cell? ⟨b, off + j * 9 + 1, none⟩ = some (Value.int .i64 k') ∧ w.cell? ⟨b, off + j * 9 + 2, none⟩ = some (Value.int .i64 m') ∧ w.cell? ⟨b, off + j * 9 + 3, none⟩ = some (Value.int .i64 u') ∧ w.cell? ⟨b, off + j * 9 + 4, none⟩ = some (Value.int .i64 g') ∧ w.cell? ⟨b, off + j * 9 + 5, none⟩ = some (Value.bool o') ∧ w.cell? ⟨b, off + j * 9 + 6, none⟩ = some (Value.slice h1.aa at'.length h1.ca) ∧ w.cell? ⟨b, off + j * 9 + 7, none⟩ = some (Value.string d') ∧ w.cell? ⟨b, off + j * 9 + 8, none⟩ = some (Value.slice h1.ak ks'.length h1.ck) ∧ w.cell? ⟨b', off' + j * 9 + 1, none⟩ = some (Value.int .i64 k') ∧ w.cell? ⟨b', off' + j * 9 + 2, none⟩ = some (Value.int .i64 m') ∧ w.cell? ⟨b', off' + j * 9 + 3, none⟩ = some (Value.int .i64 u') ∧ w.cell? ⟨b', off' + j * 9 + 4, none⟩ = some (Value.int .i64 g') ∧ w.cell? ⟨b', off' + j * 9 + 5, none⟩ = some (Value.bool o') ∧ w.cell? ⟨b', off' + j * 9 + 6, none⟩ = some (Value.slice h2.aa at'.length h2.ca) ∧ w.cell? ⟨b', off' + j * 9 + 7, none⟩ = some (Value.string d') ∧ w.cell? ⟨b', off' + j * 9 + 8, none⟩ = some (Value.slice h2.ak ks'.length h2.ck)
theorem TwoK.below {w w' : World} {s b off b' off' j c : Nat} {h h' h1 h2 : Hd} {k' m' u' g' : Int} {o' : Bool} {at' : List Kv} {d' : ByteArray} {ks' : List (ByteArray × Nd)} (hk : TwoK w s b off b' off' j c h h' h1 h2 k' m' u' g' o' at' d' ks') (hb : Below w.heap.size w w') : TwoK w' s b off b' off' j c h h' h1 h2 k' m' u' g' o' at' d' ks' := by
  obtain ⟨e0, e1, e2, e3, e4, e5, e6, e7, e8, e9, e10, e11, e12, e13, e14, e15, e16, e17⟩ := hk
  have ls : s < w.heap.size := World.block_lt_of_cell? _ _ e0
  have ls2 : s + 1 < w.heap.size := World.block_lt_of_cell? _ _ e1
  have lb : b < w.heap.size := World.block_lt_of_cell? _ _ e2
  have lb2 : b' < w.heap.size := World.block_lt_of_cell? _ _ e10
  exact ⟨(hb.cell (p := ⟨s, 7, none⟩) ls).trans e0, (hb.cell (p := ⟨s + 1, 7, none⟩) ls2).trans e1, (hb.cell (p := ⟨b, off + j * 9 + 1, none⟩) lb).trans e2, (hb.cell (p := ⟨b, off + j * 9 + 2, none⟩) lb).trans e3, (hb.cell (p := ⟨b, off + j * 9 + 3, none⟩) lb).trans e4, (hb.cell (p := ⟨b, off + j * 9 + 4, none⟩) lb).trans e5, (hb.cell (p := ⟨b, off + j * 9 + 5, none⟩) lb).trans e6, (hb.cell (p := ⟨b, off + j * 9 + 6, none⟩) lb).trans e7, (hb.cell (p := ⟨b, off + j * 9 + 7, none⟩) lb).trans e8, (hb.cell (p := ⟨b, off + j * 9 + 8, none⟩) lb).trans e9, (hb.cell (p := ⟨b', off' + j * 9 + 1, none⟩) lb2).trans e10, (hb.cell (p := ⟨b', off' + j * 9 + 2, none⟩) lb2).trans e11, (hb.cell (p := ⟨b', off' + j * 9 + 3, none⟩) lb2).trans e12, (hb.cell (p := ⟨b', off' + j * 9 + 4, none⟩) lb2).trans e13, (hb.cell (p := ⟨b', off' + j * 9 + 5, none⟩) lb2).trans e14, (hb.cell (p := ⟨b', off' + j * 9 + 6, none⟩) lb2).trans e15, (hb.cell (p := ⟨b', off' + j * 9 + 7, none⟩) lb2).trans e16, (hb.cell (p := ⟨b', off' + j * 9 + 8, none⟩) lb2).trans e17⟩
set_option maxRecDepth 100000 in
set_option maxHeartbeats 2000000 in
theorem sameNode_yes {w : World} {x : Nd} {h : Hd} (hN : NdV w.cell? x h) : ∀ (h' : Hd) (W : World), Lim x → NdV w.cell? x h' → Below w.heap.size w W →
    Calls Tryz.prog 9 #[ndV x h, ndV x h'] W fun e W' => e = .returned (.bool true) ∧ Below W.heap.size W W' := by
  induction hN with
  | @mk k m u g o at_ d ks h b off f ha hca hck hak hc hr ih =>
    intro h' W hlim hN' hW
    rw [Lim] at hlim
    obtain ⟨hla, hlk, hlr⟩ := hlim
    obtain ⟨b', off', f', ha', hca', hck', hak', hc', hr'⟩ := hN'
    have HC : Hid (∀ i n x, ks[i]? = some (n, x) → KdAt w.cell? b (off + i * 9) n x (f i) ∧ KdAt w.cell? b' (off' + i * 9) n x (f' i)) := fun i n x hi => ⟨hc i n x hi, hc' i n x hi⟩
    have HI : Hid (∀ i n x, ks[i]? = some (n, x) → ∀ (W : World), Below w.heap.size w W → Calls Tryz.prog 9 #[ndV x (f i), ndV x (f' i)] W fun e W' => e = .returned (.bool true) ∧ Below W.heap.size W W') := fun i n x hi W hW => ih i n x hi (f' i) W (limL_get hlr hi) (hr' i n x hi) hW
    have HAK : Hid (ks = [] ∨ (h.ak = some ⟨b, off, none⟩ ∧ h'.ak = some ⟨b', off', none⟩)) := by
      rcases hak with e | e
      · exact .inl e
      · rcases hak' with e' | e'
        · exact .inl e'
        · exact .inr ⟨e, e'⟩
    clear hc hr ih hak hc' hr' hak' hlr hca hck hca' hck'
    show Calls Tryz.prog 9 #[.agg #[.int .i64 k, .int .i64 m, .int .i64 u, .int .i64 g, .bool o, .slice h.aa at_.length h.ca, .string d, .slice h.ak ks.length h.ck], .agg #[.int .i64 k, .int .i64 m, .int .i64 u, .int .i64 g, .bool o, .slice h'.aa at_.length h'.ca, .string d, .slice h'.ak ks.length h'.ck]] _ _
    have NA0 := NBox.new W k m u g o at_ d ks h
    have hB0 : Below W.heap.size W (W.alloc (.cells #[.int .i64 k, .int .i64 m, .int .i64 u, .int .i64 g, .bool o, .slice h.aa at_.length h.ca, .string d, .slice h.ak ks.length h.ck] 34)) := (Below.refl _ _).alloc (Nat.le_refl _) _
    have NB := NBox.new (W.alloc (.cells #[.int .i64 k, .int .i64 m, .int .i64 u, .int .i64 g, .bool o, .slice h.aa at_.length h.ca, .string d, .slice h.ak ks.length h.ck] 34)) k m u g o at_ d ks h'
    have hB1 : Below W.heap.size W ((W.alloc (.cells #[.int .i64 k, .int .i64 m, .int .i64 u, .int .i64 g, .bool o, .slice h.aa at_.length h.ca, .string d, .slice h.ak ks.length h.ck] 34)).alloc (.cells #[.int .i64 k, .int .i64 m, .int .i64 u, .int .i64 g, .bool o, .slice h'.aa at_.length h'.ca, .string d, .slice h'.ak ks.length h'.ck] 34)) := hB0.alloc hB0.size _
    have NA := NA0.below ((Below.refl _ _).alloc (Nat.le_refl _) (.cells #[.int .i64 k, .int .i64 m, .int .i64 u, .int .i64 g, .bool o, .slice h'.aa at_.length h'.ca, .string d, .slice h'.ak ks.length h'.ck] 34))
    rw [World.size_alloc] at NB
    clear NA0 hB0
    go_enter Tryz.func9, Tryz.ntmps9
    have NA2 := NA
    have NB2 := NB
    obtain ⟨y0, y1, y2, y3, y4, y5, y6, y7⟩ := NA2
    obtain ⟨z0, z1, z2, z3, z4, z5, z6, z7⟩ := NB2
    go_wp2
    clear y0 y1 y2 y3 y4 y5 y6 y7 z0 z1 z2 z3 z4 z5 z6 z7
    generalize (W.alloc (.cells #[.int .i64 k, .int .i64 m, .int .i64 u, .int .i64 g, .bool o, .slice h.aa at_.length h.ca, .string d, .slice h.ak ks.length h.ck] 34)).alloc (.cells #[.int .i64 k, .int .i64 m, .int .i64 u, .int .i64 g, .bool o, .slice h'.aa at_.length h'.ca, .string d, .slice h'.ak ks.length h'.ck] 34) = W1 at NA NB hB1 ⊢
    go_loopw [5] (fun i wr => ∃ j : Nat, j ≤ ks.length ∧ i = .int .i64 j ∧ NBox wr W.heap.size (.mk k m u g o at_ d ks) h ∧ NBox wr (W.heap.size + 1) (.mk k m u g o at_ d ks) h' ∧ Below W.heap.size W wr) (fun i _ => ks.length - (intOf i).toNat)
    case atStart => exact ⟨0, Nat.zero_le _, rfl, NA, NB, hB1⟩
    case round =>
      obtain ⟨j, hj, rfl, NA3, NB3, hB3⟩ := hrel
      clear NA NB hB1
      have NA4 := NA3
      have NB4 := NB3
      obtain ⟨y0, y1, y2, y3, y4, y5, y6, y7⟩ := NA4
      obtain ⟨z0, z1, z2, z3, z4, z5, z6, z7⟩ := NB4
      have hWr : Below w.heap.size w wr := hW.trans (hB3.mono hW.size)
      by_cases hjl : j < ks.length
      · have hji : (j : Int) < (ks.length : Int) := by omega
        obtain ⟨⟨n, x⟩, hx⟩ : ∃ x, ks[j]? = some x := ⟨ks[j], by simp [hjl]⟩
        obtain ⟨hK, hK'⟩ := HC.out j n x hx
        have hK := hK.below hWr
        have hK' := hK'.below hWr
        have HI2 : Hid (∀ (W : World), Below w.heap.size w W → Calls Tryz.prog 9 #[ndV x (f j), ndV x (f' j)] W fun e W' => e = .returned (.bool true) ∧ Below W.heap.size W W') := HI.out j n x hx
        rcases HAK.out with hnil | ⟨e1, e2⟩
        · rw [hnil] at hjl; simp at hjl
        rw [e1] at y7
        rw [e2] at z7
        clear e1 e2
        generalize f j = hd1 at hK HI2
        generalize f' j = hd2 at hK' HI2
        obtain ⟨k', m', u', g', o', at', d', ks'⟩ := x
        obtain ⟨p0, p1, p2, p3, p4, p5, p6, p7, p8⟩ := hK.nine
        obtain ⟨q0, q1, q2, q3, q4, q5, q6, q7, q8⟩ := hK'.nine
        have bn : (n.toList != n.toList) = false := by simp
        clear hx
        go_wp2
        go_quiet (fail)
        have hq : Below wr.heap.size wr (wr.drewN nq) := below_drewN (Below.refl _ _) _
        have hBq := below_drewN hB3 nq
        have NAq := NA3.below hq
        have NBq := NB3.below hq
        have hWq : Below w.heap.size w (wr.drewN nq) := below_drewN hWr nq
        clear hq NA3 NB3 hB3 hWr y0 y1 y2 y3 y4 y5 y6 z0 z1 z2 z3 z4 z5 z6
        change (wr.drewN nq).cell? _ = _ at y7
        change (wr.drewN nq).cell? _ = _ at z7
        change (wr.drewN nq).cell? _ = _ at p0
        change (wr.drewN nq).cell? _ = _ at p1
        change (wr.drewN nq).cell? _ = _ at p2
        change (wr.drewN nq).cell? _ = _ at p3
        change (wr.drewN nq).cell? _ = _ at p4
        change (wr.drewN nq).cell? _ = _ at p5
        change (wr.drewN nq).cell? _ = _ at p6
        change (wr.drewN nq).cell? _ = _ at p7
        change (wr.drewN nq).cell? _ = _ at p8
        change (wr.drewN nq).cell? _ = _ at q0
        change (wr.drewN nq).cell? _ = _ at q1
        change (wr.drewN nq).cell? _ = _ at q2
        change (wr.drewN nq).cell? _ = _ at q3
        change (wr.drewN nq).cell? _ = _ at q4
        change (wr.drewN nq).cell? _ = _ at q5
        change (wr.drewN nq).cell? _ = _ at q6
        change (wr.drewN nq).cell? _ = _ at q7
        change (wr.drewN nq).cell? _ = _ at q8
        generalize wr.drewN nq = w5 at hBq NAq NBq hWq y7 z7 p0 p1 p2 p3 p4 p5 p6 p7 p8 q0 q1 q2 q3 q4 q5 q6 q7 q8 ⊢
        have hW5 : Below w.heap.size w w5.drew := below_drewN hWq 1
        have hB5 : Below W.heap.size W w5.drew := below_drewN hBq 1
        have hq5 : Below w5.heap.size w5 w5.drew := below_drewN (Below.refl _ _) 1
        have NA5 := NAq.below hq5
        have NB5 := NBq.below hq5
        have T5 : TwoK w5.drew W.heap.size b off b' off' j ks.length h h' hd1 hd2 k' m' u' g' o' at' d' ks' := TwoK.below (w := w5) ⟨y7, z7, p1, p2, p3, p4, p5, p6, p7, p8, q1, q2, q3, q4, q5, q6, q7, q8⟩ hq5
        clear hWq hBq NAq NBq hq5
        go_wp2
        go_region_held3 (fun w' => w'.cell? ⟨W.heap.size, 7, none⟩ = some (Value.slice (some ⟨b, off, none⟩) ks.length h.ck) ∧ w'.cell? ⟨W.heap.size + 1, 7, none⟩ = some (Value.slice (some ⟨b', off', none⟩) ks.length h'.ck) ∧ w'.cell? ⟨b, off + j * 9 + 1, none⟩ = some (Value.int .i64 k') ∧ w'.cell? ⟨b, off + j * 9 + 2, none⟩ = some (Value.int .i64 m') ∧ w'.cell? ⟨b, off + j * 9 + 3, none⟩ = some (Value.int .i64 u') ∧ w'.cell? ⟨b, off + j * 9 + 4, none⟩ = some (Value.int .i64 g') ∧ w'.cell? ⟨b, off + j * 9 + 5, none⟩ = some (Value.bool o') ∧ w'.cell? ⟨b, off + j * 9 + 6, none⟩ = some (Value.slice hd1.aa at'.length hd1.ca) ∧ w'.cell? ⟨b, off + j * 9 + 7, none⟩ = some (Value.string d') ∧ w'.cell? ⟨b, off + j * 9 + 8, none⟩ = some (Value.slice hd1.ak ks'.length hd1.ck) ∧ w'.cell? ⟨b', off' + j * 9 + 1, none⟩ = some (Value.int .i64 k') ∧ w'.cell? ⟨b', off' + j * 9 + 2, none⟩ = some (Value.int .i64 m') ∧ w'.cell? ⟨b', off' + j * 9 + 3, none⟩ = some (Value.int .i64 u') ∧ w'.cell? ⟨b', off' + j * 9 + 4, none⟩ = some (Value.int .i64 g') ∧ w'.cell? ⟨b', off' + j * 9 + 5, none⟩ = some (Value.bool o') ∧ w'.cell? ⟨b', off' + j * 9 + 6, none⟩ = some (Value.slice hd2.aa at'.length hd2.ca) ∧ w'.cell? ⟨b', off' + j * 9 + 7, none⟩ = some (Value.string d') ∧ w'.cell? ⟨b', off' + j * 9 + 8, none⟩ = some (Value.slice hd2.ak ks'.length hd2.ck)) (first | exact T5 | exact T6) (first | (go_at_call 9; refine (HI2.out _ hW5).mono ?_; rintro e w6 ⟨rfl, c6⟩; have T6 := T5.below c6))
        all_goals
          have NA6 := NA5.below c6
          have NB6 := NB5.below c6
          have hB6 := hB5.trans (c6.mono hB5.size)
          clear NA5 NB5 hB5 hW5 c6 y7 z7 p0 p1 p2 p3 p4 p5 p6 p7 p8 q0 q1 q2 q3 q4 q5 q6 q7 q8
          go_wp2
          go_roundw
          case rel => exact ⟨j + 1, by omega, by go_num, NA6, NB6, hB6⟩
          case measure => simp [intOf]; omega
      · have hji : decide ((j : Int) < (ks.length : Int)) = false := decide_eq_false (by omega)
        go_wp2_with fail
        refine (sameAttrs_yes h.aa h'.aa h.ca h'.ca at_.length at_ _ rfl hla (ha.below hWr) (ha'.below hWr)).mono ?_
        rintro e w3 ⟨rfl, c3⟩
        go_wp2
        go_ret
        exact ⟨rfl, hB3.trans (c3.mono hB3.size)⟩
end Go.Proofs.YtlbabnffiibnpaaGreat
