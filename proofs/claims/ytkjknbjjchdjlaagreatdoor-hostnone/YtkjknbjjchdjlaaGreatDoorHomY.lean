/-
  A BARE ROOT: Check, Bytes: the walks.
-/
import Derived.Test.YtkjknbjjchdjlaaGreatDoorVeX
import Derived.Test.YtkjknbjjchdjlaaGreatDoorPaX
namespace Go.Proofs.YtkjknbjjchdjlaaGreatDoor
open Go.RowKit
/-- A bare root as a value. -/
abbrev rtV (ux gx : Int) (h : Hd) : Value := .agg #[.int .i64 2, .int .i64 493, .int .i64 ux, .int .i64 gx, .bool false, .slice h.aa 0 h.ca, .string ⟨#[]⟩, .slice h.ak 0 h.ck]
abbrev rtO (ux gx : Int) (h : Hd) : Obj := .cells #[.int .i64 2, .int .i64 493, .int .i64 ux, .int .i64 gx, .bool false, .slice h.aa 0 h.ca, .string ⟨#[]⟩, .slice h.ak 0 h.ck] 102
set_option maxRecDepth 100000 in
set_option maxHeartbeats 1000000 in
theorem acheck_nil (a : Option Addr) (cap : Nat) (w : World) : Calls Tryz.prog 116 #[.slice a 0 cap] w fun e w' => e = .returned .nilIface ∧ w = w' := by
  go_enter Tryz.func116, Tryz.ntmps116
  go_wp2
  go_loopw [11] (fun i wr => i = .int .i64 0 ∧ wr = w) (fun _ _ => 0)
  case atStart => exact ⟨rfl, rfl⟩
  case round =>
    obtain ⟨rfl, rfl⟩ := hrel
    go_wp2
    go_ret
    exact ⟨rfl, rfl⟩
set_option maxRecDepth 100000 in
set_option maxHeartbeats 1000000 in
theorem kids_nil (a : Option Addr) (cap : Nat) (c : Value) (n : Int) (w : World) : Calls Tryz.prog 106 #[c, .slice a 0 cap, .int .i64 n] w fun e w' => e = .returned .nilIface ∧ w = w' := by
  go_enter Tryz.func106, Tryz.ntmps106
  go_wp2
  go_loopw [12] (fun i wr => i = .int .i64 0 ∧ wr = w) (fun _ _ => 0)
  case atStart => exact ⟨rfl, rfl⟩
  case round =>
    obtain ⟨rfl, rfl⟩ := hrel
    go_wp2
    go_ret
    exact ⟨rfl, rfl⟩
theorem beyond_no {x most : Int} (h0 : 0 ≤ x) (h1 : x ≤ most) (w : World) : Calls Tryz.prog 115 #[.int .i64 x, .int .i64 most] w fun e w' => e = .returned (.bool false) ∧ w = w' := by
  have C := beyond_any x most w
  rw [decide_eq_false (show ¬ x < 0 by omega), decide_eq_false (show ¬ most < x by omega)] at C
  exact C
set_option maxRecDepth 100000 in
set_option maxHeartbeats 1000000 in
theorem bounds_root {ux gx : Int} (hu : 0 ≤ ux ∧ ux ≤ 65535) (hg : 0 ≤ gx ∧ gx ≤ 65535) (h : Hd) (W : World) : Calls Tryz.prog 104 #[rtV ux gx h] W fun e W' => e = .returned .nilIface ∧ Below W.heap.size W W' := by
  have hB1 : Below W.heap.size W (W.alloc (rtO ux gx h)) := (Below.refl _ _).alloc (Nat.le_refl _) _
  have C1 := beyond_no (x := 493) (most := 4095) (by decide) (by decide)
  have C2 := beyond_no hu.1 hu.2
  have C3 := beyond_no hg.1 hg.2
  go_enter Tryz.func104, Tryz.ntmps104
  go_wp2_with fail
  refine Calls.mono (C1 _) ?_
  rintro e w' ⟨rfl, rfl⟩
  go_wp2_with fail
  refine Calls.mono (C2 _) ?_
  rintro e w' ⟨rfl, rfl⟩
  go_wp2_with fail
  refine Calls.mono (C3 _) ?_
  rintro e w' ⟨rfl, rfl⟩
  go_wp2_with fail
  refine Calls.mono (acheck_nil _ _ _) ?_
  rintro e w' ⟨rfl, rfl⟩
  go_wp2
  go_ret
  exact ⟨rfl, hB1⟩
set_option maxRecDepth 100000 in
set_option maxHeartbeats 1000000 in
theorem missh_root (ux gx : Int) (h : Hd) (W : World) : Calls Tryz.prog 105 #[rtV ux gx h, .bool true, .bool true] W fun e W' => e = .returned (.bool false) ∧ Below W.heap.size W W' := by
  have hB1 : Below W.heap.size W (W.alloc (rtO ux gx h)) := (Below.refl _ _).alloc (Nat.le_refl _) _
  go_enter Tryz.func105, Tryz.ntmps105
  go_wp2
  go_ret
  exact ⟨rfl, hB1⟩
/-- A root's box and a checker's. -/
def RtC (w : World) (nb cb : Nat) (ux gx : Int) (h : Hd) : Prop := w.cell? ⟨nb, 0, none⟩ = some (.int .i64 2) ∧ w.cell? ⟨nb, 1, none⟩ = some (.int .i64 493) ∧ w.cell? ⟨nb, 2, none⟩ = some (.int .i64 ux) ∧ w.cell? ⟨nb, 3, none⟩ = some (.int .i64 gx) ∧ w.cell? ⟨nb, 4, none⟩ = some (.bool false) ∧ w.cell? ⟨nb, 5, none⟩ = some (.slice h.aa 0 h.ca) ∧ w.cell? ⟨nb, 6, none⟩ = some (.string ⟨#[]⟩) ∧ w.cell? ⟨nb, 7, none⟩ = some (.slice h.ak 0 h.ck) ∧ w.cell? ⟨cb, 0, none⟩ = some (.bool true)
theorem RtC.below {w w' : World} {nb cb : Nat} {ux gx : Int} {h : Hd} (q : RtC w nb cb ux gx h) (hb : Below w.heap.size w w') : RtC w' nb cb ux gx h :=
  ⟨blwV hb q.1, blwV hb q.2.1, blwV hb q.2.2.1, blwV hb q.2.2.2.1, blwV hb q.2.2.2.2.1, blwV hb q.2.2.2.2.2.1, blwV hb q.2.2.2.2.2.2.1, blwV hb q.2.2.2.2.2.2.2.1, blwV hb q.2.2.2.2.2.2.2.2⟩
set_option maxRecDepth 100000 in
set_option maxHeartbeats 2000000 in
theorem tnode_root {ux gx : Int} (hu : 0 ≤ ux ∧ ux ≤ 65535) (hg : 0 ≤ gx ∧ gx ≤ 65535) (h : Hd) {W : World} {cb : Nat} (c0 : W.cell? ⟨cb, 0, none⟩ = some (.bool true)) (c1 : W.cell? ⟨cb, 1, none⟩ = some (.int .i64 0)) (cf : W.frozen? ⟨cb, 1, none⟩ = false) : Calls Tryz.prog 88 #[.pointer (some ⟨cb, 0, none⟩), rtV ux gx h, .int .i64 0] W fun e W' => e = .returned .nilIface ∧ Mv (fun b => b = cb) W W' := by
  have hlt := World.block_lt_of_cell? W ⟨cb, 0, none⟩ c0
  have b1 : (W.alloc (rtO ux gx h)).cell? ⟨cb, 1, none⟩ = some (.int .i64 0) := alc c1
  have b2 : (W.alloc (rtO ux gx h)).frozen? ⟨cb, 1, none⟩ = false := ((Below.refl _ _).alloc (Nat.le_refl _) _ : Below W.heap.size W _).frozen (p := ⟨cb, 1, none⟩) hlt |>.trans cf
  go_enter Tryz.func88, Tryz.ntmps88
  go_upto_region 4 with fail
  have s1 : (W.setCell ⟨cb, 1, none⟩ (.int .i64 1)).heap.size = W.heap.size := by simp
  have T : RtC ((W.setCell ⟨cb, 1, none⟩ (.int .i64 1)).alloc (rtO ux gx h)) W.heap.size cb ux gx h := by
    rw [← s1]
    exact ⟨World.cell?_alloc_at _ _ _ _ rfl, World.cell?_alloc_at _ _ _ _ rfl, World.cell?_alloc_at _ _ _ _ rfl, World.cell?_alloc_at _ _ _ _ rfl, World.cell?_alloc_at _ _ _ _ rfl, World.cell?_alloc_at _ _ _ _ rfl, World.cell?_alloc_at _ _ _ _ rfl, World.cell?_alloc_at _ _ _ _ rfl, alc ((stc2 (by decide)).trans c0)⟩
  have M : Mv (fun b => b = cb) W ((W.setCell ⟨cb, 1, none⟩ (.int .i64 1)).alloc (rtO ux gx h)) := ((Mv.refl (fun b => b = cb) W).setCell (p := ⟨cb, 1, none⟩) rfl _).alloc _
  show Code.wp _ _ _ _ ((W.setCell ⟨cb, 1, none⟩ (.int .i64 1)).alloc (rtO ux gx h))
  generalize (W.setCell ⟨cb, 1, none⟩ (.int .i64 1)).alloc (rtO ux gx h) = w2 at T M ⊢
  generalize W.heap.size = nb at T ⊢
  have HT : Hid (RtC w2 nb cb ux gx h) := T
  have HM : Hid (Mv (fun b => b = cb) W w2) := M
  obtain ⟨y0, y1, y2, y3, y4, y5, y6, y7, y8⟩ := T
  clear b1 b2 c0 c1 cf M s1
  go_wp2_with fail
  refine Calls.mono (bounds_root hu hg h _) ?_
  rintro e w3 ⟨rfl, b3⟩
  have HT3 : Hid (RtC w3 nb cb ux gx h) := HT.out.below b3
  have HM3 : Hid (Mv (fun b => b = cb) W w3) := HM.out.trans (Mv.of b3)
  clear y0 y1 y2 y3 y4 y5 y6 y7 y8 b3
  go_upto_region 7 with fail
  have T5 : w3.drew.cell? ⟨nb, 0, none⟩ = some (.int .i64 2) ∧ w3.drew.cell? ⟨nb, 1, none⟩ = some (.int .i64 493) ∧ w3.drew.cell? ⟨nb, 2, none⟩ = some (.int .i64 ux) ∧ w3.drew.cell? ⟨nb, 3, none⟩ = some (.int .i64 gx) ∧ w3.drew.cell? ⟨nb, 4, none⟩ = some (.bool false) ∧ w3.drew.cell? ⟨nb, 5, none⟩ = some (.slice h.aa 0 h.ca) ∧ w3.drew.cell? ⟨nb, 6, none⟩ = some (.string ⟨#[]⟩) ∧ w3.drew.cell? ⟨nb, 7, none⟩ = some (.slice h.ak 0 h.ck) ∧ w3.drew.cell? ⟨cb, 0, none⟩ = some (.bool true) := HT3.out.below (Below.refl _ _).drew
  go_region_held3 (fun w' => w'.cell? ⟨nb, 0, none⟩ = some (.int .i64 2) ∧ w'.cell? ⟨nb, 1, none⟩ = some (.int .i64 493) ∧ w'.cell? ⟨nb, 2, none⟩ = some (.int .i64 ux) ∧ w'.cell? ⟨nb, 3, none⟩ = some (.int .i64 gx) ∧ w'.cell? ⟨nb, 4, none⟩ = some (.bool false) ∧ w'.cell? ⟨nb, 5, none⟩ = some (.slice h.aa 0 h.ca) ∧ w'.cell? ⟨nb, 6, none⟩ = some (.string ⟨#[]⟩) ∧ w'.cell? ⟨nb, 7, none⟩ = some (.slice h.ak 0 h.ck) ∧ w'.cell? ⟨cb, 0, none⟩ = some (.bool true)) (first | exact T5 | exact T6) (first | (go_at_call 105; refine (missh_root ux gx h _).mono ?_; rintro e w6 ⟨rfl, c6⟩; have T6 : w6.cell? ⟨nb, 0, none⟩ = some (.int .i64 2) ∧ w6.cell? ⟨nb, 1, none⟩ = some (.int .i64 493) ∧ w6.cell? ⟨nb, 2, none⟩ = some (.int .i64 ux) ∧ w6.cell? ⟨nb, 3, none⟩ = some (.int .i64 gx) ∧ w6.cell? ⟨nb, 4, none⟩ = some (.bool false) ∧ w6.cell? ⟨nb, 5, none⟩ = some (.slice h.aa 0 h.ca) ∧ w6.cell? ⟨nb, 6, none⟩ = some (.string ⟨#[]⟩) ∧ w6.cell? ⟨nb, 7, none⟩ = some (.slice h.ak 0 h.ck) ∧ w6.cell? ⟨cb, 0, none⟩ = some (.bool true) := RtC.below T5 c6))
  have HM6 : Hid (Mv (fun b => b = cb) W w6) := HM3.out.drew.trans (Mv.of c6)
  obtain ⟨y0, y1, y2, y3, y4, y5, y6, y7, y8⟩ := T6
  clear T5 c6
  go_wp2_with fail
  refine Calls.mono (kids_nil _ _ _ _ _) ?_
  rintro e w7 ⟨rfl, rfl⟩
  go_wp2
  go_ret
  exact ⟨rfl, HM6.out⟩
set_option maxRecDepth 100000 in
set_option maxHeartbeats 2000000 in
theorem tcheck_root {ux gx : Int} (hu : 0 ≤ ux ∧ ux ≤ 65535) (hg : 0 ≤ gx ∧ gx ≤ 65535) (h : Hd) (W : World) : Calls Tryz.prog 69 #[rtV ux gx h, .bool true] W fun e W' => e = .returned .nilIface ∧ Below W.heap.size W W' := by
  have s1 : (W.alloc (rtO ux gx h)).heap.size = W.heap.size + 1 := World.size_alloc _ _
  have hB : Below W.heap.size W ((W.alloc (rtO ux gx h)).alloc (.cells #[.bool true, .int .i64 0] 157)) := ((Below.refl _ _).alloc (Nat.le_refl _) _).alloc (by omega) _
  have c0 : ((W.alloc (rtO ux gx h)).alloc (.cells #[.bool true, .int .i64 0] 157)).cell? ⟨W.heap.size + 1, 0, none⟩ = some (.bool true) := by rw [← s1]; exact World.cell?_alloc_at _ _ _ _ rfl
  have c1 : ((W.alloc (rtO ux gx h)).alloc (.cells #[.bool true, .int .i64 0] 157)).cell? ⟨W.heap.size + 1, 1, none⟩ = some (.int .i64 0) := by rw [← s1]; exact World.cell?_alloc_at _ _ _ _ rfl
  have cf : ((W.alloc (rtO ux gx h)).alloc (.cells #[.bool true, .int .i64 0] 157)).frozen? ⟨W.heap.size + 1, 1, none⟩ = false := by rw [← s1]; exact World.frozen?_alloc_at _ _ _ _ rfl
  have C := tnode_root hu hg h c0 c1 cf
  have HB : Hid (Below W.heap.size W ((W.alloc (rtO ux gx h)).alloc (.cells #[.bool true, .int .i64 0] 157))) := hB
  clear c0 c1 cf hB
  go_enter Tryz.func69, Tryz.ntmps69
  go_wp2_with fail
  refine Calls.mono C ?_
  rintro e w3 ⟨rfl, m3⟩
  go_wp2
  go_ret
  exact ⟨rfl, HB.out.trans (m3.below HB.out.size (fun k e => by omega))⟩
set_option maxRecDepth 100000 in
set_option maxHeartbeats 2000000 in
theorem tbytes_root {ux gx : Int} (hu : 0 ≤ ux ∧ ux ≤ 65535) (hg : 0 ≤ gx ∧ gx ≤ 65535) (h : Hd) (W : World) (hN : NdV W.cell? (.mk 2 493 ux gx false [] ⟨#[]⟩ []) h) (hS : Sml (.mk 2 493 ux gx false [] ⟨#[]⟩ [])) : Calls Tryz.prog 47 #[rtV ux gx h] W fun e W' => (∃ s, e = .returned (.tuple #[.string s, .nilIface]) ∧ s.size = 10) ∧ Below W.heap.size W W' := by
  have hB1 : Below W.heap.size W (W.alloc (rtO ux gx h)) := (Below.refl _ _).alloc (Nat.le_refl _) _
  have HL : Hid (∀ w1 : World, Below W.heap.size W w1 → Hid (Calls Tryz.prog 72 #[.slice none 0 0, rtV ux gx h] w1 fun e w' => ∃ v' L, e = .returned v' ∧ L.length = 10 ∧ w'.ownsRow w1.heap.size 5 1 v' L.length (bc L) ∧ Below w1.heap.size w1 w')) := fun w1 hb => by
    have e10 : (byN (.mk 2 493 ux gx false [] ⟨#[]⟩ [])).length = 10 := by rw [byN, byL]; simp [num2, atB, txt]
    refine Calls.mono (lay_any (hN.on (mle_below hb)) w1 (.slice none 0 0) 0 [] hS (Below.refl _ _) (World.ownsRow_nil _ _ _ _) (by rw [e10]; omega)) ?_
    rintro e w' ⟨v', rfl, h1, h2⟩
    rw [Nat.zero_add, List.nil_append] at h1
    exact ⟨v', _, rfl, e10, h1, gr_nil h2⟩
  clear hN hS
  go_enter Tryz.func47, Tryz.ntmps47
  go_wp2_with fail
  refine Calls.mono (tcheck_root hu hg h _) ?_
  rintro e w2 ⟨rfl, b2⟩
  have HB2 : Hid (Below W.heap.size W w2) := hB1.trans (b2.mono hB1.size)
  have y : ∀ i v, (W.alloc (rtO ux gx h)).cell? ⟨W.heap.size, i, none⟩ = some v → w2.cell? ⟨W.heap.size, i, none⟩ = some v := fun i v q => blwV b2 q
  have y0 := y 0 _ (World.cell?_alloc_at _ _ _ _ rfl)
  have y1 := y 1 _ (World.cell?_alloc_at _ _ _ _ rfl)
  have y2 := y 2 _ (World.cell?_alloc_at _ _ _ _ rfl)
  have y3 := y 3 _ (World.cell?_alloc_at _ _ _ _ rfl)
  have y4 := y 4 _ (World.cell?_alloc_at _ _ _ _ rfl)
  have y5 := y 5 _ (World.cell?_alloc_at _ _ _ _ rfl)
  have y6 := y 6 _ (World.cell?_alloc_at _ _ _ _ rfl)
  have y7 := y 7 _ (World.cell?_alloc_at _ _ _ _ rfl)
  clear y b2 hB1
  go_wp2_with fail
  refine Calls.mono (HL.out w2 HB2.out).out ?_
  rintro e w3 ⟨v', L, rfl, hL, hrow, b3⟩
  have hcv := conv_row hrow rfl (by omega)
  clear y0 y1 y2 y3 y4 y5 y6 y7
  go_wp2
  go_ret2
  exact ⟨⟨_, rfl, by rw [ofB_size, hL]⟩, HB2.out.trans (b3.mono HB2.out.size)⟩
end Go.Proofs.YtkjknbjjchdjlaaGreatDoor
