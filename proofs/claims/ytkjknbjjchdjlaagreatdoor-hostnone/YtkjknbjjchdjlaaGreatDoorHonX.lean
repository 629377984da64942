/-
  A BOX AND ITS CONFIG, as a host asks of them: stack, Index, two, Bytes: the walks.
  A TEXT IS LAID, BLOCK BY BLOCK: lay: a round's region that draws its order.
  A TEXT IS LAID, BLOCK BY BLOCK: pieces, lay: the walks.
-/
import Derived.Test.YtkjknbjjchdjlaaGreatDoorHomY
import Derived.Test.YtkjknbjjchdjlaaGreatDoorHolY
import Derived.Test.YtkjknbjjchdjlaaGreatDoorHofX
import Derived.Test.YtkjknbjjchdjlaaGreatDoorXbX
import Derived.Test.YtkjknbjjchdjlaaGreatDoorVeX
import Derived.Test.YtkjknbjjchdjlaaGreatDoorWlY
namespace Go.Proofs.YtkjknbjjchdjlaaGreatDoor
open Go.RowKit
set_option maxRecDepth 100000 in
set_option maxHeartbeats 1000000 in
theorem hstack_nil (h : Value) (w : World) : Calls Tryz.prog 19 #[h, .slice none 0 0] w fun e w' => e = .returned (.tuple #[.slice none 0 0, .nilIface]) ∧ w = w' := by
  go_enter Tryz.func19, Tryz.ntmps19
  go_wp2
  go_loopw [6, 13] (fun t i wr => t = .slice none 0 0 ∧ i = .int .i64 0 ∧ wr = w) (fun _ _ _ => 0)
  case atStart => exact ⟨rfl, rfl, rfl⟩
  case round =>
    obtain ⟨rfl, rfl, rfl⟩ := hrel
    go_wp2
    go_ret2
    exact ⟨rfl, rfl⟩
set_option maxRecDepth 100000 in
set_option maxHeartbeats 1000000 in
theorem indexG_nil {w : World} {b o : Nat} (h : w.cell? ⟨b, o, none⟩ = some (.pointer none)) : Calls Tryz.prog 21 #[.slice (some ⟨b, o, none⟩) 5 5, .pointer none] w fun e w' => e = .returned (.int .i64 0) ∧ w = w' := by
  go_enter Tryz.func21, Tryz.ntmps21
  go_wp2
  go_loopw [8] (fun i wr => i = .int .i64 0 ∧ wr = w) (fun _ _ => 0)
  case atStart => exact ⟨rfl, rfl⟩
  case round =>
    obtain ⟨rfl, rfl⟩ := hrel
    go_wp2
    go_ret
    exact ⟨rfl, rfl⟩
theorem two_u8 (w : World) (x y : Int) (t : TypeId) : ∀ j u, (bc [b8 x, b8 y])[j]? = some u → (w.alloc (.cells #[.int .u8 (x % 256), .int .u8 (y % 256)] t)).cell? ((⟨w.heap.size, 0, none⟩ : Addr).add j) = some u := by
  intro j u hj
  rw [addr_add, Nat.zero_add]
  refine (World.cell?_alloc_at _ _ _ _ rfl).trans ?_
  match j with
  | 0 => simpa [bc, b8_val] using hj
  | 1 => simpa [bc, b8_val] using hj
  | j + 2 => simp [bc] at hj
set_option maxRecDepth 100000 in
set_option maxHeartbeats 2000000 in
theorem two_any {w : World} {base : Nat} {v : Value} {n : Nat} {L : List UInt8} (hv : w.ownsRow base 5 1 v n (bc L)) (x : Int) (hn : n ≤ 1000) (hb : base ≤ w.heap.size) :
    Calls Tryz.prog 46 #[v, .int .i64 x] w fun e w' => ∃ v', e = .returned v' ∧ w'.ownsRow base 5 1 v' (n + 2) (bc (L ++ [b8 (x / 256), b8 x])) ∧ Below base w w' := by
  obtain ⟨i0, hi0, hz0, hz1, hz2⟩ := kinfo_three Tryz.infoU8
  go_enter Tryz.func46, Tryz.ntmps46
  go_wp2_with (at_builtin; refine wpList_append_src (w.alloc (.cells #[.int .u8 (x / 256 % 256), .int .u8 (x % 256)] 5)) rfl (.tmp 5) (.tmp 11) 48 rfl base 5 i0 (.int .u8 0) 1 1 Tryz.underlying48 hi0 hz0 hz1 hz2 rfl (by decide) _ n (bc L) rfl (World.ownsRow.alloc hv _) (some ⟨w.heap.size, 0, none⟩) 2 2 (bc [b8 (x / 256), b8 x]) rfl rfl (.inr ⟨_, rfl, two_u8 _ _ _ _⟩) (bc_one _) (by unfold maxLen; omega) (by omega) (by rw [World.size_alloc]; omega) ?_)
  intro v7 w7 hown7 hgr7 ho7
  go_wp2
  go_ret
  exact ⟨v7, rfl, by rw [bc_append]; exact hown7, ((Below.refl base w).alloc hb _).grown hgr7 (by rw [World.size_alloc]; omega) (fun g e => ((World.ownsRow.lt hv) g e).1)⟩
theorem sml_root {ux gx : Int} (hu : idB ux = true) (hg : idB gx = true) : Sml (.mk 2 493 ux gx false [] ⟨#[]⟩ []) := sml_of (root_tf hu hg) (by rw [Lil, LilL]; exact ⟨⟨by decide, fun r hr => (by cases hr)⟩, by decide, trivial⟩) (by rw [cnt, cntL]; omega)
theorem idB_le {x : Int} (h : idB x = true) : 0 ≤ x ∧ x ≤ 65535 := by simpa [idB] using h
set_option maxRecDepth 100000 in
set_option maxHeartbeats 4000000 in
theorem bbytes_any {w : World} {b : Nat} {B : Bx} {ux gx : Int} (h : BxV w b B) (hx : B.xs = [.mk 2 493 ux gx false [] ⟨#[]⟩ []]) (hc : B.cs = []) (hu : idB ux = true) (hg : idB gx = true) :
    Calls Tryz.prog 24 #[.pointer (some ⟨b, 0, none⟩)] w fun e w' => (∃ s, e = .returned (.string s) ∧ s.size = 16) ∧ Below w.heap.size w w' := by
  obtain ⟨i0, hi0, hz0, hz1, hz2⟩ := kinfo_three Tryz.infoU8
  have hlt := h.lt
  obtain ⟨c0, c1, c2, c3, c4, c5, c6, c7⟩ := h.cells
  have HL : Hid (NsV w.cell? B.la [.mk 2 493 ux gx false [] ⟨#[]⟩ []]) := by have q := h.lay; rw [hx] at q; exact q
  have HU : Hid (idB ux = true ∧ idB gx = true) := ⟨hu, hg⟩
  rw [hx] at c2
  rw [hc] at c5
  obtain ⟨la, hla⟩ : ∃ la, B.la = la := ⟨_, rfl⟩
  obtain ⟨lc, hlc⟩ : ∃ lc, B.lc = lc := ⟨_, rfl⟩
  obtain ⟨ca, hca⟩ : ∃ ca, B.ca = ca := ⟨_, rfl⟩
  obtain ⟨cc, hcc⟩ : ∃ cc, B.cc = cc := ⟨_, rfl⟩
  obtain ⟨bu, hbu⟩ : ∃ bu, B.u = bu := ⟨_, rfl⟩
  obtain ⟨bg, hbg⟩ : ∃ bg, B.g = bg := ⟨_, rfl⟩
  obtain ⟨bk, hbk⟩ : ∃ bk, B.k = bk := ⟨_, rfl⟩
  rw [hla, hlc] at c2
  rw [hca, hcc] at c5
  rw [hbu] at c3
  rw [hbg] at c4
  rw [hbk] at c6
  rw [hla] at HL
  have HC2 : Hid (w.cell? ⟨b, 2, none⟩ = some (.slice la 1 lc)) := c2
  have HC5 : Hid (w.cell? ⟨b, 5, none⟩ = some (.slice ca 0 cc)) := c5
  have HC6 : Hid (w.cell? ⟨b, 6, none⟩ = some (.int .i64 bk)) := c6
  have C1 := two_any (w := w) (base := w.heap.size) (v := .slice none 0 0) (n := 0) (L := []) (World.ownsRow_nil _ _ _ _) bu (by omega) (Nat.le_refl _)
  clear h hx hc hla hlc hca hcc hbu hbg hbk c0 c1 c2 c5 c6 c7 hu hg
  go_enter Tryz.func24, Tryz.ntmps24
  go_wp2_with fail
  refine Calls.mono C1 ?_
  rintro e w1 ⟨v1, rfl, r1, q1⟩
  replace c4 := blwV q1 c4
  have C2 := two_any r1 bg (by omega) q1.size
  have Q1 : Hid (Below w.heap.size w w1) := q1
  clear C1 c3 r1 q1
  go_wp2_with fail
  refine Calls.mono C2 ?_
  rintro e w2 ⟨v2, rfl, r2, q2⟩
  have Q2 : Hid (Below w.heap.size w w2) := Q1.out.trans q2
  have R2 : Hid (w2.ownsRow w.heap.size 5 1 v2 4 (bc ([b8 (bu / 256), b8 bu] ++ [b8 (bg / 256), b8 bg]))) := r2
  have T : w2.drew.cell? ⟨b, 5, none⟩ = some (.slice ca 0 cc) := blwV Q2.out HC5.out
  have T2 : w2.drew.cell? ⟨b, 6, none⟩ = some (.int .i64 bk) := blwV Q2.out HC6.out
  have hs2 := Q2.out.size
  clear C2 c4 r2 q2
  go_upto_region 3 with fail
  go_region_law (refine step_append_src (w2.drew.alloc (.cells #[.int .u8 (bk % 256), .int .u8 0] 5)) (by rfl) (.tmp 21) (.tmp 35) 48 (by rfl) w.heap.size 5 i0 (.int .u8 0) 1 1 Tryz.underlying48 hi0 hz0 hz1 hz2 rfl (by decide) v2 4 (bc ([b8 (bu / 256), b8 bu] ++ [b8 (bg / 256), b8 bg])) (by rfl) (World.ownsRow.alloc (World.ownsRow.drew R2.out) _) (some ⟨w2.drew.heap.size, 0, none⟩) 2 2 (bc [b8 bk, b8 0]) (by rfl) (by rfl) (.inr ⟨_, rfl, two_u8 _ _ _ _⟩) (bc_one _) (by unfold maxLen; omega) (by omega) (by rw [World.size_alloc]; exact Nat.le_trans hs2 (Nat.le_succ _)) ?_; intro v3 w3 hown3 hgr3 ho3)
  all_goals
    have R3 : Hid (w3.ownsRow w.heap.size 5 1 v3 6 (bc (([b8 (bu / 256), b8 bu] ++ [b8 (bg / 256), b8 bg]) ++ [b8 bk, b8 0]))) := by
      have q := hown3
      rw [← bc_append] at q
      exact q
    have Q3 : Hid (Below w.heap.size w w3) := (Q2.out.drew.alloc hs2 _).grown hgr3 (by rw [World.size_alloc]; exact Nat.le_trans hs2 (Nat.le_succ _)) (fun g e => ((World.ownsRow.lt R2.out) g e).1)
    have c5 : w3.cell? ⟨b, 5, none⟩ = some (.slice ca 0 cc) := blwV Q3.out HC5.out
    clear hown3 hgr3 ho3 T T2 hs2
    go_wp2
    go_loopw [3, 43] (fun v i wr => v = v3 ∧ i = .int .i64 0 ∧ wr = w3) (fun _ _ _ => 0)
    case atStart => exact ⟨rfl, rfl, rfl⟩
    case round =>
      obtain ⟨rfl, rfl, rfl⟩ := hrel
      have C3 := upper_any (b := b) (la := la) (lc := lc) (x := .mk 2 493 ux gx false [] ⟨#[]⟩ []) (rest := []) (blwV Q3.out HC2.out) (HL.out.on (mle_below Q3.out))
      clear c5
      go_wp2_with fail
      refine Calls.mono C3 ?_
      rintro e w4 ⟨⟨h4, rfl, _, n4⟩, q4⟩
      have C4 := tbytes_root (idB_le HU.out.1) (idB_le HU.out.2) h4 w4 n4 (sml_root HU.out.1 HU.out.2)
      have Q4 : Hid (Below w.heap.size w w4) := Q3.out.trans (q4.mono Q3.out.size)
      have R4 : Hid (w4.ownsRow w.heap.size 5 1 u3 6 (bc (([b8 (bu / 256), b8 bu] ++ [b8 (bg / 256), b8 bg]) ++ [b8 bk, b8 0]))) := ownsRow_bel R3.out q4
      clear C3 n4 q4
      go_wp2_with fail
      refine Calls.mono C4 ?_
      rintro e w5 ⟨⟨s5, rfl, hs5⟩, q5⟩
      have hcv := conv_row (ownsRow_bel R4.out q5) rfl (by decide)
      obtain ⟨t6, ht6⟩ : ∃ t6, ofB ([b8 (bu / 256), b8 bu] ++ [b8 (bg / 256), b8 bg] ++ [b8 bk, b8 0]) = t6 := ⟨_, rfl⟩
      have hs6 : t6.size = 6 := by rw [← ht6, ofB_size]; rfl
      rw [ht6] at hcv
      clear ht6
      have HQ5 : Hid (Below w.heap.size w w5) := Q4.out.trans (q5.mono Q4.out.size)
      clear C4 q5
      go_wp2
      go_ret
      exact ⟨⟨_, rfl, by rw [ByteArray.size_append, hs6, hs5]⟩, HQ5.out⟩
end Go.Proofs.YtkjknbjjchdjlaaGreatDoor
namespace Go.Proofs.YtkjknbjjchdjlaaGreatDoor
open Go.RowKit Go.Shelf
/-- What is kept while a piece is written. -/
structure LyS (W0 : World) (R : World → Prop) (hb : Nat) (s : ByteArray) (c0 c1 c2 c3 c4 c5 c6 : Bool) (t9 t14 t15 t16 t17 t18 t19 : Value) (W : World) : Prop where
  f0 : c0 = true → t14 = .pointer (some ⟨hb, 0, none⟩)
  f1 : c1 = true → t15 = .int .i64 12800
  f2 : c2 = true → t16 = .string s
  f3 : c3 = true → t17 = .int .i64 16
  f4 : c4 = true → t18 = .string (s.extract 0 16)
  q4 : c4 = true → c2 = true ∧ c3 = true
  q5 : c5 = true → c0 = true ∧ c1 = true ∧ c4 = true
  f5 : c5 = true → t19 = .nilIface ∧ R W
  q6 : c6 = true → c5 = true
  f6 : c6 = true → t9 = .nilIface
  w0 : c5 = false → W = W0
def LyI (W0 : World) (R : World → Prop) (hb b3 b5 : Nat) (s : ByteArray) (s0 s1 s2 s4 s6 s10 s11 s12 s13 s20 s21 s22 s23 s24 s25 : Value) (listed : Array Bool) (a : Act) (W : World) : Prop := ∃ (c0 c1 c2 c3 c4 c5 c6 : Bool) (t9 t14 t15 t16 t17 t18 t19 : Value), listed = #[c0, c1, c2, c3, c4, c5, c6] ∧ a = (⟨(s0 :: s1 :: s2 :: (.pointer (some ⟨b3, 0, none⟩)) :: s4 :: (.pointer (some ⟨b5, 0, none⟩)) :: s6 :: (.int .i64 12800) :: (.int .i64 16) :: t9 :: s10 :: s11 :: s12 :: s13 :: t14 :: t15 :: t16 :: t17 :: t18 :: t19 :: s20 :: s21 :: s22 :: s23 :: s24 :: s25 :: []).toArray, []⟩ : Act) ∧ LyS W0 R hb s c0 c1 c2 c3 c4 c5 c6 t9 t14 t15 t16 t17 t18 t19 W
set_option maxRecDepth 100000 in
set_option maxHeartbeats 4000000 in
theorem ly4 {W0 : World} {R : World → Prop} {hb b3 b5 : Nat} {s : ByteArray} (hs : s.size = 16) (h3 : W0.cell? ⟨b3, 0, none⟩ = some (.pointer (some ⟨hb, 0, none⟩))) (h5 : W0.cell? ⟨b5, 0, none⟩ = some (.string s))
    (hW : Calls Tryz.prog 39 #[.pointer (some ⟨hb, 0, none⟩), .int .i64 12800, .string (s.extract 0 16)] W0.drew fun e w' => e = .returned .nilIface ∧ R w')
    {Q : Exit → Act → World → Prop} {l : Nat} {s0 s1 s2 s4 s6 s10 s11 s12 s13 s20 s21 s22 s23 s24 s25 t9 t14 t15 t16 t17 t18 t19 : Value}
    (hQ : ∀ t14 t15 t16 t17 t18 t19 W', R W' → Q .normal ⟨(s0 :: s1 :: s2 :: (.pointer (some ⟨b3, 0, none⟩)) :: s4 :: (.pointer (some ⟨b5, 0, none⟩)) :: s6 :: (.int .i64 12800) :: (.int .i64 16) :: .nilIface :: s10 :: s11 :: s12 :: s13 :: t14 :: t15 :: t16 :: t17 :: t18 :: t19 :: s20 :: s21 :: s22 :: s23 :: s24 :: s25 :: []).toArray, []⟩ W') :
    (Code.region 4 #[{ dst := some 14, op := Op.load 28 (Operand.tmp 3), type := 28, pos := "stand.go:154", after := #[], guard := none }, { dst := some 15, op := Op.move (Operand.tmp 7), type := 3, pos := "stand.go:154", after := #[], guard := none }, { dst := some 16, op := Op.load 9 (Operand.tmp 5), type := 9, pos := "stand.go:154", after := #[], guard := none }, { dst := some 17, op := Op.move (Operand.tmp 8), type := 3, pos := "stand.go:154", after := #[], guard := none }, { dst := some 18, op := Op.slice 9 (Operand.tmp 16) none (some (Operand.tmp 17)) none, type := 9, pos := "stand.go:154", after := #[{ on := 2, ground := Ground.data }, { on := 3, ground := Ground.data }], guard := none }, { dst := some 19, op := Op.call { callee := Callee.value (Operand.func 39), args := #[Operand.tmp 14, Operand.tmp 15, Operand.tmp 18], argTypes := #[28, 3, 9] }, type := 25, pos := "stand.go:154", after := #[{ on := 0, ground := Ground.data }, { on := 1, ground := Ground.data }, { on := 4, ground := Ground.data }], guard := none }, { dst := some 9, op := Op.assign (Operand.tmp 19), type := 25, pos := "stand.go:154", after := #[{ on := 5, ground := Ground.data }, { on := 5, ground := Ground.chain }, { on := 0, ground := Ground.phase }, { on := 1, ground := Ground.phase }, { on := 2, ground := Ground.phase }, { on := 3, ground := Ground.phase }, { on := 4, ground := Ground.phase }, { on := 5, ground := Ground.phase }], guard := none }] true).wpIn (Fence.wide.inRound l) 0 Tryz.prog Q ⟨(s0 :: s1 :: s2 :: (.pointer (some ⟨b3, 0, none⟩)) :: s4 :: (.pointer (some ⟨b5, 0, none⟩)) :: s6 :: (.int .i64 12800) :: (.int .i64 16) :: t9 :: s10 :: s11 :: s12 :: s13 :: t14 :: t15 :: t16 :: t17 :: t18 :: t19 :: s20 :: s21 :: s22 :: s23 :: s24 :: s25 :: []).toArray, []⟩ W0 := by
  have HW : Hid (Calls Tryz.prog 39 #[.pointer (some ⟨hb, 0, none⟩), .int .i64 12800, .string (s.extract 0 16)] W0.drew fun e w' => e = .returned .nilIface ∧ R w') := hW
  have HQ : Hid (∀ t14 t15 t16 t17 t18 t19 W', R W' → Q .normal ⟨(s0 :: s1 :: s2 :: (.pointer (some ⟨b3, 0, none⟩)) :: s4 :: (.pointer (some ⟨b5, 0, none⟩)) :: s6 :: (.int .i64 12800) :: (.int .i64 16) :: .nilIface :: s10 :: s11 :: s12 :: s13 :: t14 :: t15 :: t16 :: t17 :: t18 :: t19 :: s20 :: s21 :: s22 :: s23 :: s24 :: s25 :: []).toArray, []⟩ W') := hQ
  have h3 : W0.drew.cell? ⟨b3, 0, none⟩ = some (.pointer (some ⟨hb, 0, none⟩)) := h3
  have h5 : W0.drew.cell? ⟨b5, 0, none⟩ = some (.string s) := h5
  clear hW hQ
  refine wpIn_region_any (by first | assumption | rfl | kernel_rfl) ?_
  refine anyIn_kept (LyI W0.drew R hb b3 b5 s s0 s1 s2 s4 s6 s10 s11 s12 s13 s20 s21 s22 s23 s24 s25) ?step ?fin _ _ _ _ ?le ?init
  case le => decide
  case init => exact ⟨_, _, _, _, _, _, _, _, _, _, _, _, _, _, rfl, rfl, ⟨(by simp), (by simp), (by simp), (by simp), (by simp), (by simp), (by simp), (by simp), (by simp), (by simp), fun _ => rfl⟩⟩
  case fin =>
    rintro listed a W ⟨c0, c1, c2, c3, c4, c5, c6, t9, t14, t15, t16, t17, t18, t19, rfl, rfl, h⟩ hr
    have kk : ∀ j, (#[c0, c1, c2, c3, c4, c5, c6] : Array Bool).getD j true = false → ∀ o, (#[{ dst := some 14, op := Op.load 28 (Operand.tmp 3), type := 28, pos := "stand.go:154", after := #[], guard := none }, { dst := some 15, op := Op.move (Operand.tmp 7), type := 3, pos := "stand.go:154", after := #[], guard := none }, { dst := some 16, op := Op.load 9 (Operand.tmp 5), type := 9, pos := "stand.go:154", after := #[], guard := none }, { dst := some 17, op := Op.move (Operand.tmp 8), type := 3, pos := "stand.go:154", after := #[], guard := none }, { dst := some 18, op := Op.slice 9 (Operand.tmp 16) none (some (Operand.tmp 17)) none, type := 9, pos := "stand.go:154", after := #[{ on := 2, ground := Ground.data }, { on := 3, ground := Ground.data }], guard := none }, { dst := some 19, op := Op.call { callee := Callee.value (Operand.func 39), args := #[Operand.tmp 14, Operand.tmp 15, Operand.tmp 18], argTypes := #[28, 3, 9] }, type := 25, pos := "stand.go:154", after := #[{ on := 0, ground := Ground.data }, { on := 1, ground := Ground.data }, { on := 4, ground := Ground.data }], guard := none }, { dst := some 9, op := Op.assign (Operand.tmp 19), type := 25, pos := "stand.go:154", after := #[{ on := 5, ground := Ground.data }, { on := 5, ground := Ground.chain }, { on := 0, ground := Ground.phase }, { on := 1, ground := Ground.phase }, { on := 2, ground := Ground.phase }, { on := 3, ground := Ground.phase }, { on := 4, ground := Ground.phase }, { on := 5, ground := Ground.phase }], guard := none }] : Array Oper)[j]? = some o → (∀ d ∈ o.after, Region.binds .any d = true → (#[c0, c1, c2, c3, c4, c5, c6] : Array Bool).getD d.on false = true) → False := fun j h1 o h2 h3 => by
      have := (mem_ready (md := .any)).2 ⟨h1, o, h2, h3⟩
      rw [hr] at this
      cases this
    have e0 : c0 = true := by
      cases e : c0 with
      | true => rfl
      | false => exact (kk 0 (by simp [e]) _ rfl (by simp [Region.binds])).elim
    have e1 : c1 = true := by
      cases e : c1 with
      | true => rfl
      | false => exact (kk 1 (by simp [e]) _ rfl (by simp [Region.binds, e0])).elim
    have e2 : c2 = true := by
      cases e : c2 with
      | true => rfl
      | false => exact (kk 2 (by simp [e]) _ rfl (by simp [Region.binds, e0, e1])).elim
    have e3 : c3 = true := by
      cases e : c3 with
      | true => rfl
      | false => exact (kk 3 (by simp [e]) _ rfl (by simp [Region.binds, e0, e1, e2])).elim
    have e4 : c4 = true := by
      cases e : c4 with
      | true => rfl
      | false => exact (kk 4 (by simp [e]) _ rfl (by simp [Region.binds, e0, e1, e2, e3])).elim
    have e5 : c5 = true := by
      cases e : c5 with
      | true => rfl
      | false => exact (kk 5 (by simp [e]) _ rfl (by simp [Region.binds, e0, e1, e2, e3, e4])).elim
    have e6 : c6 = true := by
      cases e : c6 with
      | true => rfl
      | false => exact (kk 6 (by simp [e]) _ rfl (by simp [Region.binds, e0, e1, e2, e3, e4, e5])).elim
    subst e0 e1 e2 e3 e4 e5 e6
    obtain rfl := h.f6 rfl
    exact HQ.out _ _ _ _ _ _ W (h.f5 rfl).2
  case step =>
    rintro listed a W i ⟨c0, c1, c2, c3, c4, c5, c6, t9, t14, t15, t16, t17, t18, t19, rfl, rfl, h⟩ hi
    obtain ⟨hu, o, ho, hd⟩ := mem_ready.1 hi
    have hlt : i < 7 := (Array.getElem?_eq_some_iff.1 ho).1
    clear hi
    obtain rfl | rfl | rfl | rfl | rfl | rfl | rfl : i = 0 ∨ i = 1 ∨ i = 2 ∨ i = 3 ∨ i = 4 ∨ i = 5 ∨ i = 6 := by omega
    · have ho2 := ho
      simp at ho; subst ho
      simp [Region.binds] at hd hu
      subst hu
      obtain rfl : W = W0.drew := h.w0 (by cases e : c5 with | false => rfl | true => have q := h.q5 e; simp at q)
      refine opIn_of ho2 rfl (by intro c; simp) ?_ ?_
      · intro r args w'; go_simp
      · go_simp; exact ⟨_, _, _, _, _, _, _, _, _, _, _, _, _, _, rfl, rfl, ⟨fun _ => rfl, h.f1, h.f2, h.f3, h.f4, h.q4, (fun e => by have q := h.q5 e; simp at q), h.f5, h.q6, h.f6, h.w0⟩⟩
    · have ho2 := ho
      simp at ho; subst ho
      simp [Region.binds] at hd hu
      subst hu
      refine opIn_of ho2 rfl (by intro c; simp) ?_ ?_
      · intro r args w'; go_simp
      · go_simp; exact ⟨_, _, _, _, _, _, _, _, _, _, _, _, _, _, rfl, rfl, ⟨h.f0, fun _ => rfl, h.f2, h.f3, h.f4, h.q4, (fun e => by have q := h.q5 e; simp at q), h.f5, h.q6, h.f6, h.w0⟩⟩
    · have ho2 := ho
      simp at ho; subst ho
      simp [Region.binds] at hd hu
      subst hu
      obtain rfl : W = W0.drew := h.w0 (by cases e : c5 with | false => rfl | true => have q := h.q4 (h.q5 e).2.2; simp at q)
      refine opIn_of ho2 rfl (by intro c; simp) ?_ ?_
      · intro r args w'; go_simp
      · go_simp; exact ⟨_, _, _, _, _, _, _, _, _, _, _, _, _, _, rfl, rfl, ⟨h.f0, h.f1, fun _ => rfl, h.f3, h.f4, (fun e => by have q := h.q4 e; simp at q), h.q5, h.f5, h.q6, h.f6, h.w0⟩⟩
    · have ho2 := ho
      simp at ho; subst ho
      simp [Region.binds] at hd hu
      subst hu
      refine opIn_of ho2 rfl (by intro c; simp) ?_ ?_
      · intro r args w'; go_simp
      · go_simp; exact ⟨_, _, _, _, _, _, _, _, _, _, _, _, _, _, rfl, rfl, ⟨h.f0, h.f1, h.f2, fun _ => rfl, h.f4, (fun e => by have q := h.q4 e; simp at q), h.q5, h.f5, h.q6, h.f6, h.w0⟩⟩
    · have ho2 := ho
      simp at ho; subst ho
      simp [Region.binds] at hd hu
      subst hu
      obtain ⟨rfl, rfl⟩ := hd
      obtain rfl := h.f2 rfl
      obtain rfl := h.f3 rfl
      refine opIn_of ho2 rfl (by intro c; simp) ?_ ?_
      · intro r args w'; go_simp
      · go_simp; exact ⟨_, _, _, _, _, _, _, _, _, _, _, _, _, _, rfl, rfl, ⟨h.f0, h.f1, h.f2, h.f3, fun _ => rfl, fun _ => ⟨rfl, rfl⟩, (fun e => by have q := h.q5 e; simp at q), h.f5, h.q6, h.f6, h.w0⟩⟩
    · have ho2 := ho
      simp at ho; subst ho
      simp [Region.binds] at hd hu
      subst hu
      obtain ⟨rfl, rfl, rfl⟩ := hd
      obtain rfl := h.f0 rfl
      obtain rfl := h.f1 rfl
      obtain rfl := h.f4 rfl
      obtain rfl := h.w0 rfl
      refine opIn_of ho2 rfl (by intro c; simp) ?_ ?_
      · intro r args w'; go_simp
      · go_simp
        with_reducible refine Calls.mono HW.out ?_
        rintro e w' ⟨rfl, hR⟩
        exact ⟨_, _, _, _, _, _, _, _, _, _, _, _, _, _, rfl, rfl, ⟨h.f0, h.f1, h.f2, h.f3, h.f4, h.q4, fun _ => ⟨rfl, rfl, rfl⟩, fun _ => ⟨rfl, hR⟩, (fun e => by have q := h.q6 e; simp at q), h.f6, (fun e => by cases e)⟩⟩
    · have ho2 := ho
      simp at ho; subst ho
      simp [Region.binds] at hd hu
      subst hu
      obtain ⟨rfl, rfl, rfl, rfl, rfl, rfl, _⟩ := hd
      obtain ⟨rfl, hR⟩ := h.f5 rfl
      refine opIn_of ho2 rfl (by intro c; simp) ?_ ?_
      · intro r args w'; go_simp
      · go_simp; exact ⟨_, _, _, _, _, _, _, _, _, _, _, _, _, _, rfl, rfl, ⟨h.f0, h.f1, h.f2, h.f3, h.f4, h.q4, h.q5, h.f5, fun _ => rfl, fun _ => rfl, h.w0⟩⟩
end Go.Proofs.YtkjknbjjchdjlaaGreatDoor
namespace Go.Proofs.YtkjknbjjchdjlaaGreatDoor
open Go.RowKit Go.Shelf
attribute [local go_sem] Oper.semAt_some
theorem range_at2 {P : Program} {n : Nat} {g : Operand} {ps : Array Tmp} {assign body : Code} {Q : Exit → Act → World → Prop} {a : Act} {w : World} {gf : Nat} {lb : Array Value}
    (hg : a.eval g = .func (.func gf) lb #[]) (eg : ∀ args w, (callFunc gf args).run P w = .ok (.enter gf args) w)
    (h : ∀ fn rec, IsRec rec fn a.tmps ps assign body w.heap.size → ∀ W1 : World, Below w.heap.size w W1 → W1.heap.size = w.heap.size + 1 + 1 → W1.heap[w.heap.size + 1]? = some (.loop (rec .ready none)) → W1.heap[w.heap.size]? = some (.deferred (some [])) →
      CallsIn Fence.wide (n - 1) P gf (lb ++ #[.func (.yield (w.heap.size + 1)) #[] #[]]) W1 fun e W' => (∃ v, e = .returned v) ∧
        ((W'.heap[w.heap.size + 1]? = some (.loop (rec .ready none)) ∧ Q .normal { a with defers := { target := .collected w.heap.size, args := #[] } :: a.defers } (W'.putObj (w.heap.size + 1) (.loop (rec .exhausted none)))) ∨
         ∃ c, W'.heap[w.heap.size + 1]? = some (.loop (rec .done (some c))) ∧ c.wpIn Fence.wide n P Q { a with defers := { target := .collected w.heap.size, args := #[] } :: a.defers } (W'.putObj (w.heap.size + 1) (.loop (rec .exhausted (some c)))))) :
    (Code.rangeFunc g ps assign body).wpIn Fence.wide n P Q a w := by
  refine wpIn_rangeFunc ?_
  intro fn _
  obtain ⟨rec, hrec⟩ : ∃ rec : LoopState → Option Code → Loop, rec = fun st pe => { state := st, pending := pe, fn, tmps := a.tmps, params := ps, assign, body, defers := w.heap.size } := ⟨_, rfl⟩
  have hsz : ((w.alloc (.deferred (some []))).alloc (.loop (rec .ready none))).heap.size = w.heap.size + 1 + 1 := by rw [World.size_alloc, World.size_alloc]
  have hB : Below w.heap.size w ((w.alloc (.deferred (some []))).alloc (.loop (rec .ready none))) := ((Below.refl _ w).alloc (Nat.le_refl _) _).alloc (by rw [World.size_alloc]; omega) _
  have h1 : ((w.alloc (.deferred (some []))).alloc (.loop (rec .ready none))).heap[w.heap.size + 1]? = some (.loop (rec .ready none)) := by
    have := World.alloc_heap_new (w.alloc (.deferred (some []))) (.loop (rec .ready none))
    rwa [World.size_alloc] at this
  have h2 : ((w.alloc (.deferred (some []))).alloc (.loop (rec .ready none))).heap[w.heap.size]? = some (.deferred (some [])) := (Below.heap_alloc _ _ _ (by rw [World.size_alloc]; omega)).trans (World.alloc_heap_new w _)
  have h0 : (Instr.enterLoop fn a.tmps ps assign body Fence.wide.round).run P w = .ok (w.heap.size + 1, [{ target := .collected w.heap.size, args := #[] }]) ((w.alloc (.deferred (some []))).alloc (.loop (rec .ready none))) := by rw [hrec]; exact run_enterLoop_outer _ _ _ _ _
  obtain ⟨W1, hW1⟩ : ∃ W1, (w.alloc (.deferred (some []))).alloc (.loop (rec .ready none)) = W1 := ⟨_, rfl⟩
  rw [hW1] at h0 hsz hB h1 h2
  clear hW1
  refine ⟨w.heap.size + 1, [{ target := .collected w.heap.size, args := #[] }], W1, { target := .fn (.func gf) #[], args := lb ++ #[.func (.yield (w.heap.size + 1)) #[] #[]] }, W1, gf,
    lb ++ #[.func (.yield (w.heap.size + 1)) #[] #[]], W1, h0, ?_, fun f' _ => trivial, ?_, fun e => by simp [Fence.wide] at e, ?_⟩
  · simp only [resolve, hg]
    simp [go_sem]
  · simp [invoke, go_sem, eg]
  · refine (h fn rec ⟨hrec⟩ _ hB hsz h1 h2).mono ?_
    rintro e W2 ⟨⟨v, rfl⟩, (⟨hl, hq⟩ | ⟨c, hl, hq⟩)⟩
    · exact ⟨none, _, by have := run_endLoop (P := P) hl (by rw [hrec]; simp); rw [hrec] at this ⊢; exact this, hq⟩
    · exact ⟨some c, _, by have := run_endLoop (P := P) hl (by rw [hrec]; simp); rw [hrec] at this ⊢; exact this, hq⟩
set_option maxRecDepth 100000 in
set_option maxHeartbeats 4000000 in
theorem pieces_any {W : World} {zb zo cap l : Nat} (J1 : World → Prop) (h0 : W.cell? ⟨zb, zo, none⟩ = some (.int .i64 200)) (h1 : ∀ B, J1 B → B.cell? ⟨zb, zo + 1, none⟩ = some (.int .i64 201)) (hcap : 10 ≤ cap)
    (hY : ∀ A, Below W.heap.size W A → YieldAt Fence.wide 0 Tryz.prog l #[.int .i64 12800, .int .i64 16] A fun e B => e = .returned (.bool true) ∧ J1 B) :
    CallsIn Fence.wide 0 Tryz.prog 73 #[.agg #[.slice (some ⟨zb, zo, none⟩) 10 cap, .int .i64 0, .int .i64 16], .func (.yield l) #[] #[]] W fun e B => (∃ v, e = .returned v) ∧ J1 B := by
  refine callsIn_of_wp Tryz.func73 rfl trivial ?_ rfl
  simp only [Tryz.ntmps73, List.size_toArray, List.length_cons, List.length_nil, Nat.reduceAdd, Nat.reduceSub, Array.replicate_succ, Array.replicate_zero, List.push_toArray, List.append_toArray, List.nil_append, List.cons_append]
  have hB : Below W.heap.size W (W.alloc (.cells #[.slice (some ⟨zb, zo, none⟩) 10 cap, .int .i64 0, .int .i64 16] 75)) := (Below.refl _ _).alloc (Nat.le_refl _) _
  have HY : Hid _ := hY _ hB
  have H1 : Hid (∀ B, J1 B → B.cell? ⟨zb, zo + 1, none⟩ = some (.int .i64 201)) := h1
  have k0 : (W.alloc (.cells #[.slice (some ⟨zb, zo, none⟩) 10 cap, .int .i64 0, .int .i64 16] 75)).cell? ⟨zb, zo, none⟩ = some (.int .i64 200) := blwV hB h0
  have hm1 : min (16 : Int) 64 = 16 := by decide
  have hm0 : min (0 : Int) 64 = 0 := by decide
  clear hY h1 h0 hB
  gi_wp2_with fail
  gi_loopw [4, 6, 7, 16] (fun lf _ _ i wr => (i = .int .i64 0 ∧ lf = .int .i64 16 ∧ wr = (W.alloc (.cells #[.slice (some ⟨zb, zo, none⟩) 10 cap, .int .i64 0, .int .i64 16] 75))) ∨ (i = .int .i64 1 ∧ lf = .int .i64 0 ∧ Hid (J1 wr))) (fun _ _ _ i _ => 2 - (intOf i).toNat)
  case atStart => exact .inl ⟨rfl, rfl, rfl⟩
  case round =>
    rcases hrel with ⟨rfl, rfl, rfl⟩ | ⟨rfl, rfl, HJ⟩
    · obtain ⟨fn, tmps, assign, body, hyy, hRR⟩ := HY.out
      have HRR : Hid _ := hRR
      clear hRR
      gi_wp2
      refine ⟨rfl, RoundIn.mono HRR.out ?_⟩
      rintro e W3 ⟨rfl, hJ1⟩
      have HJ1 : Hid (J1 W3) := hJ1
      clear hJ1
      gi_wp2
      go_roundw
      case rel => exact .inr ⟨by go_num, by go_num, HJ1.out⟩
      case measure => (simp [intOf])
    · have k1 := H1.out _ HJ.out
      gi_wp2
      refine ⟨fun f e => (by cases e), ?_⟩
      gi_wp2
      refine bodyPost_ret (results_none rfl _ _ _) rfl ?_
      exact ⟨⟨_, rfl⟩, HJ.out⟩
theorem Mv.put (w : World) (l : Nat) (o : Obj) : Mv (fun b => b = l) w (w.putObj l o) := ⟨rfl, rfl, rfl, by rw [World.putObj_size]; exact Nat.le_refl _, fun _ _ hs => World.putObj_heap_other hs⟩
theorem four_boxes (w : World) (a b c d : Obj) : Below w.heap.size w ((((w.alloc a).alloc b).alloc c).alloc d) ∧ ((((w.alloc a).alloc b).alloc c).alloc d).heap.size = w.heap.size + 1 + 1 + 1 + 1 ∧ ((((w.alloc a).alloc b).alloc c).alloc d).heap[w.heap.size]? = some a ∧ ((((w.alloc a).alloc b).alloc c).alloc d).heap[w.heap.size + 1 + 1]? = some c ∧ ((((w.alloc a).alloc b).alloc c).alloc d).heap[w.heap.size + 1 + 1 + 1]? = some d := by
  have s1 : (w.alloc a).heap.size = w.heap.size + 1 := World.size_alloc _ _
  have s2 : ((w.alloc a).alloc b).heap.size = w.heap.size + 1 + 1 := by rw [World.size_alloc, s1]
  have s3 : (((w.alloc a).alloc b).alloc c).heap.size = w.heap.size + 1 + 1 + 1 := by rw [World.size_alloc, s2]
  refine ⟨((((Below.refl _ w).alloc (Nat.le_refl _) a).alloc (by omega) b).alloc (by omega) c).alloc (by omega) d, by rw [World.size_alloc, s3], ?_, ?_, ?_⟩
  · rw [heap_alloc_old _ _ (by omega), heap_alloc_old _ _ (by omega), heap_alloc_old _ _ (by omega)]; exact heap_alloc_new w a
  · rw [heap_alloc_old _ _ (by omega), ← s2]; exact heap_alloc_new _ c
  · rw [← s3]; exact heap_alloc_new _ d
set_option maxRecDepth 100000 in
set_option maxHeartbeats 4000000 in
theorem hlay_any {w : World} {hb db rb cp side m zb zo cap : Nat} {g : Value} (h : HK w hb db rb cp 300 side m g) (hz : ∀ i : Nat, i < 10 → w.cell? ⟨zb, zo + i, none⟩ = some (.int .i64 (200 + (i : Int)))) (hne : zb ≠ db ∧ zb ≠ rb) (hcap : 10 ≤ cap) (hm : m ≤ 50000) {s : ByteArray} (hs : s.size = 16) :
    Calls Tryz.prog 51 #[.pointer (some ⟨hb, 0, none⟩), .agg #[.slice (some ⟨zb, zo, none⟩) 10 cap, .int .i64 0, .int .i64 16], .string s] w fun e w' => e = .returned .nilIface ∧ HK w' hb db rb cp 300 side (m + 16) g ∧ Mv (fun b => b = db ∨ b = rb) w w' := by
  obtain ⟨hB0, hsz, k0, k2, k3⟩ := four_boxes w (.cells #[.pointer (some ⟨hb, 0, none⟩)] 28) (.cells #[.slice (some ⟨zb, zo, none⟩) 10 cap, .int .i64 0, .int .i64 16] 75) (.cells #[.string s] 9) (.cells #[.nilIface] 25)
  have hlt := h.lt
  have hzl : zb < w.heap.size := World.block_lt_of_cell? w ⟨zb, zo + 0, none⟩ (hz 0 (by omega))
  have he16 : (s.extract 0 16).size = 16 := by rw [ByteArray.size_extract]; omega
  refine (callsIn_wide (n := 0)).1 ?_
  refine callsIn_of_wp_marks Tryz.func51 rfl trivial ?_ rfl
  simp only [Tryz.ntmps51, List.size_toArray, List.length_cons, List.length_nil, Nat.reduceAdd, Nat.reduceSub, Array.replicate_succ, Array.replicate_zero, List.push_toArray, List.append_toArray, List.nil_append, List.cons_append]
  gi_wp2_with fail
  generalize (((w.alloc (.cells #[.pointer (some ⟨hb, 0, none⟩)] 28)).alloc (.cells #[.slice (some ⟨zb, zo, none⟩) 10 cap, .int .i64 0, .int .i64 16] 75)).alloc (.cells #[.string s] 9)).alloc (.cells #[.nilIface] 25) = w1 at hB0 hsz k0 k2 k3 ⊢
  obtain ⟨B, hBE⟩ : ∃ B, w.heap.size = B := ⟨_, rfl⟩
  rw [hBE] at hB0 hsz k0 k2 k3 hlt hzl ⊢
  refine range_at2 (gf := 73) (lb := #[.agg #[.slice (some ⟨zb, zo, none⟩) 10 cap, .int .i64 0, .int .i64 16]]) rfl (enters_of Tryz.func73 (by kernel_rfl) rfl) ?_
  intro fn rec hrec W1 hB1 hs1 hl1 hd1
  have hBW : Below B w W1 := hB0.trans (hB1.mono (by omega))
  obtain ⟨l, hl⟩ : ∃ l, w1.heap.size + 1 = l := ⟨_, rfl⟩
  rw [hl] at hl1 ⊢
  have n0 : W1.heap[B]? = some (.cells #[.pointer (some ⟨hb, 0, none⟩)] 28 (0, 0)) := (hB1.block B (by omega)).trans k0
  have n2 : W1.heap[B + 1 + 1]? = some (.cells #[.string s] 9 (0, 0)) := (hB1.block _ (by omega)).trans k2
  have n3 : W1.heap[B + 1 + 1 + 1]? = some (.cells #[.nilIface] 25 (0, 0)) := (hB1.block _ (by omega)).trans k3
  have hzW : ∀ i : Nat, i < 10 → W1.cell? ⟨zb, zo + i, none⟩ = some (.int .i64 (200 + (i : Int))) := fun i hi => (hBW.cell (p := ⟨zb, zo + i, none⟩) (by show zb < B; omega)).trans (hz i hi)
  refine (pieces_any (W := W1) (l := l) (fun X => HK X hb db rb cp 300 side (m + 16) g ∧ Mv (fun b => b = db ∨ b = rb ∨ b = B + 1 + 1 ∨ b = l) W1 X ∧ X.heap[l]? = some (.loop (rec .ready none))) (hzW 0 (by omega)) (fun X hX => (hX.2.1.cell (p := ⟨zb, zo + 1, none⟩) (by show zb < W1.heap.size; omega) (by show ¬ (zb = db ∨ zb = rb ∨ zb = B + 1 + 1 ∨ zb = l); omega)).trans (hzW 1 (by omega))) hcap ?rounds).mono ?after
  case rounds =>
    intro A hA
    have lk : A.heap[l]? = some (.loop (rec .ready none)) := (hA.block l (by omega)).trans hl1
    have MA : Mv (fun b => b = l) w (A.putObj l (.loop (rec .busy none))) := (Mv.of (by rw [hBE]; exact hBW.trans (hA.mono (by have := hBW.size; omega)))).trans (Mv.put A l _)
    have MW : Mv (fun b => b = l) W1 (A.putObj l (.loop (rec .busy none))) := (Mv.of hA).trans (Mv.put A l _)
    have c3 : (A.putObj l (.loop (rec .busy none))).cell? ⟨B, 0, none⟩ = some (.pointer (some ⟨hb, 0, none⟩)) := cell_of_heap ((MW.block B (by omega) (by omega)).trans n0) rfl
    have c5 : (A.putObj l (.loop (rec .busy none))).cell? ⟨B + 1 + 1, 0, none⟩ = some (.string s) := cell_of_heap ((MW.block (B + 1 + 1) (by omega) (by omega)).trans n2) rfl
    have hk1 : HK (A.putObj l (.loop (rec .busy none))) hb db rb cp 300 side m g := h.mv MA (by omega) (by omega) (by omega)
    have HBZ : Hid ((A.putObj l (.loop (rec .busy none))).heap[l]? = some (.loop (rec .busy none))) := World.putObj_heap_same (lt_of_heap lk)
    have LK : Hid (A.heap[l]? = some (.loop (rec .ready none))) := lk
    refine round_at hrec lk rfl ?_
    clear lk
    gi_wp2
    refine ⟨LK.out, ?_⟩
    generalize A.putObj l (.loop (rec .busy none)) = A1 at MW c3 c5 hk1 HBZ ⊢
    have C := hwrite_any (hk1.mv (S := fun _ => False) (Mv.refl _ A1).drew id id id) 12800 (s.extract 0 16) (by omega) (by omega) (by omega)
    rw [he16] at C
    gi_wp2
    refine ly4 (W0 := A1) (R := fun X => Mv (fun b => b = db ∨ b = rb) A1.drew X ∧ HK X hb db rb cp 300 side (m + 16) g) (hb := hb) (b3 := B) (b5 := B + 1 + 1) (s := s) hs c3 c5 (Calls.mono C fun e X q => ⟨q.1, q.2.1, q.2.2⟩) ?_
    rintro t14 t15 t16 t17 t18 t19 X ⟨hMX, hKX⟩
    have hsA : W1.heap.size ≤ A1.heap.size := MW.size
    have MX : Mv (fun b => b = db ∨ b = rb ∨ b = B + 1 + 1 ∨ b = l) W1 X := (MW.mono (fun k e => .inr (.inr (.inr e)))).trans (((Mv.refl _ A1).drew).trans (hMX.mono (fun k e => by omega)))
    have hX2 : X.heap[B + 1 + 1]? = some (.cells #[.string s] 9 (0, 0)) := (hMX.block (B + 1 + 1) (by show B + 1 + 1 < A1.heap.size; omega) (by omega)).trans ((MW.block (B + 1 + 1) (by omega) (by omega)).trans n2)
    have hXl : X.heap[l]? = some (.loop (rec .busy none)) := (hMX.block l (by exact lt_of_heap HBZ.out) (by omega)).trans HBZ.out
    have x5 : X.cell? ⟨B + 1 + 1, 0, none⟩ = some (.string s) := cell_of_heap hX2 rfl
    have x6 : X.frozen? ⟨B + 1 + 1, 0, none⟩ = false := frozen_of_heap hX2 0
    clear c3 c5 C
    gi_wp2
    have hl3 : (X.setCell ⟨B + 1 + 1, 0, none⟩ (.string ByteArray.empty)).heap[l]? = some (.loop (rec .busy none)) := (Below.heap_setCell _ _ _ _ (by show l ≠ B + 1 + 1; omega)).trans hXl
    have hM4 : Mv (fun b => b = B + 1 + 1 ∨ b = l) X ((X.setCell ⟨B + 1 + 1, 0, none⟩ (.string ByteArray.empty)).putObj l (.loop (rec .ready none))) := ((Mv.refl (fun b => b = B + 1 + 1 ∨ b = l) X).setCell (p := ⟨B + 1 + 1, 0, none⟩) (.inl rfl) _).trans ((Mv.put _ l _).mono (fun k e => .inr e))
    exact ⟨hl3, rfl, hKX.mv hM4 (by omega) (by omega) (by omega), MX.trans (hM4.mono (fun k e => by omega)), World.putObj_heap_same (lt_of_heap hl3)⟩
  case after =>
    rintro e W2 ⟨⟨v, rfl⟩, hK2, hM2, hl2⟩
    refine ⟨⟨_, rfl⟩, .inl ⟨hl2, ?_⟩⟩
    have hM3 : Mv (fun b => b = db ∨ b = rb ∨ b = B + 1 + 1 ∨ b = l) W1 (W2.putObj l (.loop (rec .exhausted none))) := hM2.trans ((Mv.put W2 l _).mono (fun k e => .inr (.inr (.inr e))))
    have hK3 : HK (W2.putObj l (.loop (rec .exhausted none))) hb db rb cp 300 side (m + 16) g := hK2.mv (Mv.put W2 l _) (by omega) (by omega) (by omega)
    generalize W2.putObj l (.loop (rec .exhausted none)) = W3 at hM3 hK3 ⊢
    have m3 : W3.heap[B + 1 + 1 + 1]? = some (.cells #[.nilIface] 25 (0, 0)) := (hM3.block _ (by omega) (by omega)).trans n3
    have md : W3.heap[w1.heap.size]? = some (.deferred (some [])) := (hM3.block _ (by omega) (by omega)).trans hd1
    have x5 : W3.cell? ⟨B + 1 + 1 + 1, 0, none⟩ = some .nilIface := cell_of_heap m3 rfl
    have x6 : W3.frozen? ⟨B + 1 + 1 + 1, 0, none⟩ = false := frozen_of_heap m3 0
    rw [hsz] at md
    gi_wp2
    have md2 : (W3.setCell ⟨B + 1 + 1 + 1, 0, none⟩ .nilIface).heap[B + 1 + 1 + 1 + 1]? = some (.deferred (some [])) := (Below.heap_setCell _ _ _ _ (by show B + 1 + 1 + 1 + 1 ≠ B + 1 + 1 + 1; omega)).trans md
    refine ⟨by simp, .inl ⟨_, _, rfl, run_takeDeferred md2, ?_⟩⟩
    have hM5 : Mv (fun b => B ≤ b) W3 ((W3.setCell ⟨B + 1 + 1 + 1, 0, none⟩ .nilIface).putObj (B + 1 + 1 + 1 + 1) (.deferred none)) := ((Mv.refl (fun b => B ≤ b) W3).setCell (p := ⟨B + 1 + 1 + 1, 0, none⟩) (by show B ≤ B + 1 + 1 + 1; omega) _).trans ((Mv.put _ (B + 1 + 1 + 1 + 1) _).mono (fun k e => by omega))
    have hres : ((W3.setCell ⟨B + 1 + 1 + 1, 0, none⟩ .nilIface).putObj (B + 1 + 1 + 1 + 1) (.deferred none)).cell? ⟨B + 1 + 1 + 1, 0, none⟩ = some .nilIface := (World.cell?_of_block (World.putObj_heap_other (by show B + 1 + 1 + 1 ≠ B + 1 + 1 + 1 + 1; omega))).trans (World.cell?_setCell_same _ _ _ x5)
    have hM6 : Mv (fun b => b = db ∨ b = rb) w ((W3.setCell ⟨B + 1 + 1 + 1, 0, none⟩ .nilIface).putObj (B + 1 + 1 + 1 + 1) (.deferred none)) := by
      have q1 : Mv (fun b => b = db ∨ b = rb ∨ B ≤ b) W1 W3 := hM3.mono (fun k e => by have := hB1.size; omega)
      have q2 := q1.trans (hM5.mono (fun k e => .inr (.inr e)))
      have q3 : Mv (fun b => b = db ∨ b = rb ∨ B ≤ b) w _ := (Mv.of (by rw [hBE]; exact hBW)).trans q2
      exact ⟨q3.os, q3.tape, q3.output, q3.size, fun k hk hs => q3.block k hk (by omega)⟩
    have hK5 := hK3.mv hM5 (by omega) (by omega) (by omega)
    generalize (W3.setCell ⟨B + 1 + 1 + 1, 0, none⟩ .nilIface).putObj (B + 1 + 1 + 1 + 1) (.deferred none) = W5 at hres hM6 hK5 ⊢
    exact ⟨_, by simp [results, Tryz.results51, go_sem, hres], rfl, hK5, hM6⟩
end Go.Proofs.YtkjknbjjchdjlaaGreatDoor
