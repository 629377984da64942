/-
  Bytes OF BOTH, Size, Blocks OF BOTH: the walks.
-/
import Derived.Test.YtkkhfnkmfkdhiabVd
import Derived.Test.YtkkhfnkmfkdhiabVf
import Derived.Test.YtkkhfnkmfkdhiabWh
namespace Go.Proofs.Ytkkhfnkmfkdhiab
open Go.RowKit

/-- The text of a tree's bytes. -/
def bsF (x : Nd) : ByteArray := if tfF true x = 0 then ofB (byN x) else ⟨#[]⟩
theorem gr_nil {w w' : World} {v' : Value} (h : Gr w w' (.slice none 0 0) v') : Below w.heap.size w w' := ⟨h.g.os, h.g.tape, h.g.output, h.g.size, fun k hk => h.g.block k hk (by simp [Value.ownBlock])⟩

set_option maxRecDepth 100000 in
set_option maxHeartbeats 1000000 in
theorem tBytes_any {w : World} {x : Nd} {h : Hd} (hN : NdV w.cell? x h) (hl : Lil x) (hc : cnt x ≤ 1000) (hq : (byN x).length ≤ 600000) :
    Calls Try.prog 12 #[ndV x h] w fun e w' => e = .returned (.tuple #[.string (bsF x), errV (tfF true x)]) ∧ Below w.heap.size w w' := by
  have HLL : Hid (Lil x) := hl
  have HCC : Hid (cnt x ≤ 1000) := hc
  have HNN : Hid (NdV w.cell? x h) := hN
  obtain ⟨F, HF⟩ : ∃ F, Hid (tfF true x = F) := ⟨_, rfl⟩
  obtain ⟨B, HB⟩ : ∃ B, Hid (bsF x = B) := ⟨_, rfl⟩
  obtain ⟨Y, HY⟩ : ∃ Y, Hid (byN x = Y) := ⟨_, rfl⟩
  have HP := byN_pos x
  have HQ := hq
  rw [HY.out] at HP HQ
  rw [HB.out, HF.out]
  have C1 : ∀ w1 : World, Below w.heap.size w w1 → Hid (Calls Try.prog 20 #[ndV x h, .bool true] w1 fun e W' => e = .returned (errV F) ∧ Below w1.heap.size w1 W') := fun w1 hb => by
    have := tcheck_any true (HNN.out.ab hb) HLL.out (by have := HCC.out; omega)
    rw [HF.out] at this
    exact this
  have C2 : F = 0 → ∀ w1 : World, Below w.heap.size w w1 → Hid (Calls Try.prog 62 #[.slice none 0 0, ndV x h] w1 fun e w' => ∃ v', e = .returned v' ∧ w'.ownsRow w1.heap.size 5 1 v' Y.length (bc Y) ∧ Below w1.heap.size w1 w') := fun hF w1 hb => by
    refine Calls.mono (lay_any (HNN.out.ab hb) w1 (.slice none 0 0) 0 [] (sml_of (HF.out.trans hF) HLL.out (by have := HCC.out; omega)) (Below.refl _ _) (World.ownsRow_nil _ _ _ _) (by rw [HY.out]; omega)) ?_
    rintro e w' ⟨v', rfl, h1, h2⟩
    rw [HY.out, Nat.zero_add, List.nil_append] at h1
    exact ⟨v', rfl, h1, gr_nil h2⟩
  have HC1 : Hid (∀ w1 : World, Below w.heap.size w w1 → Hid (Calls Try.prog 20 #[ndV x h, .bool true] w1 fun e W' => e = .returned (errV F) ∧ Below w1.heap.size w1 W')) := C1
  have HC2 : Hid (F = 0 → ∀ w1 : World, Below w.heap.size w w1 → Hid (Calls Try.prog 62 #[.slice none 0 0, ndV x h] w1 fun e w' => ∃ v', e = .returned v' ∧ w'.ownsRow w1.heap.size 5 1 v' Y.length (bc Y) ∧ Below w1.heap.size w1 w')) := C2
  have HBB : Hid (B = if F = 0 then ofB Y else ⟨#[]⟩) := by show _ = _; rw [← HB.out, bsF, HF.out, HY.out]
  clear hN hl hc hq C1 C2 HLL HCC HNN HB HY
  obtain ⟨k, m, u, g, o, at_, d, ks⟩ := x
  clear HF
  have NB := NBox.new w k m u g o at_ d ks h
  have hB1 : Below w.heap.size w (w.alloc (.cells #[.int .i64 k, .int .i64 m, .int .i64 u, .int .i64 g, .bool o, .slice h.aa at_.length h.ca, .string d, .slice h.ak ks.length h.ck] 25)) := (Below.refl _ _).alloc (Nat.le_refl _) _
  show Calls Try.prog 12 #[.agg #[.int .i64 k, .int .i64 m, .int .i64 u, .int .i64 g, .bool o, .slice h.aa at_.length h.ca, .string d, .slice h.ak ks.length h.ck]] _ _
  go_enter Try.func12, Try.ntmps12
  have NB2 := NB
  obtain ⟨y0, y1, y2, y3, y4, y5, y6, y7⟩ := NB2
  go_wp2_with fail
  refine Calls.mono (HC1.out _ hB1).out ?_
  rintro e w2 ⟨rfl, hB2⟩
  have NB3 := NB.below hB2
  have hB3 := hB1.trans (hB2.mono hB1.size)
  clear NB y0 y1 y2 y3 y4 y5 y6 y7 HC1
  by_cases hF : F = 0
  · rw [errV_nil hF]
    have eB : B = ofB Y := by rw [HBB.out, if_pos hF]
    have C3 := HC2.out hF w2 hB3
    have HE : Hid (F = 0 ∧ B = ofB Y) := ⟨hF, eB⟩
    clear hF eB
    clear HC2 HBB
    obtain ⟨y0, y1, y2, y3, y4, y5, y6, y7⟩ := NB3
    go_wp2_with fail
    refine Calls.mono C3.out ?_
    rintro e w4 ⟨v4, rfl, hrow, hB4⟩
    have hcv := conv_row hrow rfl HP
    clear y0 y1 y2 y3 y4 y5 y6 y7 C3
    go_wp2
    go_ret2
    exact ⟨by rw [HE.out.2, HE.out.1]; rfl, hB3.trans (hB4.mono hB3.size)⟩
  · have eB : B = ⟨#[]⟩ := by rw [HBB.out, if_neg hF]
    rw [errV_of rfl hF]
    have HFF : Hid (F ≠ 0) := hF
    clear hF HC2 HBB
    go_wp2
    go_ret2
    exact ⟨by rw [eB, errV_of rfl HFF.out]; rfl, hB3⟩

end Go.Proofs.Ytkkhfnkmfkdhiab
