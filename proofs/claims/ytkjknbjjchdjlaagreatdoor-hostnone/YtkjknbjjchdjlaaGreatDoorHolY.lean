/-
  A NEW BOX THAT MAY BE: checkAsked, begin, New: the walks.
-/
import Derived.Test.YtkjknbjjchdjlaaGreatDoorPaX
namespace Go.Proofs.YtkjknbjjchdjlaaGreatDoor
open Go.RowKit
/-- A box that may be, over no lowers. -/
def GdOk (us gs : List Rg) (cs : List Int) (cu cg ck q : Int) (xs : List Nd) : Prop := (mapF us = 0 ∧ mapF gs = 0 ∧ credF cu cg cs ck = 0 ∧ 1 ≤ q ∧ q ≤ 64) ∧ xs = [] ∧ mvF true us gs (.mk 2 493 cu cg false [] ⟨#[]⟩ []) ≠ none
/-- What New answers. -/
def NwG (w w' : World) (cs : List Int) (e : Ending) : Prop := ∃ b B ux gx, e = .returned (.tuple #[.pointer (some ⟨b, 0, none⟩), .nilIface]) ∧ w.heap.size ≤ b ∧ BxV w' b B ∧ B.xs = [.mk 2 493 ux gx false [] ⟨#[]⟩ []] ∧ B.cs = cs ∧ idB ux = true ∧ idB gx = true
set_option maxRecDepth 100000 in
set_option maxHeartbeats 1000000 in
theorem bask2_any {w : World} {ua ga ca lwa : Option Addr} {uc gc cc lwn lwc : Nat} {us gs : List Rg} {cs : List Int} {cu cg ck q : Int} (hu : Rgs w ua us) (hg : Rgs w ga gs) (hul : us.length ≤ 100) (hgl : gs.length ≤ 100) (huc : us.length ≤ uc) (hgc : gs.length ≤ gc) (hou : ∀ r ∈ us, r.ok) (hog : ∀ r ∈ gs, r.ok) (hc : Ints w ca cs) (hcl : cs.length ≤ 8) (hG : (mapF us = 0 ∧ mapF gs = 0 ∧ credF cu cg cs ck = 0 ∧ 1 ≤ q ∧ q ≤ 64)) :
    Calls Tryz.prog 68 #[.agg #[.slice ua us.length uc, .slice ga gs.length gc, .int .i64 cu, .int .i64 cg, .slice ca cs.length cc, .int .i64 ck, .int .i64 q, .slice lwa lwn lwc]] w fun e w' => e = .returned .nilIface ∧ Below w.heap.size w w' := by
  have hb1 : Below w.heap.size w (w.alloc (.cells #[.slice ua us.length uc, .slice ga gs.length gc, .int .i64 cu, .int .i64 cg, .slice ca cs.length cc, .int .i64 ck, .int .i64 q, .slice lwa lwn lwc] 45)) := (Below.refl _ _).alloc (Nat.le_refl _) _
  have c0 : (w.alloc (.cells #[.slice ua us.length uc, .slice ga gs.length gc, .int .i64 cu, .int .i64 cg, .slice ca cs.length cc, .int .i64 ck, .int .i64 q, .slice lwa lwn lwc] 45)).cell? ⟨w.heap.size, 0, none⟩ = some (.slice ua us.length uc) := World.cell?_alloc_at _ _ _ _ rfl
  have c1 : (w.alloc (.cells #[.slice ua us.length uc, .slice ga gs.length gc, .int .i64 cu, .int .i64 cg, .slice ca cs.length cc, .int .i64 ck, .int .i64 q, .slice lwa lwn lwc] 45)).cell? ⟨w.heap.size, 1, none⟩ = some (.slice ga gs.length gc) := World.cell?_alloc_at _ _ _ _ rfl
  have c2 : (w.alloc (.cells #[.slice ua us.length uc, .slice ga gs.length gc, .int .i64 cu, .int .i64 cg, .slice ca cs.length cc, .int .i64 ck, .int .i64 q, .slice lwa lwn lwc] 45)).cell? ⟨w.heap.size, 2, none⟩ = some (.int .i64 cu) := World.cell?_alloc_at _ _ _ _ rfl
  have c3 : (w.alloc (.cells #[.slice ua us.length uc, .slice ga gs.length gc, .int .i64 cu, .int .i64 cg, .slice ca cs.length cc, .int .i64 ck, .int .i64 q, .slice lwa lwn lwc] 45)).cell? ⟨w.heap.size, 3, none⟩ = some (.int .i64 cg) := World.cell?_alloc_at _ _ _ _ rfl
  have c4 : (w.alloc (.cells #[.slice ua us.length uc, .slice ga gs.length gc, .int .i64 cu, .int .i64 cg, .slice ca cs.length cc, .int .i64 ck, .int .i64 q, .slice lwa lwn lwc] 45)).cell? ⟨w.heap.size, 4, none⟩ = some (.slice ca cs.length cc) := World.cell?_alloc_at _ _ _ _ rfl
  have c5 : (w.alloc (.cells #[.slice ua us.length uc, .slice ga gs.length gc, .int .i64 cu, .int .i64 cg, .slice ca cs.length cc, .int .i64 ck, .int .i64 q, .slice lwa lwn lwc] 45)).cell? ⟨w.heap.size, 5, none⟩ = some (.int .i64 ck) := World.cell?_alloc_at _ _ _ _ rfl
  have c6 : (w.alloc (.cells #[.slice ua us.length uc, .slice ga gs.length gc, .int .i64 cu, .int .i64 cg, .slice ca cs.length cc, .int .i64 ck, .int .i64 q, .slice lwa lwn lwc] 45)).cell? ⟨w.heap.size, 6, none⟩ = some (.int .i64 q) := World.cell?_alloc_at _ _ _ _ rfl
  have HM1 : Hid (Calls Tryz.prog 87 #[.slice ua us.length uc] (w.alloc (.cells #[.slice ua us.length uc, .slice ga gs.length gc, .int .i64 cu, .int .i64 cg, .slice ca cs.length cc, .int .i64 ck, .int .i64 q, .slice lwa lwn lwc] 45)) fun e w' => e = .returned (errV (mapF us)) ∧ Below (w.alloc (.cells #[.slice ua us.length uc, .slice ga gs.length gc, .int .i64 cu, .int .i64 cg, .slice ca cs.length cc, .int .i64 ck, .int .i64 q, .slice lwa lwn lwc] 45)).heap.size (w.alloc (.cells #[.slice ua us.length uc, .slice ga gs.length gc, .int .i64 cu, .int .i64 cg, .slice ca cs.length cc, .int .i64 ck, .int .i64 q, .slice lwa lwn lwc] 45)) w') := checkM_any ua uc us _ hul huc hou (hu.below hb1)
  have HB : Hid (Below w.heap.size w (w.alloc (.cells #[.slice ua us.length uc, .slice ga gs.length gc, .int .i64 cu, .int .i64 cg, .slice ca cs.length cc, .int .i64 ck, .int .i64 q, .slice lwa lwn lwc] 45))) := hb1
  have HG : Hid (Rgs w ga gs ∧ gs.length ≤ 100 ∧ gs.length ≤ gc ∧ ∀ r ∈ gs, r.ok) := ⟨hg, hgl, hgc, hog⟩
  have HI : Hid (Ints w ca cs ∧ cs.length ≤ 8) := ⟨hc, hcl⟩
  obtain ⟨F1, HF1⟩ : ∃ F, Hid (mapF us = F) := ⟨_, rfl⟩
  obtain ⟨F2, HF2⟩ : ∃ F, Hid (mapF gs = F) := ⟨_, rfl⟩
  obtain ⟨F3, HF3⟩ : ∃ F, Hid (credF cu cg cs ck = F) := ⟨_, rfl⟩
  rw [HF1.out] at HM1
  have HGG : Hid (mapF us = 0 ∧ mapF gs = 0 ∧ credF cu cg cs ck = 0 ∧ 1 ≤ q ∧ q ≤ 64) := hG
  clear hG
  clear hu hg hul hgl huc hgc hou hog hc hcl hb1
  go_enter Tryz.func68, Tryz.ntmps68
  go_upto_region 1 with fail
  generalize w.alloc (.cells #[.slice ua us.length uc, .slice ga gs.length gc, .int .i64 cu, .int .i64 cg, .slice ca cs.length cc, .int .i64 ck, .int .i64 q, .slice lwa lwn lwc] 45) = w1 at *
  generalize w.heap.size = cb at c0 c1 c2 c3 c4 c5 c6 ⊢
  go_wp2_with fail
  refine Calls.mono HM1.out ?_
  rintro e w2 ⟨rfl, q2⟩
  have B2 : Hid (Below w.heap.size w w2) := HB.out.trans (q2.mono HB.out.size)
  replace c1 := blwV q2 c1
  replace c2 := blwV q2 c2
  replace c3 := blwV q2 c3
  replace c4 := blwV q2 c4
  replace c5 := blwV q2 c5
  replace c6 := blwV q2 c6
  clear HM1 q2 c0
  by_cases h1 : F1 = 0
  case neg => exact absurd (HF1.out.symm.trans HGG.out.1) h1
  case pos =>
    subst h1
    rw [show errV 0 = Value.nilIface from rfl]
    have HM2 : Hid (Calls Tryz.prog 87 #[.slice ga gs.length gc] w2 fun e w' => e = .returned (errV F2) ∧ Below w2.heap.size w2 w') := by
      have e := checkM_any ga gc gs w2 HG.out.2.1 HG.out.2.2.1 HG.out.2.2.2 (HG.out.1.below B2.out)
      rw [HF2.out] at e
      exact e
    go_wp2_with fail
    refine Calls.mono HM2.out ?_
    rintro e w3 ⟨rfl, q3⟩
    have B3 : Hid (Below w.heap.size w w3) := B2.out.trans (q3.mono B2.out.size)
    replace c2 := blwV q3 c2
    replace c3 := blwV q3 c3
    replace c4 := blwV q3 c4
    replace c5 := blwV q3 c5
    replace c6 := blwV q3 c6
    clear HM2 q3 c1
    by_cases h2 : F2 = 0
    case neg => exact absurd (HF2.out.symm.trans HGG.out.2.1) h2
    case pos =>
      subst h2
      rw [show errV 0 = Value.nilIface from rfl]
      have HC : Hid (Calls Tryz.prog 83 #[.agg #[.int .i64 cu, .int .i64 cg, .slice ca cs.length cc, .int .i64 ck]] w3 fun e w' => e = .returned (errV F3) ∧ Below w3.heap.size w3 w') := by
        have e := ccheck_any cu cg ck ca cc cs w3 HI.out.2 (HI.out.1.below B3.out)
        rw [HF3.out] at e
        exact e
      go_wp2_with fail
      refine Calls.mono HC.out ?_
      rintro e w4 ⟨rfl, q4⟩
      have B4 : Hid (Below w.heap.size w w4) := B3.out.trans (q4.mono B3.out.size)
      replace c6 := blwV q4 c6
      clear HC q4 c2 c3 c4 c5
      by_cases h3 : F3 = 0
      case neg => exact absurd (HF3.out.symm.trans HGG.out.2.2.1) h3
      case pos =>
        subst h3
        rw [show errV 0 = Value.nilIface from rfl]
        have hq := HGG.out.2.2.2
        have d1 : decide (q < 1) = false := decide_eq_false (by omega)
        have d2 : decide (64 < q) = false := decide_eq_false (by omega)
        clear hq
        go_wp2
        go_ret
        exact ⟨rfl, B4.out⟩
set_option maxRecDepth 100000 in
set_option maxHeartbeats 4000000 in
theorem bbegin2_any {w : World} {ua ga ca lwa : Option Addr} {uc gc cc lwn lwc : Nat} {us gs : List Rg} {cs : List Int} {cu cg ck q : Int} (hu : Rgs w ua us) (hg : Rgs w ga gs) (hul : us.length ≤ 100) (hgl : gs.length ≤ 100) (huc : us.length ≤ uc) (hgc : gs.length ≤ gc) (hou : ∀ r ∈ us, r.ok) (hog : ∀ r ∈ gs, r.ok) (hc : Ints w ca cs) (hcl : cs.length ≤ 8) (hid : I64 cu ∧ I64 cg)
    {a : Option Addr} {cap : Nat} {xs : List Nd} (hx : NsV w.cell? a xs) (hG : GdOk us gs cs cu cg ck q xs) :
    Calls Tryz.prog 42 #[.agg #[.slice ua us.length uc, .slice ga gs.length gc, .int .i64 cu, .int .i64 cg, .slice ca cs.length cc, .int .i64 ck, .int .i64 q, .slice lwa lwn lwc], .slice a xs.length cap] w fun e w' => (∃ y h, e = .returned (.tuple #[ndV y h, .nilIface]) ∧ NdV w'.cell? y h ∧ mvF true us gs (.mk 2 493 cu cg false [] ⟨#[]⟩ []) = some y) ∧ Below w.heap.size w w' := by
  have hb0 : Below w.heap.size w (w.alloc (.cells #[.slice ua us.length uc, .slice ga gs.length gc, .int .i64 cu, .int .i64 cg, .slice ca cs.length cc, .int .i64 ck, .int .i64 q, .slice lwa lwn lwc] 45)) := (Below.refl _ _).alloc (Nat.le_refl _) _
  have hb1 : Below w.heap.size w ((w.alloc (.cells #[.slice ua us.length uc, .slice ga gs.length gc, .int .i64 cu, .int .i64 cg, .slice ca cs.length cc, .int .i64 ck, .int .i64 q, .slice lwa lwn lwc] 45)).alloc (.cells #[.int .i64 0, .int .i64 0, .int .i64 0, .int .i64 0, .bool false, .slice none 0 0, .string ⟨#[]⟩, .slice none 0 0] 102)) := hb0.alloc hb0.size _
  have s1 : (w.alloc (.cells #[.slice ua us.length uc, .slice ga gs.length gc, .int .i64 cu, .int .i64 cg, .slice ca cs.length cc, .int .i64 ck, .int .i64 q, .slice lwa lwn lwc] 45)).heap.size = w.heap.size + 1 := World.size_alloc _ _
  have c0 : ((w.alloc (.cells #[.slice ua us.length uc, .slice ga gs.length gc, .int .i64 cu, .int .i64 cg, .slice ca cs.length cc, .int .i64 ck, .int .i64 q, .slice lwa lwn lwc] 45)).alloc (.cells #[.int .i64 0, .int .i64 0, .int .i64 0, .int .i64 0, .bool false, .slice none 0 0, .string ⟨#[]⟩, .slice none 0 0] 102)).cell? ⟨w.heap.size, 0, none⟩ = some (.slice ua us.length uc) := alc (World.cell?_alloc_at _ _ _ _ rfl)
  have c1 : ((w.alloc (.cells #[.slice ua us.length uc, .slice ga gs.length gc, .int .i64 cu, .int .i64 cg, .slice ca cs.length cc, .int .i64 ck, .int .i64 q, .slice lwa lwn lwc] 45)).alloc (.cells #[.int .i64 0, .int .i64 0, .int .i64 0, .int .i64 0, .bool false, .slice none 0 0, .string ⟨#[]⟩, .slice none 0 0] 102)).cell? ⟨w.heap.size, 1, none⟩ = some (.slice ga gs.length gc) := alc (World.cell?_alloc_at _ _ _ _ rfl)
  have c2 : ((w.alloc (.cells #[.slice ua us.length uc, .slice ga gs.length gc, .int .i64 cu, .int .i64 cg, .slice ca cs.length cc, .int .i64 ck, .int .i64 q, .slice lwa lwn lwc] 45)).alloc (.cells #[.int .i64 0, .int .i64 0, .int .i64 0, .int .i64 0, .bool false, .slice none 0 0, .string ⟨#[]⟩, .slice none 0 0] 102)).cell? ⟨w.heap.size, 2, none⟩ = some (.int .i64 cu) := alc (World.cell?_alloc_at _ _ _ _ rfl)
  have c3 : ((w.alloc (.cells #[.slice ua us.length uc, .slice ga gs.length gc, .int .i64 cu, .int .i64 cg, .slice ca cs.length cc, .int .i64 ck, .int .i64 q, .slice lwa lwn lwc] 45)).alloc (.cells #[.int .i64 0, .int .i64 0, .int .i64 0, .int .i64 0, .bool false, .slice none 0 0, .string ⟨#[]⟩, .slice none 0 0] 102)).cell? ⟨w.heap.size, 3, none⟩ = some (.int .i64 cg) := alc (World.cell?_alloc_at _ _ _ _ rfl)
  have c4 : ((w.alloc (.cells #[.slice ua us.length uc, .slice ga gs.length gc, .int .i64 cu, .int .i64 cg, .slice ca cs.length cc, .int .i64 ck, .int .i64 q, .slice lwa lwn lwc] 45)).alloc (.cells #[.int .i64 0, .int .i64 0, .int .i64 0, .int .i64 0, .bool false, .slice none 0 0, .string ⟨#[]⟩, .slice none 0 0] 102)).cell? ⟨w.heap.size, 4, none⟩ = some (.slice ca cs.length cc) := alc (World.cell?_alloc_at _ _ _ _ rfl)
  have c5 : ((w.alloc (.cells #[.slice ua us.length uc, .slice ga gs.length gc, .int .i64 cu, .int .i64 cg, .slice ca cs.length cc, .int .i64 ck, .int .i64 q, .slice lwa lwn lwc] 45)).alloc (.cells #[.int .i64 0, .int .i64 0, .int .i64 0, .int .i64 0, .bool false, .slice none 0 0, .string ⟨#[]⟩, .slice none 0 0] 102)).cell? ⟨w.heap.size, 5, none⟩ = some (.int .i64 ck) := alc (World.cell?_alloc_at _ _ _ _ rfl)
  have c6 : ((w.alloc (.cells #[.slice ua us.length uc, .slice ga gs.length gc, .int .i64 cu, .int .i64 cg, .slice ca cs.length cc, .int .i64 ck, .int .i64 q, .slice lwa lwn lwc] 45)).alloc (.cells #[.int .i64 0, .int .i64 0, .int .i64 0, .int .i64 0, .bool false, .slice none 0 0, .string ⟨#[]⟩, .slice none 0 0] 102)).cell? ⟨w.heap.size, 6, none⟩ = some (.int .i64 q) := alc (World.cell?_alloc_at _ _ _ _ rfl)
  have c7 : ((w.alloc (.cells #[.slice ua us.length uc, .slice ga gs.length gc, .int .i64 cu, .int .i64 cg, .slice ca cs.length cc, .int .i64 ck, .int .i64 q, .slice lwa lwn lwc] 45)).alloc (.cells #[.int .i64 0, .int .i64 0, .int .i64 0, .int .i64 0, .bool false, .slice none 0 0, .string ⟨#[]⟩, .slice none 0 0] 102)).cell? ⟨w.heap.size, 7, none⟩ = some (.slice lwa lwn lwc) := alc (World.cell?_alloc_at _ _ _ _ rfl)
  have ZB1 : Hid (ZnB ((w.alloc (.cells #[.slice ua us.length uc, .slice ga gs.length gc, .int .i64 cu, .int .i64 cg, .slice ca cs.length cc, .int .i64 ck, .int .i64 q, .slice lwa lwn lwc] 45)).alloc (.cells #[.int .i64 0, .int .i64 0, .int .i64 0, .int .i64 0, .bool false, .slice none 0 0, .string ⟨#[]⟩, .slice none 0 0] 102)) (w.heap.size + 1)) := by
    have e := ZnB.new (w.alloc (.cells #[.slice ua us.length uc, .slice ga gs.length gc, .int .i64 cu, .int .i64 cg, .slice ca cs.length cc, .int .i64 ck, .int .i64 q, .slice lwa lwn lwc] 45))
    rw [s1] at e
    exact e
  have HAK : Hid (Calls Tryz.prog 68 #[.agg #[.slice ua us.length uc, .slice ga gs.length gc, .int .i64 cu, .int .i64 cg, .slice ca cs.length cc, .int .i64 ck, .int .i64 q, .slice lwa lwn lwc]] ((w.alloc (.cells #[.slice ua us.length uc, .slice ga gs.length gc, .int .i64 cu, .int .i64 cg, .slice ca cs.length cc, .int .i64 ck, .int .i64 q, .slice lwa lwn lwc] 45)).alloc (.cells #[.int .i64 0, .int .i64 0, .int .i64 0, .int .i64 0, .bool false, .slice none 0 0, .string ⟨#[]⟩, .slice none 0 0] 102)) fun e w' => e = .returned .nilIface ∧ Below ((w.alloc (.cells #[.slice ua us.length uc, .slice ga gs.length gc, .int .i64 cu, .int .i64 cg, .slice ca cs.length cc, .int .i64 ck, .int .i64 q, .slice lwa lwn lwc] 45)).alloc (.cells #[.int .i64 0, .int .i64 0, .int .i64 0, .int .i64 0, .bool false, .slice none 0 0, .string ⟨#[]⟩, .slice none 0 0] 102)).heap.size ((w.alloc (.cells #[.slice ua us.length uc, .slice ga gs.length gc, .int .i64 cu, .int .i64 cg, .slice ca cs.length cc, .int .i64 ck, .int .i64 q, .slice lwa lwn lwc] 45)).alloc (.cells #[.int .i64 0, .int .i64 0, .int .i64 0, .int .i64 0, .bool false, .slice none 0 0, .string ⟨#[]⟩, .slice none 0 0] 102)) w') := bask2_any (hu.below hb1) (hg.below hb1) hul hgl huc hgc hou hog (hc.below hb1) hcl hG.1
  have HMO : Hid (MapsOk w ⟨ua, ga, uc, gc, us, gs⟩) := ⟨hu, hg, hul, hgl, huc, hgc, hou, hog⟩
  have HB1 : Hid (Below w.heap.size w ((w.alloc (.cells #[.slice ua us.length uc, .slice ga gs.length gc, .int .i64 cu, .int .i64 cg, .slice ca cs.length cc, .int .i64 ck, .int .i64 q, .slice lwa lwn lwc] 45)).alloc (.cells #[.int .i64 0, .int .i64 0, .int .i64 0, .int .i64 0, .bool false, .slice none 0 0, .string ⟨#[]⟩, .slice none 0 0] 102))) := hb1
  have HX : Hid (NsV w.cell? a xs) := hx
  have HIDS : Hid (I64 cu ∧ I64 cg) := hid
  obtain ⟨N, HN⟩ : ∃ N, Hid (xs.length = N) := ⟨_, rfl⟩
  rw [HN.out] at ⊢
  have HGG : Hid (GdOk us gs cs cu cg ck q xs) := hG
  clear hG
  clear hu hg hul hgl huc hgc hou hog hc hcl hid hx hb0 hb1 s1
  go_enter Tryz.func42, Tryz.ntmps42
  go_upto_region 1 with fail
  generalize ((w.alloc (.cells #[.slice ua us.length uc, .slice ga gs.length gc, .int .i64 cu, .int .i64 cg, .slice ca cs.length cc, .int .i64 ck, .int .i64 q, .slice lwa lwn lwc] 45)).alloc (.cells #[.int .i64 0, .int .i64 0, .int .i64 0, .int .i64 0, .bool false, .slice none 0 0, .string ⟨#[]⟩, .slice none 0 0] 102)) = w1 at *
  obtain ⟨cb, HCB⟩ : ∃ cb, Hid (w.heap.size = cb) := ⟨_, rfl⟩
  go_wp2_with fail
  refine Calls.mono HAK.out ?_
  rintro e w2 ⟨rfl, q2⟩
  have B2 : Hid (Below w.heap.size w w2) := HB1.out.trans (q2.mono HB1.out.size)
  have ZB2 : Hid (ZnB w2 (w.heap.size + 1)) := ZB1.out.below q2
  replace c0 := blwV q2 c0
  replace c1 := blwV q2 c1
  replace c2 := blwV q2 c2
  replace c3 := blwV q2 c3
  clear HAK q2 ZB1 HB1 c4 c5 c6 c7
  have hN0 : N = 0 := by rw [← HN.out, HGG.out.2.1]; rfl
  subst hN0
  have HI0 : Hid (Below w.heap.size w w2 ∧ ZnB w2 (w.heap.size + 1) ∧ w2.cell? ⟨cb, 0, none⟩ = some (.slice ua us.length uc) ∧ w2.cell? ⟨cb, 1, none⟩ = some (.slice ga gs.length gc) ∧ w2.cell? ⟨cb, 2, none⟩ = some (.int .i64 cu) ∧ w2.cell? ⟨cb, 3, none⟩ = some (.int .i64 cg)) := by rw [← HCB.out]; exact ⟨B2.out, ZB2.out, c0, c1, c2, c3⟩
  clear c0 c1 c2 c3
  go_upto_region 6 with fail
  go_wp2
  go_loopw [23] (fun i wr => ∃ j : Nat, j ≤ 0 ∧ i = .int .i64 j ∧ Hid (Below w.heap.size w wr ∧ ZnB wr (w.heap.size + 1) ∧ wr.cell? ⟨cb, 0, none⟩ = some (.slice ua us.length uc) ∧ wr.cell? ⟨cb, 1, none⟩ = some (.slice ga gs.length gc) ∧ wr.cell? ⟨cb, 2, none⟩ = some (.int .i64 cu) ∧ wr.cell? ⟨cb, 3, none⟩ = some (.int .i64 cg))) (fun i _ => 0)
  case atStart => exact ⟨0, Nat.zero_le _, rfl, HI0⟩
  case round =>
    clear HI0 B2 ZB2
    obtain ⟨j, hj, rfl, HQ⟩ := hrel
    obtain rfl : j = 0 := by omega
    obtain ⟨b1, b2, c0, c1, c2, c3⟩ := id HQ.out
    rw [← HCB.out] at c0 c1 c2 c3
    have BR : Hid (Below w.heap.size w wr) := b1
    have ZBR : Hid (ZnB wr (w.heap.size + 1)) := b2
    have HOU : Hid _ := outside_co (W := wr) (S := fun _ => false) (fun _ hk => (by cases hk)) (x := (.mk 2 493 cu cg false [] ⟨#[]⟩ [])) (h := zH) (by rw [offS_no]; exact bare_in _ _ _ _ _ _ _) (lim_of _ (by rw [cnt, cntL]; omega) (by rw [Lil, LilL]; exact ⟨⟨by decide, fun r hr => (by cases hr)⟩, by decide, trivial⟩)) (by rw [cnt, cntL]; omega) HIDS.out (M := ⟨ua, ga, uc, gc, us, gs⟩) (HMO.out.below b1)
    obtain ⟨R, HR⟩ : ∃ R, Hid (mvF true us gs (.mk 2 493 cu cg false [] ⟨#[]⟩ []) = R) := ⟨_, rfl⟩
    have HOU : Hid (Calls Tryz.prog 70 #[.agg #[.slice ua us.length uc, .slice ga gs.length gc], .agg #[.int .i64 2, .int .i64 493, .int .i64 cu, .int .i64 cg, .bool false, .slice none 0 0, .string ⟨#[]⟩, .slice none 0 0]] wr fun e W' => MvE wr W' (fun _ => false) e R) := by
      have e := HOU.out
      rw [HR.out] at e
      exact e
    clear b1 b2 HQ
    go_upto_region 13 with fail
    go_wp2_with fail
    refine Calls.mono HOU.out ?_
    cases R with
    | none => exact absurd HR.out HGG.out.2.2
    | some y =>
      rintro e w5 ⟨⟨h5, rfl, n5⟩, q5⟩
      rw [offS_no] at n5
      have HN5 : Hid (NdV w5.cell? y h5) := n5
      have B5 : Hid (Below w.heap.size w w5) := BR.out.trans (q5.mono BR.out.size)
      have ZB5 : Hid (ZnB w5 (w.heap.size + 1)) := ZBR.out.below q5
      clear q5 HOU c0 c1 c2 c3 n5
      obtain ⟨k, m, u, g, o, at_, d, ks⟩ := y
      rw [show ndV (.mk k m u g o at_ d ks) h5 = .agg #[.int .i64 k, .int .i64 m, .int .i64 u, .int .i64 g, .bool o, .slice h5.aa at_.length h5.ca, .string d, .slice h5.ak ks.length h5.ck] from rfl]
      have z3 := ZB5.out
      obtain ⟨NF, XF, BF, EF⟩ := z3.store (x := (.mk k m u g o at_ d ks)) (hd := h5) HN5.out
      have HXF : Hid (NdV (stB w5 (w.heap.size + 1) (.mk k m u g o at_ d ks) h5).cell? (.mk k m u g o at_ d ks) h5) := XF
      have HBF : Hid (Below w.heap.size w (stB w5 (w.heap.size + 1) (.mk k m u g o at_ d ks) h5)) := (B5.out).trans (BF.below (Nat.le_succ _) (B5.out).size)
      obtain ⟨wF, hwF⟩ : ∃ wF, stB w5 (w.heap.size + 1) (.mk k m u g o at_ d ks) h5 = wF := ⟨_, rfl⟩
      rw [hwF] at NF HXF HBF
      simp only [stB] at hwF
      obtain ⟨⟨z0, z1, z2, z4, z5, z6, z7, z8⟩, zf⟩ := z3.1
      have y0 := zf 0
      have y1 := zf 1
      have y2 := zf 2
      have y3 := zf 3
      have y4 := zf 4
      have y5 := zf 5
      have y6 := zf 6
      have y7 := zf 7
      obtain ⟨⟨g0, g1, g2, g3, g4, g5, g6, g7⟩, _⟩ := NF
      have HWF : Hid _ := hwF
      clear hwF zf XF BF EF z3
      go_wp2
      rw [HWF.out]
      refine bodyPost_ret (v := .tuple #[.agg #[.int .i64 k, .int .i64 m, .int .i64 u, .int .i64 g, .bool o, .slice h5.aa at_.length h5.ca, .string d, .slice h5.ak ks.length h5.ck], .nilIface]) (by simp [results, Tryz.results42, go_sem, g0, g1, g2, g3, g4, g5, g6, g7]) rfl ⟨⟨(.mk k m u g o at_ d ks), h5, rfl, HXF.out, HR.out⟩, HBF.out⟩
set_option maxRecDepth 100000 in
set_option maxHeartbeats 4000000 in
theorem bnew2_any {w : World} {ua ga ca lwa : Option Addr} {uc gc cc lwn lwc : Nat} {us gs : List Rg} {cs : List Int} {cu cg ck q : Int} (hu : Rgs w ua us) (hg : Rgs w ga gs) (hul : us.length ≤ 100) (hgl : gs.length ≤ 100) (huc : us.length ≤ uc) (hgc : gs.length ≤ gc) (hou : ∀ r ∈ us, r.ok) (hog : ∀ r ∈ gs, r.ok) (hc : Ints w ca cs) (hcl : cs.length ≤ 8) (hid : I64 cu ∧ I64 cg)
    {a : Option Addr} {cap : Nat} {xs : List Nd} (hx : NsV w.cell? a xs) (hG : GdOk us gs cs cu cg ck q xs) :
    Calls Tryz.prog 20 #[.agg #[.slice ua us.length uc, .slice ga gs.length gc, .int .i64 cu, .int .i64 cg, .slice ca cs.length cc, .int .i64 ck, .int .i64 q, .slice lwa lwn lwc], .slice a xs.length cap] w fun e w' => NwG w w' cs e ∧ Below w.heap.size w w' := by
  have hb1 : Below w.heap.size w (w.alloc (.cells #[.slice ua us.length uc, .slice ga gs.length gc, .int .i64 cu, .int .i64 cg, .slice ca cs.length cc, .int .i64 ck, .int .i64 q, .slice lwa lwn lwc] 45)) := (Below.refl _ _).alloc (Nat.le_refl _) _
  have c0 : (w.alloc (.cells #[.slice ua us.length uc, .slice ga gs.length gc, .int .i64 cu, .int .i64 cg, .slice ca cs.length cc, .int .i64 ck, .int .i64 q, .slice lwa lwn lwc] 45)).cell? ⟨w.heap.size, 0, none⟩ = some (.slice ua us.length uc) := World.cell?_alloc_at _ _ _ _ rfl
  have c1 : (w.alloc (.cells #[.slice ua us.length uc, .slice ga gs.length gc, .int .i64 cu, .int .i64 cg, .slice ca cs.length cc, .int .i64 ck, .int .i64 q, .slice lwa lwn lwc] 45)).cell? ⟨w.heap.size, 1, none⟩ = some (.slice ga gs.length gc) := World.cell?_alloc_at _ _ _ _ rfl
  have c2 : (w.alloc (.cells #[.slice ua us.length uc, .slice ga gs.length gc, .int .i64 cu, .int .i64 cg, .slice ca cs.length cc, .int .i64 ck, .int .i64 q, .slice lwa lwn lwc] 45)).cell? ⟨w.heap.size, 2, none⟩ = some (.int .i64 cu) := World.cell?_alloc_at _ _ _ _ rfl
  have c3 : (w.alloc (.cells #[.slice ua us.length uc, .slice ga gs.length gc, .int .i64 cu, .int .i64 cg, .slice ca cs.length cc, .int .i64 ck, .int .i64 q, .slice lwa lwn lwc] 45)).cell? ⟨w.heap.size, 3, none⟩ = some (.int .i64 cg) := World.cell?_alloc_at _ _ _ _ rfl
  have c4 : (w.alloc (.cells #[.slice ua us.length uc, .slice ga gs.length gc, .int .i64 cu, .int .i64 cg, .slice ca cs.length cc, .int .i64 ck, .int .i64 q, .slice lwa lwn lwc] 45)).cell? ⟨w.heap.size, 4, none⟩ = some (.slice ca cs.length cc) := World.cell?_alloc_at _ _ _ _ rfl
  have c5 : (w.alloc (.cells #[.slice ua us.length uc, .slice ga gs.length gc, .int .i64 cu, .int .i64 cg, .slice ca cs.length cc, .int .i64 ck, .int .i64 q, .slice lwa lwn lwc] 45)).cell? ⟨w.heap.size, 5, none⟩ = some (.int .i64 ck) := World.cell?_alloc_at _ _ _ _ rfl
  have c6 : (w.alloc (.cells #[.slice ua us.length uc, .slice ga gs.length gc, .int .i64 cu, .int .i64 cg, .slice ca cs.length cc, .int .i64 ck, .int .i64 q, .slice lwa lwn lwc] 45)).cell? ⟨w.heap.size, 6, none⟩ = some (.int .i64 q) := World.cell?_alloc_at _ _ _ _ rfl
  have c7 : (w.alloc (.cells #[.slice ua us.length uc, .slice ga gs.length gc, .int .i64 cu, .int .i64 cg, .slice ca cs.length cc, .int .i64 ck, .int .i64 q, .slice lwa lwn lwc] 45)).cell? ⟨w.heap.size, 7, none⟩ = some (.slice lwa lwn lwc) := World.cell?_alloc_at _ _ _ _ rfl
  have HBG : Hid (Calls Tryz.prog 42 #[.agg #[.slice ua us.length uc, .slice ga gs.length gc, .int .i64 cu, .int .i64 cg, .slice ca cs.length cc, .int .i64 ck, .int .i64 q, .slice lwa lwn lwc], .slice a xs.length cap] (w.alloc (.cells #[.slice ua us.length uc, .slice ga gs.length gc, .int .i64 cu, .int .i64 cg, .slice ca cs.length cc, .int .i64 ck, .int .i64 q, .slice lwa lwn lwc] 45)) fun e w' => (∃ y h, e = .returned (.tuple #[ndV y h, .nilIface]) ∧ NdV w'.cell? y h ∧ mvF true us gs (.mk 2 493 cu cg false [] ⟨#[]⟩ []) = some y) ∧ Below (w.alloc (.cells #[.slice ua us.length uc, .slice ga gs.length gc, .int .i64 cu, .int .i64 cg, .slice ca cs.length cc, .int .i64 ck, .int .i64 q, .slice lwa lwn lwc] 45)).heap.size (w.alloc (.cells #[.slice ua us.length uc, .slice ga gs.length gc, .int .i64 cu, .int .i64 cg, .slice ca cs.length cc, .int .i64 ck, .int .i64 q, .slice lwa lwn lwc] 45)) w') := bbegin2_any (hu.below hb1) (hg.below hb1) hul hgl huc hgc hou hog (hc.below hb1) hcl hid (hx.on (mle_below hb1)) hG
  have HCU0 : Hid (∀ W, Below (w.alloc (.cells #[.slice ua us.length uc, .slice ga gs.length gc, .int .i64 cu, .int .i64 cg, .slice ca cs.length cc, .int .i64 ck, .int .i64 q, .slice lwa lwn lwc] 45)).heap.size (w.alloc (.cells #[.slice ua us.length uc, .slice ga gs.length gc, .int .i64 cu, .int .i64 cg, .slice ca cs.length cc, .int .i64 ck, .int .i64 q, .slice lwa lwn lwc] 45)) W → Calls Tryz.prog 44 #[.slice ua us.length uc] W fun e w' => (∃ ao c', e = .returned (.slice ao us.length c') ∧ (us.length ≤ c' ∧ c' ≤ 9223372036854775807) ∧ Rgs w' ao us ∧ (∀ p, ao = some p → p.block < w'.heap.size) ∧ ∀ p, ao = some p → us ≠ [] → W.heap.size ≤ p.block) ∧ Below W.heap.size W w') := fun W hb => cloneRg2_any uc ((hu.below hb1).below hb) hul
  have HCG0 : Hid (∀ W, Below (w.alloc (.cells #[.slice ua us.length uc, .slice ga gs.length gc, .int .i64 cu, .int .i64 cg, .slice ca cs.length cc, .int .i64 ck, .int .i64 q, .slice lwa lwn lwc] 45)).heap.size (w.alloc (.cells #[.slice ua us.length uc, .slice ga gs.length gc, .int .i64 cu, .int .i64 cg, .slice ca cs.length cc, .int .i64 ck, .int .i64 q, .slice lwa lwn lwc] 45)) W → Calls Tryz.prog 44 #[.slice ga gs.length gc] W fun e w' => (∃ ao c', e = .returned (.slice ao gs.length c') ∧ (gs.length ≤ c' ∧ c' ≤ 9223372036854775807) ∧ Rgs w' ao gs ∧ (∀ p, ao = some p → p.block < w'.heap.size) ∧ ∀ p, ao = some p → gs ≠ [] → W.heap.size ≤ p.block) ∧ Below W.heap.size W w') := fun W hb => cloneRg2_any gc ((hg.below hb1).below hb) hgl
  have HOW0 : Hid (∀ W, Below (w.alloc (.cells #[.slice ua us.length uc, .slice ga gs.length gc, .int .i64 cu, .int .i64 cg, .slice ca cs.length cc, .int .i64 ck, .int .i64 q, .slice lwa lwn lwc] 45)).heap.size (w.alloc (.cells #[.slice ua us.length uc, .slice ga gs.length gc, .int .i64 cu, .int .i64 cg, .slice ca cs.length cc, .int .i64 ck, .int .i64 q, .slice lwa lwn lwc] 45)) W → Calls Tryz.prog 45 #[.agg #[.int .i64 cu, .int .i64 cg, .slice ca cs.length cc, .int .i64 ck]] W fun e w' => (∃ ao c', e = .returned (.agg #[.int .i64 cu, .int .i64 cg, .slice ao cs.length c', .int .i64 ck]) ∧ (cs.length ≤ c' ∧ c' ≤ 9223372036854775807) ∧ Ints w' ao cs ∧ ∀ p, ao = some p → p.block < w'.heap.size) ∧ Below W.heap.size W w') := fun W hb => bown_any ((hc.below hb1).below hb) (by omega)
  have HB1 : Hid (Below w.heap.size w (w.alloc (.cells #[.slice ua us.length uc, .slice ga gs.length gc, .int .i64 cu, .int .i64 cg, .slice ca cs.length cc, .int .i64 ck, .int .i64 q, .slice lwa lwn lwc] 45))) := hb1
  have HCF : Hid ((w.alloc (.cells #[.slice ua us.length uc, .slice ga gs.length gc, .int .i64 cu, .int .i64 cg, .slice ca cs.length cc, .int .i64 ck, .int .i64 q, .slice lwa lwn lwc] 45)).cell? ⟨w.heap.size, 0, none⟩ = some (.slice ua us.length uc) ∧ (w.alloc (.cells #[.slice ua us.length uc, .slice ga gs.length gc, .int .i64 cu, .int .i64 cg, .slice ca cs.length cc, .int .i64 ck, .int .i64 q, .slice lwa lwn lwc] 45)).cell? ⟨w.heap.size, 1, none⟩ = some (.slice ga gs.length gc) ∧ (w.alloc (.cells #[.slice ua us.length uc, .slice ga gs.length gc, .int .i64 cu, .int .i64 cg, .slice ca cs.length cc, .int .i64 ck, .int .i64 q, .slice lwa lwn lwc] 45)).cell? ⟨w.heap.size, 2, none⟩ = some (.int .i64 cu) ∧ (w.alloc (.cells #[.slice ua us.length uc, .slice ga gs.length gc, .int .i64 cu, .int .i64 cg, .slice ca cs.length cc, .int .i64 ck, .int .i64 q, .slice lwa lwn lwc] 45)).cell? ⟨w.heap.size, 3, none⟩ = some (.int .i64 cg) ∧ (w.alloc (.cells #[.slice ua us.length uc, .slice ga gs.length gc, .int .i64 cu, .int .i64 cg, .slice ca cs.length cc, .int .i64 ck, .int .i64 q, .slice lwa lwn lwc] 45)).cell? ⟨w.heap.size, 4, none⟩ = some (.slice ca cs.length cc) ∧ (w.alloc (.cells #[.slice ua us.length uc, .slice ga gs.length gc, .int .i64 cu, .int .i64 cg, .slice ca cs.length cc, .int .i64 ck, .int .i64 q, .slice lwa lwn lwc] 45)).cell? ⟨w.heap.size, 5, none⟩ = some (.int .i64 ck) ∧ (w.alloc (.cells #[.slice ua us.length uc, .slice ga gs.length gc, .int .i64 cu, .int .i64 cg, .slice ca cs.length cc, .int .i64 ck, .int .i64 q, .slice lwa lwn lwc] 45)).cell? ⟨w.heap.size, 6, none⟩ = some (.int .i64 q)) := ⟨c0, c1, c2, c3, c4, c5, c6⟩
  have HX : Hid (NsV (w.alloc (.cells #[.slice ua us.length uc, .slice ga gs.length gc, .int .i64 cu, .int .i64 cg, .slice ca cs.length cc, .int .i64 ck, .int .i64 q, .slice lwa lwn lwc] 45)).cell? a xs) := hx.on (mle_below hb1)
  have HMO : Hid ((us.length ≤ 100 ∧ gs.length ≤ 100) ∧ (∀ r ∈ us, r.ok) ∧ (∀ r ∈ gs, r.ok) ∧ cs.length ≤ 8) := ⟨⟨hul, hgl⟩, hou, hog, hcl⟩
  have HSZ1 : Hid (w.heap.size < (w.alloc (.cells #[.slice ua us.length uc, .slice ga gs.length gc, .int .i64 cu, .int .i64 cg, .slice ca cs.length cc, .int .i64 ck, .int .i64 q, .slice lwa lwn lwc] 45)).heap.size) := by show _ < _; rw [World.size_alloc]; omega
  obtain ⟨i0, hi0, hi1, hi2, hi3⟩ := info_three Tryz.infoNd
  have HI0 : Hid _ := hi0
  have HI1 : Hid _ := hi1
  have HI2 : Hid _ := hi2
  have HI3 : Hid _ := hi3
  obtain ⟨N, HN⟩ : ∃ N, Hid (xs.length = N) := ⟨_, rfl⟩
  rw [HN.out] at HBG ⊢
  have HGG : Hid (GdOk us gs cs cu cg ck q xs) := hG
  clear hG
  clear hu hg hul hgl huc hgc hou hog hc hcl hid hx hb1 hi0 hi1 hi2 hi3
  go_enter Tryz.func20, Tryz.ntmps20
  go_upto_region 1 with fail
  generalize (w.alloc (.cells #[.slice ua us.length uc, .slice ga gs.length gc, .int .i64 cu, .int .i64 cg, .slice ca cs.length cc, .int .i64 ck, .int .i64 q, .slice lwa lwn lwc] 45)) = w1 at *
  go_wp2_with fail
  refine Calls.mono HBG.out ?_
  rintro e w2 ⟨⟨y, hy, rfl, ny, hBE⟩, q2⟩
  have HNY : Hid (NdV w2.cell? y hy) := ny
  have Q2 : Hid (Below w1.heap.size w1 w2) := q2
  obtain ⟨k, m, u, g, o, at_, d, ks⟩ := y
  rw [show ndV (.mk k m u g o at_ d ks) hy = .agg #[.int .i64 k, .int .i64 m, .int .i64 u, .int .i64 g, .bool o, .slice hy.aa at_.length hy.ca, .string d, .slice hy.ak ks.length hy.ck] from rfl]
  clear HBG ny q2
  have HBK : Hid (mvF true us gs (.mk 2 493 cu cg false [] ⟨#[]⟩ []) = some (.mk k m u g o at_ d ks)) := hBE
  clear hBE
  have hN0 : N = 0 := by rw [← HN.out, HGG.out.2.1]; rfl
  subst hN0
  have hbA := alloc_bel2 w2 (.cells #[.int .i64 k, .int .i64 m, .int .i64 u, .int .i64 g, .bool o, .slice hy.aa at_.length hy.ca, .string d, .slice hy.ak ks.length hy.ck] 102)
  have NB := NBw.new w2 k m u g o at_ d ks hy
  have QA : Hid (Below w1.heap.size w1 (w2.alloc (.cells #[.int .i64 k, .int .i64 m, .int .i64 u, .int .i64 g, .bool o, .slice hy.aa at_.length hy.ca, .string d, .slice hy.ak ks.length hy.ck] 102))) := Q2.out.trans (hbA.mono Q2.out.size)
  have HNA : Hid (NdV (w2.alloc (.cells #[.int .i64 k, .int .i64 m, .int .i64 u, .int .i64 g, .bool o, .slice hy.aa at_.length hy.ca, .string d, .slice hy.ak ks.length hy.ck] 102)).cell? (.mk k m u g o at_ d ks) hy) := HNY.out.on (mle_below hbA)
  obtain ⟨⟨f0, f1, f2, f3, f4, f5, f6, f7⟩, _⟩ := NB
  clear c0 c1 c2 c3 c4 c5 c6 c7 hbA HNY
  go_upto_region 4 with fail
  generalize w2.alloc (.cells #[.int .i64 k, .int .i64 m, .int .i64 u, .int .i64 g, .bool o, .slice hy.aa at_.length hy.ca, .string d, .slice hy.ak ks.length hy.ck] 102) = w3 at *
  generalize w2.heap.size = n3 at *
  have hbB := alloc_bel2 w3 (.cells #[.int .i64 k, .int .i64 m, .int .i64 u, .int .i64 g, .bool o, .slice hy.aa at_.length hy.ca, .string d, .slice hy.ak ks.length hy.ck] 102)
  have HCP0 : Hid (CpI w1 (.slice (some ⟨w3.heap.size, 0, none⟩) 1 1) [(⟨(.mk k m u g o at_ d ks), hy, 0⟩ : Fl)] (w3.alloc (.cells #[.int .i64 k, .int .i64 m, .int .i64 u, .int .i64 g, .bool o, .slice hy.aa at_.length hy.ca, .string d, .slice hy.ak ks.length hy.ck] 102))) := by
    refine ⟨QA.out.trans (hbB.mono QA.out.size), ⟨rfl, .inr ⟨w3.heap.size, 1, #[.int .i64 k, .int .i64 m, .int .i64 u, .int .i64 g, .bool o, .slice hy.aa at_.length hy.ca, .string d, .slice hy.ak ks.length hy.ck], rfl, QA.out.size, by unfold World.alloc; simp, Nat.le_refl _, by unfold maxLen; omega, rfl, rfl⟩⟩, fun f hf => ?_⟩
    have e : f = ⟨(.mk k m u g o at_ d ks), hy, 0⟩ := by simpa using hf
    subst e
    exact HNA.out.on (mle_hide hbB (fun k hk => by simp [Value.ownBlock]; omega))
  clear hbB
  go_upto_region 5 with fail
  clear f0 f1 f2 f3 f4 f5 f6 f7
  generalize hv0 : Value.slice (some ⟨w3.heap.size, 0, none⟩) 1 1 = v0 at HCP0 ⊢
  generalize w3.alloc (.cells #[.int .i64 k, .int .i64 m, .int .i64 u, .int .i64 g, .bool o, .slice hy.aa at_.length hy.ca, .string d, .slice hy.ak ks.length hy.ck] 102) = w4 at *
  clear hv0
  go_wp2
  go_loopw [8, 25] (fun v i wr => ∃ (j : Nat) (L : List Fl), j ≤ 0 ∧ i = .int .i64 j ∧ Hid (L.map Fl.x = (.mk k m u g o at_ d ks) :: xs.take j) ∧ Hid (L.length = 0 + 1) ∧ Hid (CpI w1 v L wr)) (fun _ _ _ => 0)
  case atStart => exact ⟨0, [(⟨(.mk k m u g o at_ d ks), hy, 0⟩ : Fl)], Nat.zero_le _, rfl, rfl, rfl, HCP0⟩
  case round =>
    clear HCP0
    obtain ⟨j, L, hj, rfl, HL, HLJ, HC⟩ := hrel
    obtain rfl : j = 0 := by omega
    have HLX : Hid (L.map Fl.x = (.mk k m u g o at_ d ks) :: xs) := by show _ = _; rw [HL.out, List.take_of_length_le (by rw [HN.out]; exact Nat.le_refl _)]
    obtain ⟨gl, lcp, rfl, hlc, hns⟩ := cp_ns HC.out (fun e => by have := HLJ.out; rw [e] at this; simp at this)
    rw [HLX.out] at hns
    have HNS : Hid (NsV wr.cell? (some ⟨gl, 0, none⟩) ((.mk k m u g o at_ d ks) :: xs)) := hns
    have HLC : Hid (0 + 1 ≤ lcp ∧ lcp ≤ 9223372036854775807) := by rw [← HLJ.out]; exact hlc
    have QR : Hid (Below w1.heap.size w1 wr) := HC.out.low
    have hlj := HLJ.out
    rw [hlj]
    clear hlj hlc hns HC HL HLX
    have HCU : Hid (∀ W, Below wr.heap.size wr W → Calls Tryz.prog 44 #[.slice ua us.length uc] W fun e w' => (∃ ao c', e = .returned (.slice ao us.length c') ∧ (us.length ≤ c' ∧ c' ≤ 9223372036854775807) ∧ Rgs w' ao us ∧ (∀ p, ao = some p → p.block < w'.heap.size) ∧ ∀ p, ao = some p → us ≠ [] → W.heap.size ≤ p.block) ∧ Below W.heap.size W w') := fun W hb => HCU0.out W (QR.out.trans (hb.mono QR.out.size))
    have HCG : Hid (∀ W, Below wr.heap.size wr W → Calls Tryz.prog 44 #[.slice ga gs.length gc] W fun e w' => (∃ ao c', e = .returned (.slice ao gs.length c') ∧ (gs.length ≤ c' ∧ c' ≤ 9223372036854775807) ∧ Rgs w' ao gs ∧ (∀ p, ao = some p → p.block < w'.heap.size) ∧ ∀ p, ao = some p → gs ≠ [] → W.heap.size ≤ p.block) ∧ Below W.heap.size W w') := fun W hb => HCG0.out W (QR.out.trans (hb.mono QR.out.size))
    have c0 := blwV QR.out HCF.out.1
    have c1' := blwV QR.out HCF.out.2.1
    go_upto_region 10 with fail
    have hltc : w.heap.size < wr.heap.size := World.block_lt_of_cell? wr ⟨w.heap.size, 0, none⟩ c0
    have HQ0 : Hid (Below wr.heap.size wr wr.drew) := (Below.refl _ _).drew
    have HQ1 : Hid (Below wr.heap.size wr (wr.alloc (.cells #[.slice none 0 0, .slice none 0 0] 40)).drew) := ((Below.refl _ _).alloc (Nat.le_refl _) _).drew
    have T5 : wr.drew.cell? ⟨w.heap.size, 0, none⟩ = some (.slice ua us.length uc) ∧ wr.drew.cell? ⟨w.heap.size, 1, none⟩ = some (.slice ga gs.length gc) := ⟨blwV HQ0.out c0, blwV HQ0.out c1'⟩
    have T5a : (wr.alloc (.cells #[.slice none 0 0, .slice none 0 0] 40)).drew.cell? ⟨w.heap.size, 0, none⟩ = some (.slice ua us.length uc) ∧ (wr.alloc (.cells #[.slice none 0 0, .slice none 0 0] 40)).drew.cell? ⟨w.heap.size, 1, none⟩ = some (.slice ga gs.length gc) := ⟨blwV HQ1.out c0, blwV HQ1.out c1'⟩
    have HC1 : Hid (Calls Tryz.prog 44 #[.slice ua us.length uc] wr.drew fun e w' => (∃ ao c', e = .returned (.slice ao us.length c') ∧ (us.length ≤ c' ∧ c' ≤ 9223372036854775807) ∧ Rgs w' ao us ∧ (∀ p, ao = some p → p.block < w'.heap.size) ∧ ∀ p, ao = some p → us ≠ [] → wr.drew.heap.size ≤ p.block) ∧ Below wr.drew.heap.size wr.drew w') := HCU.out _ HQ0.out
    have HC1a : Hid (Calls Tryz.prog 44 #[.slice ua us.length uc] (wr.alloc (.cells #[.slice none 0 0, .slice none 0 0] 40)).drew fun e w' => (∃ ao c', e = .returned (.slice ao us.length c') ∧ (us.length ≤ c' ∧ c' ≤ 9223372036854775807) ∧ Rgs w' ao us ∧ (∀ p, ao = some p → p.block < w'.heap.size) ∧ ∀ p, ao = some p → us ≠ [] → (wr.alloc (.cells #[.slice none 0 0, .slice none 0 0] 40)).drew.heap.size ≤ p.block) ∧ Below (wr.alloc (.cells #[.slice none 0 0, .slice none 0 0] 40)).drew.heap.size (wr.alloc (.cells #[.slice none 0 0, .slice none 0 0] 40)).drew w') := HCU.out _ HQ1.out
    go_region_held3 (fun w' => w'.cell? ⟨w.heap.size, 0, none⟩ = some (.slice ua us.length uc) ∧ w'.cell? ⟨w.heap.size, 1, none⟩ = some (.slice ga gs.length gc)) (first | with_reducible exact T5 | with_reducible exact T5a | with_reducible exact T6 | with_reducible exact T7 | (with_reducible exact ⟨alc T5.1, alc T5.2⟩) | (with_reducible exact ⟨alc T6.1, alc T6.2⟩) | (with_reducible exact ⟨alc T7.1, alc T7.2⟩) | exact ⟨(stc (by show w.heap.size ≠ w6.heap.size; have g4 := G4.out; omega)).trans ((stc (by show w.heap.size ≠ w6.heap.size; have g4 := G4.out; omega)).trans T7.1), (stc (by show w.heap.size ≠ w6.heap.size; have g4 := G4.out; omega)).trans ((stc (by show w.heap.size ≠ w6.heap.size; have g4 := G4.out; omega)).trans T7.2)⟩ | exact ⟨(stc (by show w.heap.size ≠ wr.heap.size; omega)).trans ((stc (by show w.heap.size ≠ wr.heap.size; omega)).trans T7.1), (stc (by show w.heap.size ≠ wr.heap.size; omega)).trans ((stc (by show w.heap.size ≠ wr.heap.size; omega)).trans T7.2)⟩) (first | (go_at_call 44; (with_reducible refine Calls.mono HC1.out ?_); rintro e w6 ⟨⟨ao, c1, rfl, hc6, hr6, hl6, hg6⟩, q6⟩; have Q6 : Hid (Below wr.heap.size wr w6) := HQ0.out.trans (q6.mono HQ0.out.size); have T6 : w6.cell? ⟨w.heap.size, 0, none⟩ = some (.slice ua us.length uc) ∧ w6.cell? ⟨w.heap.size, 1, none⟩ = some (.slice ga gs.length gc) := ⟨(Q6.out.cell (p := ⟨w.heap.size, 0, none⟩) hltc).trans c0, (Q6.out.cell (p := ⟨w.heap.size, 1, none⟩) hltc).trans c1'⟩; have R6 : Hid ((us.length ≤ c1 ∧ c1 ≤ 9223372036854775807) ∧ Rgs w6 ao us ∧ ∀ p, ao = some p → p.block < w6.heap.size) := ⟨hc6, hr6, hl6⟩; have HC2 : Hid (Calls Tryz.prog 44 #[.slice ga gs.length gc] w6 fun e w' => (∃ ao c', e = .returned (.slice ao gs.length c') ∧ (gs.length ≤ c' ∧ c' ≤ 9223372036854775807) ∧ Rgs w' ao gs ∧ (∀ p, ao = some p → p.block < w'.heap.size) ∧ ∀ p, ao = some p → gs ≠ [] → w6.heap.size ≤ p.block) ∧ Below w6.heap.size w6 w') := HCG.out w6 Q6.out; have HC2a : Hid (Calls Tryz.prog 44 #[.slice ga gs.length gc] (w6.alloc (.cells #[.slice none 0 0, .slice none 0 0] 40)) fun e w' => (∃ ao c', e = .returned (.slice ao gs.length c') ∧ (gs.length ≤ c' ∧ c' ≤ 9223372036854775807) ∧ Rgs w' ao gs ∧ (∀ p, ao = some p → p.block < w'.heap.size) ∧ ∀ p, ao = some p → gs ≠ [] → (w6.alloc (.cells #[.slice none 0 0, .slice none 0 0] 40)).heap.size ≤ p.block) ∧ Below (w6.alloc (.cells #[.slice none 0 0, .slice none 0 0] 40)).heap.size (w6.alloc (.cells #[.slice none 0 0, .slice none 0 0] 40)) w') := HCG.out _ (Q6.out.alloc Q6.out.size _); clear HC1 HC1a hc6 hr6 hl6 hg6 q6) | (go_at_call 44; (with_reducible refine Calls.mono HC1a.out ?_); rintro e w6 ⟨⟨ao, c1, rfl, hc6, hr6, hl6, hg6⟩, q6⟩; have Q6 : Hid (Below wr.heap.size wr w6) := HQ1.out.trans (q6.mono HQ1.out.size); have T6 : w6.cell? ⟨w.heap.size, 0, none⟩ = some (.slice ua us.length uc) ∧ w6.cell? ⟨w.heap.size, 1, none⟩ = some (.slice ga gs.length gc) := ⟨(Q6.out.cell (p := ⟨w.heap.size, 0, none⟩) hltc).trans c0, (Q6.out.cell (p := ⟨w.heap.size, 1, none⟩) hltc).trans c1'⟩; have R6 : Hid ((us.length ≤ c1 ∧ c1 ≤ 9223372036854775807) ∧ Rgs w6 ao us ∧ ∀ p, ao = some p → p.block < w6.heap.size) := ⟨hc6, hr6, hl6⟩; have G6 : Hid (∀ p, ao = some p → us ≠ [] → p.block ≠ wr.heap.size) := (fun p hp hn => (by have := hg6 p hp hn; simp at this; omega)); have HC2 : Hid (Calls Tryz.prog 44 #[.slice ga gs.length gc] w6 fun e w' => (∃ ao c', e = .returned (.slice ao gs.length c') ∧ (gs.length ≤ c' ∧ c' ≤ 9223372036854775807) ∧ Rgs w' ao gs ∧ (∀ p, ao = some p → p.block < w'.heap.size) ∧ ∀ p, ao = some p → gs ≠ [] → w6.heap.size ≤ p.block) ∧ Below w6.heap.size w6 w') := HCG.out w6 Q6.out; have K2 : Hid (ZmB w6 wr.heap.size) := ((ZmB.new wr).below ((Below.refl _ _).drew)).below q6; clear HC1 HC1a hc6 hr6 hl6 hg6 q6) | (go_at_call 44; (with_reducible refine Calls.mono HC2.out ?_); rintro e w7 ⟨⟨bo, c2, rfl, hc7, hr7, hl7, hg7⟩, q7⟩; have Q7 : Hid (Below wr.heap.size wr w7) := Q6.out.trans (q7.mono Q6.out.size); have T7 : w7.cell? ⟨w.heap.size, 0, none⟩ = some (.slice ua us.length uc) ∧ w7.cell? ⟨w.heap.size, 1, none⟩ = some (.slice ga gs.length gc) := ⟨(Q7.out.cell (p := ⟨w.heap.size, 0, none⟩) hltc).trans c0, (Q7.out.cell (p := ⟨w.heap.size, 1, none⟩) hltc).trans c1'⟩; have R7 : Hid ((gs.length ≤ c2 ∧ c2 ≤ 9223372036854775807) ∧ Rgs w7 bo gs ∧ ∀ p, bo = some p → p.block < w7.heap.size) := ⟨hc7, hr7, hl7⟩; have L7 : Hid (Below w6.heap.size w6 w7) := q7; have K7 : Hid (ZmB w7 wr.heap.size) := K2.out.below q7; have G7 : Hid (∀ p, bo = some p → gs ≠ [] → p.block ≠ wr.heap.size) := (fun p hp hn => (by have := hg7 p hp hn; have := K2.out.lt; omega)); obtain ⟨z0, z1, zf, _⟩ := id K7.out; have y0 := zf 0; have y1 := zf 1; clear zf; clear HC2 hc7 hr7 hl7 hg7 q7) | (go_at_call 44; (with_reducible refine Calls.mono HC2.out ?_); rintro e w7 ⟨⟨bo, c2, rfl, hc7, hr7, hl7, hg7⟩, q7⟩; have Q7 : Hid (Below wr.heap.size wr w7) := Q6.out.trans (q7.mono Q6.out.size); have T7 : w7.cell? ⟨w.heap.size, 0, none⟩ = some (.slice ua us.length uc) ∧ w7.cell? ⟨w.heap.size, 1, none⟩ = some (.slice ga gs.length gc) := ⟨(Q7.out.cell (p := ⟨w.heap.size, 0, none⟩) hltc).trans c0, (Q7.out.cell (p := ⟨w.heap.size, 1, none⟩) hltc).trans c1'⟩; have R7 : Hid ((gs.length ≤ c2 ∧ c2 ≤ 9223372036854775807) ∧ Rgs w7 bo gs ∧ ∀ p, bo = some p → p.block < w7.heap.size) := ⟨hc7, hr7, hl7⟩; have L7 : Hid (Below w6.heap.size w6 w7) := q7; clear HC2 hc7 hr7 hl7 hg7 q7) | (go_at_call 44; (with_reducible refine Calls.mono HC2a.out ?_); rintro e w7 ⟨⟨bo, c2, rfl, hc7, hr7, hl7, hg7⟩, q7⟩; have Q7 : Hid (Below wr.heap.size wr w7) := (Q6.out.alloc Q6.out.size _).trans (q7.mono (Nat.le_trans Q6.out.size (alloc_bel2 w6 _).size)); have T7 : w7.cell? ⟨w.heap.size, 0, none⟩ = some (.slice ua us.length uc) ∧ w7.cell? ⟨w.heap.size, 1, none⟩ = some (.slice ga gs.length gc) := ⟨(Q7.out.cell (p := ⟨w.heap.size, 0, none⟩) hltc).trans c0, (Q7.out.cell (p := ⟨w.heap.size, 1, none⟩) hltc).trans c1'⟩; have R7 : Hid ((gs.length ≤ c2 ∧ c2 ≤ 9223372036854775807) ∧ Rgs w7 bo gs ∧ ∀ p, bo = some p → p.block < w7.heap.size) := ⟨hc7, hr7, hl7⟩; have L7 : Hid (Below w6.heap.size w6 w7) := (alloc_bel2 w6 _).trans (q7.mono (alloc_bel2 w6 _).size); have K7 : Hid (ZmB w7 w6.heap.size) := (ZmB.new w6).below q7; have G7 : Hid (∀ p, bo = some p → gs ≠ [] → p.block ≠ w6.heap.size) := (fun p hp hn => (by have := hg7 p hp hn; simp at this; omega)); have G6 : Hid (∀ p, ao = some p → us ≠ [] → p.block ≠ w6.heap.size) := (fun p hp _ => (by have := R6.out.2.2 p hp; omega)); have G4 : Hid (wr.heap.size ≤ w6.heap.size) := Q6.out.size; obtain ⟨z0, z1, zf, _⟩ := id K7.out; have y0 := zf 0; have y1 := zf 1; clear zf; clear HC2a hc7 hr7 hl7 hg7 q7))
    all_goals
      first | (obtain ⟨MBF, BF, RU, RG, DU, DG⟩ : MbOk wr (w7.alloc (.cells #[.slice ao us.length c1, .slice bo gs.length c2] 40)) w7.heap.size ao bo us gs c1 c2 := mb_new Q7.out (rgs_other L7.out R6.out.2.1) R7.out.2.1 (fun p hp => (Nat.lt_of_lt_of_le (R6.out.2.2 p hp) L7.out.size)) R7.out.2.2; obtain ⟨wF, hwF⟩ : ∃ wF, w7.alloc (.cells #[.slice ao us.length c1, .slice bo gs.length c2] 40) = wF := ⟨_, rfl⟩; rw [hwF] at MBF BF RU RG DU DG ⊢; clear hwF; generalize hnxe : w7.heap.size = mb at MBF ⊢; clear hnxe) | (obtain ⟨MBF, BF, RU, RG, DU, DG⟩ := mb_set (nx := wr.heap.size) (c1 := c1) (c2 := c2) K7.out Q7.out (Nat.le_refl _) (rgs_other L7.out R6.out.2.1) R7.out.2.1 (fun p hp => (Nat.lt_of_lt_of_le (R6.out.2.2 p hp) L7.out.size)) R7.out.2.2 G6.out G7.out; obtain ⟨wF, hwF⟩ : ∃ wF, ((w7.setCell ⟨wr.heap.size, 0, none⟩ (.slice ao us.length c1)).setCell ⟨wr.heap.size, 1, none⟩ (.slice bo gs.length c2)) = wF := ⟨_, rfl⟩; rw [hwF] at MBF BF RU RG DU DG ⊢; clear hwF; generalize hnxe : wr.heap.size = mb at MBF ⊢; clear hnxe) | (obtain ⟨MBF, BF, RU, RG, DU, DG⟩ := mb_set (nx := w6.heap.size) (c1 := c1) (c2 := c2) K7.out Q7.out (G4.out) (rgs_other L7.out R6.out.2.1) R7.out.2.1 (fun p hp => (Nat.lt_of_lt_of_le (R6.out.2.2 p hp) L7.out.size)) R7.out.2.2 G6.out G7.out; obtain ⟨wF, hwF⟩ : ∃ wF, ((w7.setCell ⟨w6.heap.size, 0, none⟩ (.slice ao us.length c1)).setCell ⟨w6.heap.size, 1, none⟩ (.slice bo gs.length c2)) = wF := ⟨_, rfl⟩; rw [hwF] at MBF BF RU RG DU DG ⊢; clear hwF; generalize hnxe : w6.heap.size = mb at MBF ⊢; clear hnxe)
      clear T5 T5a T6 T7 HQ0 HQ1 c0 c1'
      have QF : Hid (Below w1.heap.size w1 wF) := QR.out.trans (BF.mono QR.out.size)
      have T8 : wF.drew.cell? ⟨mb, 0, none⟩ = some (.slice ao us.length c1) ∧ wF.drew.cell? ⟨mb, 1, none⟩ = some (.slice bo gs.length c2) ∧ wF.drew.cell? ⟨w.heap.size, 2, none⟩ = some (.int .i64 cu) ∧ wF.drew.cell? ⟨w.heap.size, 3, none⟩ = some (.int .i64 cg) ∧ wF.drew.cell? ⟨w.heap.size, 4, none⟩ = some (.slice ca cs.length cc) ∧ wF.drew.cell? ⟨w.heap.size, 5, none⟩ = some (.int .i64 ck) ∧ wF.drew.cell? ⟨w.heap.size, 6, none⟩ = some (.int .i64 q) := ⟨MBF.1, MBF.2, blwV QF.out HCF.out.2.2.1, blwV QF.out HCF.out.2.2.2.1, blwV QF.out HCF.out.2.2.2.2.1, blwV QF.out HCF.out.2.2.2.2.2.1, blwV QF.out HCF.out.2.2.2.2.2.2⟩
      have HRU : Hid ((Rgs wF ao us ∧ Rgs wF bo gs) ∧ (∀ p, ao = some p → p.block < wF.heap.size) ∧ ∀ p, bo = some p → p.block < wF.heap.size) := ⟨⟨RU, RG⟩, DU, DG⟩
      have HNF : Hid (NsV wF.cell? (some ⟨gl, 0, none⟩) ((.mk k m u g o at_ d ks) :: xs)) := HNS.out.on (mle_below BF)
      have HCC : Hid ((us.length ≤ c1 ∧ c1 ≤ 9223372036854775807) ∧ gs.length ≤ c2 ∧ c2 ≤ 9223372036854775807) := ⟨R6.out.1, R7.out.1⟩
      have HOW : Hid (Calls Tryz.prog 45 #[.agg #[.int .i64 cu, .int .i64 cg, .slice ca cs.length cc, .int .i64 ck]] wF.drew fun e w' => (∃ ao c', e = .returned (.agg #[.int .i64 cu, .int .i64 cg, .slice ao cs.length c', .int .i64 ck]) ∧ (cs.length ≤ c' ∧ c' ≤ 9223372036854775807) ∧ Ints w' ao cs ∧ ∀ p, ao = some p → p.block < w'.heap.size) ∧ Below wF.drew.heap.size wF.drew w') := HOW0.out _ (QF.out.drew)
      clear MBF BF RU RG DU DG
      go_upto_region 11 with fail
      go_region_held3 (fun w' => w'.cell? ⟨mb, 0, none⟩ = some (.slice ao us.length c1) ∧ w'.cell? ⟨mb, 1, none⟩ = some (.slice bo gs.length c2) ∧ w'.cell? ⟨w.heap.size, 2, none⟩ = some (.int .i64 cu) ∧ w'.cell? ⟨w.heap.size, 3, none⟩ = some (.int .i64 cg) ∧ w'.cell? ⟨w.heap.size, 4, none⟩ = some (.slice ca cs.length cc) ∧ w'.cell? ⟨w.heap.size, 5, none⟩ = some (.int .i64 ck) ∧ w'.cell? ⟨w.heap.size, 6, none⟩ = some (.int .i64 q)) (first | with_reducible exact T8 | with_reducible exact T9 | with_reducible exact ⟨alc T9.1, alc T9.2.1, alc T9.2.2.1, alc T9.2.2.2.1, alc T9.2.2.2.2.1, alc T9.2.2.2.2.2.1, alc T9.2.2.2.2.2.2⟩) (first | (go_at_call 45; (with_reducible refine Calls.mono HOW.out ?_); rintro e w8 ⟨⟨co, c3, rfl, hc8, hi8, hl8⟩, q8⟩; have T9 : w8.cell? ⟨mb, 0, none⟩ = some (.slice ao us.length c1) ∧ w8.cell? ⟨mb, 1, none⟩ = some (.slice bo gs.length c2) ∧ w8.cell? ⟨w.heap.size, 2, none⟩ = some (.int .i64 cu) ∧ w8.cell? ⟨w.heap.size, 3, none⟩ = some (.int .i64 cg) ∧ w8.cell? ⟨w.heap.size, 4, none⟩ = some (.slice ca cs.length cc) ∧ w8.cell? ⟨w.heap.size, 5, none⟩ = some (.int .i64 ck) ∧ w8.cell? ⟨w.heap.size, 6, none⟩ = some (.int .i64 q) := ⟨blwV q8 T8.1, blwV q8 T8.2.1, blwV q8 T8.2.2.1, blwV q8 T8.2.2.2.1, blwV q8 T8.2.2.2.2.1, blwV q8 T8.2.2.2.2.2.1, blwV q8 T8.2.2.2.2.2.2⟩; have R8 : Hid ((cs.length ≤ c3 ∧ c3 ≤ 9223372036854775807) ∧ Ints w8 co cs ∧ ∀ p, co = some p → p.block < w8.heap.size) := ⟨hc8, hi8, hl8⟩; have Q8 : Hid (Below wF.heap.size wF w8) := ((Below.refl wF.heap.size wF).drew).trans q8; clear HOW hc8 hi8 hl8 q8))
      all_goals
        have HNW : Hid (NwG w (w8.alloc (.cells #[.slice ao us.length c1, .slice bo gs.length c2, .slice (some ⟨gl, 0, none⟩) (0 + 1) lcp, .int .i64 cu, .int .i64 cg, .slice co cs.length c3, .int .i64 ck, .int .i64 q] 113)) cs (.returned (.tuple #[.pointer (some ⟨w8.heap.size, 0, none⟩), .nilIface])) ∧ Below w.heap.size w (w8.alloc (.cells #[.slice ao us.length c1, .slice bo gs.length c2, .slice (some ⟨gl, 0, none⟩) (0 + 1) lcp, .int .i64 cu, .int .i64 cg, .slice co cs.length c3, .int .i64 ck, .int .i64 q] 113))) := by
          have hbx := alloc_bel2 w8 (.cells #[.slice ao us.length c1, .slice bo gs.length c2, .slice (some ⟨gl, 0, none⟩) (0 + 1) lcp, .int .i64 cu, .int .i64 cg, .slice co cs.length c3, .int .i64 ck, .int .i64 q] 113)
          have hq8 := HB1.out.trans ((QF.out.trans (Q8.out.mono QF.out.size)).mono HB1.out.size)
          obtain ⟨ux, gx, hy, ⟨hu1, hu2⟩, hg1, hg2⟩ := root_ok HBK.out
          refine ⟨⟨w8.heap.size, ⟨⟨ao, bo, c1, c2, us, gs⟩, some ⟨gl, 0, none⟩, lcp, (.mk k m u g o at_ d ks) :: xs, cu, cg, co, c3, cs, ck, q⟩, ux, gx, rfl, hq8.size, ⟨?_, fun oq ho => ?_, fun oq => World.frozen?_alloc_at _ _ _ _ rfl, ⟨(HRU.out.1.1.below Q8.out).below hbx, (HRU.out.1.2.below Q8.out).below hbx, HMO.out.1.1, HMO.out.1.2, HCC.out.1.1, HCC.out.2.1, HMO.out.2.1, HMO.out.2.2.1⟩, (HNF.out.on (mle_below Q8.out)).on (mle_below hbx), ?_, R8.out.2.1.below hbx, R8.out.1, fun p hp => ?_, fun p hp => ?_, .inr fun p hp => ?_⟩, ?_, rfl, hu1, hg1⟩, hq8.alloc hq8.size _⟩
          · have hl : ((.mk k m u g o at_ d ks : Nd) :: xs).length = 0 + 1 := by rw [List.length_cons, HN.out]
            refine ⟨World.cell?_alloc_at _ _ _ _ rfl, World.cell?_alloc_at _ _ _ _ rfl, ?_, World.cell?_alloc_at _ _ _ _ rfl, World.cell?_alloc_at _ _ _ _ rfl, World.cell?_alloc_at _ _ _ _ rfl, World.cell?_alloc_at _ _ _ _ rfl, World.cell?_alloc_at _ _ _ _ rfl⟩
            rw [hl]
            exact World.cell?_alloc_at _ _ _ _ rfl
          · rw [World.cell?_alloc_at _ _ _ _ rfl]
            exact Array.getElem?_eq_none (by simpa using ho)
          · rw [List.length_cons, HN.out]; exact HLC.out
          · have h1 := HRU.out.2.1 p hp; have h2 := Q8.out.size; omega
          · have h1 := HRU.out.2.2 p hp; have h2 := Q8.out.size; omega
          · have h1 := R8.out.2.2 p hp; omega
          · show (.mk k m u g o at_ d ks) :: xs = _; rw [hy, HGG.out.2.1]
        clear T8 T9
        go_wp2
        go_ret2
        exact HNW.out
end Go.Proofs.YtkjknbjjchdjlaaGreatDoor
