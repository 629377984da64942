/-
  MAPS OF IDS: what is wrong with one; the walks of bounded, meet.
  WHAT IS WRONG WITH A MAP: the walk of Check of package idmap.
  WHERE AN ID LEADS: the walks of ToHost and FromHost.
-/
import Derived.Test.YtkkhfnkmfkdhiabAeX
import Derived.Test.YtkkhfnkmfkdhiabNaX
import Derived.Deep.RegionHeld3
namespace Go.Proofs.Ytkkhfnkmfkdhiab
open Go.RowKit

/-- A range. -/
structure Rg where
  i : Int
  o : Int
  n : Int

/-- An int. -/
def I64 (x : Int) : Prop := -9223372036854775808 ≤ x ∧ x ≤ 9223372036854775807
/-- A range of ints. -/
def Rg.ok (r : Rg) : Prop := I64 r.i ∧ I64 r.o ∧ I64 r.n

/-- A slice of ranges: nothing is asked of an empty one's address. -/
def Rgs (w : World) (a : Option Addr) (rs : List Rg) : Prop :=
  rs = [] ∨ ∃ b off, a = some ⟨b, off, none⟩ ∧ ∀ k r, rs[k]? = some r → w.cell? ⟨b, off + k * 3, none⟩ = some (.int .i64 r.i) ∧ w.cell? ⟨b, off + k * 3 + 1, none⟩ = some (.int .i64 r.o) ∧ w.cell? ⟨b, off + k * 3 + 2, none⟩ = some (.int .i64 r.n)

theorem Rgs.below {w w' : World} {a : Option Addr} {rs : List Rg} (h : Rgs w a rs) (hb : Below w.heap.size w w') : Rgs w' a rs := by
  rcases h with h | ⟨b, off, ha, hc⟩
  · exact .inl h
  · refine .inr ⟨b, off, ha, fun k r hk => ?_⟩
    obtain ⟨h1, h2, h3⟩ := hc k r hk
    have hlt : b < w.heap.size := World.block_lt_of_cell? _ _ h1
    exact ⟨(hb.cell (p := ⟨b, off + k * 3, none⟩) hlt).trans h1, (hb.cell (p := ⟨b, off + k * 3 + 1, none⟩) hlt).trans h2, (hb.cell (p := ⟨b, off + k * 3 + 2, none⟩) hlt).trans h3⟩

/-- A range in memory: the three cells of block b, which may be written. -/
def RBox (w : World) (b : Nat) (r : Rg) : Prop :=
  w.cell? ⟨b, 0, none⟩ = some (.int .i64 r.i) ∧ w.cell? ⟨b, 1, none⟩ = some (.int .i64 r.o) ∧ w.cell? ⟨b, 2, none⟩ = some (.int .i64 r.n) ∧ ∀ o, w.frozen? ⟨b, o, none⟩ = false
theorem RBox.new (w : World) (i o n : Int) : RBox (w.alloc (.cells #[.int .i64 i, .int .i64 o, .int .i64 n] 148)) w.heap.size ⟨i, o, n⟩ :=
  ⟨World.cell?_alloc_at _ _ _ _ rfl, World.cell?_alloc_at _ _ _ _ rfl, World.cell?_alloc_at _ _ _ _ rfl, fun _ => World.frozen?_alloc_at _ _ _ _ rfl⟩
theorem RBox.lt {w : World} {b : Nat} {r : Rg} (h : RBox w b r) : b < w.heap.size := World.block_lt_of_cell? _ _ h.1
theorem RBox.below {w w' : World} {b : Nat} {r : Rg} (h : RBox w b r) (hb : Below w.heap.size w w') : RBox w' b r := by
  have hl := h.lt
  obtain ⟨h0, h1, h2, h4⟩ := h
  exact ⟨(hb.cell (p := ⟨b, 0, none⟩) hl).trans h0, (hb.cell (p := ⟨b, 1, none⟩) hl).trans h1, (hb.cell (p := ⟨b, 2, none⟩) hl).trans h2, fun o => (hb.frozen (p := ⟨b, o, none⟩) hl).trans (h4 o)⟩
theorem RBox.alloc {w : World} {b : Nat} {r : Rg} (h : RBox w b r) (o : Obj) : RBox (w.alloc o) b r := h.below ((Below.refl _ _).alloc (Nat.le_refl _) _)

def bndB (f n : Int) : Bool := decide (0 ≤ f ∧ 1 ≤ n ∧ n - 1 ≤ 65535 - f)
def meetB (a n b m : Int) : Bool := decide (a < b + m ∧ b < a + n)
def bndR (r : Rg) : Bool := bndB r.i r.n && bndB r.o r.n
def meetR (p r : Rg) : Bool := meetB p.i p.n r.i r.n || meetB p.o p.n r.o r.n
def onB (p r : Rg) : Bool := decide (p.i + p.n = r.i ∧ p.o + p.n = r.o)
/-- A range of ids: bounds. -/
def Rg.bd (r : Rg) : Prop := 0 ≤ r.i ∧ r.i ≤ 65535 ∧ 0 ≤ r.o ∧ r.o ≤ 65535 ∧ 1 ≤ r.n ∧ r.n ≤ 65536 ∧ r.i + r.n ≤ 65536 ∧ r.o + r.n ≤ 65536
theorem bd_of {r : Rg} (h : bndR r = true) : r.bd := by
  simp [bndR, bndB] at h; unfold Rg.bd; omega
theorem bd_iff (r : Rg) : bndR r = true ↔ r.bd := by
  constructor
  · exact bd_of
  · intro h; unfold Rg.bd at h; simp [bndR, bndB]; omega

set_option maxHeartbeats 400000 in
theorem bounded_any (f n : Int) (hf : I64 f) (hn : I64 n) (w : World) : Calls Try.prog 161 #[.int .i64 f, .int .i64 n] w fun e w' => e = .returned (.bool (bndB f n)) ∧ w = w' := by
  obtain ⟨f1, f2⟩ := hf
  obtain ⟨n1, n2⟩ := hn
  by_cases h0 : 0 ≤ f
  · by_cases h1 : 1 ≤ n
    · have HB : Hid (bndB f n = decide (n - 1 ≤ 65535 - f)) := by show _ = _; simp [bndB, h0, h1]
      go_enter Try.func161, Try.ntmps161
      go_wp2
      go_ret
      exact ⟨ret_bool HB.out.symm, rfl⟩
    · have d1 : decide (1 ≤ n) = false := by simpa using h1
      have HB : Hid (bndB f n = false) := by show _ = _; simp [bndB]; omega
      go_enter Try.func161, Try.ntmps161
      go_wp2
      go_ret
      exact ⟨ret_bool HB.out.symm, rfl⟩
  · have d1 : decide (0 ≤ f) = false := by simpa using h0
    have HB : Hid (bndB f n = false) := by show _ = _; simp [bndB]; omega
    go_enter Try.func161, Try.ntmps161
    go_wp2
    go_ret
    exact ⟨ret_bool HB.out.symm, rfl⟩

set_option maxHeartbeats 400000 in
theorem meet_any (a n b m : Int) (h1 : 0 ≤ a) (h2 : a ≤ 65535) (h3 : 1 ≤ n) (h4 : n ≤ 65536) (h5 : 0 ≤ b) (h6 : b ≤ 65535) (h7 : 1 ≤ m) (h8 : m ≤ 65536) (w : World) :
    Calls Try.prog 162 #[.int .i64 a, .int .i64 n, .int .i64 b, .int .i64 m] w fun e w' => e = .returned (.bool (meetB a n b m)) ∧ w = w' := by
  by_cases g1 : a < b + m
  · have HB : Hid (meetB a n b m = decide (b < a + n)) := by show _ = _; simp [meetB, g1]
    go_enter Try.func162, Try.ntmps162
    go_wp2
    go_ret
    exact ⟨ret_bool HB.out.symm, rfl⟩
  · have d1 : decide (a < b + m) = false := by simpa using g1
    have HB : Hid (meetB a n b m = false) := by show _ = _; simp [meetB]; omega
    go_enter Try.func162, Try.ntmps162
    go_wp2
    go_ret
    exact ⟨ret_bool HB.out.symm, rfl⟩

end Go.Proofs.Ytkkhfnkmfkdhiab

namespace Go.Proofs.Ytkkhfnkmfkdhiab
open Go.RowKit

/-- Of the range at place k: 1: out of bounds; 3: it meets one ahead of it. -/
def stepM (rs : List Rg) (k : Nat) : Int := match rs[k]? with
  | none => 0
  | some r => if bndR r = false then 1 else if (rs.take k).any (fun p => meetR p r) = true then 3 else 0
/-- The first wrong range from place k on, of so many. -/
def mF (rs : List Rg) : Nat → Nat → Int
  | _, 0 => 0
  | k, n + 1 => if stepM rs k = 0 then mF rs (k + 1) n else stepM rs k
/-- What is wrong with a map (0: nothing). -/
def mapF (rs : List Rg) : Int := if 4 < rs.length then 2 else mF rs 0 rs.length

theorem mF_ok {rs : List Rg} {k n : Nat} (h : stepM rs k = 0) : mF rs k (n + 1) = mF rs (k + 1) n := by simp [mF, h]
theorem mF_bad {rs : List Rg} {k n : Nat} (h : ¬ stepM rs k = 0) : mF rs k (n + 1) = stepM rs k := by simp [mF, h]
theorem stepM_bd {rs : List Rg} {k : Nat} {r : Rg} (hr : rs[k]? = some r) (h : bndR r = false) : stepM rs k = 1 := by simp [stepM, hr, h]
theorem stepM_meet {rs : List Rg} {k : Nat} {r : Rg} (hr : rs[k]? = some r) (h : bndR r = true) (hm : (rs.take k).any (fun p => meetR p r) = true) : stepM rs k = 3 := by
  unfold stepM; rw [hr]; dsimp only; rw [if_neg (by rw [h]; decide), if_pos hm]
theorem stepM_ok {rs : List Rg} {k : Nat} {r : Rg} (hr : rs[k]? = some r) (h : bndR r = true) (hm : (rs.take k).any (fun p => meetR p r) = false) : stepM rs k = 0 := by
  unfold stepM; rw [hr]; dsimp only; rw [if_neg (by rw [h]; decide), if_neg (by rw [hm]; decide)]
theorem bnd_of_step {rs : List Rg} {k : Nat} {r : Rg} (hr : rs[k]? = some r) (h : stepM rs k = 0) : bndR r = true := by
  by_cases hb : bndR r = false
  · rw [stepM_bd hr hb] at h; omega
  · simpa using hb

theorem take_snoc_get {α : Type} {l : List α} {k : Nat} {p : α} (h : l[k]? = some p) : l.take (k + 1) = l.take k ++ [p] := by
  obtain ⟨hk, rfl⟩ := List.getElem?_eq_some_iff.1 h
  exact List.take_succ_eq_append_getElem hk
theorem any_more {rs : List Rg} {f : Rg → Bool} {j k : Nat} (hjk : j < k) (h : (rs.take (j + 1)).any f = true) : (rs.take k).any f = true := by
  rw [List.any_eq_true] at h ⊢
  obtain ⟨x, hx, hf⟩ := h
  refine ⟨x, ?_, hf⟩
  have : rs.take (j + 1) = (rs.take k).take (j + 1) := by rw [List.take_take]; congr 1; omega
  rw [this] at hx
  exact List.mem_of_mem_take hx

set_option maxRecDepth 100000 in
set_option maxHeartbeats 2000000 in
theorem checkM_any (a : Option Addr) (cap : Nat) (rs : List Rg) (w : World) (hl : rs.length ≤ 100) (hcap : rs.length ≤ cap) (hok : ∀ r ∈ rs, r.ok) (h : Rgs w a rs) :
    Calls Try.prog 145 #[.slice a rs.length cap] w fun e w' => e = .returned (errV (mapF rs)) ∧ Below w.heap.size w w' := by
  by_cases hn : 4 < rs.length
  · have HM : Hid (mapF rs = 2) := if_pos hn
    go_enter Try.func145, Try.ntmps145
    go_wp2
    go_ret
    exact ⟨ret_val (errV_of HM.out (by decide)).symm, Below.refl _ _⟩
  have HF : Hid (mapF rs = mF rs 0 rs.length) := if_neg hn
  have hd : decide (4 < (rs.length : Int)) = false := by simp; omega
  go_enter Try.func145, Try.ntmps145
  go_wp2
  go_loopw [13] (fun i wr => ∃ k : Nat, k ≤ rs.length ∧ i = .int .i64 k ∧ Hid (mF rs 0 rs.length = mF rs k (rs.length - k)) ∧ Hid (∀ j, j < k → stepM rs j = 0) ∧ Below w.heap.size w wr) (fun i _ => rs.length - (intOf i).toNat)
  case atStart => exact ⟨0, Nat.zero_le _, rfl, rfl, fun j hj => absurd hj (Nat.not_lt_zero _), Below.refl _ _⟩
  case round =>
    obtain ⟨k, hk, rfl, HR, HP, hB⟩ := hrel
    by_cases hlt : k < rs.length
    · rcases h with rfl | ⟨b, off, rfl, hc⟩
      · simp at hlt
      · obtain ⟨r, hr⟩ : ∃ r, rs[k]? = some r := ⟨rs[k], by simp [hlt]⟩
        obtain ⟨hc0, hc1, hc2⟩ := hc k r hr
        have hbl : b < w.heap.size := World.block_lt_of_cell? _ _ hc0
        have hblr : b < wr.heap.size := Nat.lt_of_lt_of_le hbl hB.size
        obtain ⟨⟨i1, i2⟩, ⟨o1, o2⟩, ⟨n1, n2⟩⟩ := hok r (List.mem_of_getElem? hr)
        have hki : (k : Int) < (rs.length : Int) := by omega
        have HS : Hid (mF rs k (rs.length - k) = mF rs k ((rs.length - (k + 1)) + 1)) := by show _ = _; congr 1; omega
        obtain ⟨ri, ro, rn⟩ := r
        dsimp only at *
        have q0 : wr.cell? ⟨b, off + k * 3, none⟩ = some (.int .i64 ri) := (hB.cell (p := ⟨b, off + k * 3, none⟩) hbl).trans hc0
        have q1 : wr.cell? ⟨b, off + k * 3 + 1, none⟩ = some (.int .i64 ro) := (hB.cell (p := ⟨b, off + k * 3 + 1, none⟩) hbl).trans hc1
        have q2 : wr.cell? ⟨b, off + k * 3 + 2, none⟩ = some (.int .i64 rn) := (hB.cell (p := ⟨b, off + k * 3 + 2, none⟩) hbl).trans hc2
        have HRr : Hid (rs[k]? = some ⟨ri, ro, rn⟩) := hr
        have HC := hc
        clear hc0 hc1 hc2 hr hc
        obtain ⟨bi, hbi⟩ : ∃ t, bndB ri rn = t := ⟨_, rfl⟩
        obtain ⟨bo, hbo⟩ : ∃ t, bndB ro rn = t := ⟨_, rfl⟩
        have hor : bi = false ∨ bi = true ∧ bo = false ∨ bi = true ∧ bo = true := by cases bi <;> cases bo <;> simp
        rcases hor with rfl | ⟨rfl, rfl⟩ | ⟨rfl, rfl⟩
        · have HN : Hid (mF rs k (rs.length - k) = 1) := HS.out.trans ((mF_bad (by rw [stepM_bd HRr.out (by simp [bndR, hbi])]; decide)).trans (stepM_bd HRr.out (by simp [bndR, hbi])))
          clear HC
          go_wp2_with (go_at_call 161; refine (bounded_any _ _ ⟨by omega, by omega⟩ ⟨by omega, by omega⟩ _).mono ?_; rintro e w' ⟨rfl, rfl⟩)
          go_ret
          exact ⟨ret_val (errV_of (by rw [HF.out, HR.out, HN.out]) (by decide)).symm, hB.alloc hB.size _⟩
        · have HN : Hid (mF rs k (rs.length - k) = 1) := HS.out.trans ((mF_bad (by rw [stepM_bd HRr.out (by simp [bndR, hbo])]; decide)).trans (stepM_bd HRr.out (by simp [bndR, hbo])))
          clear HC
          go_wp2_with (go_at_call 161; refine (bounded_any _ _ ⟨by omega, by omega⟩ ⟨by omega, by omega⟩ _).mono ?_; rintro e w' ⟨rfl, rfl⟩)
          go_ret
          exact ⟨ret_val (errV_of (by rw [HF.out, HR.out, HN.out]) (by decide)).symm, hB.alloc hB.size _⟩
        · have hbd : bndR ⟨ri, ro, rn⟩ = true := by simp [bndR, hbi, hbo]
          obtain ⟨v1, v2, v3, v4, v5, v6, v7, v8⟩ := bd_of hbd
          dsimp only at v1 v2 v3 v4 v5 v6 v7 v8
          have HBD : Hid (bndR ⟨ri, ro, rn⟩ = true) := hbd
          clear hbd
          have hkc : (k : Int) ≤ (cap : Int) := by omega
          go_wp2_with (go_at_call 161; refine (bounded_any _ _ ⟨by omega, by omega⟩ ⟨by omega, by omega⟩ _).mono ?_; rintro e w' ⟨rfl, rfl⟩)
          have RB := RBox.new wr ri ro rn
          have hB1 := hB.alloc hB.size (.cells #[.int .i64 ri, .int .i64 ro, .int .i64 rn] 148)
          clear q0 q1 q2 hB hblr hbi hbo
          generalize wr.alloc (.cells #[.int .i64 ri, .int .i64 ro, .int .i64 rn] 148) = w1 at RB hB1 ⊢
          generalize wr.heap.size = rb at RB ⊢
          go_loopw [37] (fun i wq => ∃ j : Nat, j ≤ k ∧ i = .int .i64 j ∧ Hid ((rs.take j).any (fun p => meetR p ⟨ri, ro, rn⟩) = false) ∧ Below w.heap.size w wq ∧ RBox wq rb ⟨ri, ro, rn⟩) (fun i _ => k - (intOf i).toNat)
          case atStart => exact ⟨0, Nat.zero_le _, rfl, rfl, hB1, RB⟩
          case round =>
            obtain ⟨j, hj, rfl, HJ, hB2, RB2⟩ := hrel
            clear hB1 RB
            obtain ⟨x0, x1, x2, x3⟩ := id RB2
            dsimp only at x0 x1 x2
            have lb := RB2.lt
            by_cases hjk : j < k
            · have hjl : j < rs.length := by omega
              obtain ⟨p, hp⟩ : ∃ p, rs[j]? = some p := ⟨rs[j], by simp [hjl]⟩
              obtain ⟨y0, y1, y2⟩ := HC j p hp
              obtain ⟨t1, t2, t3, t4, t5, t6, t7, t8⟩ := bd_of (bnd_of_step hp (HP.out j hjk))
              have HJ2 : Hid ((rs.take (j + 1)).any (fun p => meetR p ⟨ri, ro, rn⟩) = meetR p ⟨ri, ro, rn⟩) := by
                show _ = _
                rw [take_snoc_get hp, List.any_append, HJ.out]; simp
              obtain ⟨pi, po, pn⟩ := p
              dsimp only at y0 y1 y2 t1 t2 t3 t4 t5 t6 t7 t8
              have z0 : wr.cell? ⟨b, off + j * 3, none⟩ = some (.int .i64 pi) := (hB2.cell (p := ⟨b, off + j * 3, none⟩) hbl).trans y0
              have z1 : wr.cell? ⟨b, off + j * 3 + 1, none⟩ = some (.int .i64 po) := (hB2.cell (p := ⟨b, off + j * 3 + 1, none⟩) hbl).trans y1
              have z2 : wr.cell? ⟨b, off + j * 3 + 2, none⟩ = some (.int .i64 pn) := (hB2.cell (p := ⟨b, off + j * 3 + 2, none⟩) hbl).trans y2
              have hblr : b < wr.heap.size := Nat.lt_of_lt_of_le hbl hB2.size
              have hji : (j : Int) < (k : Int) := by omega
              clear y0 y1 y2 hp
              obtain ⟨mi, hmi⟩ : ∃ t, meetB pi pn ri rn = t := ⟨_, rfl⟩
              obtain ⟨mo, hmo⟩ : ∃ t, meetB po pn ro rn = t := ⟨_, rfl⟩
              have HME : Hid (meetR ⟨pi, po, pn⟩ ⟨ri, ro, rn⟩ = (mi || mo)) := by show _ = _; simp [meetR, hmi, hmo]
              have hor : mi = true ∨ mi = false ∧ mo = true ∨ mi = false ∧ mo = false := by cases mi <;> cases mo <;> simp
              rcases hor with rfl | ⟨rfl, rfl⟩ | ⟨rfl, rfl⟩
              · have HN : Hid (mF rs k (rs.length - k) = 3) := HS.out.trans ((mF_bad (by rw [stepM_meet HRr.out HBD.out (any_more hjk (by rw [HJ2.out, HME.out]; rfl))]; decide)).trans (stepM_meet HRr.out HBD.out (any_more hjk (by rw [HJ2.out, HME.out]; rfl))))
                clear HC HJ2 HME
                go_wp2_with (go_at_call 162; refine (meet_any _ _ _ _ (by omega) (by omega) (by omega) (by omega) (by omega) (by omega) (by omega) (by omega) _).mono ?_; rintro e w' ⟨rfl, rfl⟩)
                go_ret
                exact ⟨ret_val (errV_of (by rw [HF.out, HR.out, HN.out]) (by decide)).symm, hB2.alloc hB2.size _⟩
              · have HN : Hid (mF rs k (rs.length - k) = 3) := HS.out.trans ((mF_bad (by rw [stepM_meet HRr.out HBD.out (any_more hjk (by rw [HJ2.out, HME.out]; rfl))]; decide)).trans (stepM_meet HRr.out HBD.out (any_more hjk (by rw [HJ2.out, HME.out]; rfl))))
                clear HC HJ2 HME
                go_wp2_with (go_at_call 162; refine (meet_any _ _ _ _ (by omega) (by omega) (by omega) (by omega) (by omega) (by omega) (by omega) (by omega) _).mono ?_; rintro e w' ⟨rfl, rfl⟩)
                go_ret
                exact ⟨ret_val (errV_of (by rw [HF.out, HR.out, HN.out]) (by decide)).symm, hB2.alloc hB2.size _⟩
              · have HN : Hid ((rs.take (j + 1)).any (fun p => meetR p ⟨ri, ro, rn⟩) = false) := by show _ = _; rw [HJ2.out, HME.out]; rfl
                clear HC HJ2 HME
                go_wp2_with (go_at_call 162; refine (meet_any _ _ _ _ (by omega) (by omega) (by omega) (by omega) (by omega) (by omega) (by omega) (by omega) _).mono ?_; rintro e w' ⟨rfl, rfl⟩)
                go_roundw
                case rel => exact ⟨j + 1, by omega, by go_num, HN.out, hB2.alloc hB2.size _, RB2.alloc _⟩
                case measure => simp [intOf]; omega
            · have hjk2 : j = k := by omega
              subst hjk2
              have HN : Hid (mF rs j (rs.length - j) = mF rs (j + 1) (rs.length - (j + 1))) := HS.out.trans (mF_ok (stepM_ok HRr.out HBD.out HJ.out))
              have HP2 : Hid (∀ i, i < j + 1 → stepM rs i = 0) := by
                intro i hi
                by_cases e : i = j
                · subst e; exact stepM_ok HRr.out HBD.out HJ.out
                · exact HP.out i (by omega)
              clear HC
              go_wp2
              go_roundw
              case rel => exact ⟨j + 1, by omega, by go_num, HR.out.trans HN.out, HP2.out, hB2⟩
              case measure => simp [intOf]; omega
    · have e0 : rs.length - k = 0 := by omega
      go_wp2
      go_ret
      exact ⟨ret_val (errV_nil (by rw [HF.out, HR.out, e0]; rfl)).symm, hB⟩
end Go.Proofs.Ytkkhfnkmfkdhiab

namespace Go.Proofs.Ytkkhfnkmfkdhiab
open Go.RowKit

set_option maxHeartbeats 400000 in
theorem sidesTo (r : Rg) (w : World) : Calls Try.prog 128 #[.agg #[.int .i64 r.i, .int .i64 r.o, .int .i64 r.n]] w fun e w' => e = .returned (.tuple #[.int .i64 r.i, .int .i64 r.o]) ∧ Below w.heap.size w w' := by
  go_enter Try.func128, Try.ntmps128
  go_wp2
  go_quiet (fail)
  go_wp2
  go_ret2
  exact ⟨rfl, below_drewN ((Below.refl _ _).alloc (Nat.le_refl _) _) _⟩
set_option maxHeartbeats 400000 in
theorem sidesFrom (r : Rg) (w : World) : Calls Try.prog 127 #[.agg #[.int .i64 r.i, .int .i64 r.o, .int .i64 r.n]] w fun e w' => e = .returned (.tuple #[.int .i64 r.o, .int .i64 r.i]) ∧ Below w.heap.size w w' := by
  go_enter Try.func127, Try.ntmps127
  go_wp2
  go_quiet (fail)
  go_wp2
  go_ret2
  exact ⟨rfl, below_drewN ((Below.refl _ _).alloc (Nat.le_refl _) _) _⟩

/-- Where an id leads, by ranges. -/
def walkM (fr tg : Rg → Int) : List Rg → Int → Option Int
  | [], _ => none
  | r :: l, x => if fr r ≤ x ∧ x - fr r < r.n then some (tg r + x - fr r) else walkM fr tg l x
theorem walkM_hit {fr tg : Rg → Int} {r : Rg} {l : List Rg} {x : Int} (h1 : fr r ≤ x) (h2 : x - fr r < r.n) : walkM fr tg (r :: l) x = some (tg r + x - fr r) := by
  unfold walkM; rw [if_pos ⟨h1, h2⟩]
theorem walkM_miss {fr tg : Rg → Int} {r : Rg} {l : List Rg} {x : Int} (h : ¬ (fr r ≤ x ∧ x - fr r < r.n)) : walkM fr tg (r :: l) x = walkM fr tg l x := by
  rw [walkM, if_neg h]
/-- What an id is outside; within. -/
def toM (rs : List Rg) (x : Int) : Option Int := if mapF rs = 0 then walkM (·.i) (·.o) rs x else none
def fromM (rs : List Rg) (x : Int) : Option Int := if mapF rs = 0 then walkM (·.o) (·.i) rs x else none
def optV (o : Option Int) : Value := .tuple #[.int .i64 (o.getD 0), .bool o.isSome]

theorem ret_some {o : Option Int} {v : Int} (h : o = some v) : Ending.returned (.tuple #[.int .i64 v, .bool true]) = .returned (optV o) := by subst h; rfl
theorem ret_none {o : Option Int} (h : o = none) : Ending.returned (.tuple #[.int .i64 0, .bool false]) = .returned (optV o) := by subst h; rfl
theorem ret_opt {o o' : Option Int} (h : o = o') : Ending.returned (.tuple #[.int .i64 (o.getD 0), .bool o.isSome]) = .returned (optV o') := by subst h; rfl
theorem mF_all {rs : List Rg} : ∀ n k, mF rs k n = 0 → ∀ j, k ≤ j → j < k + n → stepM rs j = 0
  | 0, k, _, j, h1, h2 => by omega
  | n + 1, k, h, j, h1, h2 => by
    by_cases e : stepM rs k = 0
    · rw [mF_ok e] at h
      by_cases ej : j = k
      · subst ej; exact e
      · exact mF_all n (k + 1) h j (by omega) (by omega)
    · rw [mF_bad e] at h; exact absurd h e
theorem mapF_zero {rs : List Rg} (h : mapF rs = 0) : rs.length ≤ 4 ∧ ∀ j, j < rs.length → stepM rs j = 0 := by
  unfold mapF at h
  by_cases hl : 4 < rs.length
  · rw [if_pos hl] at h; omega
  · rw [if_neg hl] at h
    exact ⟨by omega, fun j hj => mF_all _ _ h j (Nat.zero_le _) (by omega)⟩
theorem mapF_bd {rs : List Rg} (h : mapF rs = 0) : ∀ r ∈ rs, r.bd := by
  intro r hr
  obtain ⟨k, hk⟩ := List.getElem?_of_mem hr
  have hl := (List.getElem?_eq_some_iff.1 hk).1
  exact bd_of (bnd_of_step hk ((mapF_zero h).2 k hl))

set_option maxRecDepth 100000 in
set_option maxHeartbeats 1000000 in
theorem acrossTo (a : Option Addr) (cap : Nat) (rs : List Rg) (x : Int) (w : World) (hl : rs.length ≤ 100) (hcap : rs.length ≤ cap) (hok : ∀ r ∈ rs, r.ok) (hx : I64 x) (h : Rgs w a rs) (o : Option Int) (HO : Hid ((if mapF rs = 0 then walkM (·.i) (·.o) rs x else none) = o)) :
    Calls Try.prog 126 #[.slice a rs.length cap, .int .i64 x, .func (.func 128) #[] #[]] w fun e w' => e = .returned (optV o) ∧ Below w.heap.size w w' := by
  obtain ⟨xa, xb⟩ := hx
  by_cases hf : mapF rs = 0
  · have HV : Hid (o = walkM (·.i) (·.o) rs x) := HO.out.symm.trans (if_pos hf)
    have HF : Hid (mapF rs = 0) := hf
    clear hf HO
    go_enter Try.func126, Try.ntmps126
    go_wp2_with fail
    refine (checkM_any a cap rs _ hl hcap hok h).mono ?_
    rintro e w1 ⟨rfl, hB1⟩
    rw [errV_nil HF.out]
    go_wp2_with fail
    go_loopw [17] (fun i wr => ∃ k : Nat, k ≤ rs.length ∧ i = .int .i64 k ∧ Hid (walkM (·.i) (·.o) rs x = walkM (·.i) (·.o) (rs.drop k) x) ∧ Below w.heap.size w wr) (fun i _ => rs.length - (intOf i).toNat)
    case atStart => exact ⟨0, Nat.zero_le _, rfl, rfl, hB1⟩
    case round =>
      obtain ⟨k, hk, rfl, HR, hB⟩ := hrel
      clear hB1
      by_cases hlt : k < rs.length
      · rcases h with rfl | ⟨b, off, rfl, hc⟩
        · simp at hlt
        · obtain ⟨r, hr⟩ : ∃ r, rs[k]? = some r := ⟨rs[k], by simp [hlt]⟩
          obtain ⟨hc0, hc1, hc2⟩ := hc k r hr
          have hbl : b < w.heap.size := World.block_lt_of_cell? _ _ hc0
          have hblr : b < wr.heap.size := Nat.lt_of_lt_of_le hbl hB.size
          obtain ⟨t1, t2, t3, t4, t5, t6, t7, t8⟩ := mapF_bd HF.out r (List.mem_of_getElem? hr)
          have HD : Hid (rs.drop k = r :: rs.drop (k + 1)) := by
            obtain ⟨hk', rfl⟩ := List.getElem?_eq_some_iff.1 hr
            exact List.drop_eq_getElem_cons hk'
          have hki : (k : Int) < (rs.length : Int) := by omega
          obtain ⟨ri, ro, rn⟩ := r
          dsimp only at *
          have q0 : wr.cell? ⟨b, off + k * 3, none⟩ = some (.int .i64 ri) := (hB.cell (p := ⟨b, off + k * 3, none⟩) hbl).trans hc0
          have q1 : wr.cell? ⟨b, off + k * 3 + 1, none⟩ = some (.int .i64 ro) := (hB.cell (p := ⟨b, off + k * 3 + 1, none⟩) hbl).trans hc1
          have q2 : wr.cell? ⟨b, off + k * 3 + 2, none⟩ = some (.int .i64 rn) := (hB.cell (p := ⟨b, off + k * 3 + 2, none⟩) hbl).trans hc2
          clear hc0 hc1 hc2 hr hc
          go_wp2_with fail
          refine (sidesTo ⟨ri, ro, rn⟩ _).mono ?_
          rintro e w2 ⟨rfl, hB2⟩
          have RB := (RBox.new wr ri ro rn).below hB2
          have hB3 := (hB.alloc hB.size (.cells #[.int .i64 ri, .int .i64 ro, .int .i64 rn] 148)).trans (hB2.mono (by have := hB.size; simp; omega))
          clear q0 q1 q2 hB2
          obtain ⟨y0, y1, y2, y3⟩ := id RB
          dsimp only at y0 y1 y2
          by_cases g1 : ri ≤ x
          · by_cases g2 : x - ri < rn
            · have HN : Hid (walkM (·.i) (·.o) rs x = some (ro + x - ri)) := HR.out.trans (by rw [HD.out]; exact walkM_hit g1 g2)
              go_wp2
              go_ret2
              exact ⟨ret_some (HV.out.trans HN.out), hB3⟩
            · have HN : Hid (walkM (·.i) (·.o) rs x = walkM (·.i) (·.o) (rs.drop (k + 1)) x) := HR.out.trans (by rw [HD.out]; exact walkM_miss (fun e => g2 e.2))
              have d2 : decide (x - ri < rn) = false := by simpa using g2
              go_wp2
              go_roundw
              case rel => exact ⟨k + 1, by omega, by go_num, HN.out, hB3⟩
              case measure => simp [intOf]; omega
          · have HN : Hid (walkM (·.i) (·.o) rs x = walkM (·.i) (·.o) (rs.drop (k + 1)) x) := HR.out.trans (by rw [HD.out]; exact walkM_miss (fun e => g1 e.1))
            have d1 : decide (ri ≤ x) = false := by simpa using g1
            go_wp2
            go_roundw
            case rel => exact ⟨k + 1, by omega, by go_num, HN.out, hB3⟩
            case measure => simp [intOf]; omega
      · have HN : Hid (walkM (·.i) (·.o) rs x = none) := HR.out.trans (by rw [List.drop_of_length_le (by omega)]; rfl)
        go_wp2
        go_ret2
        exact ⟨ret_none (HV.out.trans HN.out), hB⟩
  · have HV : Hid (o = none) := HO.out.symm.trans (if_neg hf)
    obtain ⟨n, hn⟩ : ∃ n, mapF rs = n := ⟨_, rfl⟩
    have HN : Hid (mapF rs = n) := hn
    have hn0 : n ≠ 0 := hn ▸ hf
    clear hn hf HO
    go_enter Try.func126, Try.ntmps126
    go_wp2_with fail
    refine (checkM_any a cap rs _ hl hcap hok h).mono ?_
    rintro e w1 ⟨rfl, hB1⟩
    rw [errV_of HN.out hn0]
    go_wp2
    go_ret2
    exact ⟨ret_none HV.out, hB1⟩

set_option maxHeartbeats 400000 in
theorem toHost_any (a : Option Addr) (cap : Nat) (rs : List Rg) (x : Int) (w : World) (hl : rs.length ≤ 100) (hcap : rs.length ≤ cap) (hok : ∀ r ∈ rs, r.ok) (hx : I64 x) (h : Rgs w a rs) :
    Calls Try.prog 86 #[.slice a rs.length cap, .int .i64 x] w fun e w' => e = .returned (optV (toM rs x)) ∧ Below w.heap.size w w' := by
  obtain ⟨o, HO⟩ : ∃ o, Hid (toM rs x = o) := ⟨_, rfl⟩
  go_enter Try.func86, Try.ntmps86
  go_wp2_with fail
  refine (acrossTo a cap rs x _ hl hcap hok hx h o HO).mono ?_
  rintro e w1 ⟨rfl, hB1⟩
  unfold optV
  go_wp2
  go_ret2
  exact ⟨ret_opt HO.out.symm, hB1⟩

set_option maxRecDepth 100000 in
set_option maxHeartbeats 1000000 in
theorem acrossFrom (a : Option Addr) (cap : Nat) (rs : List Rg) (x : Int) (w : World) (hl : rs.length ≤ 100) (hcap : rs.length ≤ cap) (hok : ∀ r ∈ rs, r.ok) (hx : I64 x) (h : Rgs w a rs) (o : Option Int) (HO : Hid ((if mapF rs = 0 then walkM (·.o) (·.i) rs x else none) = o)) :
    Calls Try.prog 126 #[.slice a rs.length cap, .int .i64 x, .func (.func 127) #[] #[]] w fun e w' => e = .returned (optV o) ∧ Below w.heap.size w w' := by
  obtain ⟨xa, xb⟩ := hx
  by_cases hf : mapF rs = 0
  · have HV : Hid (o = walkM (·.o) (·.i) rs x) := HO.out.symm.trans (if_pos hf)
    have HF : Hid (mapF rs = 0) := hf
    clear hf HO
    go_enter Try.func126, Try.ntmps126
    go_wp2_with fail
    refine (checkM_any a cap rs _ hl hcap hok h).mono ?_
    rintro e w1 ⟨rfl, hB1⟩
    rw [errV_nil HF.out]
    go_wp2_with fail
    go_loopw [17] (fun i wr => ∃ k : Nat, k ≤ rs.length ∧ i = .int .i64 k ∧ Hid (walkM (·.o) (·.i) rs x = walkM (·.o) (·.i) (rs.drop k) x) ∧ Below w.heap.size w wr) (fun i _ => rs.length - (intOf i).toNat)
    case atStart => exact ⟨0, Nat.zero_le _, rfl, rfl, hB1⟩
    case round =>
      obtain ⟨k, hk, rfl, HR, hB⟩ := hrel
      clear hB1
      by_cases hlt : k < rs.length
      · rcases h with rfl | ⟨b, off, rfl, hc⟩
        · simp at hlt
        · obtain ⟨r, hr⟩ : ∃ r, rs[k]? = some r := ⟨rs[k], by simp [hlt]⟩
          obtain ⟨hc0, hc1, hc2⟩ := hc k r hr
          have hbl : b < w.heap.size := World.block_lt_of_cell? _ _ hc0
          have hblr : b < wr.heap.size := Nat.lt_of_lt_of_le hbl hB.size
          obtain ⟨t1, t2, t3, t4, t5, t6, t7, t8⟩ := mapF_bd HF.out r (List.mem_of_getElem? hr)
          have HD : Hid (rs.drop k = r :: rs.drop (k + 1)) := by
            obtain ⟨hk', rfl⟩ := List.getElem?_eq_some_iff.1 hr
            exact List.drop_eq_getElem_cons hk'
          have hki : (k : Int) < (rs.length : Int) := by omega
          obtain ⟨ri, ro, rn⟩ := r
          dsimp only at *
          have q0 : wr.cell? ⟨b, off + k * 3, none⟩ = some (.int .i64 ri) := (hB.cell (p := ⟨b, off + k * 3, none⟩) hbl).trans hc0
          have q1 : wr.cell? ⟨b, off + k * 3 + 1, none⟩ = some (.int .i64 ro) := (hB.cell (p := ⟨b, off + k * 3 + 1, none⟩) hbl).trans hc1
          have q2 : wr.cell? ⟨b, off + k * 3 + 2, none⟩ = some (.int .i64 rn) := (hB.cell (p := ⟨b, off + k * 3 + 2, none⟩) hbl).trans hc2
          clear hc0 hc1 hc2 hr hc
          go_wp2_with fail
          refine (sidesFrom ⟨ri, ro, rn⟩ _).mono ?_
          rintro e w2 ⟨rfl, hB2⟩
          have RB := (RBox.new wr ri ro rn).below hB2
          have hB3 := (hB.alloc hB.size (.cells #[.int .i64 ri, .int .i64 ro, .int .i64 rn] 148)).trans (hB2.mono (by have := hB.size; simp; omega))
          clear q0 q1 q2 hB2
          obtain ⟨y0, y1, y2, y3⟩ := id RB
          dsimp only at y0 y1 y2
          by_cases g1 : ro ≤ x
          · by_cases g2 : x - ro < rn
            · have HN : Hid (walkM (·.o) (·.i) rs x = some (ri + x - ro)) := HR.out.trans (by rw [HD.out]; exact walkM_hit g1 g2)
              go_wp2
              go_ret2
              exact ⟨ret_some (HV.out.trans HN.out), hB3⟩
            · have HN : Hid (walkM (·.o) (·.i) rs x = walkM (·.o) (·.i) (rs.drop (k + 1)) x) := HR.out.trans (by rw [HD.out]; exact walkM_miss (fun e => g2 e.2))
              have d2 : decide (x - ro < rn) = false := by simpa using g2
              go_wp2
              go_roundw
              case rel => exact ⟨k + 1, by omega, by go_num, HN.out, hB3⟩
              case measure => simp [intOf]; omega
          · have HN : Hid (walkM (·.o) (·.i) rs x = walkM (·.o) (·.i) (rs.drop (k + 1)) x) := HR.out.trans (by rw [HD.out]; exact walkM_miss (fun e => g1 e.1))
            have d1 : decide (ro ≤ x) = false := by simpa using g1
            go_wp2
            go_roundw
            case rel => exact ⟨k + 1, by omega, by go_num, HN.out, hB3⟩
            case measure => simp [intOf]; omega
      · have HN : Hid (walkM (·.o) (·.i) rs x = none) := HR.out.trans (by rw [List.drop_of_length_le (by omega)]; rfl)
        go_wp2
        go_ret2
        exact ⟨ret_none (HV.out.trans HN.out), hB⟩
  · have HV : Hid (o = none) := HO.out.symm.trans (if_neg hf)
    obtain ⟨n, hn⟩ : ∃ n, mapF rs = n := ⟨_, rfl⟩
    have HN : Hid (mapF rs = n) := hn
    have hn0 : n ≠ 0 := hn ▸ hf
    clear hn hf HO
    go_enter Try.func126, Try.ntmps126
    go_wp2_with fail
    refine (checkM_any a cap rs _ hl hcap hok h).mono ?_
    rintro e w1 ⟨rfl, hB1⟩
    rw [errV_of HN.out hn0]
    go_wp2
    go_ret2
    exact ⟨ret_none HV.out, hB1⟩

set_option maxHeartbeats 400000 in
theorem fromHost_any (a : Option Addr) (cap : Nat) (rs : List Rg) (x : Int) (w : World) (hl : rs.length ≤ 100) (hcap : rs.length ≤ cap) (hok : ∀ r ∈ rs, r.ok) (hx : I64 x) (h : Rgs w a rs) :
    Calls Try.prog 85 #[.slice a rs.length cap, .int .i64 x] w fun e w' => e = .returned (optV (fromM rs x)) ∧ Below w.heap.size w w' := by
  obtain ⟨o, HO⟩ : ∃ o, Hid (fromM rs x = o) := ⟨_, rfl⟩
  go_enter Try.func85, Try.ntmps85
  go_wp2_with fail
  refine (acrossFrom a cap rs x _ hl hcap hok hx h o HO).mono ?_
  rintro e w1 ⟨rfl, hB1⟩
  unfold optV
  go_wp2
  go_ret2
  exact ⟨ret_opt HO.out.symm, hB1⟩

end Go.Proofs.Ytkkhfnkmfkdhiab
