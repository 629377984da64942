/-
  MAPS OF IDS: what is wrong with one; the walks of bounded, meet, goesOn, chain.
-/
import Derived.Test.YtoadlnojcbkdgaaCb
import Derived.Test.YtoadlnojcbkdgaaAp
import Derived.Deep.RegionHeld3
namespace Go.Proofs.Ytoadlnojcbkdgaa
open Go.RowKit

/-- A range. -/
structure Rg where
  i : Int
  o : Int
  n : Int

/-- An int. -/
def I64 (x : Int) : Prop := -9223372036854775808 ≤ x ∧ x ≤ 9223372036854775807
/-- A range of ints. -/
def Rg.ok (r : Rg) : Prop := I64 r.i ∧ I64 r.o ∧ I64 r.n

/-- A slice of ranges: nothing is asked of an empty one's address. -/
def Rgs (w : World) (a : Option Addr) (rs : List Rg) : Prop :=
  rs = [] ∨ ∃ b off, a = some ⟨b, off, none⟩ ∧ ∀ k r, rs[k]? = some r → w.cell? ⟨b, off + k * 3, none⟩ = some (.int .i64 r.i) ∧ w.cell? ⟨b, off + k * 3 + 1, none⟩ = some (.int .i64 r.o) ∧ w.cell? ⟨b, off + k * 3 + 2, none⟩ = some (.int .i64 r.n)

theorem Rgs.below {w w' : World} {a : Option Addr} {rs : List Rg} (h : Rgs w a rs) (hb : Below w.heap.size w w') : Rgs w' a rs := by
  rcases h with h | ⟨b, off, ha, hc⟩
  · exact .inl h
  · refine .inr ⟨b, off, ha, fun k r hk => ?_⟩
    obtain ⟨h1, h2, h3⟩ := hc k r hk
    have hlt : b < w.heap.size := World.block_lt_of_cell? _ _ h1
    exact ⟨(hb.cell (p := ⟨b, off + k * 3, none⟩) hlt).trans h1, (hb.cell (p := ⟨b, off + k * 3 + 1, none⟩) hlt).trans h2, (hb.cell (p := ⟨b, off + k * 3 + 2, none⟩) hlt).trans h3⟩

/-- A range in memory: the three cells of block b, which may be written. -/
def RBox (w : World) (b : Nat) (r : Rg) : Prop :=
  w.cell? ⟨b, 0, none⟩ = some (.int .i64 r.i) ∧ w.cell? ⟨b, 1, none⟩ = some (.int .i64 r.o) ∧ w.cell? ⟨b, 2, none⟩ = some (.int .i64 r.n) ∧ ∀ o, w.frozen? ⟨b, o, none⟩ = false
theorem RBox.new (w : World) (i o n : Int) : RBox (w.alloc (.cells #[.int .i64 i, .int .i64 o, .int .i64 n] 53)) w.heap.size ⟨i, o, n⟩ :=
  ⟨World.cell?_alloc_at _ _ _ _ rfl, World.cell?_alloc_at _ _ _ _ rfl, World.cell?_alloc_at _ _ _ _ rfl, fun _ => World.frozen?_alloc_at _ _ _ _ rfl⟩
theorem RBox.lt {w : World} {b : Nat} {r : Rg} (h : RBox w b r) : b < w.heap.size := World.block_lt_of_cell? _ _ h.1
theorem RBox.below {w w' : World} {b : Nat} {r : Rg} (h : RBox w b r) (hb : Below w.heap.size w w') : RBox w' b r := by
  have hl := h.lt
  obtain ⟨h0, h1, h2, h4⟩ := h
  exact ⟨(hb.cell (p := ⟨b, 0, none⟩) hl).trans h0, (hb.cell (p := ⟨b, 1, none⟩) hl).trans h1, (hb.cell (p := ⟨b, 2, none⟩) hl).trans h2, fun o => (hb.frozen (p := ⟨b, o, none⟩) hl).trans (h4 o)⟩
theorem RBox.alloc {w : World} {b : Nat} {r : Rg} (h : RBox w b r) (o : Obj) : RBox (w.alloc o) b r := h.below ((Below.refl _ _).alloc (Nat.le_refl _) _)

def bndB (f n : Int) : Bool := decide (0 ≤ f ∧ 1 ≤ n ∧ n - 1 ≤ 65535 - f)
def meetB (a n b m : Int) : Bool := decide (a < b + m ∧ b < a + n)
def bndR (r : Rg) : Bool := bndB r.i r.n && bndB r.o r.n
def meetR (p r : Rg) : Bool := meetB p.i p.n r.i r.n || meetB p.o p.n r.o r.n
def onB (p r : Rg) : Bool := decide (p.i + p.n = r.i ∧ p.o + p.n = r.o)
/-- A range of ids: bounds. -/
def Rg.bd (r : Rg) : Prop := 0 ≤ r.i ∧ r.i ≤ 65535 ∧ 0 ≤ r.o ∧ r.o ≤ 65535 ∧ 1 ≤ r.n ∧ r.n ≤ 65536 ∧ r.i + r.n ≤ 65536 ∧ r.o + r.n ≤ 65536
theorem bd_of {r : Rg} (h : bndR r = true) : r.bd := by
  simp [bndR, bndB] at h; unfold Rg.bd; omega
theorem bd_iff (r : Rg) : bndR r = true ↔ r.bd := by
  constructor
  · exact bd_of
  · intro h; unfold Rg.bd at h; simp [bndR, bndB]; omega

set_option maxHeartbeats 400000 in
theorem bounded_any (f n : Int) (hf : I64 f) (hn : I64 n) (w : World) : Calls Try.prog 42 #[.int .i64 f, .int .i64 n] w fun e w' => e = .returned (.bool (bndB f n)) ∧ w = w' := by
  obtain ⟨f1, f2⟩ := hf
  obtain ⟨n1, n2⟩ := hn
  by_cases h0 : 0 ≤ f
  · by_cases h1 : 1 ≤ n
    · have HB : Hid (bndB f n = decide (n - 1 ≤ 65535 - f)) := by show _ = _; simp [bndB, h0, h1]
      go_enter Try.func42, Try.ntmps42
      go_wp2
      go_ret
      exact ⟨ret_bool HB.out.symm, rfl⟩
    · have d1 : decide (1 ≤ n) = false := by simpa using h1
      have HB : Hid (bndB f n = false) := by show _ = _; simp [bndB]; omega
      go_enter Try.func42, Try.ntmps42
      go_wp2
      go_ret
      exact ⟨ret_bool HB.out.symm, rfl⟩
  · have d1 : decide (0 ≤ f) = false := by simpa using h0
    have HB : Hid (bndB f n = false) := by show _ = _; simp [bndB]; omega
    go_enter Try.func42, Try.ntmps42
    go_wp2
    go_ret
    exact ⟨ret_bool HB.out.symm, rfl⟩

set_option maxHeartbeats 400000 in
theorem meet_any (a n b m : Int) (h1 : 0 ≤ a) (h2 : a ≤ 65535) (h3 : 1 ≤ n) (h4 : n ≤ 65536) (h5 : 0 ≤ b) (h6 : b ≤ 65535) (h7 : 1 ≤ m) (h8 : m ≤ 65536) (w : World) :
    Calls Try.prog 43 #[.int .i64 a, .int .i64 n, .int .i64 b, .int .i64 m] w fun e w' => e = .returned (.bool (meetB a n b m)) ∧ w = w' := by
  by_cases g1 : a < b + m
  · have HB : Hid (meetB a n b m = decide (b < a + n)) := by show _ = _; simp [meetB, g1]
    go_enter Try.func43, Try.ntmps43
    go_wp2
    go_ret
    exact ⟨ret_bool HB.out.symm, rfl⟩
  · have d1 : decide (a < b + m) = false := by simpa using g1
    have HB : Hid (meetB a n b m = false) := by show _ = _; simp [meetB]; omega
    go_enter Try.func43, Try.ntmps43
    go_wp2
    go_ret
    exact ⟨ret_bool HB.out.symm, rfl⟩

set_option maxHeartbeats 400000 in
theorem goesOn_any (p r : Rg) (hp : p.bd) (hr : r.bd) (w : World) : Calls Try.prog 52 #[.agg #[.int .i64 p.i, .int .i64 p.o, .int .i64 p.n], .agg #[.int .i64 r.i, .int .i64 r.o, .int .i64 r.n]] w fun e w' =>
    e = .returned (.bool (onB p r)) ∧ Below w.heap.size w w' := by
  obtain ⟨pi, po, pn⟩ := p
  obtain ⟨ri, ro, rn⟩ := r
  obtain ⟨p1, p2, p3, p4, p5, p6, p7, p8⟩ := hp
  obtain ⟨r1, r2, r3, r4, r5, r6, r7, r8⟩ := hr
  dsimp only at *
  by_cases g1 : pi + pn = ri
  · have HB : Hid (onB ⟨pi, po, pn⟩ ⟨ri, ro, rn⟩ = decide (po + pn = ro)) := by show _ = _; simp [onB, g1]
    have d1 : (pi + pn == ri) = true := by simpa using g1
    clear g1
    go_enter Try.func52, Try.ntmps52
    go_wp2
    go_ret
    exact ⟨ret_bool (by rw [HB.out]; rfl), ((Below.refl _ _).alloc (Nat.le_refl _) _).alloc (by simp) _⟩
  · have HB : Hid (onB ⟨pi, po, pn⟩ ⟨ri, ro, rn⟩ = false) := by show _ = _; simp [onB, g1]
    have d1 : (pi + pn == ri) = false := by simpa using g1
    clear g1
    go_enter Try.func52, Try.ntmps52
    go_wp2
    go_ret
    exact ⟨ret_bool (by rw [HB.out]), ((Below.refl _ _).alloc (Nat.le_refl _) _).alloc (by simp) _⟩

/-- Two ranges, one behind the other. -/
def chainR (a b : Rg) : Rg := ⟨a.i + max a.o b.i - a.o, b.o + max a.o b.i - b.i, min (a.o + a.n) (b.i + b.n) - max a.o b.i⟩
set_option maxHeartbeats 400000 in
theorem chain_any (p r : Rg) (hp : p.bd) (hr : r.bd) (w : World) : Calls Try.prog 46 #[.agg #[.int .i64 p.i, .int .i64 p.o, .int .i64 p.n], .agg #[.int .i64 r.i, .int .i64 r.o, .int .i64 r.n]] w fun e w' =>
    e = .returned (.agg #[.int .i64 (chainR p r).i, .int .i64 (chainR p r).o, .int .i64 (chainR p r).n]) ∧ Below w.heap.size w w' := by
  obtain ⟨pi, po, pn⟩ := p
  obtain ⟨ri, ro, rn⟩ := r
  obtain ⟨p1, p2, p3, p4, p5, p6, p7, p8⟩ := hp
  obtain ⟨r1, r2, r3, r4, r5, r6, r7, r8⟩ := hr
  dsimp only at *
  go_enter Try.func46, Try.ntmps46
  go_wp2
  all_goals
    refine bodyPost_ret (v := .agg #[.int .i64 (chainR ⟨pi, po, pn⟩ ⟨ri, ro, rn⟩).i, .int .i64 (chainR ⟨pi, po, pn⟩ ⟨ri, ro, rn⟩).o, .int .i64 (chainR ⟨pi, po, pn⟩ ⟨ri, ro, rn⟩).n]) (by simp [results, Try.results46, go_sem, chainR]; omega) rfl ⟨rfl, ?_⟩
    exact (((Below.refl _ _).alloc (Nat.le_refl _) _).alloc (by simp) _).alloc (by simp; omega) _
end Go.Proofs.Ytoadlnojcbkdgaa
