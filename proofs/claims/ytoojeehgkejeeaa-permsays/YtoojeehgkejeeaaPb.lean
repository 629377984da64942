/-
  WHAT PACKAGE perm DOES: the walks of counting, passes, Owns, May, Takes.
-/
import Derived.Test.YtoojeehgkejeeaaPa
namespace Go.Proofs.Ytoojeehgkejeeaa
open Go.RowKit

/-- A cred in memory: the four cells of block b, which may be written. -/
def Box (w : World) (b : Nat) (u g : Int) (v : Value) (c : Int) : Prop :=
  w.cell? ⟨b, 0, none⟩ = some (.int .i64 u) ∧ w.cell? ⟨b, 1, none⟩ = some (.int .i64 g) ∧ w.cell? ⟨b, 2, none⟩ = some v ∧ w.cell? ⟨b, 3, none⟩ = some (.int .i64 c) ∧ ∀ o, w.frozen? ⟨b, o, none⟩ = false
theorem Box.new (w : World) (u g : Int) (v : Value) (c : Int) : Box (w.alloc (.cells #[.int .i64 u, .int .i64 g, v, .int .i64 c] 40)) w.heap.size u g v c :=
  ⟨World.cell?_alloc_at _ _ _ _ rfl, World.cell?_alloc_at _ _ _ _ rfl, World.cell?_alloc_at _ _ _ _ rfl, World.cell?_alloc_at _ _ _ _ rfl, fun _ => World.frozen?_alloc_at _ _ _ _ rfl⟩
theorem Box.lt {w : World} {b : Nat} {u g : Int} {v : Value} {c : Int} (h : Box w b u g v c) : b < w.heap.size := World.block_lt_of_cell? _ _ h.1
theorem Box.below {w w' : World} {b : Nat} {u g : Int} {v : Value} {c : Int} (h : Box w b u g v c) (hb : Below w.heap.size w w') : Box w' b u g v c := by
  have hl := h.lt
  obtain ⟨h0, h1, h2, h3, h4⟩ := h
  exact ⟨(hb.cell (p := ⟨b, 0, none⟩) hl).trans h0, (hb.cell (p := ⟨b, 1, none⟩) hl).trans h1, (hb.cell (p := ⟨b, 2, none⟩) hl).trans h2, (hb.cell (p := ⟨b, 3, none⟩) hl).trans h3, fun o => (hb.frozen (p := ⟨b, o, none⟩) hl).trans (h4 o)⟩
theorem Box.alloc {w : World} {b : Nat} {u g : Int} {v : Value} {c : Int} (h : Box w b u g v c) (o : Obj) : Box (w.alloc o) b u g v c := h.below ((Below.refl _ _).alloc (Nat.le_refl _) _)

/-- A thing in memory: the five cells of block b. -/
def TBox (w : World) (b : Nat) (d : Bool) (m tu tg : Int) (mp : Bool) : Prop :=
  w.cell? ⟨b, 0, none⟩ = some (.bool d) ∧ w.cell? ⟨b, 1, none⟩ = some (.int .i64 m) ∧ w.cell? ⟨b, 2, none⟩ = some (.int .i64 tu) ∧ w.cell? ⟨b, 3, none⟩ = some (.int .i64 tg) ∧ w.cell? ⟨b, 4, none⟩ = some (.bool mp)
theorem TBox.new (w : World) (B : Nat) (hB : B = w.heap.size) (d : Bool) (m tu tg : Int) (mp : Bool) : TBox (w.alloc (.cells #[.bool d, .int .i64 m, .int .i64 tu, .int .i64 tg, .bool mp] 56)) B d m tu tg mp := by
  subst hB
  exact ⟨World.cell?_alloc_at _ _ _ _ rfl, World.cell?_alloc_at _ _ _ _ rfl, World.cell?_alloc_at _ _ _ _ rfl, World.cell?_alloc_at _ _ _ _ rfl, World.cell?_alloc_at _ _ _ _ rfl⟩
theorem TBox.below {w w' : World} {b : Nat} {d : Bool} {m tu tg : Int} {mp : Bool} (h : TBox w b d m tu tg mp) (hb : Below w.heap.size w w') : TBox w' b d m tu tg mp := by
  have hl := World.block_lt_of_cell? _ _ h.1
  obtain ⟨h0, h1, h2, h3, h4⟩ := h
  exact ⟨(hb.cell (p := ⟨b, 0, none⟩) hl).trans h0, (hb.cell (p := ⟨b, 1, none⟩) hl).trans h1, (hb.cell (p := ⟨b, 2, none⟩) hl).trans h2, (hb.cell (p := ⟨b, 3, none⟩) hl).trans h3, (hb.cell (p := ⟨b, 4, none⟩) hl).trans h4⟩
theorem TBox.alloc {w : World} {b : Nat} {d : Bool} {m tu tg : Int} {mp : Bool} (h : TBox w b d m tu tg mp) (o : Obj) : TBox (w.alloc o) b d m tu tg mp := h.below ((Below.refl _ _).alloc (Nat.le_refl _) _)

/-- A cred and a thing, new in memory. -/
theorem two_new (w w1 : World) (u g : Int) (v : Value) (c : Int) (d : Bool) (m tu tg : Int) (mp : Bool)
    (hb : Below ((w.alloc (.cells #[.int .i64 u, .int .i64 g, v, .int .i64 c] 40)).alloc (.cells #[.bool d, .int .i64 m, .int .i64 tu, .int .i64 tg, .bool mp] 56)).heap.size ((w.alloc (.cells #[.int .i64 u, .int .i64 g, v, .int .i64 c] 40)).alloc (.cells #[.bool d, .int .i64 m, .int .i64 tu, .int .i64 tg, .bool mp] 56)) w1) :
    Box w1 w.heap.size u g v c ∧ TBox w1 (w.heap.size + 1) d m tu tg mp ∧ Below w.heap.size w w1 :=
  ⟨((Box.new w u g v c).alloc _).below hb, (TBox.new (w.alloc _) _ (by simp) d m tu tg mp).below hb, (((Below.refl _ _).alloc (Nat.le_refl _) _).alloc (by simp) _).trans (hb.mono (by simp; omega))⟩
theorem Ints.two {w : World} {a : Option Addr} {zs : List Int} (h : Ints w a zs) (o o' : Obj) : Ints ((w.alloc o).alloc o') a zs := (h.alloc _).alloc _

/-- The bits that count. -/
def cntF (u g : Int) (zs : List Int) (m tu tg : Int) (mp : Bool) : Int := if isU u tu mp = true then m / 64 else if (mp && hasB g zs tg) = true then m / 8 else m

set_option maxHeartbeats 1000000 in
theorem counting_any (u g c : Int) (a : Option Addr) (cap : Nat) (zs : List Int) (d : Bool) (m tu tg : Int) (mp : Bool) (w : World) (hl : zs.length ≤ 9223372036854775807) (h : Ints w a zs) (_hm0 : 0 ≤ m) (_hm1 : m ≤ 4095) :
    Calls Try.prog 61 #[.agg #[.int .i64 u, .int .i64 g, .slice a zs.length cap, .int .i64 c], .agg #[.bool d, .int .i64 m, .int .i64 tu, .int .i64 tg, .bool mp]] w fun e w' =>
      e = .returned (.int .i64 (cntF u g zs m tu tg mp)) ∧ Below w.heap.size w w' := by
  go_enter Try.func61, Try.ntmps61
  go_wp2_with fail
  refine (isUsers_any u g c _ d m tu tg mp _).mono ?_
  rintro e w1 ⟨rfl, hb⟩
  obtain ⟨hX, hT, hB⟩ := two_new w w1 u g _ c d m tu tg mp hb
  have h1 := (h.two _ _).below hb
  clear hb
  obtain ⟨k0, k1, k2, k3, k4⟩ := id hX
  obtain ⟨j0, j1, j2, j3, j4⟩ := id hT
  obtain ⟨t, ht⟩ : ∃ t, isU u tu mp = t := ⟨_, rfl⟩
  have HT : Hid (isU u tu mp = t) := ht
  rw [ht]; clear ht
  cases t
  · cases mp
    · go_wp2
      go_ret
      exact ⟨ret_int (by unfold cntF; rw [if_neg (by rw [HT.out]; decide), if_neg (by simp)]), hB⟩
    · go_wp2_with fail
      refine (has_any u g tg c a cap zs _ hl h1).mono ?_
      rintro e w2 ⟨rfl, hb2⟩
      obtain ⟨l0, l1, l2, l3, l4⟩ := hT.below hb2
      have hB2 := hB.trans (hb2.mono hB.size)
      clear k0 k1 k2 k3 k4 j0 j1 j2 j3 j4 hb2
      obtain ⟨t, ht⟩ : ∃ t, hasB g zs tg = t := ⟨_, rfl⟩
      have HG : Hid (hasB g zs tg = t) := ht
      rw [ht]; clear ht
      cases t
      · go_wp2
        go_ret
        exact ⟨ret_int (by unfold cntF; rw [if_neg (by rw [HT.out]; decide), if_neg (by rw [HG.out]; simp)]), hB2⟩
      · go_wp2
        go_ret
        exact ⟨ret_int (by unfold cntF; rw [if_neg (by rw [HT.out]; decide), if_pos (by rw [HG.out]; rfl)]), hB2⟩
  · go_wp2
    go_ret
    exact ⟨ret_int (by unfold cntF; rw [if_pos HT.out]), hB⟩
end Go.Proofs.Ytoojeehgkejeeaa
