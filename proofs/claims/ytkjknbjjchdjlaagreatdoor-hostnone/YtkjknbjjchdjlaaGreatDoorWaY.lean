/-
  A NODE's BOX; WHAT light AND Light DO: the walks.
-/
import Derived.Test.YtkjknbjjchdjlaaGreatDoorNpX
import Derived.Deep.QuietTactic
import Derived.BigQuiet
namespace Go.Proofs.YtkjknbjjchdjlaaGreatDoor
open Go.RowKit
/-- A node's eight cells, from a block's head. -/
def NBox (w : World) (b : Nat) : Nd → Hd → Prop
  | .mk k m u g o at_ d ks, h => w.cell? ⟨b, 0, none⟩ = some (.int .i64 k) ∧ w.cell? ⟨b, 1, none⟩ = some (.int .i64 m) ∧ w.cell? ⟨b, 2, none⟩ = some (.int .i64 u) ∧ w.cell? ⟨b, 3, none⟩ = some (.int .i64 g) ∧
    w.cell? ⟨b, 4, none⟩ = some (.bool o) ∧ w.cell? ⟨b, 5, none⟩ = some (.slice h.aa at_.length h.ca) ∧ w.cell? ⟨b, 6, none⟩ = some (.string d) ∧ w.cell? ⟨b, 7, none⟩ = some (.slice h.ak ks.length h.ck)
theorem NBox.new (w : World) (k m u g : Int) (o : Bool) (at_ : List Kv) (d : ByteArray) (ks : List (ByteArray × Nd)) (h : Hd) :
    NBox (w.alloc (.cells #[.int .i64 k, .int .i64 m, .int .i64 u, .int .i64 g, .bool o, .slice h.aa at_.length h.ca, .string d, .slice h.ak ks.length h.ck] 102)) w.heap.size (.mk k m u g o at_ d ks) h :=
  ⟨World.cell?_alloc_at _ _ _ _ rfl, World.cell?_alloc_at _ _ _ _ rfl, World.cell?_alloc_at _ _ _ _ rfl, World.cell?_alloc_at _ _ _ _ rfl, World.cell?_alloc_at _ _ _ _ rfl, World.cell?_alloc_at _ _ _ _ rfl, World.cell?_alloc_at _ _ _ _ rfl, World.cell?_alloc_at _ _ _ _ rfl⟩
theorem NBox.below {w w' : World} {b : Nat} {x : Nd} {h : Hd} (hk : NBox w b x h) (hb : Below w.heap.size w w') : NBox w' b x h := by
  obtain ⟨k, m, u, g, o, at_, d, ks⟩ := x
  obtain ⟨h0, h1, h2, h3, h4, h5, h6, h7⟩ := hk
  have hl : b < w.heap.size := World.block_lt_of_cell? _ _ h0
  exact ⟨(hb.cell (p := ⟨b, 0, none⟩) hl).trans h0, (hb.cell (p := ⟨b, 1, none⟩) hl).trans h1, (hb.cell (p := ⟨b, 2, none⟩) hl).trans h2, (hb.cell (p := ⟨b, 3, none⟩) hl).trans h3, (hb.cell (p := ⟨b, 4, none⟩) hl).trans h4,
    (hb.cell (p := ⟨b, 5, none⟩) hl).trans h5, (hb.cell (p := ⟨b, 6, none⟩) hl).trans h6, (hb.cell (p := ⟨b, 7, none⟩) hl).trans h7⟩
theorem NBox.at {w : World} {b : Nat} {x : Nd} {h : Hd} (hb : NBox w b x h) : NAt w.cell? b 0 x h := by
  obtain ⟨k, m, u, g, o, at_, d, ks⟩ := x
  exact hb
theorem NAt.box {w : World} {b : Nat} {x : Nd} {h : Hd} (hb : NAt w.cell? b 0 x h) : NBox w b x h := by
  obtain ⟨k, m, u, g, o, at_, d, ks⟩ := x
  exact hb
theorem KdAt.nine {c : Mem} {b p : Nat} {n : ByteArray} {k m u g : Int} {o : Bool} {at_ : List Kv} {d : ByteArray} {ks : Kds} {h : Hd} (hk : KdAt c b p n (.mk k m u g o at_ d ks) h) : c ⟨b, p, none⟩ = some (.string n) ∧ c ⟨b, p + 1, none⟩ = some (.int .i64 k) ∧ c ⟨b, p + 2, none⟩ = some (.int .i64 m) ∧ c ⟨b, p + 3, none⟩ = some (.int .i64 u) ∧ c ⟨b, p + 4, none⟩ = some (.int .i64 g) ∧
    c ⟨b, p + 5, none⟩ = some (.bool o) ∧ c ⟨b, p + 6, none⟩ = some (.slice h.aa at_.length h.ca) ∧ c ⟨b, p + 7, none⟩ = some (.string d) ∧ c ⟨b, p + 8, none⟩ = some (.slice h.ak ks.length h.ck) := hk
end Go.Proofs.YtkjknbjjchdjlaaGreatDoor
