/-
  A NODE's BOX, where another block is written.
-/
import Derived.Test.YtkkhfnkmfkdhiabWaX
import Derived.Test.YtkkhfnkmfkdhiabBtX
namespace Go.Proofs.Ytkkhfnkmfkdhiab
open Go.RowKit

theorem NBox.but {w w' : World} {b b' : Nat} {x : Nd} {h : Hd} (hk : NBox w b x h) (hb : But b' w w') (hne : b ≠ b') : NBox w' b x h := by
  obtain ⟨k, m, u, g, o, at_, d, ks⟩ := x
  obtain ⟨h0, h1, h2, h3, h4, h5, h6, h7⟩ := hk
  have hl : b < w.heap.size := World.block_lt_of_cell? _ _ h0
  exact ⟨(hb.cell (p := ⟨b, 0, none⟩) hl hne).trans h0, (hb.cell (p := ⟨b, 1, none⟩) hl hne).trans h1, (hb.cell (p := ⟨b, 2, none⟩) hl hne).trans h2, (hb.cell (p := ⟨b, 3, none⟩) hl hne).trans h3, (hb.cell (p := ⟨b, 4, none⟩) hl hne).trans h4,
    (hb.cell (p := ⟨b, 5, none⟩) hl hne).trans h5, (hb.cell (p := ⟨b, 6, none⟩) hl hne).trans h6, (hb.cell (p := ⟨b, 7, none⟩) hl hne).trans h7⟩
end Go.Proofs.Ytkkhfnkmfkdhiab
