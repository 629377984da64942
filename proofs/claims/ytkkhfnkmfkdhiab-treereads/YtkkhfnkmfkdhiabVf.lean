/-
  A ROW OF BYTES AS A TEXT: no walk.
-/
import Derived.Test.YtkkhfnkmfkdhiabVe
import Derived.Lib.SlBytesRow
namespace Go.Proofs.Ytkkhfnkmfkdhiab
open Go.RowKit

/-- Bytes as a text. -/
def ofB (l : List UInt8) : ByteArray := ⟨l.toArray⟩
theorem ofB_size (l : List UInt8) : (ofB l).size = l.length := by simp [ofB, ByteArray.size]
theorem conv_row {w : World} {base : Nat} {v : Value} {n : Nat} {l : List UInt8} (hrow : w.ownsRow base 5 1 v n (bc l)) (hn : n = l.length) (hl : 0 < n) : (convert 94 9 v).run Try.prog w = .ok (.string (ofB l)) w := by
  subst hn
  obtain ⟨a, cap, rfl, _, _, hf⟩ := owns_cells hrow
  rcases hf with ⟨_, e, _⟩ | ⟨g, rfl, _, _, hc, _⟩
  · omega
  · have := Lib.run_convert_whole (P := Try.prog) w 94 5 9 Try.underlying94 Try.underlying5 Try.underlying9 g 0 (ofB l) (fun i hi => by
      rw [Nat.zero_add]
      refine hc i _ ?_
      have hi' : i < l.length := by rwa [ofB_size] at hi
      simp [bc, ofB, List.getElem?_eq_getElem hi']
      rfl) cap
    rwa [ofB_size] at this
theorem byN_pos (x : Nd) : 0 < (byN x).length := by
  obtain ⟨k, m, u, g, o, at_, d, ks⟩ := x
  rw [byN]; simp
end Go.Proofs.Ytkkhfnkmfkdhiab
