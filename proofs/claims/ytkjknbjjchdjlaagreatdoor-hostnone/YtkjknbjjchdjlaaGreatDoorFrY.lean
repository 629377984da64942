/-
  Flat: the walk.
-/
import Derived.Test.YtkjknbjjchdjlaaGreatDoorUcX
import Derived.Maps.OwnOps
import Derived.Deep.RegionHeld3
import Derived.BigQuiet
import Derived.Deep.RegionLaw
import Derived.Deep.Cut
import Derived.Test.YtkjknbjjchdjlaaGreatDoorVeX
import Derived.Test.YtkjknbjjchdjlaaGreatDoorWlY
import Derived.Test.YtkjknbjjchdjlaaGreatDoorNpX
import Derived.Test.YtkjknbjjchdjlaaGreatDoorXbX
import Derived.Deep.LoopGhost
namespace Go.Proofs.YtkjknbjjchdjlaaGreatDoor
open Go.RowKit Go.Shelf
/-- The nine cells of a kid with nothing in it. -/
def st9 (w : World) (b p : Nat) (nm : ByteArray) : World := ((((((((w.setCell ⟨b, p, none⟩ (.string nm)).setCell ⟨b, p + 1, none⟩ (.int .i64 0)).setCell ⟨b, p + 2, none⟩ (.int .i64 0)).setCell ⟨b, p + 3, none⟩ (.int .i64 0)).setCell ⟨b, p + 4, none⟩ (.int .i64 0)).setCell ⟨b, p + 5, none⟩ (.bool false)).setCell ⟨b, p + 6, none⟩ (.slice none 0 0)).setCell ⟨b, p + 7, none⟩ (.string ⟨#[]⟩)).setCell ⟨b, p + 8, none⟩ (.slice none 0 0)
attribute [local go_sem] Oper.semAt_some
end Go.Proofs.YtkjknbjjchdjlaaGreatDoor
