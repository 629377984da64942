/-
  PROVED: for all numbers of blocks and lists of turns the call of TopSealed returns true, and the arguments read behind it as they read before, in whatever memory in which the five listed tables read as the card ties them. No other condition.
-/
import Derived.Test.YtchpdmjlicmdaaaGreatDoorHpsX
set_option maxRecDepth 100000
set_option maxHeartbeats 16000000
namespace Go.Proofs.YtchpdmjlicmdaaaGreatDoor
open Go.ChangeShapes Go.WideShapes Go.ChangeAt Go.RowKit Go.ChangeMaps Go.Proofs.Tryz
theorem topSealed_card:Rows.TopSealedCardSaid:=
 Claim7.holds_tied_plain_at .later [] [.data,.data,.data,.data,.pinned] true (true, "d144a5aff643558cea6930da5712185a54457474a56ac08c8fe75b00f70752bc") true
  topSealed_row (λ_ h=>by cases h) oK (λ_ h=>by cases h) topSealed_row_tie rfl ⟨rfl,rfl⟩ oK rfl
  (λf fn H I=>by
   obtain rfl:f=3:=Option.some.inj ((show prog.funcNamed "idshift/idshifttop.TopSealed" =some 3 by kernel_rfl).symm.trans H) |>.symm;obtain rfl:fn=Tryz.f3:=(Option.some.inj<|func3.symm.trans I).symm
   exact⟨by kernel_rfl,λj t G=>by
    rw[Tryz.params3]at G;have J:t∈[3,22]:=by simpa using Array.mem_of_getElem? G
    have O:([3,22].all λu=> !prog.wantsStandIn u)=true:=by kernel_rfl
    exact(show prog.wantsStandIn t=false by simpa using List.all_eq_true.1 O t J)⟩)
  oK
#print axioms topSealed_card
end Go.Proofs.YtchpdmjlicmdaaaGreatDoor
