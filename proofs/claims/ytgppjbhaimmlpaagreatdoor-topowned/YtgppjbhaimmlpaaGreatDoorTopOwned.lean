/-
  PROVED: for all configs, lowers and calls the call of TopOwned returns true, and the arguments read behind it as they read before, in whatever memory in which the two listed tables read as the card ties them. No other condition.
-/
import Derived.Test.YtgppjbhaimmlpaaGreatDoorApX
import Derived.Test.YtgppjbhaimmlpaaGreatDoorTie
import Derived.Test.YtgppjbhaimmlpaaGreatDoorCards
import Derived.Test.YtgppjbhaimmlpaaGreatDoorPcX
import Derived.SevenTiedAt
set_option maxRecDepth 100000
set_option maxHeartbeats 16000000
namespace Go.Proofs.YtgppjbhaimmlpaaGreatDoor
open Go.ChangeShapes Go.WideShapes Go.ChangeAt Go.RowKit Go.ChangeMaps Go.Proofs.Tryz
namespace OwnedRow
theorem lifted(os:Os)(ak:os.Started)(ao:Type)(enc:TypeId×Value→ao):
 ReturnsInHanded {} Tryz.checked os 3 .any (fun w args=>(Rows.topOwnedSpec.pre enc prog Tryz.f3 [] false w args∧laidMetH prog Rows.topOwnedRow.laid w)∧sizedMet enc prog Tryz.f3 (OpenSpec.ofChange Rows.topOwnedSpec) false w args)
  (Rows.topOwnedSpec.post enc prog Tryz.f3 false true false false):=by
 refine RowsIn.handed (X:=fun w _=>laidMetH prog Rows.topOwnedRow.laid w) (fun _ _ _ ap h=>h.of_heap ap) ak (by kernel_rfl) func3
  (ChangeSpec.witness_shaped (enc:=enc) (C:=Tryz.checked) (os:=os) (X:=fun w _=>laidMetH prog Rows.topOwnedRow.laid w) false (World.laidAll prog os Rows.topOwnedRow.laid) #[.agg #[.slice none 0 0,.slice none 0 0,.int .i64 0,.int .i64 0,.slice none 0 0,.int .i64 0,.int .i64 0,.slice none 0 0],.slice none 0 0,.slice none 0 0] 8 (World.laidAll_os _ _ _)
   (World.shaped_of_ZipB (by kernel_rfl) (by kernel_rfl)) (by kernel_rfl) (by kernel_rfl) (by kernel_rfl)
   (by rw[MakeChecks.laidMetH_plain _ _ _ (by kernel_rfl)];exact laidMet_laidAll _ (by kernel_rfl) (by kernel_rfl))) ?_
 intro W base args az gs co H I a1;have G:∀(j:Nat) t v,Tryz.f3.params[j]? =some t→args[j]? =some v→Value.okWide prog W .any base t v:=H;have a6:=I;obtain⟨p,q,J,a7,rfl,cp,cq⟩:=I;have O:DataW.TrodAll enc prog W 0 (fun _=>true) true Tryz.f3.params.toList args.toList az p:=J;rw[Tryz.params3]at O G;obtain⟨v0,a8,ba,cr,cu,cx,bb,bd,be,rfl,rfl,rfl,Q,R,T⟩:=trodAll_three O;obtain⟨rfl,rfl⟩:=trodVars_none a7;obtain⟨bf,bg⟩:=RowsIn.maxLen_cell a1;have V:=Q;have Y:=R;have Z:=T;have bi:∀x∈bb,x.block<W.heap.size:=by obtain⟨m,F⟩:=V;exact DataW.trod_lt m _ _ _ F
 have bk:∀x∈bd,x.block<W.heap.size:=by obtain⟨m,F⟩:=Y;exact DataW.trod_lt m _ _ _ F
 have bl:∀x∈be,x.block<W.heap.size:=by obtain⟨m,F⟩:=Z;exact DataW.trod_lt m _ _ _ F
 obtain⟨cA,bn⟩:=Q;obtain⟨cB,c3,ca,lwa,uc,gc,cc,lwn,lwc,us,c4,cs,c5,c6,ck,bo,bp,⟨bs,bu⟩,⟨bv,bx⟩,⟨bA,bB⟩,bC,hid⟩:=RowsIn.cfg_of_arg (G 0 29 v0 rfl rfl) bn;obtain⟨c8,g1⟩:=R;obtain⟨bF,bG,aa,rfl⟩:=okWide_slice underlying30 (G 1 30 a8 rfl rfl);obtain⟨bH,bY,c1,xs,b0,b1,b2,b3,b4,b5⟩:=RowsIn.ns_of_trod (by simpa [Value.cells]using g1);obtain⟨rfl,rfl,rfl⟩:bF=bH∧bG=bY∧aa=c1:=by simpa using b0
 obtain⟨c9,b6⟩:=T;obtain⟨b7,b9,ab,rfl⟩:=okWide_slice underlying31 (G 2 31 ba rfl rfl);obtain⟨a2,cb,c2,l,cf,cg,da,db,ch⟩:=RowsIn.cls_of_trod (by simpa [Value.cells]using b6);obtain⟨rfl,rfl,rfl⟩:b7=a2∧b9=cb∧ab=c2:=by simpa using cf
 clear J H;subst b1 cg;have ad:=VF (lwa:=lwa) (cc:=cc) (lwn:=lwn) (lwc:=lwc) (ck:=ck) (q:=bo) (cap:=aa) (lcap:=ab) bs bu bv bx bA bB bC hid b4 ⟨b2,b3⟩ b5 ch bf bg;rw[←bp]at ad;refine ad.mono fun e dd ⟨cl,bel⟩=>?_;subst cl
 exact⟨_,rfl,_,_,_,[],_,[],a6,trodAll_mk1 (shut_bool underlying4 _),trodAll_mk3 (Below.trod RowsIn.laidOut (by kernel_rfl) (rI (by kernel_rfl)) V bel bi) (Below.trod RowsIn.laidOut (by kernel_rfl) (rI (by kernel_rfl)) Y bel bk) (Below.trod RowsIn.laidOut (by kernel_rfl) (rI (by kernel_rfl)) Z bel bl),rfl,bel.frame _,fun h=>by cases h⟩
end OwnedRow
theorem topOwned_row:Rows.TopOwnedSaid:=
 OpenClaim.holds_of_wide 3 Tryz.f3 rfl rfl rfl rfl rfl rfl rfl ⟨rfl,rfl,rfl,rfl,rfl⟩ rfl rfl rfl rfl rfl (by kernel_rfl) func3 (by kernel_rfl)
  (rI (by kernel_rfl)) (by unfold Func.isWrapper;first|(rw[nC (by decide+kernel)];kernel_rfl)|(rw[nB (by decide+kernel)];exact⟨rfl,rfl⟩))
  (fun os F G enc _=>OwnedRow.lifted os F G enc)
theorem topOwned_card:Rows.TopOwnedCardSaid:=
 Claim7.holds_tied_plain_at .later [] [.data,.pinned] true (true, "7d27740c8e89653e98ccb89dadaa411b587b632192e100cb0d4b691e6a9c726d") false
  topOwned_row (fun _ h=>by cases h) (by kernel_rfl) (fun _ h=>by cases h) topOwned_row_tie rfl ⟨rfl,rfl⟩ (by kernel_rfl) rfl
  (fun f fn G H=>by
   obtain rfl:f=3:=Option.some.inj ((show prog.funcNamed "idshift/idshifttop.TopOwned" =some 3 by kernel_rfl).symm.trans G) |>.symm;obtain rfl:fn=Tryz.f3:=(Option.some.inj (func3.symm.trans H)).symm
   exact⟨by kernel_rfl,fun j t F=>by
    rw[Tryz.params3]at F;have I:t∈[29,30,31]:=by simpa using Array.mem_of_getElem? F
    have J:([29,30,31].all fun u=> !prog.wantsStandIn u)=true:=by kernel_rfl
    exact(show prog.wantsStandIn t=false by simpa using List.all_eq_true.1 J t I)⟩)
  (by kernel_rfl)
#print axioms topOwned_card
end Go.Proofs.YtgppjbhaimmlpaaGreatDoor
