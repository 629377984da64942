/-
  PROVED: for all configs, lowers and calls the call of TopQuota returns true, and the arguments read behind it as they read before, in whatever memory in which the two listed tables read as the card ties them. No other condition.
-/
import Derived.Test.YtofhphibahcniaaGreatDoorApX
import Derived.Test.YtofhphibahcniaaGreatDoorTie
import Derived.Test.YtofhphibahcniaaGreatDoorCards
import Derived.Test.YtofhphibahcniaaGreatDoorOqX
import Derived.SevenTiedAt
set_option maxRecDepth 100000
set_option maxHeartbeats 16000000
namespace Go.Proofs.YtofhphibahcniaaGreatDoor
open Go.ChangeShapes Go.WideShapes Go.ChangeAt Go.RowKit Go.ChangeMaps Go.Proofs.Tryz
namespace QuotaRow
theorem lifted(os:Os)(ak:os.Started)(ao:Type)(enc:TypeId×Value→ao):
 ReturnsInHanded {} Tryz.checked os 3 .any (fun w args=>(Rows.topQuotaSpec.pre enc prog Tryz.f3 [] false w args∧laidMetH prog Rows.topQuotaRow.laid w)∧sizedMet enc prog Tryz.f3 (OpenSpec.ofChange Rows.topQuotaSpec) false w args)
  (Rows.topQuotaSpec.post enc prog Tryz.f3 false true false false):=by
 refine RowsIn.handed (X:=fun w _=>laidMetH prog Rows.topQuotaRow.laid w) (fun _ _ _ ap h=>h.of_heap ap) ak (by kernel_rfl) func3
  (ChangeSpec.witness_shaped (enc:=enc) (C:=Tryz.checked) (os:=os) (X:=fun w _=>laidMetH prog Rows.topQuotaRow.laid w) false (World.laidAll prog os Rows.topQuotaRow.laid) #[.agg #[.slice none 0 0,.slice none 0 0,.int .i64 0,.int .i64 0,.slice none 0 0,.int .i64 0,.int .i64 0,.slice none 0 0],.slice none 0 0,.slice none 0 0] 8 (World.laidAll_os _ _ _)
   (World.shaped_of_ZipB (by kernel_rfl) (by kernel_rfl)) (by kernel_rfl) (by kernel_rfl) (by kernel_rfl)
   (by rw[MakeChecks.laidMetH_plain _ _ _ (by kernel_rfl)];exact laidMet_laidAll _ (by kernel_rfl) (by kernel_rfl))) ?_
 intro W base args ar gs cg H I ay;have G:∀(j:Nat) t v,Tryz.f3.params[j]? =some t→args[j]? =some v→Value.okWide prog W .any base t v:=H;have az:=I;obtain⟨p,q,J,a1,rfl,ch,cl⟩:=I;have O:DataW.TrodAll enc prog W 0 (fun _=>true) true Tryz.f3.params.toList args.toList ar p:=J;rw[Tryz.params3]at O G;obtain⟨v0,a6,a7,co,cp,cr,a8,ba,bb,rfl,rfl,rfl,Q,R,T⟩:=trodAll_three O;obtain⟨rfl,rfl⟩:=trodVars_none a1;obtain⟨bd,be⟩:=RowsIn.maxLen_cell ay;have V:=Q;have Y:=R;have Z:=T;have bf:∀x∈a8,x.block<W.heap.size:=by obtain⟨m,F⟩:=V;exact DataW.trod_lt m _ _ _ F
 have bg:∀x∈ba,x.block<W.heap.size:=by obtain⟨m,F⟩:=Y;exact DataW.trod_lt m _ _ _ F
 have bi:∀x∈bb,x.block<W.heap.size:=by obtain⟨m,F⟩:=Z;exact DataW.trod_lt m _ _ _ F
 obtain⟨cu,bk⟩:=Q;obtain⟨cx,c3,ca,lwa,uc,gc,cc,lwn,lwc,us,c4,cs,c5,c6,ck,bl,bn,⟨bo,bp⟩,⟨bs,bu⟩,⟨bv,bx⟩,bA,hid⟩:=RowsIn.cfg_of_arg (G 0 29 v0 rfl rfl) bk;obtain⟨c8,g1⟩:=R;obtain⟨bB,bC,aa,rfl⟩:=okWide_slice underlying30 (G 1 30 a6 rfl rfl);obtain⟨bF,bG,c1,xs,bH,bY,b0,b1,b2,b3⟩:=RowsIn.ns_of_trod (by simpa [Value.cells]using g1);obtain⟨rfl,rfl,rfl⟩:bB=bF∧bC=bG∧aa=c1:=by simpa using bH
 obtain⟨c9,b4⟩:=T;obtain⟨b5,b6,ab,rfl⟩:=okWide_slice underlying31 (G 2 31 a7 rfl rfl);obtain⟨a2,b7,c2,l,b9,cb,da,db,cd⟩:=RowsIn.cls_of_trod (by simpa [Value.cells]using b4);obtain⟨rfl,rfl,rfl⟩:b5=a2∧b6=b7∧ab=c2:=by simpa using b9
 clear J H;subst bY cb;have ad:=WD (lwa:=lwa) (cc:=cc) (lwn:=lwn) (lwc:=lwc) (ck:=ck) (q:=bl) (cap:=aa) (lcap:=ab) bo bp bs bu bv bx bA hid b2 ⟨b0,b1⟩ b3 cd bd be;rw[←bn]at ad;refine ad.mono fun e dd ⟨cf,bel⟩=>?_;subst cf
 exact⟨_,rfl,_,_,_,[],_,[],az,trodAll_mk1 (shut_bool underlying4 _),trodAll_mk3 (Below.trod RowsIn.laidOut (by kernel_rfl) (rI (by kernel_rfl)) V bel bf) (Below.trod RowsIn.laidOut (by kernel_rfl) (rI (by kernel_rfl)) Y bel bg) (Below.trod RowsIn.laidOut (by kernel_rfl) (rI (by kernel_rfl)) Z bel bi),rfl,bel.frame _,fun h=>by cases h⟩
end QuotaRow
theorem topQuota_row:Rows.TopQuotaSaid:=
 OpenClaim.holds_of_wide 3 Tryz.f3 rfl rfl rfl rfl rfl rfl rfl ⟨rfl,rfl,rfl,rfl,rfl⟩ rfl rfl rfl rfl rfl (by kernel_rfl) func3 (by kernel_rfl)
  (rI (by kernel_rfl)) (by unfold Func.isWrapper;first|(rw[nD (by decide+kernel)];kernel_rfl)|(rw[nC (by decide+kernel)];exact⟨rfl,rfl⟩))
  (fun os F G enc _=>QuotaRow.lifted os F G enc)
theorem topQuota_card:Rows.TopQuotaCardSaid:=
 Claim7.holds_tied_plain_at .later [] [.data,.pinned] true (true, "a786e984125b82f16eb651246b5e8cca9d47c4a3c3068e0d88636bc14054d09b") true
  topQuota_row (fun _ h=>by cases h) (by kernel_rfl) (fun _ h=>by cases h) topQuota_row_tie rfl ⟨rfl,rfl⟩ (by kernel_rfl) rfl
  (fun f fn G H=>by
   obtain rfl:f=3:=Option.some.inj ((show prog.funcNamed "idshift/idshifttop.TopQuota" =some 3 by kernel_rfl).symm.trans G) |>.symm;obtain rfl:fn=Tryz.f3:=(Option.some.inj (func3.symm.trans H)).symm
   exact⟨by kernel_rfl,fun j t F=>by
    rw[Tryz.params3]at F;have I:t∈[29,30,31]:=by simpa using Array.mem_of_getElem? F
    have J:([29,30,31].all fun u=> !prog.wantsStandIn u)=true:=by kernel_rfl
    exact(show prog.wantsStandIn t=false by simpa using List.all_eq_true.1 J t I)⟩)
  (by kernel_rfl)
#print axioms topQuota_card
end Go.Proofs.YtofhphibahcniaaGreatDoor
