/-
  TopQuota: Vd Ve Vf Vh Vi Xs Xq Xt Xu Xv.
-/
import Derived.Test.YtofhphibahcniaaGreatDoorApX
import Derived.Test.YtofhphibahcniaaGreatDoorHeX
import Derived.Deep.RegionHeld3
import Derived.Deep.Cut
import Derived.Lib.SlBytesRow
import Derived.Deep.AppendSrc
set_option maxRecDepth 100000
set_option maxHeartbeats 16000000
namespace Go.Proofs.YtofhphibahcniaaGreatDoor
open Go.RowKit Go.Proofs.Tryz
theorem cO{O:World}{x:Nd}{h:Hd}(eB:Ah O.cell? x h):∀(W:World) (v:Value) (n:Nat) (xs:List Value),Jg x→Below O.heap.size O W→W.ownsRow O.heap.size 5 1 v n xs→n+(BK x).length≤80000000→
 Calls prog 40 #[v,Al x h] W fun e w'=>∃bl,e=.returned bl∧w'.ownsRow O.heap.size 5 1 bl (n+(BK x).length) (xs++bc (BK x))∧Gr W w' v bl:=by
 obtain⟨b4,d1,d2,d3,bY⟩:=DC Tryz.infoB;have b5:Hid _:=d1;have b6:Hid _:=d2;have b7:Hid _:=d3;have b9:Hid _:=bY;clear d1 d2 d3 bY;induction eB with
 |@mk k m u g o nh d ks h b fh f d4 fl fr d5 d6 bF d7=>
  intro W v n xs d8 eE d9 ea;rw[Jg]at d8;obtain⟨⟨fs,fv⟩,⟨fx,fY⟩,⟨f0,f1⟩,⟨f2,f3⟩,⟨f4,eb⟩,f5,f7,ec⟩:=d8;have eL:=hid eb;have e0:=hid ec;have ed:=hid d4;have e1:=hid d6;have e2:Hid _:=d7;have ee:=hid d5;have de:=LS.start eE d9 k m u g o nh d ks h;have c3:Hid (BK (.mk k m u g o nh d ks)=b8 (if o=true then k+8 else k)::(BW m++(BW u++(BW g++(b8 nh.length::(CD nh++(Bg d++(b8 ks.length::BQ ks)))))))):=by show _=_;rw[BK]
  have ef:=hid ea;obtain⟨V,eg⟩:=AQ (BK (.mk k m u g o nh d ks));rw[eg.out]at c3 ef;rw[eg.out];have ej:∀(p q:List UInt8),V=p++q→n+p.length≤80000000:=fun p q e=>by have:=ef.out;rw[e,nM]at this;omega
  have bA:=hid ej;clear eb ec d4 d6 d7 d5 bF d9 ea ej;have b3:=hid de;have f8:=bA.out [] V rfl;show cL 40 #[v,.agg #[iN k,iN m,iN u,iN g,.bool o,.slice h.aa nh.length h.ca,.string d,.slice h.ak ks.length h.ck]] _ _;obtain⟨bn,bd,be,bf,bo,Q,bg,R⟩:=de.box;obtain⟨ek,b0⟩:=AQ h.aa;obtain⟨el,b1⟩:=AQ h.ak;rw[b0.out,b1.out]at b3 bn bd be bf bo Q bg R⊢;rw[b0.out]at ed;rw[b1.out]at ee;clear de;obtain⟨kd,c4⟩:∃kd,Hid ((if o=true then k+8 else k)=kd):=⟨_,rfl⟩;rw[c4.out]at c3;go_enter func40,ntmps40;have f9:0≤kd∧kd≤255:=by rw[←c4.out];split<;>omega
  go_upto_if 15 with fail
  go_cut [5]from 16 (fun t5 wr=>t5=iN kd∧wr=W.alloc (.cells #[iN k,iN m,iN u,iN g,.bool o,.slice ek nh.length h.ca,.string d,.slice el ks.length h.ck] 54))
  case first=>
   cases o
   ·go_wp2
    go_meet
    exact⟨by rw[←c4.out];rfl,rfl⟩
   ·go_wp2
    go_meet
    exact⟨by rw[←c4.out];rfl,rfl⟩
  case rest=>
   obtain⟨rfl,rfl⟩:=hcut;have em:Hid (V=[]++(b8 kd::(Gv [m,u,g]++(b8 nh.length::(CD nh++(Bg d++(b8 ks.length::BQ ks))))))):=by
    show _=_;rw[c3.out];simp[Gv]
   have ga:([]:List UInt8).length=0:=rfl;clear c3;clear bn bo;generalize e3:W.alloc (.cells #[iN k,iN m,iN u,iN g,.bool o,.slice ek nh.length h.ca,.string d,.slice el ks.length h.ck] 54)=en at b3 bd be bf Q bg R⊢;clear e3;generalize gb:W.heap.size=bG at b3 bd be bf Q bg R⊢;go_wp2_with (at_builtin;refine DZ (en.alloc (.cells #[.int .u8 kd] 5)) rfl (.tmp 18) (.tmp 21) 71 rfl O.heap.size 5 b4 (.int .u8 0) 1 1 underlying71 b5.out b6.out b7.out b9.out rfl (by decide) v (n+([]:List UInt8).length) (xs++bc ([]:List UInt8)) rfl (b3.out.row.alloc _) (some (aD en.heap.size 0)) 1 1 (bc [b8 kd]) rfl rfl (.inr ⟨_,rfl,Y0 _ _ _ (by omega)⟩) (G8 _) (by unfold maxLen;omega) (by omega) (nP b3.out.low.size (by rw[nw];omega)) ?_)
   intro gg gl ak ao ap;have c5:=hid (b3.out.app (IZ ao ap) [b8 kd] ak (by simp));clear ak ao ap b3;have Y:Hid (V=([]++[b8 kd])++(Gv [m,u,g]++(b8 nh.length::(CD nh++(Bg d++(b8 ks.length::BQ ks)))))):=by show _=_;rw[em.out];rfl
   generalize([]++[b8 kd]:List UInt8)=dg at c5 Y;clear em bd be bf Q bg R;obtain⟨bn,bd,be,bf,bo,Q,bg,R⟩:=c5.out.box;rw[b0.out]at Q;rw[b1.out]at R;go_wp2;clear bn bd be bf bo Q bg R;go_loopw [30,0] (fun i cf wr=>∃(j:Nat) (H:List UInt8),j≤3∧i=iN j∧Hid (V=H++(Gv ([m,u,g].drop j)++(b8 nh.length::(CD nh++(Bg d++(b8 ks.length::BQ ks))))))∧Hid (LS O W wr v cf n xs bG (.mk k m u g o nh d ks) h H)) (fun i _ _=>3-(intOf i).toNat)
   case atStart=>exact⟨0,dg,by omega,rfl,Y.out,c5.out⟩
   case round=>
    obtain⟨j,H,e4,rfl,ab,I⟩:=hrel;clear c5 Y;have hb:=bA.out _ _ ab.out;have e5:j=0∨j=1∨j=2∨j=3:=by omega
    have c6:=(Pu (iN m) (iN u) (iN g) wr).1;have c8:=(Pu (iN m) (iN u) (iN g) wr).2.1;have c9:=(Pu (iN m) (iN u) (iN g) wr).2.2;rcases e5 with rfl|rfl|rfl|rfl
    ·have bY:0≤m∧m≤65535:=by omega
     go_wp2_with (at_builtin;refine DZ (wr.alloc (.cells #[.int .u8 (m / 256),.int .u8 (m%256)] 5)) rfl (.tmp 33) (.tmp 39) 71 rfl O.heap.size 5 b4 (.int .u8 0) 1 1 underlying71 b5.out b6.out b7.out b9.out rfl (by decide) u0 (n+H.length) (xs++bc H) rfl (I.out.row.alloc _) (some (aD wr.heap.size 0)) 2 2 (bc (BW m)) rfl rfl (.inr ⟨_,rfl,M9 _ _ _ bY⟩) (G8 _) (by unfold maxLen;omega) (by omega) (nP I.out.low.size (by rw[nw];omega)) ?_)
     intro v3 eo ak ao ap;have cg:=hid (I.out.app (IZ ao ap) (BW m) ak (by simp[KP]));have b2:Hid (V=(H++BW m)++(Gv ([m,u,g].drop (0+1))++(b8 nh.length::(CD nh++(Bg d++(b8 ks.length::BQ ks)))))):=by show _=_;rw[ab.out];simp[Gv]
     clear ak ao ap c6 c8 c9;go_wp2;go_roundw
     case rel=>exact⟨0+1,_,by omega,by go_num,b2.out,cg.out⟩
     case measure=>simp[intOf]
    ·have bY:0≤u∧u≤65535:=by omega
     go_wp2_with (at_builtin;refine DZ (wr.alloc (.cells #[.int .u8 (u / 256),.int .u8 (u%256)] 5)) rfl (.tmp 33) (.tmp 39) 71 rfl O.heap.size 5 b4 (.int .u8 0) 1 1 underlying71 b5.out b6.out b7.out b9.out rfl (by decide) u0 (n+H.length) (xs++bc H) rfl (I.out.row.alloc _) (some (aD wr.heap.size 0)) 2 2 (bc (BW u)) rfl rfl (.inr ⟨_,rfl,M9 _ _ _ bY⟩) (G8 _) (by unfold maxLen;omega) (by omega) (nP I.out.low.size (by rw[nw];omega)) ?_)
     intro v3 eo ak ao ap;have cg:=hid (I.out.app (IZ ao ap) (BW u) ak (by simp[KP]));have b2:Hid (V=(H++BW u)++(Gv ([m,u,g].drop (1+1))++(b8 nh.length::(CD nh++(Bg d++(b8 ks.length::BQ ks)))))):=by show _=_;rw[ab.out];simp[Gv]
     clear ak ao ap c6 c8 c9;go_wp2;go_roundw
     case rel=>exact⟨1+1,_,by omega,by go_num,b2.out,cg.out⟩
     case measure=>simp[intOf]
    ·have bY:0≤g∧g≤65535:=by omega
     go_wp2_with (at_builtin;refine DZ (wr.alloc (.cells #[.int .u8 (g / 256),.int .u8 (g%256)] 5)) rfl (.tmp 33) (.tmp 39) 71 rfl O.heap.size 5 b4 (.int .u8 0) 1 1 underlying71 b5.out b6.out b7.out b9.out rfl (by decide) u0 (n+H.length) (xs++bc H) rfl (I.out.row.alloc _) (some (aD wr.heap.size 0)) 2 2 (bc (BW g)) rfl rfl (.inr ⟨_,rfl,M9 _ _ _ bY⟩) (G8 _) (by unfold maxLen;omega) (by omega) (nP I.out.low.size (by rw[nw];omega)) ?_)
     intro v3 eo ak ao ap;have cg:=hid (I.out.app (IZ ao ap) (BW g) ak (by simp[KP]));have b2:Hid (V=(H++BW g)++(Gv ([m,u,g].drop (2+1))++(b8 nh.length::(CD nh++(Bg d++(b8 ks.length::BQ ks)))))):=by show _=_;rw[ab.out];simp[Gv]
     clear ak ao ap c6 c8 c9;go_wp2;go_roundw
     case rel=>exact⟨2+1,_,by omega,by go_num,b2.out,cg.out⟩
     case measure=>simp[intOf]
    ·clear c6 c8 c9
     have b2:Hid (V=H++(b8 nh.length::(CD nh++(Bg d++(b8 ks.length::BQ ks))))):=ab.out;clear ab;obtain⟨bn,bd,be,bf,bo,Q,bg,R⟩:=I.out.box;rw[b0.out]at Q;rw[b1.out]at R;go_wp2_with (at_builtin;refine DZ (wr.alloc (.cells #[.int .u8 (IntKind.u8.wrap ((nh.length:Int)))] 5)) rfl (.tmp 42) (.tmp 47) 71 rfl O.heap.size 5 b4 (.int .u8 0) 1 1 underlying71 b5.out b6.out b7.out b9.out rfl (by decide) u0 (n+H.length) (xs++bc H) rfl (I.out.row.alloc _) (some (aD wr.heap.size 0)) 1 1 (bc [b8 ((nh.length:Int))]) rfl rfl (.inr ⟨_,rfl,Lv _ _ _⟩) (G8 _) (by unfold maxLen;omega) (by omega) (nP I.out.low.size (by rw[nw];omega)) ?_)
     intro v4 go ak ao ap;have da:=hid (I.out.app (IZ ao ap) [b8 ((nh.length:Int))] ak (by simp));clear ak ao ap I;clear bn bd be bf bo Q bg R;have dj:Hid (V=(H++[b8 (nh.length:Int)])++(CD (nh.drop 0)++(Bg d++(b8 ks.length::BQ ks)))):=by show _=_;rw[b2.out];simp
     clear b2;generalize H++[b8 (nh.length:Int)]=dk at da dj;obtain⟨bn,bd,be,bf,bo,Q,bg,R⟩:=da.out.box;rw[b0.out]at Q;rw[b1.out]at R;go_wp2;clear bn bd be bf bo Q bg R;go_loopw [52,0] (fun i cf wr=>∃(j:Nat) (H:List UInt8),j≤nh.length∧i=iN j∧Hid (V=H++(CD (nh.drop j)++(Bg d++(b8 ks.length::BQ ks))))∧Hid (LS O W wr v cf n xs bG (.mk k m u g o nh d ks) h H)) (fun i _ _=>nh.length-(intOf i).toNat)
     case atStart=>exact⟨0,dk,nN _,rfl,dj.out,da.out⟩
     case round=>
      obtain⟨j,H,e4,rfl,ab,I⟩:=hrel;clear da dj;have hb:=bA.out _ _ ab.out;by_cases dm:j<nh.length
      ·have e6:(j:Int)<(nh.length:Int):=by omega
       obtain⟨r,bF⟩:∃r,nh[j]? =some r:=⟨nh[j],by simp[dm]⟩;have gq:=eL.out r (nE bF);have Y:Hid (V=H++(Bg r.n++(Bg r.v++(CD (nh.drop (j+1))++(Bg d++(b8 ks.length::BQ ks)))))):=by show _=_;rw[ab.out,aS bF];simp
       clear ab;rcases ed.out with dn|⟨gr,gu,rfl,ch⟩
       ·rw[dn]at dm;simp at dm
       have e7:=(I.out.low.cell (bL (ch j r bF).1)).trans (ch j r bF).1;have q1:=(I.out.low.cell (bL (ch j r bF).2)).trans (ch j r bF).2;clear ch bF;go_upto_region 14 with fail
       have bx:Hid (LS O W (wr.alloc (.cells #[.string r.n,.string r.v] 122)).drew v u0 n xs bG (.mk k m u g o nh d ks) h H):=(I.out.alloc _).drew
       have Z:Ce (wr.alloc (.cells #[.string r.n,.string r.v] 122)).drew wr.heap.size 0 (.string r.n)∧Ce (wr.alloc (.cells #[.string r.n,.string r.v] 122)).drew wr.heap.size 1 (.string r.v):=
        ⟨aC,aC⟩
       have ad:some wr.heap.size≠u0.ownBlock:=fun e=>by have:=(I.out.row.lt _ e.symm).2;omega
       have T:wr.heap.size<(wr.alloc (.cells #[.string r.n,.string r.v] 122)).drew.heap.size:=by show _<(wr.alloc _).heap.size;rw[nw];omega
       clear e7 q1 I;generalize wr.alloc (.cells #[.string r.n,.string r.v] 122)=ar at bx Z T⊢;generalize wr.heap.size=G at Z ad T⊢;have cl:=bA.out (H++Bg r.n) _ (by rw[Y.out,n8]);have ep:=bA.out (H++(Bg r.n++Bg r.v)) (CD (nh.drop (j+1))++(Bg d++(b8 ks.length::BQ ks))) (by rw[Y.out];simp only[n8]);simp only[nM,FI]at cl ep;have co:=hid (KQ r.n ar.drew u0 _ _ bx.out.row bx.out.low.size (by omega));go_region_held3 (fun w'=>Ce w' G 0 (.string r.n)∧Ce w' G 1 (.string r.v)) (first|exact Z|exact bi|exact cp) (first|(go_at_call 68;(with_reducible refine np co.out ?_);rintro e J ⟨bB,rfl,cr,aa⟩;have bi:Ce J G 0 (.string r.n)∧Ce J G 1 (.string r.v):=⟨(nS (w:=ar.drew) (aa.g.block G T ad)).trans Z.1,(nS (w:=ar.drew) (aa.g.block G T ad)).trans Z.2⟩;have bp:=O8 aa T ad;have bs:=nH T aa.size;have bH:Hid (LS O W J v bB n xs bG (.mk k m u g o nh d ks) h (H++Bg r.n)):=bx.out.app aa (Bg r.n) (by rw[←n8];exact cr) (by rw[FI]);have cu:Hid (cL 68 #[bB,.string r.v] J fun e w'=>∃bl,e=.returned bl∧w'.ownsRow O.heap.size 5 1 bl (n+(H++Bg r.n).length+(1+r.v.size)) (xs++bc (H++Bg r.n)++bc (Bg r.v))∧Gr J w' bB bl):=KQ r.v J bB _ _ bH.out.row bH.out.low.size (by rw[nM,FI];omega);clear co cr aa)|(go_at_call 68;(with_reducible refine np cu.out ?_);rintro e bu ⟨dp,rfl,cx,bk⟩;have cp:Ce bu G 0 (.string r.n)∧Ce bu G 1 (.string r.v):=⟨(nS (w:=J) (bk.g.block G bs bp)).trans bi.1,(nS (w:=J) (bk.g.block G bs bp)).trans bi.2⟩;have dr:Hid (LS O W bu v dp n xs bG (.mk k m u g o nh d ks) h ((H++Bg r.n)++Bg r.v)):=bH.out.app bk (Bg r.v) (by rw[←n8];exact cx) (by rw[FI]);clear cu cx bk))
       all_goals
        have ds:Hid (V=((H++Bg r.n)++Bg r.v)++(CD (nh.drop (j+1))++(Bg d++(b8 ks.length::BQ ks)))):=by show _=_;rw[Y.out];simp only[n8]
        clear Z bi cp bx bH Y ad bp T bs cl ep;go_wp2;go_roundw
        case rel=>exact⟨j+1,_,by omega,by go_num,ds.out,dr.out⟩
        case measure=>simp[intOf];omega
      ·have e6:decide ((j:Int)<(nh.length:Int))=false:=nB (by omega)
       have Y:Hid (V=H++(Bg d++(b8 ks.length::BQ ks))):=by show _=_;rw[ab.out,n7 (by omega)];simp[CD]
       clear ab;have cl:=bA.out (H++Bg d) _ (by rw[Y.out,n8]);simp only[nM,FI]at cl;obtain⟨bn,bd,be,bf,bo,Q,bg,R⟩:=I.out.box;rw[b0.out]at Q;rw[b1.out]at R;go_wp2_with fail
       refine(KQ d wr u0 _ _ I.out.row I.out.low.size (by omega)).mono ?_;rintro e ar ⟨v5,rfl,eq,er⟩;have cb:=hid (I.out.app er (Bg d) (by rw[←n8];exact eq) (by rw[FI]));have db:Hid (V=(H++Bg d)++(b8 ks.length::BQ ks)):=by show _=_;rw[Y.out,n8]
       clear I Y eq er bn bd be bf bo Q bg R cl hb;generalize H++Bg d=cd at cb db;have du:=bA.out _ _ db.out;obtain⟨bn,bd,be,bf,bo,Q,bg,R⟩:=cb.out.box;rw[b0.out]at Q;rw[b1.out]at R;go_wp2_with (at_builtin;refine DZ (ar.alloc (.cells #[.int .u8 (IntKind.u8.wrap ((ks.length:Int)))] 5)) rfl (.tmp 68) (.tmp 73) 71 rfl O.heap.size 5 b4 (.int .u8 0) 1 1 underlying71 b5.out b6.out b7.out b9.out rfl (by decide) v5 (n+cd.length) (xs++bc cd) rfl (cb.out.row.alloc _) (some (aD ar.heap.size 0)) 1 1 (bc [b8 ((ks.length:Int))]) rfl rfl (.inr ⟨_,rfl,Lv _ _ _⟩) (G8 _) (by unfold maxLen;omega) (by omega) (nP cb.out.low.size (by rw[nw];omega)) ?_)
       intro bB J ak ao ap;have dd:=hid (cb.out.app (IZ ao ap) [b8 ((ks.length:Int))] ak (by simp));clear ak ao ap cb;clear bn bd be bf bo Q bg R;have dw:Hid (V=(cd++[b8 (ks.length:Int)])++BQ (ks.drop 0)):=by show _=_;rw[db.out];simp
       clear db;generalize cd++[b8 (ks.length:Int)]=dx at dd dw;obtain⟨bn,bd,be,bf,bo,Q,bg,R⟩:=dd.out.box;rw[b0.out]at Q;rw[b1.out]at R;go_wp2;clear bn bd be bf bo Q bg R;go_loopw [78,0] (fun i cf wr=>∃(j:Nat) (H:List UInt8),j≤ks.length∧i=iN j∧Hid (V=H++BQ (ks.drop j))∧Hid (LS O W wr v cf n xs bG (.mk k m u g o nh d ks) h H)) (fun i _ _=>ks.length-(intOf i).toNat)
       case atStart=>exact⟨0,dx,nN _,rfl,dw.out,dd.out⟩
       case round=>
        obtain⟨bv,bC,gv,rfl,ab,I⟩:=hrel;clear dd dw;have gw:=bA.out _ _ ab.out;by_cases dy:bv<ks.length
        ·have e8:(bv:Int)<(ks.length:Int):=by omega
         obtain⟨⟨nm,x⟩,hx⟩:∃x,ks[bv]? =some x:=⟨ks[bv],by simp[dy]⟩;obtain⟨gx,es⟩:=Sz e0.out hx;have Y:Hid (V=bC++(Bg nm++(BK x++BQ (ks.drop (bv+1))))):=by show _=_;rw[ab.out,Zy hx]
         rcases ee.out with dn|rfl
         ·rw[dn]at dy;simp at dy
         have dz:=(e1.out bv nm x hx).on (Aj I.out.low);have d0:Hid (∀(W:World) (v:Value) (n:Nat) (xs:List Value),Below O.heap.size O W→W.ownsRow O.heap.size 5 1 v n xs→n+(BK x).length≤80000000→cL 40 #[v,Al x (f bv)] W fun e w'=>∃bl,e=.returned bl∧w'.ownsRow O.heap.size 5 1 bl (n+(BK x).length) (xs++bc (BK x))∧Gr W w' v bl):=fun W v n xs e9 fa fb=>e2.out bv nm x hx W v n xs es e9 fa fb;clear hx es ab
         obtain⟨BX,eu⟩:=AQ (BK x);rw[eu.out]at Y d0;generalize f bv=F at dz d0;obtain⟨ay,az,a1,a6,a7,a8,ba,bb⟩:=x;obtain⟨fc,fd,dg,fe,dk,cd,dx,ff,fg⟩:=dz.nine;clear dz eu;go_upto_region 21 with fail
         have bx:Hid (LS O W (wr.alloc (.cells #[.string nm,iN ay,iN az,iN a1,iN a6,.bool a7,.slice F.aa a8.length F.ca,.string ba,.slice F.ak bb.length F.ck] 89)).drew v u0 n xs bG (.mk k m u g o nh d ks) h bC):=(I.out.alloc _).drew
         have Z:Ce (wr.alloc (.cells #[.string nm,iN ay,iN az,iN a1,iN a6,.bool a7,.slice F.aa a8.length F.ca,.string ba,.slice F.ak bb.length F.ck] 89)).drew wr.heap.size 0 (.string nm)∧Ce (wr.alloc (.cells #[.string nm,iN ay,iN az,iN a1,iN a6,.bool a7,.slice F.aa a8.length F.ca,.string ba,.slice F.ak bb.length F.ck] 89)).drew wr.heap.size 1 (iN ay)∧Ce (wr.alloc (.cells #[.string nm,iN ay,iN az,iN a1,iN a6,.bool a7,.slice F.aa a8.length F.ca,.string ba,.slice F.ak bb.length F.ck] 89)).drew wr.heap.size 2 (iN az)∧Ce (wr.alloc (.cells #[.string nm,iN ay,iN az,iN a1,iN a6,.bool a7,.slice F.aa a8.length F.ca,.string ba,.slice F.ak bb.length F.ck] 89)).drew wr.heap.size 3 (iN a1)∧Ce (wr.alloc (.cells #[.string nm,iN ay,iN az,iN a1,iN a6,.bool a7,.slice F.aa a8.length F.ca,.string ba,.slice F.ak bb.length F.ck] 89)).drew wr.heap.size 4 (iN a6)∧Ce (wr.alloc (.cells #[.string nm,iN ay,iN az,iN a1,iN a6,.bool a7,.slice F.aa a8.length F.ca,.string ba,.slice F.ak bb.length F.ck] 89)).drew wr.heap.size 5 (.bool a7)∧Ce (wr.alloc (.cells #[.string nm,iN ay,iN az,iN a1,iN a6,.bool a7,.slice F.aa a8.length F.ca,.string ba,.slice F.ak bb.length F.ck] 89)).drew wr.heap.size 6 (.slice F.aa a8.length F.ca)∧Ce (wr.alloc (.cells #[.string nm,iN ay,iN az,iN a1,iN a6,.bool a7,.slice F.aa a8.length F.ca,.string ba,.slice F.ak bb.length F.ck] 89)).drew wr.heap.size 7 (.string ba)∧Ce (wr.alloc (.cells #[.string nm,iN ay,iN az,iN a1,iN a6,.bool a7,.slice F.aa a8.length F.ca,.string ba,.slice F.ak bb.length F.ck] 89)).drew wr.heap.size 8 (.slice F.ak bb.length F.ck):=
          ⟨aC,aC,aC,aC,aC,aC,aC,aC,aC⟩
         have ad:some wr.heap.size≠u0.ownBlock:=fun e=>by have:=(I.out.row.lt _ e.symm).2;omega
         have T:wr.heap.size<(wr.alloc (.cells #[.string nm,iN ay,iN az,iN a1,iN a6,.bool a7,.slice F.aa a8.length F.ca,.string ba,.slice F.ak bb.length F.ck] 89)).drew.heap.size:=by show _<(wr.alloc _).heap.size;rw[nw];omega
         clear fc fd dg fe dk cd dx ff fg I;generalize wr.alloc (.cells #[.string nm,iN ay,iN az,iN a1,iN a6,.bool a7,.slice F.aa a8.length F.ca,.string ba,.slice F.ak bb.length F.ck] 89)=ar at bx Z T⊢;generalize wr.heap.size=G at Z ad T⊢;have ev:=bA.out (bC++Bg nm) _ (by rw[Y.out,n8]);have du:=bA.out (bC++(Bg nm++BX)) (BQ (ks.drop (bv+1))) (by rw[Y.out];simp only[n8]);simp only[nM,FI]at ev du;have co:=hid (KQ nm ar.drew u0 _ _ bx.out.row bx.out.low.size (by omega));go_region_held3 (fun w'=>Ce w' G 0 (.string nm)∧Ce w' G 1 (iN ay)∧Ce w' G 2 (iN az)∧Ce w' G 3 (iN a1)∧Ce w' G 4 (iN a6)∧Ce w' G 5 (.bool a7)∧Ce w' G 6 (.slice F.aa a8.length F.ca)∧Ce w' G 7 (.string ba)∧Ce w' G 8 (.slice F.ak bb.length F.ck)) (first|exact Z|exact bi|exact cp) (first|(go_at_call 68;(with_reducible refine np co.out ?_);rintro e J ⟨bB,rfl,cr,aa⟩;have bi:Ce J G 0 (.string nm)∧Ce J G 1 (iN ay)∧Ce J G 2 (iN az)∧Ce J G 3 (iN a1)∧Ce J G 4 (iN a6)∧Ce J G 5 (.bool a7)∧Ce J G 6 (.slice F.aa a8.length F.ca)∧Ce J G 7 (.string ba)∧Ce J G 8 (.slice F.ak bb.length F.ck):=⟨(nS (w:=ar.drew) (aa.g.block G T ad)).trans Z.1,(nS (w:=ar.drew) (aa.g.block G T ad)).trans Z.2.1,(nS (w:=ar.drew) (aa.g.block G T ad)).trans Z.2.2.1,(nS (w:=ar.drew) (aa.g.block G T ad)).trans Z.2.2.2.1,(nS (w:=ar.drew) (aa.g.block G T ad)).trans Z.2.2.2.2.1,(nS (w:=ar.drew) (aa.g.block G T ad)).trans Z.2.2.2.2.2.1,(nS (w:=ar.drew) (aa.g.block G T ad)).trans Z.2.2.2.2.2.2.1,(nS (w:=ar.drew) (aa.g.block G T ad)).trans Z.2.2.2.2.2.2.2.1,(nS (w:=ar.drew) (aa.g.block G T ad)).trans Z.2.2.2.2.2.2.2.2⟩;have bp:=O8 aa T ad;have bs:=nH T aa.size;have bH:Hid (LS O W J v bB n xs bG (.mk k m u g o nh d ks) h (bC++Bg nm)):=bx.out.app aa (Bg nm) (by rw[←n8];exact cr) (by rw[FI]);have cu:Hid (cL 40 #[bB,.agg #[iN ay,iN az,iN a1,iN a6,.bool a7,.slice F.aa a8.length F.ca,.string ba,.slice F.ak bb.length F.ck]] J fun e w'=>∃bl,e=.returned bl∧w'.ownsRow O.heap.size 5 1 bl (n+(bC++Bg nm).length+BX.length) (xs++bc (bC++Bg nm)++bc BX)∧Gr J w' bB bl):=d0.out J bB _ _ bH.out.low bH.out.row (by rw[nM,FI];omega);clear co cr aa)|(go_at_call 40;(with_reducible refine np cu.out ?_);rintro e bu ⟨dp,rfl,cx,bk⟩;have cp:Ce bu G 0 (.string nm)∧Ce bu G 1 (iN ay)∧Ce bu G 2 (iN az)∧Ce bu G 3 (iN a1)∧Ce bu G 4 (iN a6)∧Ce bu G 5 (.bool a7)∧Ce bu G 6 (.slice F.aa a8.length F.ca)∧Ce bu G 7 (.string ba)∧Ce bu G 8 (.slice F.ak bb.length F.ck):=⟨(nS (w:=J) (bk.g.block G bs bp)).trans bi.1,(nS (w:=J) (bk.g.block G bs bp)).trans bi.2.1,(nS (w:=J) (bk.g.block G bs bp)).trans bi.2.2.1,(nS (w:=J) (bk.g.block G bs bp)).trans bi.2.2.2.1,(nS (w:=J) (bk.g.block G bs bp)).trans bi.2.2.2.2.1,(nS (w:=J) (bk.g.block G bs bp)).trans bi.2.2.2.2.2.1,(nS (w:=J) (bk.g.block G bs bp)).trans bi.2.2.2.2.2.2.1,(nS (w:=J) (bk.g.block G bs bp)).trans bi.2.2.2.2.2.2.2.1,(nS (w:=J) (bk.g.block G bs bp)).trans bi.2.2.2.2.2.2.2.2⟩;have dr:Hid (LS O W bu v dp n xs bG (.mk k m u g o nh d ks) h ((bC++Bg nm)++BX)):=bH.out.app bk BX (by rw[←n8];exact cx) rfl;clear cu cx bk))
         all_goals
          have ds:Hid (V=((bC++Bg nm)++BX)++BQ (ks.drop (bv+1))):=by show _=_;rw[Y.out];simp only[n8]
          clear Z bi cp bx bH Y ad bp T bs ev du;go_wp2;go_roundw
          case rel=>exact⟨bv+1,_,by omega,by go_num,ds.out,dr.out⟩
          case measure=>simp[intOf];omega
        ·have e8:decide ((bv:Int)<(ks.length:Int))=false:=nB (by omega)
         have Y:Hid (V=bC):=by show _=_;rw[ab.out,n7 (by omega)];simp[BQ]
         clear ab;go_wp2;go_ret;refine⟨_,rfl,?_,I.out.gr⟩;rw[Y.out];exact I.out.row
theorem TL{n:Int}(h:CV n≠false):0≤n∧n≤65535:=by
 unfold CV at h;have F:(decide (0≤n)&&decide (n≤65535))=true:=by simpa using h
 rw[Bool.and_eq_true]at F;exact⟨rI F.1,rI F.2⟩
theorem Ur{up F:Bool}{k m u g:Int}{o:Bool}{nh:List Kv}{d:BA}{ks:Ar}(h:DT up F (.mk k m u g o nh d ks)=0):(1≤k∧k≤3)∧(0≤m∧m≤4095)∧(0≤u∧u≤65535)∧(0≤g∧g≤65535):=by
 rw[DT]at h;split at h
 ·omega
 rename_i h1;split at h
 ·omega
 rename_i h2;have G:CV u≠false:=fun e=>h2 (.inr (.inr (.inl e)));have H:CV g≠false:=fun e=>h2 (.inr (.inr (.inr e)))
 have I:¬(m<0∨4095<m):=fun e=>h2 (e.elim .inl (fun e=>.inr (.inl e)));exact⟨by omega,by omega,TL G,TL H⟩
mutual
theorem TS(up:Bool):∀(x:Nd) (F G:Nat),(CT up x F G).1=0→AB x→cnt x≤1000→Jg x
 |.mk k m u g o nh d ks,F,G,h,hl,hc=>by
  rw[CT]at h;split at h
  ·simp at h
  split at h
  ·rename_i h2;exact absurd h h2
  rename_i h1 h2;obtain⟨a,b,c,e⟩:=Ur (Decidable.not_not.1 h2);rw[AB]at hl;rw[cnt]at hc;have J:=Gc ks;obtain⟨O,H⟩:=hl.1;rw[Jg];exact⟨by omega,by omega,c,e,⟨by omega,fun r I=>by have:=H r I;omega⟩,by omega,by omega,Tv up none ks (F+1) (G+1) h hl.2.2 (by omega)⟩
theorem Tv(up:Bool):∀(p:Option BA) (l:Ar) (F G:Nat),(CQ up p l F G).1=0→Bu l→cntL l≤1000→Ij l
 |p,[],F,G,h,hl,hc=>by rw[Ij];trivial
 |p,(n,x)::l,F,G,h,hl,hc=>by
  rw[CQ]at h;split at h
  ·simp at h
  split at h
  ·simp at h
  split at h
  ·rename_i h2;exact absurd h h2
  rename_i h1 h2 h3;rw[Bu]at hl;rw[cntL]at hc;rw[Ij];exact⟨by show n.size≤1000;omega,TS up x F G (Decidable.not_not.1 h3) hl.2.1 (by omega),Tv up (some n) l F _ h hl.2.2 (by omega)⟩
end
theorem eY{up:Bool}{x:Nd}(h:CC up x=0)(F:AB x)(G:cnt x≤1000):Jg x:=by
 obtain⟨k,m,u,g,o,nh,d,ks⟩:=x;rw[CC]at h;split at h
 ·omega
 ·exact TS up _ 0 0 h F G
def A8(l:List UInt8):BA:=⟨l.toArray⟩
theorem Gf(l:List UInt8):(A8 l).size=l.length:=by simp[A8,ByteArray.size]
theorem Tr{w:World}{base:Nat}{v:Value}{n:Nat}{l:List UInt8}(F:w.ownsRow base 5 1 v n (bc l))(G:n=l.length)(Q:0<n):(convert 71 9 v).run prog w=.ok (.string (A8 l)) w:=by
 subst G;obtain⟨a,cap,rfl,_,_,H⟩:=Df F;rcases H with⟨_,e,_⟩|⟨g,rfl,_,_,I,_⟩
 ·omega
 ·have:=Lib.run_convert_whole (P:=prog) w 71 5 9 underlying71 underlying5 underlying9 g 0 (A8 l) (fun i J=>by
   rw[nU];refine I i _ ?_;have O:i<l.length:=by rwa [Gf]at J
   simp[bc,A8,nt O];rfl) cap
  rwa [Gf]at this
theorem dS(x:Nd):0<(BK x).length:=by
 obtain⟨k,m,u,g,o,nh,d,ks⟩:=x;rw[BK];simp
def E6(x:Nd):BA:=if CC true x=0 then A8 (BK x)else⟨#[]⟩
theorem eM{w w':World}{F:Value}(h:Gr w w' (.slice none 0 0) F):Below w.heap.size w w':=⟨h.g.os,h.g.tape,h.g.output,h.g.size,fun k G=>h.g.block k G (by simp[Value.ownBlock])⟩
theorem QB{w:World}{x:Nd}{h:Hd}(a8:Ah w.cell? x h)(ba:AB x)(bb:cnt x≤1000)(bd:(BK x).length≤60000000):
 Calls prog 22 #[Al x h] w fun e w'=>e=.returned (.tuple #[.string (E6 x),Am (CC true x)])∧Below w.heap.size w w':=by
 have V:=hid ba;have Y:=hid bb;have Z:=hid a8;obtain⟨G,H⟩:=AQ (CC true x);obtain⟨B,aa⟩:=AQ (E6 x);obtain⟨I,J⟩:=AQ (BK x);have be:=dS x;have bp:=bd;rw[J.out]at be bp;rw[aa.out,H.out];have bf:∀F:World,Below w.heap.size w F→Hid (cL 36 #[Al x h,.bool true] F fun e bs=>e=.returned (Am G)∧Below F.heap.size F bs):=fun F hb=>by
  have:=KY true (Z.out.ab hb) V.out (by have:=Y.out;omega);rw[H.out]at this;exact this
 have bg:G=0→∀F:World,Below w.heap.size w F→Hid (cL 40 #[nL,Al x h] F fun e w'=>∃O,e=.returned O∧w'.ownsRow F.heap.size 5 1 O I.length (bc I)∧Below F.heap.size F w'):=fun hF F hb=>by
  refine np (cO (Z.out.ab hb) F nL 0 [] (eY (H.out.trans hF) V.out (by have:=Y.out;omega)) (nv _ _) (rB _ _ _ _) (by rw[J.out];omega)) ?_;rintro e w' ⟨O,rfl,bi,bu⟩;rw[J.out,nU,ru]at bi;exact⟨O,rfl,bi,eM bu⟩
 have bk:=hid bf;have ab:=hid bg;have Q:Hid (B=if G=0 then A8 I else⟨#[]⟩):=by show _=_;rw[←aa.out,E6,H.out,J.out]
 clear a8 ba bb bd bf bg V Y Z aa J;obtain⟨k,m,u,g,o,nh,d,ks⟩:=x;clear H;have ad:=Ch.new w k m u g o nh d ks h;have ak:Below w.heap.size w (w.alloc (As k m u g o nh d ks h)):=bN;show cL 22 #[(A5 k m u g o nh d ks h)] _ _;go_enter func22,ntmps22;have bv:=ad;obtain⟨ao,ap,ar,ay,az,a1,a6,a7⟩:=bv;go_wp2_with fail
 refine np (bk.out _ ak).out ?_;rintro e bx ⟨rfl,bl⟩;have bA:=ad.below bl;have R:=ak.trans (bl.mono ak.size);clear ad ao ap ar ay az a1 a6 a7 bk;by_cases hF:G=0
 ·rw[Co hF]
  have T:B=A8 I:=by rw[Q.out,nD hF]
  have bn:=ab.out hF bx R;have bo:Hid (G=0∧B=A8 I):=⟨hF,T⟩;clear hF T;clear ab Q;obtain⟨ao,ap,ar,ay,az,a1,a6,a7⟩:=bA;go_wp2_with fail
  refine np bn.out ?_;rintro e bG ⟨v4,rfl,bB,bC⟩;have bH:=Tr bB rfl be;clear ao ap ar ay az a1 a6 a7 bn;go_wp2;go_ret2;exact⟨by rw[bo.out.2,bo.out.1];rfl,R.trans (bC.mono R.size)⟩
 ·have T:B=⟨#[]⟩:=by rw[Q.out,nC hF]
  rw[AG rfl hF];have bF:=hid hF;clear hF ab Q;go_wp2;go_ret2;exact⟨by rw[T,AG rfl bF.out];rfl,R⟩
theorem To:∀{l:List Kv},(∀r∈l,r.n.size≤255∧r.v.size≤255)→(CD l).length≤l.length*512
 |[],_=>by simp[CD]
 |r::l,h=>by
  have G:=h r (nK ..);have H:=To (l:=l) fun q F=>h q (n2 _ F);rw[CD]
  simp only[nM,n3,FI];omega
mutual
theorem LK:∀(x:Nd),AB x→(BK x).length+256≤cnt x*140000
 |.mk k m u g o nh d ks,hl=>by
  rw[AB]at hl;have F:=To hl.1.2;have G:=Sa ks hl.2.2;have H:=hl.1.1;have I:=hl.2.1;rw[BK,cnt];simp only[nM,n3,FI,KP];omega
theorem Sa:∀(l:Ar),Bu l→(BQ l).length≤cntL l*140000
 |[],_=>by simp[BQ]
 |(n,x)::l,hl=>by
  rw[Bu]at hl;have F:=LK x hl.2.1;have G:=Sa l hl.2.2;have H:=hl.1;rw[BQ,cntL];simp only[nM,FI];omega
end
theorem RW{x:Nd}(F:(BK x).length≤60000000):(E6 x).size≤60000000:=by
 unfold E6;split
 ·rw[Gf];exact F
 ·show(0:Nat)≤_;omega
theorem Za{w:World}{x:Nd}{h:Hd}(I:Ah w.cell? x h)(J:AB x)(O:cnt x≤1000)(G:(BK x).length≤60000000):
 Calls prog 32 #[Al x h] w fun e w'=>e=.returned (iN (E6 x).size)∧Below w.heap.size w w':=by
 have ay:=RW G;have Q:∀F:World,Below w.heap.size w F→Hid (cL 22 #[Al x h] F fun e T=>e=.returned (.tuple #[.string (E6 x),Am (CC true x)])∧Below F.heap.size F T):=fun F hb=>QB (I.ab hb) J O G;have R:Hid _:=Q
 clear Q I J O G;generalize E6 x=B at*;generalize Am (CC true x)=az at*;obtain⟨k,m,u,g,o,nh,d,ks⟩:=x;have V:=Ch.new w k m u g o nh d ks h;have H:Below w.heap.size w (w.alloc (As k m u g o nh d ks h)):=bN;show cL 32 #[(A5 k m u g o nh d ks h)] _ _;go_enter func32,ntmps32;obtain⟨Y,Z,aa,ab,ad,ak,ao,ap⟩:=V;go_wp2_with fail
 refine np (R.out _ H).out ?_;rintro e a1 ⟨rfl,ar⟩;clear Y Z aa ab ad ak ao ap R;go_wp2;go_ret;exact⟨rfl,H.trans (ar.mono H.size)⟩
def CH(x:Nd):Int:=((E6 x).size+63) / 64
theorem JV{w:World}{x:Nd}{h:Hd}(I:Ah w.cell? x h)(J:AB x)(O:cnt x≤1000)(G:(BK x).length≤60000000):
 Calls prog 12 #[Al x h] w fun e w'=>e=.returned (.int .i64 (CH x))∧Below w.heap.size w w':=by
 have az:=RW G;have T:Hid (CH x=(((E6 x).size:Int)+63) / 64):=rfl;have Q:∀F:World,Below w.heap.size w F→Hid (cL 32 #[Al x h] F fun e V=>e=.returned (iN (E6 x).size)∧Below F.heap.size F V):=fun F hb=>Za (I.ab hb) J O G;have R:Hid _:=Q
 clear Q I J O G;generalize(E6 x).size=z at*;generalize CH x=b at*;obtain⟨k,m,u,g,o,nh,d,ks⟩:=x;have Y:=Ch.new w k m u g o nh d ks h;have H:Below w.heap.size w (w.alloc (As k m u g o nh d ks h)):=bN;show cL 12 #[(A5 k m u g o nh d ks h)] _ _;go_enter func12,ntmps12;obtain⟨Z,aa,ab,ad,ak,ao,ap,ar⟩:=Y;go_wp2_with fail
 refine np (R.out _ H).out ?_;rintro e a1 ⟨rfl,ay⟩;clear Z aa ab ad ak ao ap ar R;go_wp2;go_ret;have e:b=((z:Int)+64-1) / 64:=by rw[T.out];omega
 exact⟨by rw[e];rfl,H.trans (ay.mono H.size)⟩
structure CE (n:Nat) (V:Nd):Prop where
 lil:AB V
 ids:AP V
 cnt:Go.Proofs.YtofhphibahcniaaGreatDoor.cnt V≤n
theorem TQ{F:Except Int Nd}(H:∀f,F=.error f→f≠0)(h:EK F=0):∃G,F=.ok G:=by
 cases F with
 |ok G=>exact⟨G,rfl⟩
 |error f=>exact absurd h (H f rfl)
theorem cJ{us gs:List Rg}{x0:Nd}{ni:List Nd}{nf:List BA}(F:∀s∈nf,AY s=true)(h:(Cj us gs x0 ni nf).1=0):EC us gs (x0::ni) nf x0=.ok (Cj us gs x0 ni nf).2:=by
 unfold Cj Gy at h⊢
 obtain⟨J,G⟩:=TQ (fun f H=>by
  rcases(YO (fun _ _ i I=>F _ (List.getElem_mem I))).2 f H with e|e
  ·rw[e];decide
  ·rw[e];decide) h
 rw[G];rfl
theorem Vq{c:Option Nd}{nf:List BA}{x0:Nd}(h:(Gy (AV c nf x0) x0).1=0):AV c nf x0=.ok (Gy (AV c nf x0) x0).2:=by
 unfold Gy at h⊢;obtain⟨H,F⟩:=TQ (fun f G=>by have:=(Zo G).1;omega) h;rw[F];rfl
theorem SJ{m:BA}:∀{ks:Ar},BO ks→BO (Eo m ks)
 |[],h=>h
 |(n,x)::l,h=>by
  rw[BO]at h;rw[Eo];split
  ·exact h.2
  ·rw[BO];exact⟨h.1,SJ h.2⟩
theorem IG{x:Nd}{ks:Ar}:AP (x.with ks)↔AP (x.with [])∧BO ks:=by
 obtain⟨k,m,u,g,o,nh,d,F⟩:=x;rw[Nd.with,Nd.with,AP,AP,BO];exact⟨fun h=>⟨⟨h.1,h.2.1,trivial⟩,h.2.2⟩,fun h=>⟨h.1.1,h.1.2.1,h.2⟩⟩
theorem OK{m:BA}{y:Nd}:∀{ks:Ar},BO ks→fk m ks=some y→AP y
 |[],_,h=>by cases h
 |(n,x)::l,hv,h=>by
  rw[BO]at hv;rw[fk]at h;split at h
  ·cases h;exact hv.1
  ·exact OK hv.2 h
theorem RQ{m:BA}{z:Nd}(F:AP z):∀{ks:Ar},BO ks→BO (Cg m z ks)
 |[],h=>h
 |(n,x)::l,h=>by
  rw[BO]at h;rw[Cg];split
  ·rw[BO];exact⟨F,h.2⟩
  ·rw[BO];exact⟨h.1,RQ F h.2⟩
theorem UC:∀{l:List BA} {n r:Nd},AV none l n=.ok r→AP n→AP r
 |[],n,r,h,_=>by rw[AV]at h;cases h
 |[m],n,r,h,hi=>by
  rw[IP]at h;by_cases F:n.kind=2
  ·rw[nC (by simp[F])]at h
   simp only[EJ]at h;split at h
   ·cases h
   injection h with h
   subst h;rw[←Nd.eta n]at hi;exact IG.2 ⟨(IG.1 hi).1,SJ (IG.1 hi).2⟩
  ·rw[nD F]at h;cases h
 |m::H::N,n,r,h,hi=>by
  rw[JG]at h;by_cases F:n.kind=2
  ·rw[nC (by simp[F])]at h
   cases hf:fk m n.kids with
   |none=>rw[hf]at h;cases h
   |some y=>
    rw[hf]at h;dsimp only at h;cases hy:AV none (H::N) y with
    |error f=>rw[hy]at h;cases h
    |ok z=>
     rw[hy]at h;have h:Except.ok (n.with (Cg m z n.kids))=Except.ok r:=h;injection h with h
     subst h;rw[←Nd.eta n]at hi;have G:=(IG.1 hi).2;exact IG.2 ⟨(IG.1 hi).1,RQ (UC hy (OK G hf)) G⟩
  ·rw[nD F]at h;cases h
theorem Nw:∀{l:List BA} {x y:Nd},BU l x=some y→AB x→AP x→AB y∧AP y∧cnt y≤cnt x
 |[],x,y,h,h1,h2=>by rw[BU]at h;cases h;exact⟨h1,h2,nn _⟩
 |m::l,x,y,h,h1,h2=>by
  have G:=(SP h).2;rw[JC]at h;by_cases F:x.kind=2
  ·rw[nC (by simp[F])]at h
   cases hf:fk m x.kids with
   |none=>rw[hf]at h;cases h
   |some z=>
    rw[hf]at h;rw[←Nd.eta x]at h1 h2;obtain⟨a,b,_⟩:=Nw h (LY (G3.1 h1).2 hf) (OK (IG.1 h2).2 hf);exact⟨a,b,G⟩
  ·rw[nD F]at h;cases h
theorem CE.up{us gs:List Rg}{x0:Nd}{ni:List Nd}{nf:List BA}{n:Nat}(F:∀s∈nf,AY s=true)(G:∀x∈ni,AB x)(h:CE n x0)(H:(Cj us gs x0 ni nf).1=0):CE (n+nf.length) (Cj us gs x0 ni nf).2:=by
 have I:=cJ F H
 obtain⟨a,b,c⟩:=eT (fun x hx=>by
  rcases nY.1 hx with rfl|hx
  ·exact h.lil
  ·exact G x hx) h.lil h.ids I
 exact⟨a,b,by have:=h.cnt;omega⟩
theorem CE.put{x0 z:Nd}{nf:List BA}{n k:Nat}(h:CE n x0)(H:AB z)(I:AP z)(O:Go.Proofs.YtofhphibahcniaaGreatDoor.cnt z≤k)(F:(Cf z nf x0).1=0):CE (n+k) (Cf z nf x0).2:=by
 unfold Cf at F⊢;by_cases J:nf=[]
 ·subst J
  rw[nD rfl];exact⟨H,I,by show Go.Proofs.YtofhphibahcniaaGreatDoor.cnt z≤_;omega⟩
 ·rw[nC J]at F⊢
  have G:=Vq F
  exact⟨Oi G H h.lil,Ue G I h.ids,by
   have:=Kj G;have e:Hi (some z)=Go.Proofs.YtofhphibahcniaaGreatDoor.cnt z:=rfl;have:=h.cnt;omega⟩
theorem CE.remove{us gs:List Rg}{x0:Nd}{ni:List Nd}{nf:List BA}{n:Nat}(_hne:nf≠[])(I:∀s∈nf,AY s=true)(J:∀x∈ni,AB x)(h:CE n x0)(F:(DN us gs x0 ni nf).1=0):CE (n+nf.length+1) (DN us gs x0 ni nf).2:=by
 have O:∀s∈nf.dropLast,AY s=true:=fun s Q=>I s (List.dropLast_subset _ Q);unfold DN at F⊢
 by_cases G:(Cj us gs x0 ni nf.dropLast).1=0
 ·rw[nD G]at F⊢
  have hF:=h.up O J G;rw[r7]at hF;have hF:CE (n+nf.length) (Cj us gs x0 ni nf.dropLast).2:=⟨hF.lil,hF.ids,by have:=hF.cnt;omega⟩;clear h G;generalize(Cj us gs x0 ni nf.dropLast).2=R at*;by_cases hb:Fi (R::ni) nf=true
  ·rw[nD hb]at F⊢
   exact hF.put (by simp[KH,AB,Bu];decide) (by simp[KH,AP,BO];exact⟨by decide,by decide⟩) (nn 1) F
  ·rw[nC hb]at F⊢
   have H:=Vq F;refine⟨UW H hF.lil,UC H hF.ids,?_⟩;have:=Kj H;have e:Hi (none:Option Nd)=0:=rfl;have:=hF.cnt;omega
 ·rw[nC G]at F
  exact absurd F G
def Hj(s:Int×Nd)(k:Nd→Int×Nd):Int×Nd:=if s.1=0 then k s.2 else s
def Fj(us gs:List Rg)(x0:Nd)(ni:List Nd)(nf:List BA)(G:Nd→Nd):Int×Nd:=Hj (Cj us gs x0 ni nf) fun F=>Cf (G ((BU nf F).getD zN)) nf F
def fin(q:Int)(x0:Nd)(r:Int×Nd):Int×Nd:=if r.1≠0 then(r.1,x0)else if CC true r.2≠0 then(CC true r.2,x0)else if q<CH r.2 then(12,x0)else(0,r.2)
theorem Hf{q E a:Int}{x0 F b:Nd}(h:E≠0)(e:fin q x0 (E,F)=(a,b)):a=E∧b=x0:=by
 unfold fin at e;rw[nD h]at e;injection e with e1 e2
 exact⟨e1.symm,e2.symm⟩
theorem fB{q a:Int}{x0 F b:Nd}(h:CC true F≠0)(e:fin q x0 (0,F)=(a,b)):a=CC true F∧b=x0:=by
 unfold fin at e;rw[nC (by simp),nD h]at e;injection e with e1 e2
 exact⟨e1.symm,e2.symm⟩
theorem fE{q a:Int}{x0 F b:Nd}(h:CC true F=0)(G:q<CH F)(e:fin q x0 (0,F)=(a,b)):a=12∧b=x0:=by
 unfold fin at e;rw[nC (by simp),nC (by simp[h]),nD G]at e;injection e with e1 e2
 exact⟨e1.symm,e2.symm⟩
theorem fu{q a:Int}{x0 F b:Nd}(h:CC true F=0)(G:¬q<CH F)(e:fin q x0 (0,F)=(a,b)):a=0∧b=F:=by
 unfold fin at e;rw[nC (by simp),nC (by simp[h]),nC G]at e;injection e with e1 e2
 exact⟨e1.symm,e2.symm⟩
theorem eA(x:Nd)(h:Hd)(o:Nat)(v:Value)(F:(Bl x h)[o]? =some v):((∃s,v=.string s)→o%8=6)∧(o%8=7→¬Hh v):=by
 obtain⟨k,m,u,g,G,nh,d,ks⟩:=x;have H:o<8:=by
  have:=(ny.1 F).1;rwa [D1]at this
 rcases(by omega:o=0∨o=1∨o=2∨o=3∨o=4∨o=5∨o=6∨o=7)with q|q|q|q|q|q|q|q<;>subst q<;>simp[Bl]at F<;>subst F<;>simp[Hh]
theorem Va:∀(L:List Fl) (o:Nat) (v:Value),(Bj L)[o]? =some v→((∃s,v=.string s)→o%8=6)∧(o%8=7→¬Hh v)
 |[],o,v,h=>by simp[Bj]at h
 |f::r,o,v,h=>by
  rw[Bj]at h;by_cases F:o<8
  ·rw[rH (by rw[D1];omega)]at h
   exact eA _ _ _ _ h
  ·rw[ro (by rw[D1];omega),D1]at h
   have:=Va r (o-8) v h;rwa [show(o-8)%8=o%8 by omega]at this
abbrev Gw:Value:=.agg #[.int .i64 0,.int .i64 0,.int .i64 0,.int .i64 0,.bool false,.slice none 0 0,.string ⟨#[]⟩,.slice none 0 0]
theorem fA(k o:Nat)(v:Value)(h:(Builtin.zeroCells Gw.cells k)[o]? =some v):((∃s,v=.string s)→o%8=6)∧(o%8=7→¬Hh v):=by
 have e:Gw.cells=#[.int .i64 0,.int .i64 0,.int .i64 0,.int .i64 0,.bool false,.slice none 0 0,.string ⟨#[]⟩,.slice none 0 0]:=rfl;rw[e]at h;unfold Builtin.zeroCells at h;rw[Array.getElem?_map]at h;obtain⟨a,F,rfl⟩:=n0.1 h;have H:o=a:=by
  rw[nJ]at F;obtain⟨J,G⟩:=F;rw[Array.getElem_range]at G;exact G
 subst H;have I:o%8<8:=by omega
 show((∃s,(#[.int .i64 0,.int .i64 0,.int .i64 0,.int .i64 0,.bool false,.slice none 0 0,.string ⟨#[]⟩,.slice none 0 0]:Array Value)[o%8]! =.string s)→o%8=6)∧(o%8=7→¬Hh (#[.int .i64 0,.int .i64 0,.int .i64 0,.int .i64 0,.bool false,.slice none 0 0,.string ⟨#[]⟩,.slice none 0 0]:Array Value)[o%8]!);generalize o%8=q at I;rcases(by omega:q=0∨q=1∨q=2∨q=3∨q=4∨q=5∨q=6∨q=7)with e|e|e|e|e|e|e|e<;>subst e<;>simp[Hh]
theorem XL{w:World}(b H cap:Nat)(L:List Fl)(bk:0<L.length)(bl:L.length≤1000)(ao:∀j u,(Bj L)[j]? =some u→w.cell? ⟨b,H+j,none⟩=some u):
 Calls prog 169 #[.slice (some ⟨b,H,none⟩) L.length cap] w fun e w'=>(∃F G,e=.returned (.slice (some ⟨F,0,none⟩) L.length G)∧(L.length≤G∧G≤9223372036854775807)∧w.heap.size≤F∧(∀j u,(Bj L)[j]? =some u→w'.cell? ⟨F,j,none⟩=some u)∧DM w'.cell? F∧∀o,w'.frozen? ⟨F,o,none⟩=false)∧Bw w w':=by
 have bn:=fun(W:World) (n c:Nat)=>rY (P:=prog) W 30 54 (some ⟨b,H,none⟩) n c 0 0 underlying30;obtain⟨ap,ar,ay,az,a1⟩:=DC Tryz.infoNd
 have J:Bw w (w.alloc (.cells #[] 54)):=(nv _ _).alloc (nn _) _;have a6:Src prog ap.size 30 (.slice (some ⟨b,H,none⟩) L.length cap) L.length (Bj L) (w.alloc (.cells #[] 54)):=by
  rw[az];exact Src.ofSlice _ underlying30 ⟨b,H,none⟩ L.length cap (Bj L) (L0 L) (fun j u I=>by rw[Addr.add_lit];exact Af J (ao j u I)) (TW L)
 have a7:∀V,(Builtin.append_ #[30,30] V #[.slice (some ⟨w.heap.size,0,none⟩) 0 0,.slice (some ⟨b,H,none⟩) L.length cap]).run prog (w.alloc (.cells #[] 54))=_:=fun V=>run_append_grow_src _ 30 30 V 54 ap Gw underlying30 ar ay (some ⟨w.heap.size,0,none⟩) 0 0 [] (run_firstCells_some _ _ 0 ⟨w.heap.size,0,none⟩ 0 0 [] (by simp) (fun j u I=>by simp at I)) _ L.length (Bj L) a6 (by omega) (by omega) (by rw[nextslicecap_zero (by omega),a1];omega);have a8:0+L.length≤grownCap (w.alloc (.cells #[] 54)) (0+L.length) 0 54:=grownCap_ge _ _ 0 54
 have O:grownCap (w.alloc (.cells #[] 54)) (0+L.length) 0 54≤maxLen:=grownCap_le_maxLen _ _ 0 54 (by unfold maxLen;omega);generalize grownCap (w.alloc (.cells #[] 54)) (0+L.length) 0 54=c at a7 a8 O;have Y:∀o,((w.alloc (.cells #[] 54)).drew.alloc (.cells (([]++Bj L).toArray++Builtin.zeroCells Gw.cells (c-(0+L.length))) 54)).cell? ⟨(w.alloc (.cells #[] 54)).heap.size,o,none⟩=(([]++Bj L).toArray++Builtin.zeroCells Gw.cells (c-(0+L.length)))[o]?:=fun o=>nl _ _ _ _ rfl;have Z:∀o,((w.alloc (.cells #[] 54)).drew.alloc (.cells (([]++Bj L).toArray++Builtin.zeroCells Gw.cells (c-(0+L.length))) 54)).frozen? ⟨(w.alloc (.cells #[] 54)).heap.size,o,none⟩=false:=fun o=>nQ _ _ _ _ rfl
 have ba:Bw w ((w.alloc (.cells #[] 54)).drew.alloc (.cells (([]++Bj L).toArray++Builtin.zeroCells Gw.cells (c-(0+L.length))) 54)):=(J.drew).alloc J.size _;have aa:w.heap.size≤(w.alloc (.cells #[] 54)).heap.size:=J.size;have ab:∀j u,(Bj L)[j]? =some u→((w.alloc (.cells #[] 54)).drew.alloc (.cells (([]++Bj L).toArray++Builtin.zeroCells Gw.cells (c-(0+L.length))) 54)).cell? ⟨(w.alloc (.cells #[] 54)).heap.size,j,none⟩=some u:=fun j u I=>by
  have be:=(ny.1 I).1;rw[Y,Array.getElem?_append_left (by simpa using be)];simpa using I
 have ad:∀o v,(([]++Bj L).toArray++Builtin.zeroCells Gw.cells (c-(0+L.length)))[o]? =some v→((∃s,v=.string s)→o%8=6)∧(o%8=7→¬Hh v):=fun o v Q=>by
  rcases Nat.lt_or_ge o (Bj L).length with R|R
  ·rw[Array.getElem?_append_left (by simpa using R)]at Q
   exact Va L o v (by simpa using Q)
  ·rw[Array.getElem?_append_right (by simpa using R)]at Q
   have:=fA _ _ v Q;have bf:([]++Bj L).toArray.size=L.length*8:=by simp[L0]
   rw[bf,show(o-L.length*8)%8=o%8 by rw[L0]at R;omega]at this;exact this
 have ak:DM ((w.alloc (.cells #[] 54)).drew.alloc (.cells (([]++Bj L).toArray++Builtin.zeroCells Gw.cells (c-(0+L.length))) 54)).cell? (w.alloc (.cells #[] 54)).heap.size:=fun o s v bb bd=>by
  rw[Y]at bb bd;have bo:=(ad _ _ bb).1 ⟨s,rfl⟩;exact(ad _ _ bd).2 (by omega)
 generalize bg:((w.alloc (.cells #[] 54)).drew.alloc (.cells (([]++Bj L).toArray++Builtin.zeroCells Gw.cells (c-(0+L.length))) 54))=T at*;clear bg ad Y a6;unfold maxLen at O;simp only[nw]at ab ak Z aa;have bi:Hid ((∃F G,Ending.returned (.slice (some ⟨w.heap.size+1,0,none⟩) L.length c)=.returned (.slice (some ⟨F,0,none⟩) L.length G)∧(L.length≤G∧G≤9223372036854775807)∧w.heap.size≤F∧(∀j u,(Bj L)[j]? =some u→T.cell? ⟨F,j,none⟩=some u)∧DM T.cell? F∧∀o,T.frozen? ⟨F,o,none⟩=false)∧Bw w T):=⟨⟨_,c,rfl,⟨by omega,O⟩,aa,ab,ak,Z⟩,ba⟩;clear ab ak Z ba aa a8 O ao J ar ay az a1;go_enter func169,ntmps169;go_wp2_with (at_builtin;refine Lib.wpList_append_run _ rfl _ _ _ _ rfl _ _ rfl rfl _ _ (a7 _) ?_)
 go_wp2;go_ret;exact bi.out
theorem TX{c:Option Nd}{l:List BA}{x0 r:Nd}(F:AB x0)(G:∀x,c=some x→AB x)(I:cnt x0+Hi c≤1000)(h:AV c l x0=.ok r):Be r∧cnt r≤1000:=by
 have J:=Kj h;have H:AB r:=by
  cases c with
  |none=>exact UW h F
  |some x=>exact Oi h (G x rfl) F
 exact⟨GI r (by omega) H,by omega⟩
theorem Jt{I w:World}{H F lc:Nat}{M:CO}{x0:Nd}{ni:List Nd}(h:Bd I w H F lc M x0 ni){n:Nat}(R:Fm n x0 ni)(db:n≤400){x:Nd}{hd:Hd}(ao:Ah w.cell? x hd)(hx:AB x)(dd:cnt x≤400){an:Option Addr}{nj:Nat}{nf:List BA}(ap:AW I.cell? an nf)(b2:nf.length≤500)(bi:nf.length≤nj∧nj≤9223372036854775807):
 Calls prog 98 #[.pointer (some ⟨H,0,none⟩),.slice an nf.length nj,Al x hd] w fun e w'=>e=.returned (Am (Cf x nf x0).1)∧Bd I w' H F lc M (Cf x nf x0).2 ni∧Ao F w w':=by
 obtain⟨k,m,u,g,o,nh,d,ks⟩:=x;have Z:=Av.new w k m u g o nh d ks hd;have O:Bw w (w.alloc (As k m u g o nh d ks hd)):=(nv _ _).alloc (nn _) _;have aa:=h.below O;have ab:=ao.on (Aj O);have b3:w.heap.size≠F:=by have:=h.ltn;omega
 have b4:Hid _:=O;show Calls prog 98 #[.pointer (some ⟨H,0,none⟩),.slice an nf.length nj,(A5 k m u g o nh d ks hd)] w _;obtain⟨P,J⟩:∃P,Hid (Cf (.mk k m u g o nh d ks) nf x0=P):=⟨_,rfl⟩;rw[J.out];unfold Cf at J;by_cases T:nf=[]
 ·have bk:Hid (Calls prog 139 #[.pointer (some ⟨H,0,none⟩),(A5 k m u g o nh d ks hd),.nilIface] (w.alloc (As k m u g o nh d ks hd)) fun e w'=>e=.returned (.nilIface)∧Bd I w' H F lc M (.mk k m u g o nh d ks) ni∧Ao F (w.alloc (As k m u g o nh d ks hd)) w'):=by
   have e:=Lx aa ab 0;rw[nD rfl]at e;exact e
  have bl:Hid (P=(0,.mk k m u g o nh d ks)):=by show P=_;rw[←J.out,nD T]
  rw[bl.out];subst T;obtain⟨ar,ay,az,a1,a6,a7,a8,ba⟩:=Z.1;clear h O aa ab Z ap R ao J bl;go_enter func98,ntmps98;go_wp2_with fail
  refine np bk.out ?_;rintro e de ⟨rfl,bn,bo⟩;have b5:=hid bn;have b6:=hid ((Ao.of_below b4.out).trans bo);clear bn bo bk ar ay az a1 a6 a7 a8 ba;go_wp2;go_ret;exact⟨rfl,b5.out,b6.out⟩
 ·rw[nC T]at J
  have ad:Bw (w.alloc (As k m u g o nh d ks hd)) (w.alloc (As k m u g o nh d ks hd)).drew:=(nv _ _).drew;have V:=aa.below ad;have b7:=hid (ap.on (Aj V.base));have bb:=Z.below ad;have b9:=hid bb;have cb:=hid (ab.on (Aj ad));have bp:=hid (Ga V.c2 V.lay);have cd:=hid V;have bs:=hid O.drew;obtain⟨G,bu⟩:∃G,Hid (AV (some (.mk k m u g o nh d ks)) nf x0=G):=⟨_,rfl⟩;have cf:Hid (∀r,AV (some (.mk k m u g o nh d ks)) nf x0=.ok r→Be r∧cnt r≤1000):=fun r cg=>TX R.lil (fun y bd=>by injection bd with bd;subst bd;exact hx) (by have e:Hi (some (.mk k m u g o nh d ks:Nd))=cnt (.mk k m u g o nh d ks):=rfl;have:=R.cnt;omega) cg;have ch:Hid (cnt x0≤800):=by have:=R.cnt;show _≤_;omega
  have bv:Hid (P=(EK G,if EK G=0 then DV G else x0)):=by show P=_;rw[←J.out,bu.out];rfl
  rw[bv.out];obtain⟨ak,be⟩:∃ak,Hid ((if EK G=0 then DV G else x0)=ak):=⟨_,rfl⟩;rw[be.out];obtain⟨N,bf⟩:∃N,nf.length=N+1:=⟨nf.length-1,by have:=ri.2 T;omega⟩;rw[bf];have cl:=hid bf;have co:=hid bi;have cp:Hid (nf.length≤1000):=by show _≤_;omega
  have cr:N8 (w.alloc (As k m u g o nh d ks hd)).drew w.heap.size k m u g o nh d ks hd:=by
   obtain⟨ar,ay,az,a1,a6,a7,a8,ba⟩:=bb.1;exact⟨ar,ay,az,a1,a6,a7,a8,ba⟩
  clear h O aa ab Z ap R ao J bv ad V bb T bf bi b2;obtain⟨E,bx⟩:∃E,Hid (EK G=E):=⟨_,rfl⟩;rw[bx.out]at be⊢;go_enter func98,ntmps98;go_upto_region 3 with fail
  generalize(w.alloc (As k m u g o nh d ks hd))=dg at*;go_region_held3 (fun w'=>N8 w' w.heap.size k m u g o nh d ks hd) (first|with_reducible exact cr|with_reducible exact cu|with_reducible exact cx|with_reducible exact c3) (first|(go_at_call 23;(with_reducible refine np bp.out ?_);rintro e Q ⟨⟨c4,rfl,_,bA⟩,q6⟩;have bB:Hid (Av Q w.heap.size (.mk k m u g o nh d ks) hd):=b9.out.below q6;have cu:N8 Q w.heap.size k m u g o nh d ks hd:=bB.out.1;have bC:Hid (Calls prog 147 #[Al x0 c4,.slice an (N+1) nj,(A5 k m u g o nh d ks hd)] Q fun e bF=>(∃h',e=.returned (.tuple #[Al (DV G) h',Am E])∧Ah bF.cell? (DV G) h')∧Bw Q bF):=(by have e:=bD bA an nj nf (b7.out.on (Aj q6)) cp.out co.out ch.out (.mk k m u g o nh d ks) hd (cb.out.on (Aj q6)) cf.out;rw[bu.out,cl.out]at e;unfold MP at e;rw[bx.out]at e;exact e);have c5:Hid (Bd I Q H F lc M x0 ni):=cd.out.below q6;have bG:Hid (Bw w Q):=bs.out.trans (q6.mono bs.out.size);clear bp bA q6)|(go_at_call 147;(with_reducible refine np bC.out ?_);rintro e Y ⟨⟨c6,rfl,bH⟩,q7⟩;have bY:Hid (Av Y w.heap.size (.mk k m u g o nh d ks) hd):=bB.out.below q7;have cx:N8 Y w.heap.size k m u g o nh d ks hd:=bY.out.1;have b0:Hid (Calls prog 139 #[.pointer (some ⟨H,0,none⟩),Al (DV G) c6,Am E] Y fun e w'=>e=.returned (Am E)∧Bd I w' H F lc M ak ni∧Ao F Y w'):=(by have e:=Lx (c5.out.below q7) bH E;rw[be.out]at e;exact e);have c8:Hid (Bw w Y):=bG.out.trans (q7.mono bG.out.size);clear bC bH q7)|(go_at_call 139;(with_reducible refine np b0.out ?_);rintro e bg ⟨rfl,b1,b8⟩;have c3:N8 bg w.heap.size k m u g o nh d ks hd:=(bY.out.but b8 b3).1;have c9:Hid (Bd I bg H F lc M ak ni):=b1;have da:Hid (Ao F w bg):=(Ao.of_below c8.out).trans b8;clear b0 b1 b8))
  all_goals
   go_wp2;go_ret;exact⟨rfl,c9.out,da.out⟩
theorem Qc{O w:World}{I F lc:Nat}{M:CO}{x0:Nd}{ni:List Nd}(h:Bd O w I F lc M x0 ni){n:Nat}(bg:Fm n x0 ni){an:Option Addr}{nj:Nat}{nf:List BA}(ao:AW O.cell? an nf)(ab:nf≠[])(bi:n+nf.length≤399)(ap:nf.length≤nj∧nj≤9223372036854775807)(ar:(Cj M.us M.gs x0 ni nf.dropLast).1=0→Fm (n+nf.length) (Cj M.us M.gs x0 ni nf.dropLast).2 ni):
 Calls prog 89 #[.pointer (some ⟨I,0,none⟩),.slice an nf.length nj] w fun e w'=>e=.returned (Am (DN M.us M.gs x0 ni nf).1)∧Bd O w' I F lc M (DN M.us M.gs x0 ni nf).2 ni∧Ao F w w':=by
 have b9:nf.dropLast.length≤nf.length:=by rw[r7];omega
 have bk:AW O.cell? an nf.dropLast:=by
  rcases ao with e|⟨b,cb,cd,cf⟩
  ·exact absurd e ab
  ·refine .inr ⟨b,cb,cd,fun i s Y=>cf i s ?_⟩
   have dg:=(ny.1 Y).1;rw[List.getElem?_dropLast]at Y;split at Y
   ·exact Y
   ·cases Y
 obtain⟨dl,bl⟩:∃dl,Hid (nf.dropLast.length=dl):=⟨_,rfl⟩;have bn:Hid (Calls prog 95 #[.slice an nf.length nj] w fun e w'=>e=.returned (.slice an dl nj)∧Bw w w'):=by
  have e:=Nb w an nj nf ab ap;rw[bl.out]at e;exact e
 have ay:∀Q,Bw w Q→Hid (Calls prog 94 #[.pointer (some ⟨I,0,none⟩),.slice an dl nj] Q fun e w'=>e=.returned (Am (Cj M.us M.gs x0 ni nf.dropLast).1)∧Bd O w' I F lc M (Cj M.us M.gs x0 ni nf.dropLast).2 ni∧Ao F Q w'):=fun Q hb=>by
  have e:=Kf (h.below hb) bg (by omega) bk (nj:=nj) (by omega) (by omega);rw[bl.out]at e;exact e
 obtain⟨az,G⟩:∃az,Hid (DN M.us M.gs x0 ni nf=az):=⟨_,rfl⟩;rw[G.out];have hF:=G.out;unfold DN at hF;clear G;generalize Cj M.us M.gs x0 ni nf.dropLast=P at*;obtain⟨E,H⟩:=P;dsimp only at ay ar hF;have G:Hid _:=hF;clear hF;have a1:Hid _:=ap;have bo:=hid bi;have dj:=hid ab;have a6:=hid ao;have cg:Hid _:=ar;clear ao ap bk bg ab ar bi b9;go_enter func89,ntmps89;go_wp2_with fail
 refine np bn.out ?_;rintro e Q ⟨rfl,q2⟩;have bp:=ay Q q2;clear ay bn;go_wp2_with fail
 refine np bp.out ?_;rintro e a7 ⟨rfl,R,bs⟩;have Z:=hid ((Ao.of_below q2).trans bs);have ad:=hid R;clear bp q2 bs h;by_cases a8:E=0
 ·subst a8
  have ba:=cg.out rfl;have bu:=ba.ok (by have:=bo.out;omega);have bv:=a6.out.on (Aj R.base);have dk:=bo.out;have dm:=R.c2;have bb:Hid (Calls prog 97 #[.slice (some ⟨F,0,none⟩) (ni.length+1) lc,.slice an nf.length nj] a7 fun e w'=>e=.returned (.bool (Fi (H::ni) nf))∧Bw a7 w'):=Nj (w:=a7) (S:=fun _=>false) (xs:=H::ni) (fun _ ch=>by cases ch) (by rw[Dg];exact R.lay) (by rw[Dg];exact bv) bu (by omega) a1.out;have T:Hid _:=ba;clear R ba bu bv;rw[show Am 0=Value.nilIface from rfl];have hF:=G.out;rw[nD rfl]at hF;generalize Fi (H::ni) nf=cl at*;have ak:Hid _:=hF;clear hF G;go_wp2_with fail
  refine np bb.out ?_;rintro e dn ⟨rfl,q4⟩;have V:=ad.out.below q4;cases cl with
  |true=>
   have hF:=ak.out;rw[nD rfl]at hF;clear ak;have bd:=hid (Jt V T.out (by omega) (x:=KH) (hd:=zH) (Cq.2 ⟨.inl rfl,⟨nn _,by decide⟩,⟨nn _,by decide⟩,.inl rfl⟩) (by unfold KH;rw[AB,Bu];exact⟨⟨by decide,fun r be=>by cases be⟩,by decide,trivial⟩) (by decide) a6.out (by omega) a1.out);rw[hF]at bd;clear hF;have bf:=hid (Z.out.then q4);clear V q4 bb Z ad T;go_wp2_with fail
   refine np bd.out ?_;rintro e dp ⟨rfl,bx,bA⟩;have co:=hid bx;have cp:=hid (bf.out.trans bA);clear bx bA bd;go_wp2;go_ret;exact⟨rfl,co.out,cp.out⟩
  |false=>
   have hF:=ak.out;rw[nC (by decide)]at hF;have bB:Hid _:=hF;clear ak hF;have bC:=hid (Ga V.c2 V.lay);have cr:=hid V;have bf:=hid (Z.out.then q4);obtain⟨J,bF⟩:∃J,Hid (AV none nf H=J):=⟨_,rfl⟩;have cu:Hid (∀r,AV none nf H=.ok r→Be r∧cnt r≤1000):=fun r be=>TX T.out.lil (fun y cx=>by cases cx) (by have e:Hi (none:Option Nd)=0:=rfl;have:=T.out.cnt;omega) be;have c3:Hid (cnt H≤800):=by have:=T.out.cnt;show _≤_;omega
   have c4:Hid (nf.length≤1000):=by show _≤_;omega
   have aa:=bB.out;rw[bF.out]at aa;unfold Gy at aa;obtain⟨E,bG⟩:=az;have bH:Hid (EK J=E):=nW Prod.fst aa;have c5:Hid ((if E=0 then DV J else H)=bG):=by
    have e:=nW Prod.snd aa;dsimp only at e;rw[bH.out]at e;exact e
   clear aa bB;clear V q4 bb Z ad T;go_wp2_with fail
   refine np bC.out ?_;rintro e bY ⟨⟨c6,rfl,_,b0⟩,q6⟩;have b1:=hid (cr.out.below q6);have c8:=hid (bf.out.then q6);have b2:Hid (Calls prog 140 #[Al H c6,.slice an nf.length nj] bY fun e b3=>(∃h',e=.returned (.tuple #[Al (DV J) h',Am E])∧Ah b3.cell? (DV J) h')∧Bw bY b3):=by
    have e:=ZQ b0 an nj nf (a6.out.on (Aj b1.out.base)) c4.out a1.out c3.out cu.out;rw[bF.out]at e;unfold MP at e;rw[bH.out]at e;exact e
   clear bC b0 q6;go_wp2_with fail
   refine np b2.out ?_;rintro e b4 ⟨⟨c9,rfl,b5⟩,q7⟩;have b6:Hid (Calls prog 139 #[.pointer (some ⟨I,0,none⟩),Al (DV J) c9,Am E] b4 fun e w'=>e=.returned (Am E)∧Bd O w' I F lc M bG ni∧Ao F b4 w'):=by
    have e:=Lx (b1.out.below q7) b5 E;rw[c5.out]at e;exact e
   have da:=hid (c8.out.then q7);clear b2 b5 q7;go_wp2_with fail
   refine np b6.out ?_;rintro e dr ⟨rfl,b7,b8⟩;have db:=hid b7;have dd:=hid (da.out.trans b8);clear b6 b7 b8;go_wp2;go_ret;exact⟨rfl,db.out,dd.out⟩
 ·have de:=AG (n:=E) rfl a8
  have hF:=G.out;rw[nC a8]at hF;subst hF;rw[de];clear R G;go_wp2;go_ret;exact⟨rfl,ad.out,Z.out⟩
def Pw(w w':World)(F G:Nat)(xs:List Nd):Prop:=(xs.length≤G∧G≤9223372036854775807)∧w.heap.size≤F∧Cn w'.cell? (some ⟨F,0,none⟩) xs∧DM w'.cell? F∧∀o,w'.frozen? ⟨F,o,none⟩=false
theorem NX{w:World}{r:Nat}(v0 F G:Value):Ao r w (((w.setCell ⟨r,0,none⟩ v0).setCell ⟨r,1,none⟩ F).setCell ⟨r,2,none⟩ G):=(((Ao.refl r w).setCell 0 none v0).setCell 1 none F).setCell 2 none G
theorem Qo{w:World}{r:Nat}{u0 u1 u2:Value}(H:w.cell? ⟨r,0,none⟩=some u0)(I:w.cell? ⟨r,1,none⟩=some u1)(J:w.cell? ⟨r,2,none⟩=some u2)(v0 F G:Value):
 (((w.setCell ⟨r,0,none⟩ v0).setCell ⟨r,1,none⟩ F).setCell ⟨r,2,none⟩ G).cell? ⟨r,0,none⟩=some v0∧(((w.setCell ⟨r,0,none⟩ v0).setCell ⟨r,1,none⟩ F).setCell ⟨r,2,none⟩ G).cell? ⟨r,1,none⟩=some F∧(((w.setCell ⟨r,0,none⟩ v0).setCell ⟨r,1,none⟩ F).setCell ⟨r,2,none⟩ G).cell? ⟨r,2,none⟩=some G:=by
 refine⟨?_,?_,?_⟩
 ·rw[nA _ _ _ _ (by simp),nA _ _ _ _ (by simp)]
  exact nI _ _ _ H
 ·rw[nA _ _ _ _ (by simp)]
  exact nI _ _ _ ((nA _ _ _ _ (by simp)).trans I)
 ·exact nI _ _ _ ((nA _ _ _ _ (by simp)).trans ((nA _ _ _ _ (by simp)).trans J))
theorem UN{c:AH}{F:Nat}:∀(L:List Fl),(∀j u,(Bj L)[j]? =some u→c ⟨F,j,none⟩=some u)→∀(i:Nat) f,L[i]? =some f→Bi c F (0+i*8) f.x f.h:=fun L h i f G=>by
 rw[nU];exact Ec.2 fun q u H=>h _ _ (JD L i f G q u H)
theorem Xq{w:World}{b:Nat}{M:CO}{la:Option Addr}{lc:Nat}{x0:Nd}{ni:List Nd}(ab:w.cell? ⟨b,0,none⟩=some (.slice M.ua M.us.length M.uc))(ar:w.cell? ⟨b,1,none⟩=some (.slice M.ga M.gs.length M.gc))(ba:w.cell? ⟨b,2,none⟩=some (.slice la (ni.length+1) lc))(bb:Cn w.cell? la (x0::ni))(cp:ni.length≤4):
 Calls prog 138 #[.pointer (some ⟨b,0,none⟩)] w fun e w'=>(∃F G,e=.returned (.agg #[.slice M.ua M.us.length M.uc,.slice M.ga M.gs.length M.gc,.slice (some ⟨F,0,none⟩) (ni.length+1) G])∧Pw w w' F G (x0::ni))∧Bw w w':=by
 obtain⟨I,J,uc,gc,us,gs⟩:=M;dsimp only at ab ar⊢;obtain⟨lb,Q,rfl,f,bd⟩:∃F be,la=some ⟨F,be,none⟩∧∃f:Nat→Hd,∀i y,(x0::ni)[i]? =some y→Bi w.cell? F (be+i*8) y (f i)∧Ah w.cell? y (f i):=by
  rcases bb with e|e
  ·cases e
  ·exact e
 obtain⟨L,ay,bf,bg⟩:=Vo (x0::ni) Q f bd;have az:L.length=ni.length+1:=by rw[←rk (f:=Fl.x),ay];rfl
 have bi:Bw w (w.alloc (.cells #[.slice none 0 0,.slice none 0 0,.slice none 0 0] 67)):=(nv _ _).alloc (nn _) _;have T:Bw w (w.alloc (.cells #[.slice none 0 0,.slice none 0 0,.slice none 0 0] 67)).drew:=bi.drew;have a1:=hid T;have Z:(w.alloc (.cells #[.slice none 0 0,.slice none 0 0,.slice none 0 0] 67)).drew.cell? ⟨b,0,none⟩=some (.slice I us.length uc)∧(w.alloc (.cells #[.slice none 0 0,.slice none 0 0,.slice none 0 0] 67)).drew.cell? ⟨b,1,none⟩=some (.slice J gs.length gc)∧(w.alloc (.cells #[.slice none 0 0,.slice none 0 0,.slice none 0 0] 67)).drew.cell? ⟨b,2,none⟩=some (.slice (some ⟨lb,Q,none⟩) (ni.length+1) lc):=⟨Af T ab,Af T ar,Af T ba⟩;have R:Hid ((w.alloc (.cells #[.slice none 0 0,.slice none 0 0,.slice none 0 0] 67)).drew.cell? ⟨w.heap.size,0,none⟩=some (.slice none 0 0)∧(w.alloc (.cells #[.slice none 0 0,.slice none 0 0,.slice none 0 0] 67)).drew.cell? ⟨w.heap.size,1,none⟩=some (.slice none 0 0)∧(w.alloc (.cells #[.slice none 0 0,.slice none 0 0,.slice none 0 0] 67)).drew.cell? ⟨w.heap.size,2,none⟩=some (.slice none 0 0)∧(w.alloc (.cells #[.slice none 0 0,.slice none 0 0,.slice none 0 0] 67)).drew.frozen? ⟨w.heap.size,0,none⟩=false∧(w.alloc (.cells #[.slice none 0 0,.slice none 0 0,.slice none 0 0] 67)).drew.frozen? ⟨w.heap.size,1,none⟩=false∧(w.alloc (.cells #[.slice none 0 0,.slice none 0 0,.slice none 0 0] 67)).drew.frozen? ⟨w.heap.size,2,none⟩=false):=⟨nl _ _ _ _ rfl,nl _ _ _ _ rfl,nl _ _ _ _ rfl,nQ _ _ _ _ rfl,nQ _ _ _ _ rfl,nQ _ _ _ _ rfl⟩;have V:Hid (w.heap.size<(w.alloc (.cells #[.slice none 0 0,.slice none 0 0,.slice none 0 0] 67)).drew.heap.size):=by show _<(w.alloc (.cells #[.slice none 0 0,.slice none 0 0,.slice none 0 0] 67)).heap.size;rw[nw];omega
 have bk:Hid (Calls prog 169 #[.slice (some ⟨lb,Q,none⟩) (ni.length+1) lc] (w.alloc (.cells #[.slice none 0 0,.slice none 0 0,.slice none 0 0] 67)).drew fun e w'=>(∃F G,e=.returned (.slice (some ⟨F,0,none⟩) (ni.length+1) G)∧(ni.length+1≤G∧G≤9223372036854775807)∧(w.alloc (.cells #[.slice none 0 0,.slice none 0 0,.slice none 0 0] 67)).drew.heap.size≤F∧(∀j u,(Bj L)[j]? =some u→w'.cell? ⟨F,j,none⟩=some u)∧DM w'.cell? F∧∀o,w'.frozen? ⟨F,o,none⟩=false)∧Bw (w.alloc (.cells #[.slice none 0 0,.slice none 0 0,.slice none 0 0] 67)).drew w'):=by
  have e:=XL (w:=(w.alloc (.cells #[.slice none 0 0,.slice none 0 0,.slice none 0 0] 67)).drew) lb Q lc L (by omega) (by omega) (fun j u a6=>Af T (bf j u a6));rw[az]at e;exact e
 have ad:Hid (b≠w.heap.size):=by have:=nz _ _ ab;show b≠_;have e:b<w.heap.size:=this;omega
 have bl:Hid _:=ay;have bn:Hid _:=bg;have bo:Hid _:=az;clear ab ar ba bb bd bi T ay bf bg az;go_enter func138,ntmps138;go_upto_region 1 with fail
 generalize(w.alloc (.cells #[.slice none 0 0,.slice none 0 0,.slice none 0 0] 67))=b5 at*;go_region_held3 (fun w'=>w'.cell? ⟨b,0,none⟩=some (.slice I us.length uc)∧w'.cell? ⟨b,1,none⟩=some (.slice J gs.length gc)∧w'.cell? ⟨b,2,none⟩=some (.slice (some ⟨lb,Q,none⟩) (ni.length+1) lc)) (first|with_reducible exact Z|with_reducible exact Y|with_reducible exact bp) (first|(go_at_call 169;(with_reducible refine np bk.out ?_);rintro e H ⟨⟨F,G,rfl,bs,bu,bv,bx,bA⟩,q6⟩;have Y:H.cell? ⟨b,0,none⟩=some (.slice I us.length uc)∧H.cell? ⟨b,1,none⟩=some (.slice J gs.length gc)∧H.cell? ⟨b,2,none⟩=some (.slice (some ⟨lb,Q,none⟩) (ni.length+1) lc):=⟨Af q6 Z.1,Af q6 Z.2.1,Af q6 Z.2.2⟩;have bB:=Af q6 R.out.1;have bC:=Af q6 R.out.2.1;have bF:=Af q6 R.out.2.2.1;have b6:=(q6.frozen (p:=⟨w.heap.size,0,none⟩) V.out).trans R.out.2.2.2.1;have b7:=(q6.frozen (p:=⟨w.heap.size,1,none⟩) V.out).trans R.out.2.2.2.2.1;have b9:=(q6.frozen (p:=⟨w.heap.size,2,none⟩) V.out).trans R.out.2.2.2.2.2;have ak:b<H.heap.size:=nz H ⟨b,0,none⟩ Y.1;have O:Hid (Ao w.heap.size H (((H.setCell ⟨w.heap.size,0,none⟩ (.slice I us.length uc)).setCell ⟨w.heap.size,1,none⟩ (.slice J gs.length gc)).setCell ⟨w.heap.size,2,none⟩ (.slice (some ⟨F,0,none⟩) (ni.length+1) G))):=NX _ _ _;have bp:(((H.setCell ⟨w.heap.size,0,none⟩ (.slice I us.length uc)).setCell ⟨w.heap.size,1,none⟩ (.slice J gs.length gc)).setCell ⟨w.heap.size,2,none⟩ (.slice (some ⟨F,0,none⟩) (ni.length+1) G)).cell? ⟨b,0,none⟩=some (.slice I us.length uc)∧(((H.setCell ⟨w.heap.size,0,none⟩ (.slice I us.length uc)).setCell ⟨w.heap.size,1,none⟩ (.slice J gs.length gc)).setCell ⟨w.heap.size,2,none⟩ (.slice (some ⟨F,0,none⟩) (ni.length+1) G)).cell? ⟨b,1,none⟩=some (.slice J gs.length gc)∧(((H.setCell ⟨w.heap.size,0,none⟩ (.slice I us.length uc)).setCell ⟨w.heap.size,1,none⟩ (.slice J gs.length gc)).setCell ⟨w.heap.size,2,none⟩ (.slice (some ⟨F,0,none⟩) (ni.length+1) G)).cell? ⟨b,2,none⟩=some (.slice (some ⟨lb,Q,none⟩) (ni.length+1) lc):=⟨(O.out.cell (p:=⟨b,0,none⟩) ak ad.out).trans Y.1,(O.out.cell (p:=⟨b,1,none⟩) ak ad.out).trans Y.2.1,(O.out.cell (p:=⟨b,2,none⟩) ak ad.out).trans Y.2.2⟩;have a7:Hid (∀j u,(Bj L)[j]? =some u→H.cell? ⟨F,j,none⟩=some u):=bv;have bG:Hid (DM H.cell? F):=bx;have bH:Hid (∀o,H.frozen? ⟨F,o,none⟩=false):=bA;have bY:Hid (ni.length+1≤G∧G≤9223372036854775807):=bs;have b0:Hid (b5.drew.heap.size≤F):=bu;have aa:Hid (Bw w H):=a1.out.trans (q6.mono a1.out.size);have cb:Hid (w.heap.size<H.heap.size):=nH V.out q6.size;clear bk bv bx bA bs bu q6))
 all_goals
  obtain⟨cd,cf,cg⟩:=Qo bB bC bF (.slice I us.length uc) (.slice J gs.length gc) (.slice (some ⟨F,0,none⟩) (ni.length+1) G);have cr:=b0.out;have cu:=V.out;have b1:F<H.heap.size:=by
   obtain⟨ao,ch⟩:∃ao,L[0]? =some ao:=⟨_,nt (by have:=bo.out;omega)⟩;have:=UN L a7.out 0 ao ch;obtain⟨⟨k,m,u,g,o,nh,d,ks⟩,cx,ly⟩:=ao;exact nz _ _ this.1
  have b2:F≠w.heap.size:=by omega
  have cl:Hid (Pw w (((H.setCell ⟨w.heap.size,0,none⟩ (.slice I us.length uc)).setCell ⟨w.heap.size,1,none⟩ (.slice J gs.length gc)).setCell ⟨w.heap.size,2,none⟩ (.slice (some ⟨F,0,none⟩) (ni.length+1) G)) F G (x0::ni)):=by
   have b3:∀o,(((H.setCell ⟨w.heap.size,0,none⟩ (.slice I us.length uc)).setCell ⟨w.heap.size,1,none⟩ (.slice J gs.length gc)).setCell ⟨w.heap.size,2,none⟩ (.slice (some ⟨F,0,none⟩) (ni.length+1) G)).cell? ⟨F,o,none⟩=H.cell? ⟨F,o,none⟩:=fun o=>O.out.cell (p:=⟨F,o,none⟩) b1 b2;refine⟨bY.out,by omega,.inr ⟨F,0,rfl,fun i=>((L[i]?).map Fl.h).getD zH,fun i y b4=>?_⟩,G0 bG.out b3,fun o=>(O.out.frozen (p:=⟨F,o,none⟩) b1 b2).trans (bH.out o)⟩
   rw[←bl.out,n4]at b4;obtain⟨ap,a8,rfl⟩:=n0.1 b4;show Bi _ F (0+i*8) ap.x (((L[i]?).map Fl.h).getD zH)∧Ah _ ap.x (((L[i]?).map Fl.h).getD zH);rw[a8];refine⟨UN L (fun j u a6=>(b3 j).trans (a7.out j u a6)) i ap a8,?_⟩;exact(bn.out ap (nE a8)).on (Aj (aa.out.trans (O.out.below (nn _) aa.out.size)))
  have co:=hid (aa.out.trans (O.out.below (nn _) aa.out.size));generalize(((H.setCell ⟨w.heap.size,0,none⟩ (.slice I us.length uc)).setCell ⟨w.heap.size,1,none⟩ (.slice J gs.length gc)).setCell ⟨w.heap.size,2,none⟩ (.slice (some ⟨F,0,none⟩) (ni.length+1) G))=c3 at*;clear bp Y Z O aa a7 bG bH bY b0 bB bC bF b6 b7 b9 bl bn bo V cb ak R a1 ad;go_wp2;refine nG (v:=.agg #[.slice I us.length uc,.slice J gs.length gc,.slice (some ⟨F,0,none⟩) (ni.length+1) G]) (by simp[results,results138,go_sem,cd,cf,cg]) rfl ⟨⟨F,G,rfl,cl.out⟩,co.out⟩
end Go.Proofs.YtofhphibahcniaaGreatDoor
