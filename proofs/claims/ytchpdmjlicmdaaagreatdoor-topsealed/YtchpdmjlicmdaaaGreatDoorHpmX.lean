/- Part: Hpm Hpn Hpo Hpp Onc Hpr Hqa. -/
import Derived.Test.YtchpdmjlicmdaaaGreatDoorHpfX
import Derived.Deep.CutBlock
set_option maxRecDepth 100000
set_option maxHeartbeats 16000000
namespace Go.Proofs.YtchpdmjlicmdaaaGreatDoor
open Go.RowKit Go.Proofs.Tryz
variable {w:World}{db:Nat}{L:Nat->Option Nat}
abbrev TV(G H:Nat)(v0:Value)(fr sz:Int)(v3:Value)(W:World):Prop:=Qw G v0 fr sz W/\Ce W H 3 v3
theorem km{G sd j:Nat}{H:Nat->Option Nat}(h:w.heap[G]? =some (.cells (Cz db sd L H) 97 (0,0)))(I:j<5)(b:Nat):(w.setCell (aD G<|8+j)<|pO b 0).heap[G]? =some (.cells (Cz db sd L<|AK H j<|some b) 97 (0,0)):=by
 refine(Lib.heap_setCell_same (i:=8+j) h _).trans ?_;rcases(by omega:j=0\/j=1\/j=2\/j=3\/j=4)with rfl|rfl|rfl|rfl|rfl<;>rfl
theorem eN{F:Nat->Prop}{hb Z N bf m:Nat}{ao:Nat->Option Nat}{Q R:Nat->Pl}{X:Nat->Nd}(h:Bu F w hb db Z N bf m L ao Q R X)(ek:m<=600000){i O:Nat}(bG:i<5)(ce:ao i=some O){ab:Nat}{H:Bx}{V:Nd}{rM:List Nd}(dg:A6 w ab H)(bb:BN H V rM)(dj:H.q<=64)(em:Jg F ab H)(en:Lg w H):
 Calls prog 45 #[pO hb 0,iN i,pO ab 0] w λe w'=>e=.returned .nilIface/\(∃G' dk eo dm,dm<=m+22000/\Bu F w' hb db Z N eo dm L G' Q dk X/\(∀j,G' j=none↔ao j=none)/\∀j,(dk j).l=(R j).l)/\Mv (Dc hb db Z) w w':=by
 obtain⟨b,B,x0,rs,la,lc,zs,ap⟩:=h.g i O ce;have bg:=hid ap;have bH:=hid h;have bi:Hid<|A6 w ab H/\(BN H V rM/\H.q<=64)/\Jg F ab H/\Lg w H:=⟨dg,⟨bb,dj⟩,em,en⟩;have cf:=SU bb dj;have ep:=SU ap.2.2.1.2.1 ap.2.2.1.2.2;have dn:Hid (∀W,Below w.heap.size w W->Calls prog 52 #[.pointer<|some ⟨ab,0,none⟩] W λe w'=>e=.returned (.string<|DS (He H.u H.g H.k H.cs)++DS (Cy V))/\Bw W w'):=λW bp=>QY (dg.below bp) bb.xs (by have:=bb.cred.2;omega) bb.fine.lil (by have:=bb.fine.cnt;omega) cf.2 bb.ok;have dp:Hid (∀W,Below w.heap.size w W->Calls prog 52 #[.pointer<|some ⟨b,0,none⟩] W λe w'=>e=.returned (.string<|DS (He B.u B.g B.k B.cs)++DS (Cy x0))/\Bw W w'):=λW bp=>QY (ap.2.2.1.1.below bp) ap.2.2.1.2.1.xs (by have:=ap.2.2.1.2.1.cred.2;omega) ap.2.2.1.2.1.fine.lil (by have:=ap.2.2.1.2.1.fine.cnt;omega) ep.2 ap.2.2.1.2.1.ok
 obtain⟨s,eq⟩:=Aq<|DS (He H.u H.g H.k H.cs)++DS (Cy V);obtain⟨er,es⟩:=Aq<|DS (He B.u B.g B.k B.cs)++DS (Cy x0);rw[eq.out]at dn cf;rw[es.out]at dp;have ch:=hid cf.1;have dr:=hid ek;have bY:=hid ce;have ds:w.drew.cell? ⟨hb,8+i,none⟩=some (.pointer<|some ⟨O,0,none⟩):=by have e:=NT h.k.box bG;rw[ce]at e;exact e
 have gl:(0:Int)<=i:=by omega
 have go:(i:Int)<5:=by omega
 have du:Hid<|Below w.heap.size w w.drew:=(NB _ _).drew;go_enter func45,ntmps45;go_upto_region 1 with fail
 go_region_held3 (λW=>W.cell? ⟨hb,8+i,none⟩=some (.pointer<|some ⟨O,0,none⟩)) (first|with_reducible exact ds|with_reducible exact eu) (first|(go_at_call 52;(with_reducible refine rQ (dn.out _ du.out) ?_);rintro e gq ⟨rfl,q2⟩;have eu:=Ai q2 _ _ ds;have b0:=hid<|du.out.trans q2))
 have gr:=Ai b0 _ _ bg.1.2;go_wp2_with fail
 refine rQ (dp _ b0) ?_;rintro e aA ⟨rfl,ev⟩;have ar:=hid<|b0.trans<|ev.mono b0.size;obtain⟨cl,gu⟩:∃cl,(s.toList==er.toList)=cl:=⟨_,rfl⟩;cases cl with
 |true=>
  go_wp2;go_ret;exact⟨rfl,⟨ao,R,bf,m,by omega,bH.below ar,λj=>Iff.rfl,λj=>rfl⟩,Mv.of ar⟩
 |false=>
  have bk:=hid<|bH.below ar;have dw:=bk.out.l.r i;have bq:=bk.out.l.oks.2 i;have co:=bk.out.l.top<|5+i;have cr:=bk.out.l.ap<|5+i;rw[I5]at co cr;rw[bY.out]at dw;obtain⟨dx,dy,dz⟩:=dw;have bd:=bg.out.2.2.2.2.2;obtain⟨⟨ew,G,I,bs,dT⟩,a1⟩:=Aq<|R i;rw[a1.out]at dx dy dz bq co cr bd;dsimp only at dx dy dz bd;obtain⟨zb,zo,e,cx⟩:=bq.ints.resolve_left (λe=>by rw[show G=[]from e]at bd;simp at bd);replace e:ew=some ⟨zb,zo,none⟩:=e;subst e;replace cx:∀k:Nat,k<G.length->aA.cell? ⟨zb,zo+k,none⟩=some (.int .i64<|G.getD k 0):=cx;have cD:=hid<|gH (w:=aA) (p:=⟨some ⟨zb,zo,none⟩,G,I,bs,dT⟩) bq.len bd.2 s.size;obtain⟨f2,cF⟩:∃f2:Nat,Hid<|((G.length / 2:Nat):Int)-bs=f2/\f2<G.length:=by
   rcases bd.2 with e|e
   .exact⟨G.length / 2,by show _/\_;omega⟩
   .exact⟨0,by show _/\_;omega⟩
  dsimp only at cD;rw[cF.out.1]at cD;have a6:Hid ((∀k:Nat,k<G.length->aA.cell? ⟨zb,zo+k,none⟩=some (.int .i64<|G.getD k 0))/\(∀z∈G,0<=z/\z<N)/\(zb≠hb/\zb≠db/\zb≠Z)/\(2<=G.length/\G.length<=I/\I<=9223372036854775807)/\Fp aA ⟨some ⟨zb,zo,none⟩,G,I,bs,dT⟩):=⟨cx,λz e=>⟨by have:=bq.num z e;omega,co z e⟩,cr _ rfl,bd.1,bq⟩;go_wp2_with fail
  refine rQ cD ?_;rintro e bu ⟨rfl,q4⟩;obtain⟨b1,ey,ez,gv,bx⟩:=Ff bu #[.slice (some ⟨zb,zo,none⟩) G.length I,.int .i64 f2,.int .i64 s.size] 72;have bA:=hid<|q4.trans<|ez.mono q4.size;have n0:b1.cell? ⟨bu.heap.size,0,none⟩=some (.slice (some ⟨zb,zo,none⟩) G.length I):=AG bx rfl;have c3:b1.cell? ⟨bu.heap.size,1,none⟩=some (.int .i64 f2):=AG bx rfl;have c4:b1.cell? ⟨bu.heap.size,2,none⟩=some (.int .i64 s.size):=AG bx rfl;have eB:=hid q4.size;go_upto_region 5 with fail
  rw[ey.out];obtain⟨aw,d0⟩:=Aq bu.heap.size;rw[d0.out]at n0 c3 c4 bx⊢;have d1:=hid bx;have a7:=hid<|bk.below bA;have gw:=a7.out.k.lt;have eD:=hid (Xr (s:=s) (fr:=f2) a7.k (λk eE=>Ai bA _ _<|a6.1 k eE) a6.2.1 a6.2.2.1.2 a6.2.2.2.1.2 cF.2 (by have:=dr.out;omega) (by have:=ch.out;omega));have eF:Hid<|aA.heap.size<=aw/\hb<aA.heap.size/\db<aA.heap.size/\Z<aA.heap.size:=by
   have d2:=d0.out;have bB:=eB.out;have eL:=bk.out.k.lt;show _<=_/\_;omega
  go_wp2_with fail
  refine rQ eD ?_;rintro e ad ⟨rfl,⟨b2,eX,d3⟩,q6⟩;have az:Hid<|Mv (Dc hb db Z) b1 ad:=q6.mono λ_ e=>.inr e;have c5:Hid<|b2<=m+s.size/\HK ad hb db Z (64*N) N bf b2 L ao:=⟨eX,d3⟩
  have b4:=(az.block aw (Cw d1) (by have:=eF.out;show¬(_\/_\/_);omega)).trans d1;have n0:ad.cell? ⟨aw,0,none⟩=some (.slice (some ⟨zb,zo,none⟩) G.length I):=AG b4 rfl;have c3:ad.cell? ⟨aw,1,none⟩=some (.int .i64 f2):=AG b4 rfl;have c4:ad.cell? ⟨aw,2,none⟩=some (.int .i64 s.size):=AG b4 rfl;have e0:=hid b4;obtain⟨⟨e1,e2,e3,e4,e5,e6,e7,e8,e9,fa,fb,fc,fd⟩,_⟩:=H6 d3.box;obtain⟨be,fe,d4,c6,b6⟩:=Ff ad (Cz db bf L ao) 97;go_upto_region 9 with fail
  rw[fe.out];obtain⟨J,bl⟩:=Aq ad.heap.size;rw[bl.out]at b6⊢;have gx:=hid b6;have d5:ad.cell? ⟨O,3,none⟩=some (.slice la zs.length lc):=by
   refine(az.cell (p:=⟨O,3,none⟩) (NF _ _<|Ai (ar.trans<|bA.mono ar.size) _ _ bg.1.1) ?_).trans (Ai (ar.trans<|bA.mono ar.size) _ _ bg.1.1);have:=bH.out.l.aw (5+i) O (by rw[I5];exact bY);show¬(O=hb\/O=db\/O=Z);omega
  have bC:Hid<|aw<J/\O<J:=⟨by rw[<-bl.out];exact Cw e0,by rw[<-bl.out];exact NF _ _ d5⟩;have c8:Hid (∀W,Mv (λk=>k=J) be W->TV aw O (.slice (some ⟨zb,zo,none⟩) G.length I) f2 s.size (.slice la zs.length lc) W):=λW bp=>by
   have k {j o:Nat} {v:Value} (d6:j<J) (e:ad.cell? ⟨j,o,none⟩=some v):W.cell? ⟨j,o,none⟩=some v:=(bp.cell (p:=⟨j,o,none⟩) (by have:=c6.out;have:=bl.out;show j<_;omega) (by show¬j=J;omega)).trans<|Ai d4 _ _ e;exact⟨⟨k bC.1 n0,k bC.1 c3,k bC.1 c4⟩,k bC.2 d5⟩
  have ff:TV aw O (.slice (some ⟨zb,zo,none⟩) G.length I) f2 s.size (.slice la zs.length lc) be.drew:=c8 _ (Mv.refl _ _).drew;obtain⟨d7,d8,d9,gy,fg⟩:=Ff be #[.slice (some ⟨zb,zo,none⟩) G.length I,.int .i64 f2,.int .i64 s.size,.slice la zs.length lc,.pointer<|some ⟨ab,0,none⟩] 75;have c9:=(d9.block J<|Cw b6).trans b6;have fh:=hid c9;have fo:d7.cell? ⟨J,8+i,none⟩=some (pV<|ao i):=NT c9 bG;have f8:=Cr c9<|8+i;rw[<-d8.out]at fo f8;have eb:=hid fg;go_region_held3 (TV aw O (.slice (some ⟨zb,zo,none⟩) G.length I) f2 s.size<|.slice la zs.length lc) (first|with_reducible exact ff|exact c8.out _ ((Mv.refl _ be).drew.alloc _)|exact c8.out _ ((((Mv.refl (λk=>k=J) be).alloc _).setCell (p:=⟨J,8+i,none⟩) rfl _).drew)) (fail)
  rw[d8.out];obtain⟨ak,da⟩:=Aq be.heap.size;rw[da.out]at eb⊢;obtain⟨a8,dd⟩:=Aq<|d7.setCell ⟨J,8+i,none⟩<|.pointer<|some ⟨ak,0,none⟩;have ed:=km fh bG ak;have bn:a8.heap[ak]? =some (.cells #[.slice (some ⟨zb,zo,none⟩) G.length I,.int .i64 f2,.int .i64 s.size,.slice la zs.length lc,.pointer<|some ⟨ab,0,none⟩] 75 (0,0)):=by rw[<-dd.out];exact(Cv _ _ _ _ (by have:=da.out;have:=bC.out;have:=c6.out;have:=bl.out;show ak≠J;omega)).trans eb
  rw[dd.out]at ed⊢;have fp:Hid<|Mv (λk=>k=J) be a8:=by
   show Mv _ _ _;rw[<-dd.out];exact(Mv.of (S:=λk=>k=J) d9).setCell (p:=⟨J,8+i,none⟩) rfl _
  obtain⟨⟨e1,e2,e3,e4,e5,e6,e7,e8,e9,fa,fb,fc,fd⟩,_⟩:=H6 ed;have gz:=hid bn;have ee:=a7.out.same c5.2 (a7.l.mv az λ_ e=>e) az;have bo:Hid<|Below ad.heap.size ad a8.drew:=(((Mv.of (S:=λk=>k=J) d4).trans fp).drew).below (rP _) (λk e=>by have:=bl.out;omega);have al:=ee.below bo;have bF:=hid<|ar.trans<|bA.mono ar.size;have b7:¬F ak:=λs=>by
   have d2:=da.out;have bB:=c6.out;have eL:=ee.fl _ s;omega
  have fs:=((bg.up bF λ_ e=>.inl e).mv az a7.fo a7.own<|bH.faG bY).up bo λ_ e=>.inl e;have ef:=(al.fp<|5+i).resolve_left λe=>by
   rw[I5,a1.out]at e;have:=a6.out.2.2.2.1.1;rw[show G=[]from e]at this;simp at this
  rw[I5,a1.out]at ef
  have de:=(al.l.put (k:=5+i) (o:=some ak) (p:=⟨some ⟨zb,zo,none⟩,G,I,f2,s.size⟩) ⟨AG bn rfl,AG bn rfl,AG bn rfl⟩ (by
   have q:=al.l.oks.2 i;rw[a1.out]at q;exact⟨q.ints,q.len,q.num⟩) (λz e=>(a6.2.1 z e).2) (by
   have q:=al.l.nd<|5+i;rw[I5,a1.out]at q;exact q) (λj d6=>by
   have q:=al.l.dj (5+i) j λe=>d6 e.symm;rw[I5,a1.out]at q;exact q) (λb e=>by cases e;exact⟨λe=>b7<|al.fo _<|.inl e,λe=>b7<|al.fo _<|.inr<|.inl e,λe=>b7<|al.fo _<|.inr<|.inr e⟩) (λa e=>by cases e;exact a6.2.2.1)).2 i bG rfl
  have ft:Gu a8.drew F ak ⟨some ⟨zb,zo,none⟩,G,I,f2,s.size⟩ ab H V rM la lc zs:=⟨⟨AG bn rfl,AG bn rfl⟩,fs.2.1,⟨(bi.2.2.1.mv (bi.1.below bF) az a7.fo a7.own).below bo,bi.2.1⟩,bi.2.2.1,⟨λp e=>N1 (bi.2.2.2.1 p e)<|Rz bF.size<|Rz az.size bo.size,λp e=>N1 (bi.2.2.2.2 p e)<|Rz bF.size<|Rz az.size bo.size⟩,a6.2.2.2.1,by
   have d2:=cF.out;have bB:=bg.out.2.2.2.2.2.2;rw[a1.out]at bB;show(f2:Int)=0\/(f2:Int)=((G.length / 2:Nat):Int);replace bB:bs=0\/bs=((G.length / 2:Nat):Int):=bB;omega⟩
  have fx:=hid<|Ot al.k al.l.nn.1 (by have:=c5.out.1;have:=ch.out;have:=dr.out;omega) de.q de.r;have gb:Hid<|Mv (Dc hb db Z) w a8.drew:=(Mv.of bF).trans<|az.trans<|Mv.of bo;have ba:Hid<|Bu F a8.drew hb db Z N bf b2 L ao Q R X/\Cc a8.drew hb db Z N L (AK ao i<|some ak) Q (AK R i ⟨some ⟨zb,zo,none⟩,G,I,f2,s.size⟩)/\Gu a8.drew F ak ⟨some ⟨zb,zo,none⟩,G,I,f2,s.size⟩ ab H V rM la lc zs/\¬F ak/\EI F (some ⟨zb,zo,none⟩):=⟨al,de,ft,b7,ef⟩;go_wp2_with fail
  refine rQ fx ?_;rintro e eg ⟨rfl,gg,b9⟩
  have ej:Hid<|Bu F eg hb db Z N (1-bf) (b2+68) L (AK ao i<|some ak) Q (AK R i ⟨some ⟨zb,zo,none⟩,G,I,f2,s.size⟩) X/\Mv (Dc hb db Z) w eg:=⟨ba.1.setG b9 gg (ba.2.1.mv b9 λ_ e=>e) (λgc e=>by
   cases e;exact⟨ba.2.2.2.1,ab,H,V,rM,la,lc,zs,ba.2.2.1.mv b9 ba.1.fo ba.1.own ba.2.2.2.1⟩)<|.inr ba.2.2.2.2,gb.trans b9⟩
  go_wp2;go_ret;refine⟨rfl,⟨_,_,_,_,by have:=c5.out.1;have:=ch.out;omega,ej.1,λj=>?_,λj=>?_⟩,ej.2⟩
  .unfold AK
   by_cases e:j=i
   .rw[NS e,e,bY.out];simp
   .rw[NO e]
  .unfold AK
   by_cases e:j=i
   .rw[NS e,e,a1.out]
   .rw[NO e]
theorem Mv.late{S:Nat->Prop}{r:Nat}{a b c:World}(h:Mv S a b)(k:Mv (λj=>j=r) b c)(I:a.heap.size<=r):Mv S a c:=⟨k.os.trans h.os,k.tape.trans h.tape,k.output.trans h.output,Rz h.size k.size,λj G H=>(k.block j (N1 G h.size) oM).trans<|h.block j G H⟩
theorem RY{r:Nat}{v0 H I v3 v4:Int}{v5:Option Addr}{J O:Nat}{Z:BA}(h:w.heap[r]? =some (.cells #[iN v0,iN H,iN I,iN v3,iN v4,.slice v5 J O,.string Z] 52 (0,0))):Dn w.cell? r:=λo s v e G=>by
 simp only[World.cell?,h]at e G;rcases o with _|_|_|_|_|_|_|o<;>simp at e G
theorem oj{F:Nat->Prop}{hb ab N bF m:Nat}{a1:Nat->Option Nat}{Q R:Nat->Pl}{X:Nat->Nd}(h:Bu F w hb db ab N bF m L a1 Q R X)(dk:m<=600000)(id:Int){cop cA cB:Int}{cpath coth cname cdata:BA}(ce:Int)(dm:Ce w (1) 0<|iN ce)(dn:cname.size<=1000):
 Calls prog 20 #[pO hb 0,iN id,Fr cop cpath coth cname cdata cA cB] w λe w'=>(∃E,Ja E e)/\(∃G' ad a6 ak,ak<=m+22000/\Bu F w' hb db ab N a6 ak L G' Q ad X/\(∀j,G' j=none↔a1 j=none)/\∀j,(ad j).l=(R j).l)/\Mv (Dc hb db ab) w w':=by
 obtain⟨Z,cf,H,ch,p0,p1,p2,p3,dp,dr,ds⟩:=Mh w cop cpath coth cname cdata cA cB;have bn:Hid<|Z.heap[w.heap.size+1]? =some (.cells #[.int .i64 0,.int .i64 0,.int .i64 0,.int .i64 0,.int .i64 0,.slice none 0 0,.string ⟨#[]⟩] 52 (0,0)):=by
  have e:=tM (w.alloc<|AY cop cpath coth cname cdata cA cB) Qz;rw[ND,cf.out]at e;exact e
 have du:Hid (∀W,Below Z.heap.size Z W->Ce W w.heap.size 0 (.int .i64 cop)/\Ce W w.heap.size 1 (.string cpath)/\Ce W w.heap.size 2 (.string coth)/\Ce W w.heap.size 3 (.string cname)/\Ce W w.heap.size 4 (.string cdata)/\Ce W w.heap.size 5 (.int .i64 cA)/\Ce W w.heap.size 6 (.int .i64 cB)):=λW O=>⟨Ai O _ _ p0,Ai O _ _ p1,Ai O _ _ p2,Ai O _ _ p3,Ai O _ _ dp,Ai O _ _ dr,Ai O _ _ ds⟩;have J:=hid h
 have dw:=hid dk;have dx:=hid dm;have dy:=hid dn;have dz:=(Kw (h.k.below H) id).1;have cl:Hid (∀W,Below w.heap.size w W->∃G' ad a6 ak,ak<=m+22000/\Bu F W hb db ab N a6 ak L G' Q ad X/\(∀j,G' j=none↔a1 j=none)/\∀j,(ad j).l=(R j).l):=λW O=>⟨a1,R,bF,m,by omega,J.below O,λj=>Iff.rfl,λj=>rfl⟩;go_enter func20,ntmps20
 go_upto_region 1 with fail
 rw[cf.out];go_wp2_with fail
 refine rQ dz ?_;rintro e w' ⟨⟨i,dT,d0,rfl,co,rfl⟩|⟨_,rfl⟩,rfl⟩;rotate_left
 .rw[show Ao 5=.iface 101 (.int .i64 5)from rfl]
  obtain⟨bG,ar,aw,⟨t0,bH,bY,t3,t4,t5,b0⟩,⟨cr,cx,cD,cF,c3,c4,c5⟩,a7,a8,ba,bb,bd,be,bf⟩:=GV ch H (tN _) (iN 0) (iN 0) (iN 0) (iN 0) (iN 0) (nL)<|.string ⟨#[]⟩;go_wp2;rw[ar.out];exact NZ (v:=.tuple #[.agg #[iN 0,iN 0,iN 0,iN 0,iN 0,nL,.string ⟨#[]⟩],.iface 101<|iN 5]) (by simp[results,results20,go_sem,a7,a8,ba,bb,bd,be,bf]) rfl ⟨⟨5,Gs _ _ _ _ _ _ _ _ _ rfl rfl⟩,cl _ aw,Mv.of aw⟩
 obtain⟨b,B,x0,rs,la,lc,zs,bg⟩:=J.g i dT co;have al:=hid bg;have d1:=hid co;have eL:=Ai H _ _ bg.1.2;have d2:=hid (fJ (bg.2.2.1.1.below H) (λp e=>N1 (bg.2.2.2.2.1.1 p e) H.size) λp e=>N1 (bg.2.2.2.2.1.2 p e) H.size);go_wp2_with fail
 refine rQ d2 ?_;rintro e c6 ⟨⟨c8,rfl,d3,d4⟩,q2⟩;obtain⟨t0,bH,bY,t3,t4,t5,b0⟩:=du c6 q2;have d5:=hid<|nA (cop:=cop) (cA:=cA) (cB:=cB) (cpath:=cpath) (coth:=coth) (cname:=cname) (cdata:=cdata) d4 al.2.2.1.2.1 ce (Ai (H.trans<|q2.mono H.size) _ _ dx.out) dy;have b1:=hid q2;have c9:=hid d3;go_wp2_with fail
 refine rQ d5 ?_;rintro e I ⟨⟨tk,bo,bp,bq,bs,bu,bx,bA,bB,rfl⟩,V,C,d6,bi,d7,d8,b2,d9,_,eb,ed⟩;have az:Hid<|A6 I c8 bi/\(BN bi V rs/\bi.q<=64)/\Lg w bi/\Jg (λk=>F k\/k=w.heap.size+1) c8 bi:=by
  have ee:=b1.out.size;have eX:w.heap.size+1<Z.heap.size:=Cw bn;have e0:=H.out.size;have bC (k:Nat) (e:F k\/k=w.heap.size+1):k<Z.heap.size:=by
   rcases e with e|e
   .have:=J.out.fl k e;omega
   .omega
  have da (a:Option Addr) (q:∀p,a=some p->c6.heap.size<=p.block):EI (λk=>F k\/k=w.heap.size+1) a:=λp e s=>by have:=q p e;have:=bC _ s;omega
  obtain⟨_,f2,f3,f4,f5⟩:=al.2.2.2.1.up (F':=λk=>F k\/k=w.heap.size+1) al.2.2.1.1 al.2.2.1.2.1 al.2.2.2.2.1 (λk e=>e.imp id λe=>by omega);refine⟨d7,⟨d8,by rw[d9];exact al.2.2.1.2.2⟩,by unfold Lg;rw[b2];exact al.2.2.2.2.1,λs=>by have:=bC _ s;have:=c9.out;omega,?_,?_,by rw[b2];exact f4,by rw[b2];exact f5⟩
  .rcases ed with e|e
   .rw[e];exact f2
   .exact da _ e
  .rcases eb with⟨ef,eg⟩|e
   .rw[ef,eg];exact f3
   .exact .inr<|da _ e
 have b4:Hid<|Below Z.heap.size Z I:=b1.trans<|d6.below c9 b1.size;generalize B.cor.doE B.q x0 rs cop cA cB cpath coth cname cdata=E;obtain⟨b6,ej,dd,e1,ek⟩:=Ff I #[.int .i64 tk,.int .i64 bo,.int .i64 bp,.int .i64 bq,.int .i64 bs,.slice bu bx bA,.string bB] 52;have bk:=hid<|b4.trans<|dd.mono b4.size;have aA:=hid<|H.trans<|bk.mono H.size;have de:=hid<|ch.below bk;have dg:=hid ek;go_upto_region 6 with fail
 rw[ej.out];by_cases b7:E=0;rotate_left
 .rw[AP rfl b7]
  obtain⟨bG,ar,aw,⟨t0,bH,bY,t3,t4,t5,b0⟩,⟨cr,cx,cD,cF,c3,c4,c5⟩,a7,a8,ba,bb,bd,be,bf⟩:=GV de aA (tN _) (iN 0) (iN 0) (iN 0) (iN 0) (iN 0) (nL)<|.string ⟨#[]⟩;go_wp2;rw[ar.out];exact NZ (v:=.tuple #[.agg #[iN 0,iN 0,iN 0,iN 0,iN 0,nL,.string ⟨#[]⟩],.iface 101<|iN E]) (by simp[results,results20,go_sem,a7,a8,ba,bb,bd,be,bf]) rfl ⟨⟨E,Gs _ _ _ _ _ _ _ _ _ rfl (AP rfl b7)⟩,cl _ aw,Mv.of aw⟩
 subst b7;rw[show Ao 0=Value.nilIface from rfl];have em:w.heap.size+1<Z.heap.size:=Cw bn;have en:Bu (λk=>F k\/k=w.heap.size+1) b6 hb db ab N bF m L a1 Q R X:=J.up aA (λk e=>e.imp id λe=>by omega) (λ_ e=>.inl e) λk e=>by
  have ee:=bk.out.size;rcases e with e|e
  .exact N1 (J.fl k e) aA.size
  .omega
 have eo:=hid (eN en dw.out d0 d1 (az.1.below dd) az.2.1.1 az.2.1.2 az.2.2.2 ⟨λp e=>N1 (az.2.2.1.1 p e) aA.size,λp e=>N1 (az.2.2.1.2 p e) aA.size⟩);have ao:Hid<|w.heap.size+1<b6.heap.size/\¬Dc hb db ab (w.heap.size+1):=⟨N1 em bk.size,λe=>by have:=J.out.fl _<|J.fo _ e;omega⟩;have ep:Hid<|¬Dc hb db ab I.heap.size:=λe=>by have:=J.out.fl _<|J.fo _ e;have:=b4.out.size;have:=H.out.size;omega
 go_wp2_with fail
 refine rQ eo ?_;rintro e G ⟨rfl,b9,bl⟩;have eq:=hid b9;have er:=hid bl;have ap:=(bl.block _ (Cw dg) ep).trans dg;have u0:G.cell? ⟨I.heap.size,0,none⟩=some (.int .i64 tk):=AG ap rfl;have u1:G.cell? ⟨I.heap.size,1,none⟩=some (.int .i64 bo):=AG ap rfl;have u2:G.cell? ⟨I.heap.size,2,none⟩=some (.int .i64 bp):=AG ap rfl;have u3:G.cell? ⟨I.heap.size,3,none⟩=some (.int .i64 bq):=AG ap rfl;have u4:G.cell? ⟨I.heap.size,4,none⟩=some (.int .i64 bs):=AG ap rfl;have u5:G.cell? ⟨I.heap.size,5,none⟩=some (.slice bu bx bA):=AG ap rfl;have u6:G.cell? ⟨I.heap.size,6,none⟩=some (.string bB):=AG ap rfl;have es:Hid<|G.heap[w.heap.size+1]? =some (.cells #[.int .i64 0,.int .i64 0,.int .i64 0,.int .i64 0,.int .i64 0,.slice none 0 0,.string ⟨#[]⟩] 52 (0,0)):=(bl.block _ ao.1 ao.2).trans<|(bk.block _<|Cw bn).trans bn;have eu:Hid<|F6 G<|w.heap.size+1:=by
  obtain⟨⟨ev,g1,ew,g3,g4,ey,ez⟩,eB⟩:=de.out;have q (o:Nat):G.cell? ⟨w.heap.size+1,o,none⟩=b6.cell? ⟨w.heap.size+1,o,none⟩:=bl.cell (p:=⟨w.heap.size+1,o,none⟩) ao.1 ao.2;exact⟨⟨(q _).trans ev,(q _).trans g1,(q _).trans ew,(q _).trans g3,(q _).trans g4,(q _).trans ey,(q _).trans ez⟩,λj=>(bl.frozen (p:=⟨w.heap.size+1,j,none⟩) ao.1 ao.2).trans<|eB j⟩
 obtain⟨bG,ar,aw,⟨t0,bH,bY,t3,t4,t5,b0⟩,⟨cr,cx,cD,cF,c3,c4,c5⟩,a7,a8,ba,bb,bd,be,bf⟩:=GV (w0:={G with heap:=#[]}) (r:=w.heap.size+1) eu ⟨rfl,rfl,rfl,N7 _,λk bC=>absurd bC (Nat.not_lt_zero _)⟩ (N7 _) (.int .i64 tk) (.int .i64 bo) (.int .i64 bp) (.int .i64 bq) (.int .i64 bs) (.slice bu bx bA)<|.string bB;have dj:Hid<|Mv (λk=>k=w.heap.size+1) G bG:=by
  show Mv _ _ _;rw[<-ar.out];exact(((((((Mv.refl (λk=>k=w.heap.size+1) G).setCell (p:=⟨w.heap.size+1,0,none⟩) rfl _).setCell (p:=⟨w.heap.size+1,1,none⟩) rfl _).setCell (p:=⟨w.heap.size+1,2,none⟩) rfl _).setCell (p:=⟨w.heap.size+1,3,none⟩) rfl _).setCell (p:=⟨w.heap.size+1,4,none⟩) rfl _).setCell (p:=⟨w.heap.size+1,5,none⟩) rfl _).setCell (p:=⟨w.heap.size+1,6,none⟩) rfl _
 go_wp2;rw[ar.out];obtain⟨G',ad,a6,ak,eD,b9,eE,eF⟩:=eq.out
 exact NZ (v:=.tuple #[.agg #[.int .i64 tk,.int .i64 bo,.int .i64 bp,.int .i64 bq,.int .i64 bs,.slice bu bx bA,.string bB],.nilIface]) (by simp[results,results20,go_sem,a7,a8,ba,bb,bd,be,bf]) rfl ⟨⟨0,Gs _ _ _ _ _ _ _ _ _ rfl rfl⟩,⟨G',ad,a6,ak,eD,(b9.scr dj λk e=>by
  subst e;exact⟨.inr rfl,ao.2,RY es⟩).less (λ_ e=>.inl e) J.fo,eE,eF⟩,((Mv.of aA).trans er).late dj<|tN _⟩
end Go.Proofs.YtchpdmjlicmdaaaGreatDoor
namespace Go.Proofs.YtchpdmjlicmdaaaGreatDoor
open Go.ChangeShapes Go.WideShapes Go.ChangeAt Go.RowKit Go.Deep Go.Proofs.Tryz
variable {W:World}{m:Nat}{α:Type}
structure Cf where
 ua:Option Addr
 ga:Option Addr
 ca:Option Addr
 la:Option Addr
 uc:Nat
 gc:Nat
 cc:Nat
 lc:Nat
 us:List Rg
 gs:List Rg
 cs:List Int
 zs:List Int
 cu:Int
 cg:Int
 ck:Int
 q:Int
def Cf.l(c:Cf):List Value:=[.slice c.ua c.us.length c.uc,.slice c.ga c.gs.length c.gc,iN c.cu,iN c.cg,.slice c.ca c.cs.length c.cc,iN c.ck,iN c.q,.slice c.la c.zs.length c.lc]
def Cf.Ok(c:Cf)(W:World):Prop:=(Rgs W c.ua c.us/\Rgs W c.ga c.gs)/\(c.us.length<=c.uc/\c.gs.length<=c.gc)/\((∀r∈c.us,r.ok)/\∀r∈c.gs,r.ok)/\AV W c.ca c.cs/\(A4 c.cu/\A4 c.cg)/\AV W c.la c.zs
structure Tn where
 kd:Int
 wh:Int
 c:Cl
 f:Cf
 x:Nd
 h:Hd
 cut:Int
def Tn.l(t:Tn):List Value:=[iN t.kd]++([iN t.wh]++(t.c.l++(t.f.l++(Bq t.x t.h++[iN t.cut]))))
def Tn.Ok(t:Tn)(W:World):Prop:=t.f.Ok W/\Am W.cell? t.x t.h/\A0 t.x
namespace RowsIn
theorem rows_of{Z:Type}{enc:TypeId×Value->Z}{v:Value}{y:DataW Z×List MemPlace}{t e:TypeId}{n:Nat}(ap:prog.underlying t=some (.slice e))(ar:prog.cellsOf e=n)(bf:0<n) [Nonempty α]{f:α->List Value}{P:α->Prop}(aw:∀m cs y,DataW.trod enc prog W 0 (λ_=>true) true m e cs=some y->∃x,cs=f x/\P x)(h:DataW.trod enc prog W 0 (λ_=>true) true m t [v]=some y):
 ∃a cap l,v=.slice a (l:List α).length cap/\l.length<=cap/\cap<=9223372036854775807/\(l=[]\/∃b I,a=some (aD b I)/\∀(i:Nat) x,l[i]? =some x->∀q v,(f x)[q]? =some v->Ce W b (I+i*n+q) v)/\∀x∈l,P x:=by
 rcases DataW.trod_slice ap h with⟨O,_⟩|⟨a,H,cap,bg,rM,bi,bk,O,_,_,az,aA,bl,a1,_,_⟩
 .obtain rfl:v=nL:=by simpa using O
  exact⟨none,0,[],rfl,rP _,by omega,.inl rfl,λx hx=>by cases hx⟩
 .obtain rfl:v=.slice (some a) H cap:=by simpa using O
  have ea:∀i,∃x:α,i<H->W.cells? 0 (a.add<|i*n) n=some (f x)/\P x:=λi=>by
   by_cases G:i<H
   .have ab:=a1 i G
    rw[ar,NA oM]at ab;obtain⟨bn,a6,a7⟩:=Option.bind_eq_some_iff.1 ab;obtain⟨x,e,a8⟩:=aw _ _ _ a7;exact⟨x,λ_=>⟨by rw[a6,e],a8⟩⟩
   .exact⟨Classical.choice inferInstance,λq=>absurd q G⟩
  obtain⟨F,hF⟩:=Classical.axiomOfChoice ea;refine⟨some a,cap,(List.range H).map F,by simp,by simpa using az,by unfold maxLen at aA;omega,?_,λx hx=>?_⟩
  .by_cases ba:H=0
   .subst ba;exact .inl rfl
   .obtain⟨b,I,ad⟩:=a
    have ak:∀i,i<H->(f<|F i).length=n/\∀q v,(f<|F i)[q]? =some v->W.cell? (((⟨b,I,ad⟩:Addr).add<|i*n).add q)=some v:=λi G=>by
     obtain⟨_,al,bb⟩:=World.cells?_some (hF i G).1;exact⟨al,λq v J=>by rw[bb q (by have:=(NE.1 J).1;omega)];exact J⟩
    have bd:ad=none:=by
     obtain⟨al,be⟩:=ak 0 oM;have:=World.cell?_spot<|be 0 _<|NA oM;simpa [Addr.add]using this
    subst bd;refine .inr ⟨b,I,rfl,λi x G q v J=>?_⟩;have ao:i<H:=by have:=(NE.1 G).1;simpa using this
    obtain rfl:x=F i:=by simp[ao]at G;exact G.symm
    have g:=(ak i ao).2 q v J;rw[Ef,Ef]at g;exact g
  .obtain⟨i,G,rfl⟩:=CQ.1 hx
   exact(hF i<|by simpa using G).2
theorem mB{G:Type}{enc:TypeId×Value->G}{cs:List Value}{y:DataW G×List MemPlace}(h:DataW.trod enc prog W 0 (λ_=>true) true m 35 cs=some y):∃c:Cl,cs=c.l:=by
 obtain⟨xs,n,bo,_,ak,al,hx⟩:=DataW.trod_struct underlying35 h;obtain⟨c0,c1,c2,ao,ap,ar,aw,rfl⟩:=Wj<|ak.trans Yv;obtain⟨az,aA,a1,a6,a7,a8,ba,rfl⟩:=Wj (show xs.length=7 from al);have t0:DataW.trod enc prog W 0 (λ_=>true) true n 3 [c0]=some az:=by simpa [Ib]using hx 0 _ rfl
 have bb:DataW.trod enc prog W 0 (λ_=>true) true n 9 [c1]=some aA:=by simpa [KK]using hx 1 _ rfl
 have bd:DataW.trod enc prog W 0 (λ_=>true) true n 9 [c2]=some a1:=by simpa [KK]using hx 2 _ rfl
 have t3:DataW.trod enc prog W 0 (λ_=>true) true n 9 [ao]=some a6:=by simpa [KK]using hx 3 _ rfl
 have t4:DataW.trod enc prog W 0 (λ_=>true) true n 9 [ap]=some a7:=by simpa [KK]using hx 4 _ rfl
 have t5:DataW.trod enc prog W 0 (λ_=>true) true n 3 [ar]=some a8:=by simpa [Ib]using hx 5 _ rfl
 have be:DataW.trod enc prog W 0 (λ_=>true) true n 3 [aw]=some ba:=by simpa [Ib]using hx 6 _ rfl
 obtain⟨x0,H,_⟩:=C1 underlying3 t0;obtain⟨bf,I,_⟩:=tE underlying9 bb;obtain⟨bg,J,_⟩:=tE underlying9 bd;obtain⟨bi,O,_⟩:=tE underlying9 t3;obtain⟨bk,Z,_⟩:=tE underlying9 t4;obtain⟨bl,ab,_⟩:=C1 underlying3 t5;obtain⟨bn,ad,_⟩:=C1 underlying3 be;simp at H I J O Z ab ad;subst H I J O Z ab ad;exact⟨⟨x0,bf,bg,bi,bk,bl,bn⟩,rfl⟩
theorem pW{H:Type}{enc:TypeId×Value->H}{cs:List Value}{y:DataW H×List MemPlace}(h:DataW.trod enc prog W 0 (λ_=>true) true m 43 cs=some y):∃c:Cf,cs=c.l/\c.Ok W:=by
 obtain⟨xs,n,b2,_,ao,ap,hx⟩:=DataW.trod_struct underlying43 h;obtain⟨c0,c1,c2,I,J,O,ar,c7,rfl⟩:=RO<|ao.trans XE;obtain⟨aw,az,aA,a1,rfl⟩:=WU (show xs.length=4 from ap);have t0:DataW.trod enc prog W 0 (λ_=>true) true n 38 [c0,c1]=some aw:=by simpa [Px]using hx 0 _ rfl
 have a6:DataW.trod enc prog W 0 (λ_=>true) true n 41 [c2,I,J,O]=some az:=by simpa [Px,Su]using hx 1 _ rfl
 have a7:DataW.trod enc prog W 0 (λ_=>true) true n 3 [ar]=some aA:=by simpa [Px,Su,Ib]using hx 2 _ rfl
 have t3:DataW.trod enc prog W 0 (λ_=>true) true n 39 [c7]=some a1:=by simpa [Px,Su,Ib,Nm]using hx 3 _ rfl
 obtain⟨a8,nm,_,_,_,ba,Z⟩:=DataW.trod_struct underlying38 t0;obtain⟨z0,bb,rfl⟩:=SO (show a8.length=2 from ba);have bd:DataW.trod enc prog W 0 (λ_=>true) true nm 36 [c0]=some z0:=by simpa [XV]using Z 0 _ rfl
 have be:DataW.trod enc prog W 0 (λ_=>true) true nm 36 [c1]=some bb:=by simpa [XV]using Z 1 _ rfl
 obtain⟨bf,nc,_,_,_,bg,G⟩:=DataW.trod_struct underlying41 a6;obtain⟨bi,bk,bl,bn,rfl⟩:=WU (show bf.length=4 from bg);have bo:DataW.trod enc prog W 0 (λ_=>true) true nc 3 [c2]=some bi:=by simpa [Ib,Nm]using G 0 _ rfl
 have bp:DataW.trod enc prog W 0 (λ_=>true) true nc 3 [I]=some bk:=by simpa [Ib,Nm]using G 1 _ rfl
 have bq:DataW.trod enc prog W 0 (λ_=>true) true nc 39 [J]=some bl:=by simpa [Ib,Nm]using G 2 _ rfl
 have bs:DataW.trod enc prog W 0 (λ_=>true) true nc 3 [O]=some bn:=by simpa [Ib,Nm]using G 3 _ rfl
 obtain⟨ua,b4,uc,us,rfl,bu,rfl,bx,bA⟩:=UC bd;obtain⟨ga,b6,gc,gs,rfl,bB,rfl,bC,bF⟩:=UC be;obtain⟨cu,ab,_,bG⟩:=C1 underlying3 bo;obtain⟨cg,ad,_,bH⟩:=C1 underlying3 bp;obtain⟨ca,b7,cc,zs,rfl,b9,rfl,bY⟩:=Ug bq;obtain⟨ck,ak,_⟩:=C1 underlying3 bs;obtain⟨q,al,_⟩:=C1 underlying3 a7;obtain⟨la,ce,lc,b0,rfl,_,rfl,b1⟩:=Ug t3;simp at ab ad ak al;subst ab ad ak al;exact⟨⟨ua,ga,ca,la,uc,gc,cc,lc,us,gs,zs,b0,cu,cg,ck,q⟩,rfl,⟨bx,bC⟩,⟨bu,bB⟩,⟨bA,bF⟩,bY,⟨Iv bG,Iv bH⟩,b1⟩
theorem od:prog.cellsOf 45=26:=by kernel_rfl
theorem LE{l A B:List α}{k n:Nat}(h:(l.drop k).take n=A)(hb:l.drop (k+n)=B):l.drop k=A++B:=by grind [List.drop_drop,CR]
theorem pR{l:List α}(h:l.length=6):∃a b c d e f,l=[a,b,c,d,e,f]:=by
 match l,h with
 |[a,b,c,d,e,f],_=>exact⟨a,b,c,d,e,f,rfl⟩
theorem turn_of{ab:Type}{enc:TypeId×Value->ab}(m:Nat)(cs:List Value)(y:DataW ab×List MemPlace)(h:DataW.trod enc prog W 0 (λ_=>true) true m 45 cs=some y):∃t:Tn,cs=t.l/\t.Ok W:=by
 obtain⟨xs,n,az,_,al,ao,hx⟩:=DataW.trod_struct underlying45 h;obtain⟨aA,a1,a6,a7,a8,ba,rfl⟩:=pR (show xs.length=6 from ao);rw[od]at al;obtain⟨kd,G,_⟩:=C1 underlying3<|hx 0 _ rfl;obtain⟨ad,H,_⟩:=C1 underlying3<|hx 1 _ rfl;obtain⟨c,I⟩:=mB<|hx 2 _ rfl;obtain⟨f,J,ap⟩:=pW<|hx 3 _ rfl;obtain⟨x,hd,O,ar,aw⟩:=cm _ _ _<|hx 4 _ rfl;obtain⟨ak,Z,_⟩:=C1 underlying3<|hx 5 _ rfl;replace G:(cs.drop 0).take (prog.cellsOf 3)=[iN kd]:=G;replace H:(cs.drop 1).take (prog.cellsOf 3)=[iN ad]:=H;replace I:(cs.drop 2).take (prog.cellsOf 35)=c.l:=I;replace J:(cs.drop 9).take (prog.cellsOf 43)=f.l:=J;replace O:(cs.drop 17).take (prog.cellsOf 31)=Bq x hd:=O;replace Z:(cs.drop 25).take (prog.cellsOf 3)=[iN ak]:=Z;rw[Ib]at G H Z;rw[Yv]at I;rw[XE]at J;rw[Sw]at O;exact⟨⟨kd,ad,c,f,x,hd,ak⟩,show cs.drop 0=_ from LE G (LE H<|LE I<|LE J<|LE O<|LE (B:=[]) Z<|List.drop_eq_nil_of_le oM),ap,ar,aw⟩
end RowsIn
end Go.Proofs.YtchpdmjlicmdaaaGreatDoor
namespace Go.Proofs.YtchpdmjlicmdaaaGreatDoor
open Go.RowKit Go.Proofs.Tryz
variable {w:World}{E:Int}{b j:Nat}{X:Nat->Nd}
def Tn.Lt(t:Tn):Prop:=(t.f.us.length<=6/\t.f.gs.length<=6/\t.f.cs.length<=8/\t.f.zs.length<=6)/\t.c.nm.size<=60/\AI t.x/\cnt t.x<=80
def ZN(W:World)(a:Option Addr)(l:List Tn):Prop:=(l=[]\/∃b G,a=some (aD b G)/\∀(i:Nat) t,l[i]? =some t->∀q v,t.l[q]? =some v->W.cell? (aD b<|G+i*26+q)=some v)/\∀t∈l,t.Ok W
theorem cY{a:Option Addr}{cap:Nat}{l:List Tn}(hx:ZN w a l)(ab:Nat)(b9:ab<=100):
 Calls prog 5 #[.slice a l.length cap,iN ab] w λe w'=>ZM (l.length<=ab/\∀t∈l,t.Lt) e/\Bw w w':=by
 have ba:=hid hx;obtain⟨N,a1⟩:=Aq l.length;rw[a1.out];by_cases ce:ab<N
 .have bb:decide ((ab:Int)<(N:Int))=true:=NY oM
  go_enter func5,ntmps5;go_wp2;go_ret;exact⟨⟨false,rfl,λe=>by cases e⟩,NB _ _⟩
 have bb:decide ((ab:Int)<(N:Int))=false:=NM oM;have bl:Hid<|N<=ab:=by show _<=_;omega
 have cf:N<=100:=by omega
 go_enter func5,ntmps5;go_upto_region 3 with fail
 go_wp2;go_loopw [5] (λi wr=>∃j:Nat,j<=N/\i=iN j/\Hid (Bw w wr)/\Hid (∀t c,t<j->l[t]? =some c->c.Lt)) (λi _=>N-(intOf i).toNat)
 case atStart=>exact⟨0,N7 _,rfl,NB _ _,λt c H=>absurd H (Nat.not_lt_zero _)⟩
 case round=>
  obtain⟨j,ch,rfl,I,HK⟩:=hrel;by_cases bn:j<N
  .have bo:(j:Int)<(N:Int):=by omega
   have bb:decide ((j:Int)<(N:Int))=true:=NY bo;obtain⟨t,H⟩:∃t,l[j]? =some t:=⟨_,NA (by rw[a1.out];exact bn)⟩;obtain⟨b,bp,rfl,bd⟩:=ba.1.resolve_left λe=>by rw[e]at H;simp at H
   have bq:=ba.out.2 t<|NW H;have bs:=hid H;have Z:=bd j t H;obtain⟨kd,bu,⟨op,a6,a7,nm,a8,ca,cb⟩,⟨ua,ga,be,la,uc,gc,cc,lc,us,gs,cs,zs,cu,cg,ck,q⟩,⟨ak,al,ao,ap,ar,aw,az,xs⟩,bx,bA⟩:=t;have G:Hid (∀W,Bw w W->∀(n:Nat) v,(Tn.l ⟨kd,bu,⟨op,a6,a7,nm,a8,ca,cb⟩,⟨ua,ga,be,la,uc,gc,cc,lc,us,gs,cs,zs,cu,cg,ck,q⟩,.mk ak al ao ap ar aw az xs,bx,bA⟩)[n]? =some v->Ce W b (bp+j*26+n) v):=λW bB n v e=>Ai bB _ _<|Z n v e;have cl:=G.out wr I 9 _ rfl
   have co:=G.out wr I 10 _ rfl;have cr:=G.out wr I 11 _ rfl;have cx:=G.out wr I 12 _ rfl;have cD:=G.out wr I 13 _ rfl;have cF:=G.out wr I 14 _ rfl;have c3:=G.out wr I 15 _ rfl;have c4:=G.out wr I 16 _ rfl;have bC:=hid<|aG (w:=wr) (ua:=ua) (ga:=ga) (ca:=be) (lwa:=la) (uc:=uc) (gc:=gc) (cc:=cc) (lwn:=zs.length) (lwc:=lc) (us:=us) (gs:=gs) (cs:=cs) (cu:=cu) (cg:=cg) (ck:=ck) (q:=q);clear Z bd H;go_wp2_with fail
   go_call bC as e w2 ⟨⟨r1,rfl,hr1⟩,q2⟩
   have O:=hid<|I.trans<|q2.mono I.size;have bF:=hid hr1;have c2:=G.out w2 O 2 _ rfl;have c5:=G.out w2 O 3 _ rfl;have c6:=G.out w2 O 4 _ rfl;have c8:=G.out w2 O 5 _ rfl;have c9:=G.out w2 O 6 _ rfl;have c7:=G.out w2 O 7 _ rfl;have da:=G.out w2 O 8 _ rfl;obtain⟨bG,bH,bY,dd,b0⟩:=Ff w2 #[iN op,.string a6,.string a7,.string nm,.string a8,iN ca,iN cb] 35
   have b1:=hid (aI (w:=bG) (a:=some<|aD w2.heap.size 0) (cap:=1) (l:=[⟨op,a6,a7,nm,a8,ca,cb⟩]) (.inr ⟨_,0,rfl,λi c bf n v b2=>by
    cases i with
    |zero=>cases bf;rw[tB,RT];exact AG b0<|by simpa [Cl.l]using b2
    |succ i=>simp at bf⟩))
   have bg:=hid<|O.trans<|bY.mono O.size;go_wp2_with fail
   rw[bH.out];go_call b1 as e w4 ⟨⟨r2,rfl,hr2⟩,q4⟩
   have J:=hid<|bg.trans<|q4.mono bg.size;have b4:=hid hr2;have de:=G.out w4 J 17 _ rfl;have dg:=G.out w4 J 18 _ rfl;have dj:=G.out w4 J 19 _ rfl;have dk:=G.out w4 J 20 _ rfl;have dm:=G.out w4 J 21 _ rfl;have dn:=G.out w4 J 22 _ rfl;have dp:=G.out w4 J 23 _ rfl;have dr:=G.out w4 J 24 _ rfl;have ad:=eQ<|bq.2.1.on<|Ai J;obtain⟨aA,bi⟩:∃aA,decide (0<FF (.mk ak al ao ap ar aw az xs) 80)=aA:=⟨_,rfl⟩;have b6:Hid<|aA=true->AI (.mk ak al ao ap ar aw az xs)/\cnt (.mk ak al ao ap ar aw az xs)<=80:=λe=>by
    have b7:=C6<|bi.trans e;have q:=VA _ _ b7;exact⟨q.1,by have:=q.2;omega⟩
   dsimp only at ad;rw[bi]at ad;have ad:=hid ad;go_wp2_with fail
   go_call ad as e w5 ⟨rfl,q5⟩
   have bk:=hid<|J.trans<|q5.mono J.size;cases r1<;>cases r2<;>cases aA
   rotate_left 7
   .go_wp2
    go_roundw
    case rel=>
     refine⟨j+1,by omega,by go_num,bk,λt c H Z=>?_⟩;by_cases e:t=j
     .subst e
      rw[bs.out]at Z;cases Z;exact⟨bF oS,(b4 oS).2 _ oS,b6 oS⟩
     .exact HK t c oM Z
    case measure=>(simp[intOf];try omega)
   all_goals
    go_wp2;go_ret;exact⟨⟨false,rfl,λe=>Bool.noConfusion e⟩,bk⟩
  .obtain rfl:j=N:=by omega
   have ds:decide ((j:Int)<(j:Int))=false:=NM oM;go_wp2;go_ret;refine⟨⟨true,rfl,λ_=>⟨bl,λc Z=>?_⟩⟩,I⟩;obtain⟨t,H⟩:=R7 Z;exact HK t c (by have:=(NE.1 H).1;rw[a1.out]at this;exact this) H
theorem jD(W:World)(n:Int):(Instr.typeAssert (.iface 101<|iN n) 47 101 true).run prog W=.ok (.tuple #[iN n,.bool true]) W:=by kernel_rfl
def Is(E f:Int):Bool:=if E=0 then f==0 else decide (0<f)&&E==f
theorem nV(E f:Int)(w:World):Calls prog 62 #[Ao E,iN f] w λe w'=>e=.returned (.bool<|Is E f)/\w=w':=by
 have I:=jD;by_cases h:E=0
 .have e:Is E f=(f==0):=by unfold Is;rw[NS h]
  rw[DE h,e];go_enter func62,ntmps62;go_wp2;go_ret;exact⟨rfl,rfl⟩
 .have e:Is E f=(decide (0<f)&&E==f):=by unfold Is;rw[NO h]
  rw[AP rfl h,e];by_cases G:0<f
  .have H:decide (0<f)=true:=NY G
   go_enter func62,ntmps62;go_wp2;go_ret;exact⟨by simp[H],rfl⟩
  .have H:decide (0<f)=false:=NM G
   go_enter func62,ntmps62;go_wp2;go_ret;exact⟨by simp,rfl⟩
theorem oA{f:Int}(h:Is E f=true):E=f:=by grind [Is]
theorem lJ(h:0<=E):Is E E=true:=by grind [Is]
def Kj(E:Int):Int:=if 0<=E/\E<=17 then E else-1
theorem eM(E:Int)(w:World):Calls prog 26 #[Ao E] w λe w'=>e=.returned (iN<|Kj E)/\w=w':=by
 obtain⟨Z,I⟩:=Aq<|Ao E;have ab:Hid (∀f w,Calls prog 62 #[Z,iN f] w λe w'=>e=.returned (.bool<|Is E f)/\w=w'):=by rw[<-I.out];exact nV E
 rw[I.out];go_enter func26,ntmps26;go_wp2;go_loopw [3] (λi wr=>∃j:Nat,j<=18/\i=iN j/\Hid (∀t:Nat,t<j->Is E t=false)/\w=wr) (λi _=>18-(intOf i).toNat)
 case atStart=>exact⟨0,by omega,rfl,λt J=>absurd J (Nat.not_lt_zero _),rfl⟩
 case round=>
  obtain⟨j,ak,rfl,HK,rfl⟩:=hrel;by_cases h:j<=17
  .have ad:decide ((j:Int)<=17)=true:=NY oM
   obtain⟨r,G⟩:=Aq<|Is E j;have O:=hid<|ab j w;rw[G.out]at O;go_wp2_with fail
   go_call O as e w2 ⟨rfl,rfl⟩
   cases r with
   |true=>
    have e:=oA G;have H:Hid<|Kj E=j:=by show _=_;unfold Kj;rw[NS oM,e]
    go_wp2;go_ret;exact⟨by rw[H.out];rfl,rfl⟩
   |false=>
    go_wp2;go_roundw
    case rel=>
     refine⟨j+1,by omega,by go_num,λt J=>?_,trivial⟩;by_cases e:t=j
     .rw[e];exact G
     .exact HK t oM
    case measure=>(simp[intOf];try omega)
  .have ad:decide ((j:Int)<=17)=false:=NM oM
   have H:Hid<|Kj E=-1:=by
    show _=_;unfold Kj;refine NO λe=>?_;have q:=HK.out E.toNat oM
    rw[Int.toNat_of_nonneg e.1,lJ e.1]at q;cases q
   go_wp2;go_ret;exact⟨by rw[H.out];rfl,rfl⟩
theorem nh(E:Int):Kj E=0↔E=0:=by
 unfold Kj;split<;>omega
def Qa(kd G:Int)(x:Nd)(Y:Nat->Nd)(L L':Nat->Option Nat)(X X':Nat->Nd)(f n:Int):Prop:=
 (f=0/\(kd=3\/kd=4)/\∃k H:Nat,k<5/\n=k/\L k=none/\L'=AK L k (some H)/\∃y,X'=AK X k y/\(kd=3->y=x)/\(kd=4->∃i:Nat,i<5/\G=i/\y=Y i))\/
 (f=0/\kd=5/\X'=X/\∃k:Nat,k<5/\G=k/\L'=AK L k none)\/
 ((f≠0\/¬(kd=3\/kd=4\/kd=5))/\L'=L/\X'=X)
abbrev II(tk G H I J:Int)(O:Option Addr)(Z ab:Nat)(ad:BA):Array Value:=#[iN tk,iN G,iN H,iN I,iN J,.slice O Z ab,.string ad]
theorem St{x0 J O Z ab ad ak:Value}{t:TypeId}(h:w.heap[b]? =some (.cells #[x0,J,O,Z,ab,ad,ak] t (0,0)))(v0 G H v3 v4 v5 I:Value):(((((((w.setCell (aD b 0) v0).setCell (aD b 1) G).setCell (aD b 2) H).setCell (aD b 3) v3).setCell (aD b 4) v4).setCell (aD b 5) v5).setCell (aD b 6) I).heap[b]? =some (.cells #[v0,G,H,v3,v4,v5,I] t (0,0))/\Mv (λk=>k=b) w (((((((w.setCell (aD b 0) v0).setCell (aD b 1) G).setCell (aD b 2) H).setCell (aD b 3) v3).setCell (aD b 4) v4).setCell (aD b 5) v5).setCell (aD b 6) I):=by
 have k {w:World} {c:Array Value} {i:Nat} {v:Value} (h:w.heap[b]? =some (.cells c t (0,0))):=Lib.heap_setCell_same (i:=i) h v;refine⟨(k<|k<|k<|k<|k<|k<|k h).trans oS,(((((((Mv.refl (λk=>k=b) w).setCell (p:=(aD b 0)) rfl _).setCell (p:=(aD b 1)) rfl _).setCell (p:=(aD b 2)) rfl _).setCell (p:=(aD b 3)) rfl _).setCell (p:=(aD b 4)) rfl _).setCell (p:=(aD b 5)) rfl _).setCell (p:=(aD b 6)) rfl _⟩
theorem OQ{x0 G H I J O Z:Value}(h:w.heap[b]? =some (.cells #[x0,G,H,I,J,O,Z] 52 (0,0))):(Ce w b 0 x0/\Ce w b 1 G/\Ce w b 2 H/\Ce w b 3 I/\Ce w b 4 J/\Ce w b 5 O/\Ce w b 6 Z)/\w.frozen? (aD b 0)=false/\w.frozen? (aD b 1)=false/\w.frozen? (aD b 2)=false/\w.frozen? (aD b 3)=false/\w.frozen? (aD b 4)=false/\w.frozen? (aD b 5)=false/\w.frozen? (aD b 6)=false:=
 ⟨⟨AG h rfl,AG h rfl,AG h rfl,AG h rfl,AG h rfl,AG h rfl,AG h rfl⟩,Cr h 0,Cr h 1,Cr h 2,Cr h 3,Cr h 4,Cr h 5,Cr h 6⟩
abbrev TT(b:Nat)(tk G H I J:Int)(O:Option Addr)(Z ab:Nat)(ad:BA)(w:World):Prop:=Ce w b 0 (iN tk)/\Ce w b 1 (iN G)/\Ce w b 2 (iN H)/\Ce w b 3 (iN I)/\Ce w b 4 (iN J)/\Ce w b 5 (.slice O Z ab)/\Ce w b 6 (.string ad)
abbrev La(F:Nat->Prop)(G H k:Nat):Prop:=F k\/k=G\/k=H
def JD(F:Nat->Prop)(w0:World)(hb db H N m I J:Nat)(L:Nat->Option Nat)(X Y:Nat->Nd)(kd Z:Int)(x:Nd)(E n:Int)(G:World):Prop:=∃tk ab ad ak al ao ap ar aw L' G' Q' az X' aA O,G.heap[J]? =some (.cells (II tk ab ad ak al ao ap ar aw) 52 (0,0))/\G.heap[I]? =some (.cells (II 0 0 0 0 0 none 0 0 ⟨#[]⟩) 52 (0,0))/\O<=m+22000/\Bu (La F I J) G hb db H N aA O L' G' Q' az X'/\Qa kd Z x Y L L' X X' E n/\Mv (Dc hb db H) w0 G
theorem JD.no{F:Nat->Prop}{w0 J O:World}{hb db G N m H I ad Z:Nat}{L L' G':Nat->Option Nat}{Q' ak:Nat->Pl}{Y X':Nat->Nd}{kd al n:Int}{x:Nd}(ar:Z<=m+22000)(h:Bu (La F H I) O hb db G N ad Z L' G' Q' ak X')(hd:Qa kd al x Y L L' X X' E n)(aw:Below w0.heap.size w0 J)(ab:Mv (Dc hb db G) J O)(ao:J.heap[H]? =some (.cells (II 0 0 0 0 0 none 0 0 ⟨#[]⟩) 52 (0,0)))(ap:J.heap[I]? =some (.cells (II 0 0 0 0 0 none 0 0 ⟨#[]⟩) 52 (0,0)))(az:¬Dc hb db G H)(aA:¬Dc hb db G I):JD F w0 hb db G N m H I L X Y kd al x E n O:=
 ⟨0,0,0,0,0,none,0,0,⟨#[]⟩,L',G',Q',ak,X',ad,Z,(ab.block I (Cw ap) aA).trans ap,(ab.block H (Cw ao) az).trans ao,ar,h,hd,(Mv.of aw).trans ab⟩
theorem XD(y:Nd)(i:Nat)(e:i≠j):AK X j y i=X i:=NO e
theorem Ya(y:Nd):AK X j y j=y:=NS rfl
theorem jh{F:Nat->Prop}{hb db al N bC m:Nat}{L bu:Nat->Option Nat}{Q R:Nat->Pl}{Y:Nat->Nd}(h:Bu F w hb db al N bC m L bu Q R X)(eg:m<=600000)(ej:J5 w bu Y){t:Tn}(ek:t.Ok w)(em:t.Lt)(dp:Int)(en:Ce w (1) 0<|iN dp){cs:List Value}(eo:t.l=cs):
 Calls prog 8 #[pO hb 0,Cg cs] w λe w'=>(∃f n tk az aA a1 a6 a7 a8 ao ba,e=.returned (.tuple #[iN f,iN n,.agg<|II tk az aA a1 a6 a7 a8 ao ba])/\∃L' G' Q' bl X' bf bb,bb<=m+22000/\Bu F w' hb db al N bf bb L' G' Q' bl X'/\Qa t.kd t.wh t.x Y L L' X X' f n)/\Mv (Dc hb db al) w w':=by
 obtain⟨dr,ep,ds,b0,eq⟩:=Ff w cs.toArray 45;obtain⟨du,er,dw,dx,es⟩:=Ff dr (II 0 0 0 0 0 none 0 0 ⟨#[]⟩) 52;obtain⟨G,eu,dy,g9,ev⟩:=Ff du (II 0 0 0 0 0 none 0 0 ⟨#[]⟩) 52;have co:=hid<|dw.trans<|dy.mono dw.size;have be:=hid<|ds.trans<|co.mono ds.size;have I:Hid (∀W,Below G.heap.size G W->∀(i:Nat) v,t.l[i]? =some v->W.cell? ⟨w.heap.size,i,none⟩=some v):=λW cr i v e=>by
  have q:=(cr.block w.heap.size (by have:=b0.out;have:=co.out.size;omega)).trans<|(co.block w.heap.size (by have:=b0.out;omega)).trans eq;exact AG q (by rw[eo]at e;simpa using e)
 have ew:=Cn cs;unfold Value.cells at ew;have b1:=hid h;have bx:=hid eg;have dz:=hid ej;have ey:=hid en;have cx:=hid ek;have b2:=hid em;obtain⟨⟨kd,bg,⟨op,ez,eB,nm,eD,ca,cb⟩,⟨ua,ga,ha,la,uc,gc,cc,lc,us,gs,hc,zs,cu,cg,ck,q⟩,x,he,hf⟩,eE⟩:=Aq t;rw[eE.out]at I cx b2⊢;have c0:=I.out G (NB _ _) 0 _ rfl;obtain⟨ab,cD⟩:=Aq dr.heap.size;obtain⟨O,cF⟩:=Aq du.heap.size;have b4:Hid<|G.heap[ab]? =some (.cells (II 0 0 0 0 0 none 0 0 ⟨#[]⟩) 52 (0,0)):=by show _=_;rw[<-cD.out];exact(dy.block _ (by have:=dx.out;omega)).trans es
 have b6:Hid<|G.heap[O]? =some (.cells (II 0 0 0 0 0 none 0 0 ⟨#[]⟩) 52 (0,0)):=by show _=_;rw[<-cF.out];exact ev
 have bd:Hid<|(¬Dc hb db al ab/\¬Dc hb db al O)/\ab≠O/\w.heap.size<ab/\w.heap.size<O:=by
  have bF:=cD.out;have bn:=cF.out;have b7:=b0.out;have H:=dx.out;have hg:=b1.out.k.lt;show(¬(_\/_\/_)/\¬(_\/_\/_))/\_;omega
 dsimp only at c0;go_enter func8,ntmps8;go_upto_region 1 with fail
 rw[ep.out,er.out];go_upto_region 4 with fail
 rw[eu.out,show w.heap.size+1=ab by have:=b0.out;have:=cD.out;omega,cF.out];obtain⟨hh,b9⟩:=Aq w.heap.size;rw[b9.out]at c0 I bd⊢;go_upto_block 0 with fail
 go_cut [7,8]from 12 (λeF eL eX=>∃E n,eF=.int .i64 n/\eL=Ao E/\Hid (JD F w hb db al N m ab O L X Y kd bg x E n eX))
 case rest=>
  obtain⟨E,n,rfl,rfl,Z⟩:=hcut;obtain⟨tk,az,aA,a1,a6,a7,a8,ao,ba,L',G',Q',bl,X',bf,bb,bn,bF,e0⟩:=Z.out;have c3:=hid bF;have dT:Hid (∀W,Mv (λk=>k=ab) wc W->TT O tk az aA a1 a6 a7 a8 ao ba W):=λW cr=>(OQ<|(cr.block O (Cw bn) λe=>bd.2.1 e.symm).trans bn).1;have e1:=hid e0
  obtain⟨⟨z0,e2,e3,z3,z4,z5,e4⟩,f0,f1,f2,f3,f4,f5,f6⟩:=OQ bF;have T:TT O tk az aA a1 a6 a7 a8 ao ba wc.drew:=dT _ (Mv.refl _ _).drew;have c4:=hid<|eM E;obtain⟨bG,ap⟩:=Aq<|Ao E;rw[ap.out]at c4⊢;obtain⟨d0,d1⟩:=Aq<|Kj E;rw[d1.out]at c4;go_upto_region 17 with fail
  go_region_held3 (TT O tk az aA a1 a6 a7 a8 ao ba) (first|with_reducible exact T|exact dT.out _ (St c3.out (.int .i64 tk) (.int .i64 az) (.int .i64 aA) (.int .i64 a1) (.int .i64 a6) (.slice a7 a8 ao)<|.string ba).2.drew) (first|(go_at_call 26;(with_reducible refine rQ (c4.out _) ?_);rintro e w' ⟨rfl,rfl⟩))
  all_goals
   obtain⟨hx,bo⟩:=St c3 (.int .i64 tk) (.int .i64 az) (.int .i64 aA) (.int .i64 a1) (.int .i64 a6) (.slice a7 a8 ao)<|.string ba;obtain⟨d2,ce⟩:=Aq<|((((((wc.setCell ⟨ab,0,none⟩<|.int .i64 tk).setCell ⟨ab,1,none⟩<|.int .i64 az).setCell ⟨ab,2,none⟩<|.int .i64 aA).setCell ⟨ab,3,none⟩<|.int .i64 a1).setCell ⟨ab,4,none⟩<|.int .i64 a6).setCell ⟨ab,5,none⟩<|.slice a7 a8 ao).setCell ⟨ab,6,none⟩<|.string ba;rw[ce.out]at hx bo⊢;obtain⟨⟨e5,g1,e6,g3,g4,e7,e8⟩,_⟩:=OQ hx;have d3:=hid bo;have hi:=hid hx;go_wp2;obtain⟨bi,bp,hd,e9⟩:=e1.out
   exact NZ (v:=.tuple #[.int .i64 d0,.int .i64 n,.agg<|II tk az aA a1 a6 a7 a8 ao ba]) (by simp[results,results8,go_sem,e5,g1,e6,g3,g4,e7,e8]) rfl ⟨⟨d0,n,tk,az,aA,a1,a6,a7,a8,ao,ba,rfl,L',G',Q',bl,X',bf,bb,bi,(bp.scr d3.out.drew λk e=>by
    subst e;exact⟨.inr<|.inl rfl,bd.1.1,RY c3⟩).less (λ_ e=>.inl e) b1.fo,by
    have e:=nh E;rw[d1.out]at e;rcases hd with⟨a,r⟩|⟨a,r⟩|⟨a,r⟩
    .exact .inl ⟨e.2 a,r⟩
    .exact .inr<|.inl ⟨e.2 a,r⟩
    .exact .inr (.inr ⟨a.imp (λb c=>b<|e.1 c) id,r⟩)⟩,e9.late d3.out.drew (by have:=bd.out;have:=b9.out;omega)⟩
 case first=>
  have ad:Hid<|Bu (La F ab O) G hb db al N bC m L bu Q R X:=b1.up be (λk e=>by
   have:=bd.out;have:=b9.out;exact e.imp id λe=>by omega) (λ_ e=>.inl e) λk e=>by
   rcases e with e|rfl|rfl
   .exact N1 (b1.fl k e) be.size
   .exact Cw b4
   .exact Cw b6
  have bA:Hid (∀J E n bf bb L' G' Q' bl X',bb<=m+22000->Bu (La F ab O) J hb db al N bf bb L' G' Q' bl X'->Qa kd bg x Y L L' X X' E n->Mv (Dc hb db al) G J->JD F w hb db al N m ab O L X Y kd bg x E n J):=λJ E n bf bb L' G' Q' bl X' bF bn b7 H=>.no bF bn b7 be H b4 b6 bd.1.1 bd.1.2;have bB:Hid (∀J E n,Bu (La F ab O) J hb db al N bC m L bu Q R X->(E≠0\/¬(kd=3\/kd=4\/kd=5))->Mv (Dc hb db al) G J->JD F w hb db al N m ab O L X Y kd bg x E n J):=λJ E n bn b7 H=>bA _ _ _ _ _ _ _ _ _ _ oM bn (.inr<|.inr ⟨b7,rfl,rfl⟩) H
  rcases(by omega:kd=0\/kd=1\/kd=2\/kd=3\/kd=4\/kd=5\/((kd≠0/\kd≠1/\kd≠2)/\kd≠3/\kd≠4/\kd≠5))with rfl|rfl|rfl|rfl|rfl|rfl|ak
  .have c1:=I.out G (NB _ _) 1 _ rfl
   have c2:=I.out G (NB _ _) 2 _ rfl;have fa:=I.out G (NB _ _) 3 _ rfl;have fb:=I.out G (NB _ _) 4 _ rfl;have fc:=I.out G (NB _ _) 5 _ rfl;have fd:=I.out G (NB _ _) 6 _ rfl;have c7:=I.out G (NB _ _) 7 _ rfl;have fe:=I.out G (NB _ _) 8 _ rfl;dsimp only[Tn.l]at c1 c2 fa fb fc fd c7 fe;have ff:=hid<|oj (cop:=op) (cA:=ca) (cB:=cb) (cpath:=ez) (coth:=eB) (cname:=nm) (cdata:=eD) ad bx.out bg dp (Ai be _ _ ey.out) (by have:=b2.out.2.1;dsimp only at this;omega);go_wp2_with fail
   refine rQ ff ?_;rintro e J ⟨⟨E,tk,az,aA,a1,a6,a7,a8,ao,ba,rfl⟩,⟨G',bl,bf,bb,bi,bp,hj,hk⟩,H⟩;have c5:=(H.block O (Cw b6) bd.1.2).trans b6;have d4:=(H.block ab (Cw b4) bd.1.1).trans b4;obtain⟨hx,bo⟩:=St c5 (.int .i64 tk) (.int .i64 az) (.int .i64 aA) (.int .i64 a1) (.int .i64 a6) (.slice a7 a8 ao)<|.string ba;obtain⟨⟨z0,e2,e3,z3,z4,z5,e4⟩,f0,f1,f2,f3,f4,f5,f6⟩:=OQ c5;obtain⟨d2,ce⟩:=Aq<|((((((J.setCell ⟨O,0,none⟩<|.int .i64 tk).setCell ⟨O,1,none⟩<|.int .i64 az).setCell ⟨O,2,none⟩<|.int .i64 aA).setCell ⟨O,3,none⟩<|.int .i64 a1).setCell ⟨O,4,none⟩<|.int .i64 a6).setCell ⟨O,5,none⟩<|.slice a7 a8 ao).setCell ⟨O,6,none⟩<|.string ba;rw[ce.out]at hx bo
   have Z:Hid<|JD F w hb db al N m ab O L X Y 0 bg x E 0 d2:=⟨tk,az,aA,a1,a6,a7,a8,ao,ba,L,G',Q,bl,X,bf,bb,hx,(bo.block ab (Cw d4) bd.2.1).trans d4,bi,bp.scr bo λk e=>by
    subst e;exact⟨.inr<|.inr rfl,bd.1.2,RY c5⟩,.inr<|.inr ⟨.inr oM,rfl,rfl⟩,((Mv.of be).trans H).late bo (by have:=bd.out;have:=b9.out;omega)⟩
   obtain⟨bG,ap⟩:=Aq<|Ao E;rw[ap.out];go_wp2;go_meet
   case rel=>rw[ce.out];exact⟨E,0,rfl,ap.symm,Z⟩
  .have fg:=I.out G (NB _ _) 9 _ rfl
   have fh:=I.out G (NB _ _) 10 _ rfl;have fo:=I.out G (NB _ _) 11 _ rfl;have fp:=I.out G (NB _ _) 12 _ rfl;have fs:=I.out G (NB _ _) 13 _ rfl;have ft:=I.out G (NB _ _) 14 _ rfl;have fx:=I.out G (NB _ _) 15 _ rfl;have gb:=I.out G (NB _ _) 16 _ rfl;dsimp only[Tn.l]at fg fh fo fp fs ft fx gb;obtain⟨⟨⟨bH,bY⟩,⟨d5,d6⟩,⟨d7,d8⟩,d9,eb,ed⟩,_⟩:=cx.out;obtain⟨⟨bq,cf,ee,ef⟩,_⟩:=b2.out;dsimp only at bH bY d5 d6 d7 d8 d9 eb ed bq cf ee ef;have bk:=hid<|bW (lwc:=lc) (cc:=cc) (ck:=ck) (q:=q) ad bx.out (bH.below be) (bY.below be) bq cf d5 d6 d7 d8 (d9.below be) ee eb (ed.below be) ef;go_wp2_with fail
   refine rQ bk ?_;rintro e J ⟨⟨k,ch,p,bf,bb,ak,hl,rfl,bi,bp,_⟩|⟨⟨E,bs,rfl⟩,bp⟩,H⟩
   .have Z:=hid<|bA J 0 k _ _ _ _ _ _ _ bi bp (.inr<|.inr ⟨.inr oM,rfl,rfl⟩) H
    go_wp2;go_meet
    case rel=>exact⟨0,k,rfl,rfl,Z⟩
   .have Z:=hid<|bB J E 0 bp (.inl bs) H
    obtain⟨bG,ap⟩:=Aq<|Ao E;rw[ap.out];go_wp2;go_meet
    case rel=>exact⟨E,0,rfl,ap.symm,Z⟩
  .have c1:=I.out G (NB _ _) 1 _ rfl
   dsimp only[Tn.l]at c1;have bk:=hid<|bh ad.k (by have:=bx.out;omega) ad.l bg;go_wp2_with fail
   refine rQ bk ?_;rintro e J ⟨⟨k,ak,cl,rfl,ar,aw⟩|⟨rfl,ar,aw⟩,H⟩
   .have Z:=hid<|bA J 0 0 _ _ _ _ _ _ _ oM (ad.setG (o:=none) H ar aw (λch e=>by cases e) (.inl rfl):Bu (La F ab O) J hb db al N (1-bC) (m+68) L (AK bu k none) Q (AK R k EC) X) (.inr<|.inr ⟨.inr oM,rfl,rfl⟩) H
    go_wp2;go_meet
    case rel=>exact⟨0,0,rfl,rfl,Z⟩
   .have Z:=hid<|bB J 5 0 (ad.same ar aw H) (.inl oM) H
    rw[show Ao 5=.iface 101 (.int .i64 5)from rfl];go_wp2;go_meet
    case rel=>exact⟨5,0,rfl,rfl,Z⟩
  .obtain⟨c6,c8,c9,da,dd,de,dg,xs⟩:=x
   have gg:=I.out G (NB _ _) 17 _ rfl;have gl:=I.out G (NB _ _) 18 _ rfl;have go:=I.out G (NB _ _) 19 _ rfl;have gq:=I.out G (NB _ _) 20 _ rfl;have gr:=I.out G (NB _ _) 21 _ rfl;have gu:=I.out G (NB _ _) 22 _ rfl;have gv:=I.out G (NB _ _) 23 _ rfl;have gw:=I.out G (NB _ _) 24 _ rfl;dsimp only[Tn.l]at gg gl go gq gr gu gv gw;obtain⟨_,bH,bY⟩:=cx.out;obtain⟨_,_,bq,cf⟩:=b2.out;dsimp only at bH bY bq cf;have gx:Hid<|AI (.mk c6 c8 c9 da dd de dg xs)/\cnt (.mk c6 c8 c9 da dd de dg xs)<=1000/\A0 (.mk c6 c8 c9 da dd de dg xs):=⟨bq,by omega,bY⟩;have bk:=hid<|TZ ad.k ad.l bx.out (bH.on<|Ai be) bq oM (by have:=LI _ bq;omega);go_wp2_with fail
   refine rQ bk ?_;rintro e J ⟨⟨k,dj,p,ak,dk,rfl,_,⟨bb,bi,ar⟩,aw,_,dm,gy,dn⟩|⟨⟨E,bs,rfl⟩,ar,aw⟩,H⟩
   .have Z:=hid<|bA J 0 k _ _ _ _ _ _ _ bi (ad.setL (X':=AK X k _) ak H ar aw (XD _) (λao e=>by
     cases e;exact⟨λs=>by have:=ad.out.fl _ s;omega,by rw[Ya];exact⟨dm,gx⟩⟩) (.inr λa e s=>by have:=dn a e;have:=ad.out.fl _ s;omega)) (.inl ⟨rfl,.inl rfl,k,dj,ak,rfl,dk,rfl,_,rfl,λ_=>rfl,λe=>by omega⟩) H
    go_wp2;go_meet
    case rel=>exact⟨0,k,rfl,rfl,Z⟩
   .have Z:=hid<|bB J E 0 (ad.same ar aw H) (.inl bs) H
    obtain⟨bG,ap⟩:=Aq<|Ao E;rw[ap.out];go_wp2;go_meet
    case rel=>exact⟨E,0,rfl,ap.symm,Z⟩
  .have c1:=I.out G (NB _ _) 1 _ rfl
   dsimp only[Tn.l]at c1;have bk:=hid<|ip ad.k ad.l bx.out (dz.below be) bg;go_wp2_with fail
   refine rQ bk ?_;rintro e J ⟨⟨i,k,dj,p,gz,cl,g0,ak,dk,rfl,g2,⟨bb,bi,ar⟩,aw,_,dm,gy,dn⟩|⟨⟨E,bs,rfl⟩,ar,aw⟩,H⟩
   .obtain⟨ch,g5⟩:=Option.ne_none_iff_exists'.1 g0
    obtain⟨_,_,_,_,_,_,_,_,g6,g7,_⟩:=dz i ch g5
    have Z:=hid (bA J 0 k _ _ _ _ _ _ _ bi (ad.setL (X':=AK X k _) ak H ar aw (XD _) (λao e=>by
     cases e;exact⟨λs=>by have:=ad.out.fl _ s;omega,by rw[Ya];exact⟨dm,g6,g7,Yj _ _ ((KN _ _).1 g2).2.1⟩⟩) (.inr λa e s=>by have:=dn a e;have:=ad.out.fl _ s;omega)) (.inl ⟨rfl,.inr rfl,k,dj,ak,rfl,dk,rfl,_,rfl,λe=>by omega,λ_=>⟨i,gz,cl,rfl⟩⟩) H)
    go_wp2;go_meet
    case rel=>exact⟨0,k,rfl,rfl,Z⟩
   .have Z:=hid<|bB J E 0 (ad.same ar aw H) (.inl bs) H
    obtain⟨bG,ap⟩:=Aq<|Ao E;rw[ap.out];go_wp2;go_meet
    case rel=>exact⟨E,0,rfl,ap.symm,Z⟩
  .have c1:=I.out G (NB _ _) 1 _ rfl
   dsimp only[Tn.l]at c1;obtain⟨hm,g8⟩:=ad.g.rM;have bk:=hid<|aJ ad.k (by have:=bx.out;omega) ad.l g8 bg;go_wp2_with fail
   refine rQ bk ?_;rintro e J ⟨⟨k,b,ak,cl,_,_,rfl,ar,aw⟩|⟨⟨E,bs,rfl⟩,ar,aw⟩,H⟩
   .have Z:=hid<|bA J 0 0 _ _ _ _ _ _ _ oM (ad.setL (o:=none) ak H ar aw (λ_ _=>rfl) (λch e=>by cases e) (.inl rfl):Bu (La F ab O) J hb db al N (1-bC) (m+68) (AK L k none) bu (AK Q k EC) R X) (.inr<|.inl ⟨rfl,rfl,rfl,k,ak,cl,rfl⟩) H
    go_wp2;go_meet
    case rel=>exact⟨0,0,rfl,rfl,Z⟩
   .have Z:=hid<|bB J E 0 (ad.same ar aw H) (.inl bs) H
    obtain⟨bG,ap⟩:=Aq<|Ao E;rw[ap.out];go_wp2;go_meet
    case rel=>exact⟨E,0,rfl,ap.symm,Z⟩
  .have hn:(kd==0)=false:=beq_eq_false_iff_ne.2 ak.1.1
   have ho:(kd==1)=false:=beq_eq_false_iff_ne.2 ak.1.2.1;have hp:(kd==2)=false:=beq_eq_false_iff_ne.2 ak.1.2.2;have hq:(kd==3)=false:=beq_eq_false_iff_ne.2 ak.2.1;have hr:(kd==4)=false:=beq_eq_false_iff_ne.2 ak.2.2.1;have hs:(kd==5)=false:=beq_eq_false_iff_ne.2 ak.2.2.2;have Z:=hid<|bB G 0 0 ad (.inr oM)<|Mv.refl _ _;go_wp2;go_meet
   case rel=>exact⟨0,0,rfl,rfl,Z⟩
theorem aT(a b:Option Addr)(c1 c2 n:Nat)(l:List Kv)(w:World)(I:l.length=n)(a1:n<=1000)(h:Bg w.cell? a l)(h':Bg w.cell? b l):
 Calls prog 29 #[.slice a n c1,.slice b n c2] w λe w'=>e=.returned (.bool true)/\Below w.heap.size w w':=by
 have a6:((n:Int)!=(n:Int))=false:=by simp
 go_enter func29,ntmps29;go_wp2;go_loopw [5] (λi wr=>∃k:Nat,k<=n/\i=iN k/\Below w.heap.size w wr) (λi _=>n-(intOf i).toNat)
 case atStart=>exact⟨0,N7 _,rfl,NB _ _⟩
 case round=>
  obtain⟨k,a7,rfl,hb⟩:=hrel;by_cases a8:k<n
  .obtain⟨r,ad⟩:∃r,l[k]? =some r:=⟨l[k]' oM,NA _⟩
   rcases h.below (NB _ _)with Z|⟨G,J,rfl,az⟩
   .rw[Z]at I;simp at I;omega
   rcases h' with Z|⟨H,O,rfl,aA⟩
   .rw[Z]at I;simp at I;omega
   obtain⟨ab,ak⟩:=az k r ad;obtain⟨z0,al⟩:=aA k r ad;obtain⟨ao,ap⟩:=r;dsimp only at ab ak z0 al;have ar:G<w.heap.size:=NF _ _ ab;have aw:H<w.heap.size:=NF _ _ z0;have ba:Ce wr G (J+k*2)<|.string ao:=(hb.cell (p:=(aD G<|J+k*2)) ar).trans ab;have q1:Ce wr G (J+k*2+1)<|.string ap:=(hb.cell (p:=(aD G<|J+k*2+1)) ar).trans ak;have p0:Ce wr H (O+k*2)<|.string ao:=(hb.cell (p:=(aD H<|O+k*2)) aw).trans z0;have p1:Ce wr H (O+k*2+1)<|.string ap:=(hb.cell (p:=(aD H<|O+k*2+1)) aw).trans al;have bb:(k:Int)<(n:Int):=by omega
   go_wp2;go_quiet (fail)
   go_wp2;go_roundw
   case rel=>exact⟨k+1,by omega,by go_num,CS hb _⟩
   case measure=>simp[intOf];omega
  .go_wp2
   go_ret;exact⟨rfl,hb⟩
abbrev Md(w:World)(s b G H I j c:Nat)(h h' J O:Hd)(Z ab ad ak:Int)(al:Bool)(ao:List Kv)(ap:BA)(ar:List<|BA×Nd):Prop:=
 Ce w s 7 (sL b G c h.ck)/\Ce w (s+1) 7 (sL H I c h'.ck)/\Ce w b (G+j*9+1) (iN Z)/\Ce w b (G+j*9+2) (iN ab)/\Ce w b (G+j*9+3) (iN ad)/\Ce w b (G+j*9+4) (iN ak)/\Ce w b (G+j*9+5) (Value.bool al)/\Ce w b (G+j*9+6) (Value.slice J.aa ao.length J.ca)/\Ce w b (G+j*9+7) (Value.string ap)/\Ce w b (G+j*9+8) (Value.slice J.ak ar.length J.ck)/\Ce w H (I+j*9+1) (iN Z)/\Ce w H (I+j*9+2) (iN ab)/\Ce w H (I+j*9+3) (iN ad)/\Ce w H (I+j*9+4) (iN ak)/\Ce w H (I+j*9+5) (Value.bool al)/\Ce w H (I+j*9+6) (Value.slice O.aa ao.length O.ca)/\Ce w H (I+j*9+7) (Value.string ap)/\Ce w H (I+j*9+8) (Value.slice O.ak ar.length O.ck)
theorem Md.below{w':World}{s H G I c:Nat}{h h' O Z:Hd}{ab ad ak al:Int}{ao:Bool}{ap:List Kv}{ar:BA}{aw:List (BA×Nd)}(a7:Md w s b H G I j c h h' O Z ab ad ak al ao ap ar aw)(hb:Below w.heap.size w w'):Md w' s b H G I j c h h' O Z ab ad ak al ao ap ar aw:=by
 obtain⟨az,aA,a1,a8,ba,bb,bd,be,bf,bg,a6,bi,bk,bl,bn,bo,bp,bq⟩:=a7;have bs:s<w.heap.size:=NF _ _ az;have bu:s+1<w.heap.size:=NF _ _ aA;have lb:b<w.heap.size:=NF _ _ a1;have J:G<w.heap.size:=NF _ _ a6;exact⟨(hb.cell (p:=(aD s 7)) bs).trans az,(hb.cell (p:=(aD (s+1) 7)) bu).trans aA,(hb.cell (p:=(aD b<|H+j*9+1)) lb).trans a1,(hb.cell (p:=(aD b<|H+j*9+2)) lb).trans a8,(hb.cell (p:=(aD b<|H+j*9+3)) lb).trans ba,(hb.cell (p:=(aD b<|H+j*9+4)) lb).trans bb,(hb.cell (p:=(aD b<|H+j*9+5)) lb).trans bd,(hb.cell (p:=(aD b<|H+j*9+6)) lb).trans be,(hb.cell (p:=(aD b<|H+j*9+7)) lb).trans bf,(hb.cell (p:=(aD b<|H+j*9+8)) lb).trans bg,(hb.cell (p:=(aD G<|I+j*9+1)) J).trans a6,(hb.cell (p:=(aD G<|I+j*9+2)) J).trans bi,(hb.cell (p:=(aD G<|I+j*9+3)) J).trans bk,(hb.cell (p:=(aD G<|I+j*9+4)) J).trans bl,(hb.cell (p:=(aD G<|I+j*9+5)) J).trans bn,(hb.cell (p:=(aD G<|I+j*9+6)) J).trans bo,(hb.cell (p:=(aD G<|I+j*9+7)) J).trans bp,(hb.cell (p:=(aD G<|I+j*9+8)) J).trans bq⟩
theorem bw{x:Nd}{h:Hd}(ce:Am w.cell? x h):∀(h':Hd) (W:World),A7 x->Am w.cell? x h'->Below w.heap.size w W->
 Calls prog 10 #[At x h,At x h'] W λe I=>e=.returned (.bool true)/\Below W.heap.size W I:=by
 induction ce with
 |@mk k m u g o rL d ks h b ad f cf d9 eb ch cl ed co=>
  intro h' W bi cr ak;rw[A7]at bi;obtain⟨cx,ee,cD⟩:=bi;obtain⟨al,ao,J,cF,ef,eg,c4,c5,c8⟩:=cr;have c9:Hid (∀i n x,ks[i]? =some (n,x)->Ep w.cell? b (ad+i*9) n x (f i)/\Ep w.cell? al (ao+i*9) n x (J i)):=λi n x H=>⟨cl i n x H,c5 i n x H⟩;have da:Hid (∀i n x,ks[i]? =some (n,x)->∀(W:World),Below w.heap.size w W->Calls prog 10 #[At x<|f i,At x<|J i] W λe I=>e=.returned (.bool true)/\Below W.heap.size W I):=λi n x H W ak=>co i n x H (J i) W (MZ cD H) (c8 i n x H) ak
  have dd:Hid<|ks=[]\/(h.ak=some (aD b ad)/\h'.ak=some (aD al ao)):=by
   rcases ch with e|e
   .exact .inl e
   .rcases c4 with aA|aA
    .exact .inl aA
    .exact .inr ⟨e,aA⟩
  show Calls prog 10 #[Ba k m u g o rL d ks h,Ba k m u g o rL d ks h'] _ _;have de:=Cm.new W k m u g o rL d ks h;have bk:Below W.heap.size W<|W.alloc<|Aw k m u g o rL d ks h:=(NB _ _).alloc (rP _) _;have ap:=Cm.new (W.alloc<|Aw k m u g o rL d ks h) k m u g o rL d ks h';have bl:Below W.heap.size W<|(W.alloc<|Aw k m u g o rL d ks h).alloc<|Aw k m u g o rL d ks h':=bk.alloc bk.size _;have a1:=de.below<|(NB _ _).alloc (rP _)<|Aw k m u g o rL d ks h';rw[ND]at ap;go_enter func10,ntmps10;have dg:=a1;have dj:=ap;obtain⟨dk,dm,dn,dp,dr,ds,du,O⟩:=dg;obtain⟨z0,dw,dx,z3,z4,z5,dy,Z⟩:=dj;go_wp2;generalize(W.alloc<|Aw k m u g o rL d ks h).alloc (Aw k m u g o rL d ks h')=ej at a1 ap bl⊢;go_loopw [5] (λi wr=>∃j:Nat,j<=ks.length/\i=iN j/\Cm wr W.heap.size (.mk k m u g o rL d ks) h/\Cm wr (W.heap.size+1) (.mk k m u g o rL d ks) h'/\Below W.heap.size W wr) (λi _=>ks.length-(intOf i).toNat)
  case atStart=>exact⟨0,N7 _,rfl,a1,ap,bl⟩
  case round=>
   obtain⟨j,ek,rfl,bn,bo,ar⟩:=hrel;have dz:=bn;have dT:=bo;obtain⟨dk,dm,dn,dp,dr,ds,du,O⟩:=dz;obtain⟨z0,dw,dx,z3,z4,z5,dy,Z⟩:=dT;have ab:Below w.heap.size w wr:=ak.trans<|ar.mono ak.size;by_cases a6:j<ks.length
   .have d0:(j:Int)<(ks.length:Int):=by omega
    obtain⟨⟨n,x⟩,hx⟩:∃x,ks[j]? =some x:=⟨ks[j],by simp[a6]⟩;obtain⟨aw,az⟩:=c9 j n x hx;have aw:=aw.below ab;have az:=az.below ab;have a7:Hid (∀(W:World),Below w.heap.size w W->Calls prog 10 #[At x<|f j,At x<|J j] W λe I=>e=.returned (.bool true)/\Below W.heap.size W I):=da j n x hx;rcases dd.out with d1|⟨bp,bq⟩
    .rw[d1]at a6;simp at a6
    rw[bp]at O;rw[bq]at Z;clear bp bq;generalize f j=bs at aw a7;generalize J j=bu at az a7;obtain⟨bx,bA,bB,bC,bF,bG,bH,bY⟩:=x;obtain⟨p0,p1,p2,p3,a8,ba,bb,bd,be⟩:=aw.nine;obtain⟨b0,q1,q2,bf,q4,q5,q6,q7,q8⟩:=az.nine;have em:(n.toList !=n.toList)=false:=by simp
    go_wp2;go_quiet (fail)
    have b1:Below wr.heap.size wr<|wr.drewN nq:=CS (NB _ _) _;have b2:=CS ar nq;have b4:=bn.below b1;have b6:=bo.below b1;have b7:Below w.heap.size w<|wr.drewN nq:=CS ab nq;change(wr.drewN nq).cell? _=_ at O Z p0 p1 p2 p3 a8 ba bb bd be b0 q1 q2 bf q4 q5 q6 q7 q8;generalize wr.drewN nq=G at b2 b4 b6 b7 O Z p0 p1 p2 p3 a8 ba bb bd be b0 q1 q2 bf q4 q5 q6 q7 q8⊢;have d2:Below w.heap.size w G.drew:=CS b7 1;have b9:Below W.heap.size W G.drew:=CS b2 1;have bg:Below G.heap.size G G.drew:=CS (NB _ _) 1;have d3:=b4.below bg;have d4:=b6.below bg;have d5:Md G.drew W.heap.size b ad al ao j ks.length h h' bs bu bx bA bB bC bF bG bH bY:=Md.below (w:=G) ⟨O,Z,p1,p2,p3,a8,ba,bb,bd,be,q1,q2,bf,q4,q5,q6,q7,q8⟩ bg;go_wp2;go_region_held3 (λw'=>Md w' W.heap.size b ad al ao j ks.length h h' bs bu bx bA bB bC bF bG bH bY) (assumption) (first|(go_at_call 10;go_call a7.out _ d2 as e w6 ⟨rfl,c6⟩;have en:=d5.below c6))
    all_goals
     have d6:=d3.below c6;have d7:=d4.below c6;have d8:=b9.trans<|c6.mono b9.size;go_wp2;go_roundw
     case rel=>exact⟨j+1,by omega,by go_num,d6,d7,d8⟩
     case measure=>simp[intOf];omega
   .have d0:decide ((j:Int)<(ks.length:Int))=false:=NM oM
    go_wp2_with fail
    go_call aT h.aa h'.aa h.ca h'.ca rL.length rL _ rfl cx (cf.below ab) (cF.below ab) as e w3 ⟨rfl,c3⟩
    go_wp2;go_ret;exact⟨rfl,ar.trans<|c3.mono ar.size⟩
end Go.Proofs.YtchpdmjlicmdaaaGreatDoor
