/- Part: Fi Fp Fw Ga Ge Ca Cg Ea Eb Ec. -/
import Derived.Test.YtchpdmjlicmdaaaGreatDoorQaX
set_option maxRecDepth 100000
set_option maxHeartbeats 16000000
namespace Go.Proofs.YtchpdmjlicmdaaaGreatDoor
open Go.RowKit Go.Maps Go.Proofs.Tryz
variable {b k n:Nat}{w w':World}{nm:BA}{l:Bc}{xs:List Nd}{a:Option Addr}{zs:List Int}{c g u:Int}{v:Value}
theorem Om{α:Type}{l:List α}{x:α}(h:l[n]? =some x):l.take (n+1)=l.take n++[x]:=by rw[CO,h];rfl
abbrev Qp:=λG H k nm db (d:Sp) (X:World)=>(Ce X G (H+k*9) (.string nm)/\Ce X db 1 (iN d.ly):Prop)
theorem Vj{S:Nat->Bool}(hg:∀k,S k=true->k<w.heap.size){va:Option Addr}{vc:Nat}{D:List Sp}(g3:Eh (Ag w.cell? S) va D)(g4:∀s∈D,C8 (Ag w.cell? S) s)(hh:∀(i j:Nat) a b,D[i]? =some a->D[j]? =some b->i≠j->a.ly≠b.ly)(hi:∀s∈D,AI s.x)(lp:tot (D.map Sp.pr)<=1000):
 Calls prog 76 #[.slice va D.length vc] w λe w'=>∃v,e=.returned v/\TW (Ag w'.cell? S) v ((C7<|D.map Sp.pr).map λnm=>(nm,Ci (D.map Sp.pr) nm))/\Below w.heap.size w w':=by
 obtain⟨K,d2,d3⟩:=mT g4;have ls:=pw d2 d3;have e0:Hid<|K.length=D.length:=d2;have d4:Hid (∀nm,(El nm K []).map Sp.pr=BU nm (D.map Sp.pr)):=nI d2 d3;have d5:Hid _:=hg;have HK:Hid _:=d3;have hj:Hid _:=g3.on<|BW _ _;have hk:Hid _:=g4;have hl:Hid _:=hh;have hm:Hid _:=hi;have lx:kc K<=1000:=by omega
 have hn:D.length<=1000:=by have:=LJ<|D.map Sp.pr;rw[CE]at this;omega
 obtain⟨N,c4⟩:∃N,Hid<|D.length=N:=⟨_,rfl⟩;obtain⟨ho,hp,hq,c5,hr⟩:=EL Tryz.infoP;obtain⟨hs,ht,hu,hv,hw⟩:=EL Tryz.infoSp;have hy:Hid _:=hp;have hz:Hid _:=hq;have hA:Hid _:=c5;have hB:Hid _:=hr;have hC:Hid _:=ht;have hD:Hid _:=hu;have hE:Hid _:=hv;have hG:Hid _:=hw;have lz:=@run_makeMap prog;have hH:FN w (w.alloc<|.map #[] 0) w.heap.size (.slice none 0 0) []:=FN.start ((NB _ _).alloc (rP _) _) (rP _) (World.ownsMap_made w prog 9<|plainElem prog 3) jm;rw[c4.out]at hn⊢;generalize D.map Sp.pr=c6 at d4⊢;go_enter func76,ntmps76;go_wp2;go_loopw [4,18] (λv i wr=>∃(j:Nat) (E:List Pe),j<=N/\i=iN j/\Hid (Es (Ca E) (K.take j) []/\E4 E<=kc (K.take j))/\Hid (FN w wr w.heap.size v E)) (λ_ i _=>N-(intOf i).toNat)
 case atStart=>exact⟨0,[],N7 _,rfl,⟨Es.start,N7 _⟩,hH⟩
 case round=>
  obtain⟨j,E,lD,rfl,ap,ao⟩:=hrel;by_cases hI:j<N;rotate_left
  .have hJ:decide ((j:Int)<(N:Int))=false:=NM oM
   have b1:Hid<|Es (Ca E) K []/\E4 E<=1000:=by
    have J:=ap.out;rw[R3 (by rw[e0.out,c4.out];omega)]at J;exact⟨J.1,by omega⟩
   obtain⟨ua,uc,d6,d7,d8,hK⟩:=Ev ao.row;subst d6;have hL:E.length<=1000:=by have:=SC ao.ne;have:=b1.out.2;omega
   have c8:=ao.out.low;rcases List.eq_nil_or_concat E with rfl|⟨l0,l1,hM⟩
   .have hN:Hid ((C7 c6).map (λnm=>(nm,Ci c6 nm))=[]):=by
     have:=Ve (PL:=[]) b1.1 d4 (List.Perm.refl _) List.Pairwise.nil;exact this.symm
    have c9:Hid (∀W:World,Calls prog 111 #[.slice ua 0 uc,.func (.func 112) #[] #[]] W λe w'=>e=.returned (.slice ua 0 uc)/\W=w'):=λW=>jZ ua uc W;have da:Hid (∀W:World,Calls prog 113 #[.slice ua 0 uc,.func (.func 114) #[] #[]] W λe w'=>e=.returned (.tuple #[])/\w'=W):=λW=>eA ua uc _ W
    simp only[RC]at d7⊢;go_wp2;go_loop [87] (λi=>i=iN 0) (λ_=>0)
    case atStart=>rfl
    case round=>
     subst hrel;go_wp2_with fail
     go_call c9 _ as e w1 ⟨rfl,rfl⟩
     go_wp2_with fail
     go_call da _ as e w1 ⟨rfl,rfl⟩
     go_wp2;go_ret;exact⟨_,rfl,⟨ua,uc,[],rfl,d7,d8,.inl rfl,λe I=>(by cases I),by rw[hN.out];rfl⟩,c8⟩
   have hO:E≠[]:=by rw[hM];simp
   rcases hK with⟨_,hP,_⟩|⟨G,hQ,d9,eb,dd,ed⟩
   .exact absurd (R0 hP) hO
   subst hQ;have hR:∀k,(S k||k==G)=true->k<wr.heap.size:=λk az=>by
    simp at az;rcases az with q|q
    .have:=d5.out k q;have:=c8.size;omega
    .omega
   have de:Hid _:=hR;have hS:EX wr G E:=⟨λi e bC=>⟨dd _ _ (SK E i e bC).1,dd _ _ (SK E i e bC).2⟩,ed,eb⟩;have hT:AW (Ag w.cell? S)<|Ag wr.cell? (λk=>S k||k==G):=Bv λk az ab=>⟨by simp[ab];omega,c8.block k az⟩;have hU:∀e∈E,JI (Ag wr.cell? (λk=>S k||k==G)) e:=λe I=>by
    have bi:=ao.out.each e I;obtain⟨l2,l3,H,J,bF,bf,e1⟩:=Ly bi;simp only[CH,true_and]at H;obtain⟨H,a6⟩:=H;obtain⟨g,ee,l4,l5⟩:=Ia bi<|CC.2<|ao.ne e I;have hV:g≠G:=λq=>by
     rcases Na (show 169≠164 by decide) ao.row bi with q1|q1
     .cases q1
     .exact q1 (by rw[ee];show some G=some g;rw[q])
    refine⟨?_,λs ab=>?_,by rw[a6];exact J,by rw[a6];exact bF,by have:=Xv I;have:=b1.out.2;omega⟩
    .rcases bf with q|⟨l8,l9,q,bf⟩
     .exact .inl q
     .rw[<-H,ee]at q
      simp only[RV,Cj]at q;obtain⟨rfl,rfl,_⟩:=q;have e2:(S g||g==G)=false:=by
       simp[hV];cases bG:S g with
       |false=>rfl
       |true=>have:=d5.out g bG;omega
      refine .inr ⟨g,0,ee,λi d bC=>?_⟩;rw[CV (S:=λk=>S k||k==G) (q:=⟨g,0+i*2,none⟩) e2,CV (S:=λk=>S k||k==G) (q:=⟨g,0+i*2+1,none⟩) e2];exact bf i d bC
    .have e3:=(b1.1.eq (e.n,e.L)<|CQ.2 ⟨e,I,rfl⟩).1
     simp only at e3;rw[e3]at ab;unfold El at ab;rcases Cq.1 ab with ab|ab
     .obtain⟨ma,hW,aA⟩:=C0.1 ab
      obtain⟨bg,al⟩:=R7 hW;have e4:=(NE.1 al).1;obtain⟨ba,dg⟩:∃ba,D[bg]? =some ba:=⟨_,NA (by rw[<-e0.out];exact e4)⟩;obtain⟨hX,b2,b4⟩:=HK bg ba dg;rw[al]at b2;cases b2;obtain⟨bk,bl⟩:=R7<|RN aA;have b6:=(NE.1 bl).1;obtain⟨p2,b7⟩:∃p2,ba.x.dirKs[bk]? =some p2:=⟨_,NA (by rw[<-b4.1];exact b6)⟩;obtain⟨_,_,ef,_,f1,_,_,_,_,_,f3⟩:=b4.2 bk p2 b7;rw[bl]at f1;simp only[RV,Prod.mk.injEq]at f1;obtain⟨_,rfl⟩:=f1;exact f3.on hT
     .cases ab
   have bH:Hid _:=hU;have b9:Hid _:=hS;obtain⟨a8,bx⟩:∃a8,Hid<|E.length=a8:=⟨_,rfl⟩;have hY:Hid<|Es (Ca E) K []:=b1.1;rw[bx.out]at d7 hL⊢;go_wp2;go_loopw [87] (λi wr=>∃(j:Nat) (ak:List Pe),j<=a8/\i=iN j/\ak.length=a8/\Hid (Ca ak=((Ca E).take j).map Ln++(Ca E).drop j)/\Hid (EX wr G ak)/\Hid (∀e∈ak,JI (Ag wr.cell? (λk=>S k||k==G)) e)/\Hid (∀k,(S k||k==G)=true->k<wr.heap.size)/\Below w.heap.size w wr) (λi _=>a8-(intOf i).toNat)
   case atStart=>exact⟨0,E,N7 _,rfl,bx,by show _=_;simp,b9,bH,de,c8⟩
   case round=>
    obtain⟨q,ak,bb,rfl,e5,ap,b9,bH,de,dj⟩:=hrel;by_cases mb:q<a8
    .have hZ:decide ((q:Int)<(a8:Int))=true:=NY oM
     have mc:(q:Int)<(a8:Int):=by omega
     obtain⟨e,I⟩:∃e,ak[q]? =some e:=⟨_,NA oM⟩;have dk:=bH.out e<|NW I;have c1:=(b9.cell q e I).2;have h0:Hid _:=iu (cap:=e.c) de dk.row dk.rL dk.len;have h1:Hid _:=di wr e.a e.L.length e.c;have eg:Hid<|ak[q]? =some e:=I;have e6:Hid<|JI (Ag wr.cell? (λk=>S k||k==G)) e:=dk;go_wp2_with fail
     go_call h1 as x1 w1 ⟨rfl,rfl⟩
     go_wp2_with fail
     go_call h0 as x2 w2 ⟨a2,cap2,rfl,J,bF,bf,hB2⟩
     have ej:=b9.out.below hB2;have c2:=(ej.cell q e eg).2;have f2:=ej.free<|q*2+1;have h2:Hid _:=ej.set1 eg ⟨e.n,a2,cap2,BM e.L⟩ rfl;have e7:AW (Ag wr.cell? (λk=>S k||k==G))<|Ag (w2.setCell ⟨G,q*2+1,none⟩<|.slice a2 (BM e.L).length cap2).cell? (λk=>S k||k==G):=Bv λk az ab=>⟨ab,by rw[Cv _ _ _ _ (by simp at ab;exact ab.2)];exact hB2.block k az⟩;have h3:AW (Ag w2.cell? (λk=>S k||k==G))<|Ag (w2.setCell ⟨G,q*2+1,none⟩<|.slice a2 (BM e.L).length cap2).cell? (λk=>S k||k==G):=Bv λk az ab=>⟨ab,by rw[Cv _ _ _ _ (by simp at ab;exact ab.2)]⟩
     have h4:Hid (∀f∈ak.set q ⟨e.n,a2,cap2,BM e.L⟩,JI (Ag (w2.setCell ⟨G,q*2+1,none⟩<|.slice a2 (BM e.L).length cap2).cell? (λk=>S k||k==G)) f):=λf ek=>by
      obtain⟨bg,al⟩:=R7 ek;rw[gt]at al;split at al
      .split at al
       .cases al
        exact⟨bf.on h3,λs ab=>(e6.rL s<|Xt _ s ab).on e7,J,bF,by have:=oh e.L;have:=e6.out.len;show(BM e.L).length<=1000;omega⟩
       .cases al
      .exact(bH f<|NW al).on e7
     have h5:Hid<|Ca (ak.set q ⟨e.n,a2,cap2,BM e.L⟩)=((Ca E).take<|q+1).map Ln++(Ca E).drop (q+1):=by
      show _=_;have h6:(Ca E)[q]? =some (e.n,e.L):=by
       have H:=Pq eg;rw[ap.out,CG (by rw[CE,C3];omega),Kq]at H;have a6:((List.take q<|Ca E).map Ln).length=q:=by
        rw[CE,C3];have:(Ca E).length=a8:=by unfold Ca;rw[CE];exact bx
        omega
       rw[a6,Nat.sub_self,tl]at H;exact H
      rw[Yg,ap.out];exact nM h6
     have h7:Hid (∀k,(S k||k==G)=true->k<(w2.setCell ⟨G,q*2+1,none⟩<|.slice a2 (BM e.L).length cap2).heap.size):=λk az=>by rw[tJ];exact N1 (de k az) hB2.size
     have h8:=(dj.trans<|hB2.mono dj.size).setCell (p:=⟨G,q*2+1,none⟩) d9<|.slice a2 (BM e.L).length cap2;go_wp2;go_roundw
     case rel=>exact⟨q+1,ak.set q ⟨e.n,a2,cap2,BM e.L⟩,by omega,by go_num,by rw[List.length_set];exact e5,h5,h2,h4,h7,h8⟩
     case measure=>(simp[intOf];try omega)
    .have hZ:decide ((q:Int)<(a8:Int))=false:=NM oM
     have h9:Hid<|Ca ak=(Ca E).map Ln:=by
      show _=_;have mf:(Ca E).length=a8:=by unfold Ca;rw[CE];exact bx
      rw[ap.out,R3 oM,R8 oM,te]
     have c9:Hid _:=kF (cap:=uc) b9 oM (λe I=>(bH e I).len) oM d8;rw[e5]at c9;go_wp2_with fail
     go_call c9 as x1 w1 ⟨rfl,hP1,e8⟩
     have ih:(Ey ak).length<=1000:=by have J:(Ey ak).length<=ak.length:=List.length_filter_le _ _;omega
     have iw:Hid<|(Ey ak).length<=uc:=by show _<=_;have J:(Ey ak).length<=ak.length:=List.length_filter_le _ _;omega
     have da:Hid _:=il (cap:=uc) hP1 ih;have iz:Hid _:=e8;obtain⟨dm,em⟩:∃dm,Hid<|(Ey ak).length=dm:=⟨_,rfl⟩;rw[em.out]at da⊢;go_wp2_with fail
     go_call da as x2 w2 ⟨rfl,hM2,G',bn,ab,en⟩
     have e9:=iz.out.trans hM2;have i0:Below w.heap.size w w2:=dj.trans<|e9.below dj.size (λk az=>by rw[az];exact d9);have i1:AW (Ag wr.cell? (λk=>S k||k==G))<|Ag w2.cell? S:=Bv λk az ab=>⟨by simp at ab;exact ab.1,e9.block k az (by simp at ab;exact ab.2)⟩;have fa:S G=false:=by
      cases bG:S G with
      |false=>rfl
      |true=>have:=d5.out G bG;omega
     have i2:Hid (TW (Ag w2.cell? S) (.slice (some ⟨G,0,none⟩) dm uc) ((C7 c6).map λnm=>(nm,Ci c6 nm))):=by
      have fb:G'.length=dm:=by rw[bn.length_eq];exact em
      refine⟨some ⟨G,0,none⟩,uc,G',by rw[fb],by rw[fb,<-em.out];exact iw,d8,.inr ⟨G,rfl,λi e bC=>?_⟩,λe I=>?_,?_⟩
      .rw[CV (q:=⟨G,i*2,none⟩) fa,CV (q:=⟨G,i*2+1,none⟩) fa];exact en i e bC
      .have J:e∈Ey ak:=bn.mem_iff.1 I
       exact((bH e (List.mem_filter.1 J).1).on i1).spl
      .refine Ve hY d4 ?_ ?_
       .have J:(Ca G').Perm<|Ca<|Ey ak:=bn.map _
        rw[je,h9.out]at J;exact J
       .unfold Ca
        rw[List.pairwise_map];exact ab
     go_wp2;go_ret;exact⟨_,rfl,i2,i0⟩
  have hJ:decide ((j:Int)<(N:Int))=true:=NY oM;obtain⟨d,hd⟩:∃d,D[j]? =some d:=⟨_,NA (by rw[c4.out];exact hI)⟩;obtain⟨bd,fc,fd⟩:=HK j d hd;obtain⟨b,dn,rfl,i4⟩:∃b dn,va=some ⟨b,dn,none⟩/\∀i d,D[i]? =some d->w.cell? ⟨b,dn+i*2,none⟩=some (.pointer<|some ⟨d.b,d.p,none⟩)/\w.cell? ⟨b,dn+i*2+1,none⟩=some (iN d.ly):=by
   rcases hj.out with e|e
   .subst e;simp at hd
   .exact e
  obtain⟨fe,ff⟩:=i4 j d hd;have dp:=ao.out.low;have fe:=Ai dp _ _ fe;have ff:=Ai dp _ _ ff;have fg:Below wr.heap.size wr<|wr.alloc<|Lp d.b d.p d.ly:=(NB _ _).alloc (rP _) _;obtain⟨c0,c1⟩:=GS wr (.pointer<|some ⟨d.b,d.p,none⟩) (iN d.ly) 164;have i5:=((hk d<|NW hd).on<|BW _ _).below<|dp.trans<|fg.mono dp.size;obtain⟨fh,mg,eo,i8⟩:=fH i5;have ja:Hid<|d.x.dirKs≠[]->fh=d.h.ak:=eo;have fo:Hid<|Calls prog 108 #[.agg #[.pointer<|some ⟨d.b,d.p,none⟩,iN d.ly]] (wr.alloc<|Lp d.b d.p d.ly) _:=i8;have fp:Hid<|D[j]? =some d:=hd;have dr:Hid<|K[j]? =some bd/\JJ (Ag w.cell? S) d bd:=⟨fc,fd⟩;obtain⟨M,ep⟩:∃M,Hid<|d.x.dirKs.length=M:=⟨_,rfl⟩;have fs:bd.length=M:=fd.1.trans ep.out;have e8:kc (K.take j)+M<=1000:=by have:=l6 fc;omega
  have ar:Hid _:=ao.keep fg;rw[ep.out]at fo;go_wp2_with fail
  go_call fo as e w2 ⟨rfl,hB2⟩
  have bo:Hid _:=ar.keep hB2;have ft:w2.heap[wr.heap.size]? =some (.cells #[.pointer<|some ⟨d.b,d.p,none⟩,iN d.ly] 164 (0,0)):=(hB2.block _ (by rw[ND];omega)).trans<|tM wr _;have bx:Hid (∀e∈E,e.a≠some ⟨wr.heap.size,0,none⟩):=λe I q=>by
   obtain⟨g,H,_,bf⟩:=Ia (ao.each e I)<|CC.2<|ao.ne e I;rw[q]at H;simp only[RV,Cj]at H;omega
  obtain⟨db,fx⟩:∃db,Hid<|wr.heap.size=db:=⟨_,rfl⟩;rw[fx.out]at ft bx;rw[fx.out];have jc:Hid _:=ft;go_wp2;go_loopw [4,26] (λv i wr=>∃(k:Nat) (E:List Pe),k<=M/\i=iN k/\Hid (Es (Ca E) (K.take j) (bd.take k)/\E4 E<=kc (K.take j)+k)/\Hid (FN w wr w.heap.size v E)/\Hid (wr.heap[db]? =some (.cells #[.pointer<|some ⟨d.b,d.p,none⟩,iN d.ly] 164 (0,0))/\∀e∈E,e.a≠some ⟨db,0,none⟩)) (λ_ i _=>M-(intOf i).toNat)
  case atStart=>exact⟨0,E,N7 _,rfl,⟨ap.1,ap.2⟩,bo,jc,bx⟩
  case round=>
   obtain⟨k,E,az,rfl,ap,ao,ds⟩:=hrel;by_cases ji:k<M;rotate_left
   .have jj:decide ((k:Int)<(M:Int))=false:=NM oM
    have bA:Hid<|Es (Ca E) (K.take<|j+1) []/\E4 E<=kc (K.take<|j+1):=by
     have H:K.take (j+1)=K.take j++[bd]:=Om dr.1;have J:=ap.out.1;rw[R3 (l:=bd) (by rw[fs];omega)]at J;rw[H];exact⟨J.dir,by rw[ov,fs];have:=ap.out.2;omega⟩
    go_wp2;go_roundw
    case rel=>exact⟨j+1,E,by omega,by go_num,bA,ao⟩
    case measure=>(simp[intOf];try omega)
   have jj:decide ((k:Int)<(M:Int))=true:=NY oM;have mi:(k:Int)<(M:Int):=by omega
   obtain⟨⟨nm,y⟩,bn⟩:∃p,d.x.dirKs[k]? =some p:=⟨_,NA (by rw[ep.out];exact ji)⟩;obtain⟨O,Z,s,q1,q2,j0,q4,q5,q6,q7,q8⟩:=dr.2.2 k _ bn;have eo:fh=some ⟨O,Z,none⟩:=(ja λe=>by rw[e]at bn;simp at bn).trans q1;subst eo;have j1:nm.size<=maxLen:=by
    have J:=hm.out d<|NW fp;have bF:=MJ<|NW bn;obtain⟨bg,bf⟩:=R7 bF;have e1:Co d.x.kids:=by
     obtain⟨ml,mm,mo,⟨mp,mu,mv,mx,my,mS,m0,m1⟩,h'⟩:=d;rw[AI]at J;exact J.2.2
    have:=(MV e1 bf).1;unfold maxLen;omega
   have gb:Hid<|nm.size<=maxLen:=j1;have n0:=Ai ao.low _ _<|BW _ _ _ _ q7;have gg:∀(W:World),W.heap[db]? =some (.cells #[.pointer<|some ⟨d.b,d.p,none⟩,iN d.ly] 164 (0,0))->W.cell? ⟨db,1,none⟩=some (iN d.ly):=λW j2=>by simp[World.cell?,j2]
   have j3:Hid _:=gg;have du:=gg wr ds.1;have eq:Hid<|bd[k]? =some (nm,s):=q2;have ce:Hid<|s.b=O/\s.p=Z+k*9+1/\s.ly=d.ly:=⟨j0,q4,q5⟩;have m2:(Qp O Z k nm db d wr.drew):=⟨n0,du⟩;have cf:∀o:Obj,Below wr.heap.size wr (wr.alloc o).drew:=λo=>((NB _ wr).alloc (rP _) o).drew;have m3:(Qp O Z k nm db d (wr.alloc<|.cells #[.pointer none,iN 0] 164).drew):=⟨Ai (cf _) _ _ n0,Ai (cf _) _ _ du⟩
   have m5:(Qp O Z k nm db d (wr.alloc<|.cells #[.pointer<|some ⟨O,Z+k*9+1,none⟩,iN d.ly] 164).drew):=⟨Ai (cf _) _ _ n0,Ai (cf _) _ _ du⟩;go_upto_region 10 with fail
   go_region_held3 (Qp O Z k nm db d) (assumption) (fail)
   have c5:=cf<|.cells #[.pointer<|some ⟨O,Z+k*9+1,none⟩,iN d.ly] 164;have ar:Hid _:=ao.keep c5;have be:Hid ((wr.alloc<|.cells #[.pointer<|some ⟨O,Z+k*9+1,none⟩,iN d.ly] 164).drew.heap[db]? =some (.cells #[.pointer<|some ⟨d.b,d.p,none⟩,iN d.ly] 164 (0,0))/\∀e∈E,e.a≠some ⟨db,0,none⟩):=⟨(c5.block db (N3.1 ds.1).1).trans ds.1,ds.2⟩;obtain⟨bp,bq⟩:=GS wr (.pointer<|some ⟨O,Z+k*9+1,none⟩) (iN d.ly) 164;have bp:(wr.alloc<|.cells #[.pointer<|some ⟨O,Z+k*9+1,none⟩,iN d.ly] 164).drew.cell? ⟨wr.heap.size,0,none⟩=some (.pointer<|some ⟨O,Z+k*9+1,none⟩):=bp;have bq:(wr.alloc<|.cells #[.pointer<|some ⟨O,Z+k*9+1,none⟩,iN d.ly] 164).drew.cell? ⟨wr.heap.size,1,none⟩=some (iN d.ly):=bq;have gl:(wr.alloc<|.cells #[.pointer<|some ⟨O,Z+k*9+1,none⟩,iN d.ly] 164).drew.heap[wr.heap.size]? =some (.cells #[.pointer<|some ⟨O,Z+k*9+1,none⟩,iN d.ly] 164 (0,0)):=tM wr _;have go:Hid (∀e∈E,e.a≠some ⟨wr.heap.size,0,none⟩):=λe I q=>by
    obtain⟨g,H,_,bf⟩:=Ia (ao.each e I)<|CC.2<|ao.ne e I;rw[q]at H;simp only[RV,Cj]at H;omega
   have m6:E4 E<=1000:=by have:=ap.out.2;omega
   have m7:E.length<=1000:=by have:=SC ao.ne;omega
   obtain⟨bY,er⟩:∃bY,Hid<|wr.heap.size=bY:=⟨_,rfl⟩;have gq:bY≠w.heap.size:=by
    obtain⟨ch,J,_⟩:=ao.mp;have:=J.lt;have bF:=er.out;omega
   rw[er.out]at bp bq go gl;rw[er.out];generalize(wr.alloc<|.cells #[.pointer<|some ⟨O,Z+k*9+1,none⟩,iN d.ly] 164).drew=a7 at ar be bp bq gl⊢;obtain⟨ua,uc,d6,_,_,_⟩:=Ev ar.row;subst d6;obtain⟨ch,j4,ka⟩:=ar.mp;have dw:Hid _:=j4;have dx:Hid _:=ka;go_wp2_with (at_lookup;refine wpList_lookup_own_ok_int _ rfl _ _ 199 rfl 9 3 .i64 ZI underlying199 underlying3 (pU _) w.heap.size E.length ch rfl dw _ _ rfl (WideMaps.keyOf_string_mk underlying9 gb) ?_)
   intro c en m8;have kb:Hid _:=en;rcases Classical.em (nm∈E.map (·.n))with dy|dy;rotate_left
   .have es:Maps.has ch (kN nm)=false:=by rw[(dx.out.2 nm).1,Xy dy];rfl
    rw[es];have gr:Hid _:=dy;have kf:Hid<|(Lit.int .i64 (E.length:Int)).wf=true:=WalkArith.wf_i64 oM;go_wp2_with (at_mapUpdate;refine wpList_mapUpdate_own _ rfl _ _ _ 199 rfl 9 3 ZI underlying199 (plainElem prog 3) w.heap.size E.length ch rfl dw (by unfold maxLen;omega) _ _ _ rfl rfl (WideMaps.keyOf_string_mk underlying9 gb) _ [] (plainElem_int underlying3 kf) ?_)
    intro ad kk cl;have ko:Hid _:=kk;have eu:Hid _:=cl;have t0:=cl.cell bp (by simpa using gq);have m9:=cl.cell bq (by simpa using gq);have ev:Hid<|((ad.alloc<|.cells #[.pointer<|some ⟨O,Z+k*9+1,none⟩,.int .i64 d.ly] 164).alloc<|Fv nm (some ⟨ad.heap.size,0,none⟩) 1 1).ownsRow w.heap.size 169 2 (.slice ua E.length uc) E.length<|E8 E:=((ar.row.kept cl<|.inr<|ML dw ar.row).alloc _).alloc _;have ew:w.heap.size<=((ad.alloc<|.cells #[.pointer<|some ⟨O,Z+k*9+1,none⟩,.int .i64 d.ly] 164).alloc<|Fv nm (some ⟨ad.heap.size,0,none⟩) 1 1).heap.size:=by rw[ND,ND];have:=ar.out.low.size;have:=cl.size;omega
    have ey:Hid (∀q u,(E8 [⟨nm,some ⟨ad.heap.size,0,none⟩,1,[s]⟩])[q]? =some u->((ad.alloc<|.cells #[.pointer<|some ⟨O,Z+k*9+1,none⟩,.int .i64 d.ly] 164).alloc<|Fv nm (some ⟨ad.heap.size,0,none⟩) 1 1).cell? ((⟨ad.heap.size+1,0,none⟩:Addr).add q)=some u):=by
     have:=QQ (ad.alloc<|.cells #[.pointer<|some ⟨O,Z+k*9+1,none⟩,.int .i64 d.ly] 164) (.string nm) (.slice (some ⟨ad.heap.size,0,none⟩) 1 1) 169;rw[ND]at this;exact this
    go_wp2_with (at_builtin;refine DP _ rfl (.tmp 53) (.tmp 58) 165 rfl w.heap.size 169 ho (.agg #[.string ⟨#[]⟩,.slice none 0 0]) 2 40 underlying165 hy hz hA hB rfl oD _ E.length (E8 E) rfl ev (some ⟨ad.heap.size+1,0,none⟩) 1 1 (E8 [⟨nm,some ⟨ad.heap.size,0,none⟩,1,[s]⟩]) rfl rfl (.inr ⟨_,rfl,ey⟩) (Xw _) (by unfold maxLen;omega) oM ew ?_)
    intro v5 gu kq gv nb;have co:Hid<|FN w gu w.heap.size v5<|E++[⟨nm,some ⟨ad.heap.size,0,none⟩,1,[s]⟩]:=by
     obtain⟨H,a6,aA⟩:=ce.out;refine ar.new (s:=s) ko ?_ eu ?_ ?_
     .have:=kZ dx gr
      rwa [CE]at this
     .exact kq
     .rw[H,a6,aA];exact gv
    have cr:Hid (gu.heap[db]? =some (.cells #[.pointer<|some ⟨d.b,d.p,none⟩,.int .i64 d.ly] 164 (0,0))/\∀e∈E++[⟨nm,some ⟨ad.heap.size,0,none⟩,1,[s]⟩],e.a≠some ⟨db,0,none⟩):=by
     have ez:=(N3.1 be.1).1;have kv:db≠w.heap.size:=λq=>by
      obtain⟨nd,nf,bG,_⟩:=dw.out;rw[<-q,be.out.1]at bG;cases bG
     have eB:some db≠(Value.slice ua E.length uc).ownBlock:=λq=>by
      rcases ar.row.2 with⟨H,_⟩|⟨g,cap,kx,H,_,cx,_⟩
      .rw[H]at q;cases q
      .rw[H]at q
       simp[Value.ownBlock]at q;rw[<-q,be.out.1]at cx;simp at cx
     have ng:=eu.out.size;refine⟨?_,λe I q=>?_⟩
     .rw[gv.block db (by rw[ND,ND];omega) eB,ti _ _ _ (by rw[ND];omega),ti _ _ _ oM,eu.block db ez<|by simpa using kv]
      exact be.1
     .rcases Cq.1 I with I|I
      .exact be.2 e I q
      .rw[CD]at I
       subst I;simp only[RV,Cj]at q;omega
    have cD:Hid<|Es (Ca<|E++[⟨nm,some ⟨ad.heap.size,0,none⟩,1,[s]⟩]) (K.take j) (bd.take<|k+1)/\E4 (E++[⟨nm,some ⟨ad.heap.size,0,none⟩,1,[s]⟩])<=kc (K.take j)+(k+1):=by
     rw[mR,Om eq.out,nP];exact⟨ap.1.new (by rw[qB];exact gr),by have:=ap.out.2;show _+1<=_;omega⟩
    go_wp2;go_roundw
    case rel=>exact⟨k+1,_,by omega,by go_num,cD,co,cr⟩
    case measure=>(simp[intOf];try omega)
   .obtain⟨rL,eD,gw⟩:=YB (i:=0) dy
    rw[RT]at eD;have es:Maps.has ch (kN nm)=true:=by rw[(dx.out.2 nm).1,eD];rfl
    have ec:c=(rL:Int):=by
     have J:=(dx.2 nm).2;rw[kb.out,eD]at J;simpa using J
    rw[es];subst ec;rw[R6]at gw;obtain⟨e,I,gx⟩:=R2.1 gw;have nj:=(NE.1 I).1;have cF:=NW I;obtain⟨G,ky,d9,eb⟩:=Ia ar.row oM;subst ky;obtain⟨dz,ea,nn,aw⟩:=e;dsimp only at gx;subst gx;have bi:=ar.out.each _ cF;have gy:=CC.2<|ar.ne _ cF;dsimp only at bi gy;obtain⟨ge,k0,no,ns⟩:=Ia bi gy;subst k0;obtain⟨_,_,bb,_,_,k1⟩:=Ev ar.row;rcases k1 with⟨q,_⟩|⟨_,q,_,_,dd,ed⟩
    .simp only[CH]at bb;rw[q]at bb;cases bb.1
    simp only[CH]at bb;rw[q]at bb;simp only[RV,Cj]at bb;obtain⟨⟨rfl,_⟩,k2⟩:=bb;clear k2;have b0:=dd _ _ (SK E rL _ I).2;dsimp only at b0;obtain⟨t,gz⟩:∃t,aw[aw.length-1]? =some t:=⟨_,NA oM⟩;have k3:aw.getLast? =some t:=by rw[List.getLast?_eq_getElem?];exact gz
    obtain⟨_,_,bB,_,_,k4⟩:=Ev bi;rcases k4 with⟨q,_⟩|⟨_,q,_,_,k5,_⟩
    .simp only[CH]at bB;rw[q]at bB;cases bB.1
    simp only[CH]at bB;rw[q]at bB;simp only[RV,Cj]at bB;obtain⟨⟨rfl,_⟩,k6⟩:=bB;clear k6;have g0:=k5 _ _ (Xq aw _ t gz).2;have k7:Hid _:=ed;have bA:Hid _:=I;have nu:Hid _:=bi;have g2:Hid _:=k3;have k8:aw.length<=E4 E:=Xv cF;obtain⟨a1,g5⟩:∃a1,aw.length=a1+1:=⟨aw.length-1,by omega⟩;have g6:Hid<|aw.length=a1+1:=g5;rw[g5]at b0 g0 k8;rw[Nat.add_sub_cancel]at g0;have du:=j3.out a7 be.1;have nw:IntKind.i64.wrap ((a1:Int)+1-1)=(a1:Int):=(DQ oM oM).trans oM;have nx:(rL:Int)<(E.length:Int):=by omega
    have ny:(a1:Int)<(a1:Int)+1:=by omega
    have nz:a1<a1+1:=by omega
    have g7:Hid<|ge≠db:=λq=>be.2 _ cF (by rw[q]);have nB:Hid<|ge≠bY:=λq=>go _ cF<|by rw[q]
    go_upto_region 16 with fail
    by_cases eE:t.ly=d.ly
    .have k9:((t.ly:Int)==(d.ly:Int))=true:=by rw[beq_iff_eq,eE]
     have cD:Hid<|Es (Ca E) (K.take j) (bd.take<|k+1)/\E4 E<=kc (K.take j)+(k+1):=by
      obtain⟨H,a6,aA⟩:=ce.out;rw[Om eq.out];refine⟨ap.1.old (Pq bA) g2 (eE.trans aA.symm) λq bb r eF=>?_,by have:=ap.out.2;omega⟩;obtain⟨bg,al⟩:=R7 bb;rw[Kp]at al;split at al
      .rename_i e4
       obtain⟨ba,dg⟩:∃ba,D[bg]? =some ba:=⟨_,NA (by rw[c4.out];omega)⟩;obtain⟨hX,b2,b4⟩:=HK bg ba dg;rw[al]at b2;cases b2;obtain⟨bk,bl⟩:=R7 eF;have b6:=(NE.1 bl).1;obtain⟨p2,b7⟩:∃p2,ba.x.dirKs[bk]? =some p2:=⟨_,NA (by rw[<-b4.1];exact b6)⟩;obtain⟨_,_,ef,_,f1,_,_,f2,_⟩:=b4.2 bk p2 b7;rw[bl]at f1;cases f1;show ef.ly≠s.ly;rw[f2,aA];exact hl bg j ba d dg fp oM
      .cases al
     have co:Hid (∀q,FN w (a7.drewN q) w.heap.size (.slice (some ⟨G,0,none⟩) E.length uc) E):=λq=>ar.keep<|Kb (NB _ _) q;have cr:Hid _:=be.out
     go_quiet (fail)
     go_wp2;go_roundw
     case rel=>exact⟨k+1,E,by omega,by go_num,cD,co _,cr⟩
     case measure=>(simp[intOf];try omega)
    .have k9:((t.ly:Int)==(d.ly:Int))=false:=by rw[beq_eq_false_iff_ne];omega
     go_quiet (fail)
     have ld:Below a7.heap.size a7<|a7.drewN nq:=Kb (NB _ _) nq;have bo:Hid _:=ar.keep ld;have c3:Hid ((a7.drewN nq).heap[db]? =some (.cells #[.pointer<|some ⟨d.b,d.p,none⟩,.int .i64 d.ly] 164 (0,0))/\∀e∈E,e.a≠some ⟨db,0,none⟩):=be.out;have bp:(a7.drewN nq).cell? ⟨bY,0,none⟩=some (.pointer<|some ⟨O,Z+k*9+1,none⟩):=bp;have bq:(a7.drewN nq).cell? ⟨bY,1,none⟩=some (.int .i64 d.ly):=bq;have b0:(a7.drewN nq).cell? ⟨G,rL*2+1,none⟩=some (.slice (some ⟨ge,0,none⟩) (a1+1) _):=b0;have g8:(a7.drewN nq).frozen? ⟨G,rL*2+1,none⟩=false:=k7 _;have g9:G<(a7.drewN nq).heap.size:=eb;generalize a7.drewN nq=ad at bo c3 bp bq b0 g8 g9⊢;have dT:=bo.out.each _<|NW bA;dsimp only at dT;rw[g6.out]at dT;have ha:G≠ge:=λq=>by
      rcases Na (show 169≠164 by decide) bo.row dT with H|H
      .cases H
      .exact H (by show some G=some ge;rw[q])
     have ev:Hid _:=dT.alloc<|.cells #[.pointer<|some ⟨O,Z+k*9+1,none⟩,.int .i64 d.ly] 164;have ew:w.heap.size<=(ad.alloc<|.cells #[.pointer<|some ⟨O,Z+k*9+1,none⟩,.int .i64 d.ly] 164).heap.size:=by rw[ND];have:=bo.out.low.size;omega
     have ey:Hid (∀q u,(Ex [s])[q]? =some u->(ad.alloc<|.cells #[.pointer<|some ⟨O,Z+k*9+1,none⟩,.int .i64 d.ly] 164).cell? ((⟨ad.heap.size,0,none⟩:Addr).add q)=some u):=by
      obtain⟨H,a6,aA⟩:=ce.out;have:=QQ ad (.pointer<|some ⟨O,Z+k*9+1,none⟩) (.int .i64 d.ly) 164;show∀q u,[Value.pointer<|some ⟨s.b,s.p,none⟩,Value.int .i64 s.ly][q]? =some u->_;rw[H,a6,aA];exact this
     have lf:Hid (∀u∈Ex [s],u.oneCell'=true):=λu hc=>by
      simp[Ex]at hc;rcases hc with rfl|rfl<;>rfl
     have lk:=Ai ((NB _ ad).alloc (rP _)<|.cells #[.pointer<|some ⟨O,Z+k*9+1,none⟩,.int .i64 d.ly] 164) _ _ b0;have ln:=(((NB _ ad).alloc (rP _)<|.cells #[.pointer<|some ⟨O,Z+k*9+1,none⟩,.int .i64 d.ly] 164).frozen (p:=⟨G,rL*2+1,none⟩) g9).trans g8;go_wp2_with (at_builtin;refine DP _ rfl (.tmp 77) (.tmp 79) 155 rfl w.heap.size 164 hs (.agg #[.pointer none,.int .i64 0]) 2 16 underlying155 hC hD hE hG rfl oD _ (a1+1) (Ex aw) rfl ev (some ⟨ad.heap.size,0,none⟩) 1 1 (Ex [s]) rfl rfl (.inr ⟨_,rfl,ey⟩) lf (by unfold maxLen;omega) oM ew ?_)
     intro nC d0 he d1 eL;obtain⟨bs,bu,lo,_,_,_⟩:=Ev he;subst lo;have nF:=d1.cell lk (by simpa [Value.ownBlock]using ha);have nG:d0.frozen? ⟨G,rL*2+1,none⟩=false:=(World.frozen?_of_block<|d1.block G (by rw[ND];omega)<|by simpa [Value.ownBlock]using ha).trans ln;have co:Hid<|FN w (d0.setCell ⟨G,rL*2+1,none⟩<|.slice bs (a1+1+1) bu) w.heap.size (.slice (some ⟨G,0,none⟩) E.length uc)<|E.set rL ⟨dz,bs,bu,aw++[s]⟩:=by
      obtain⟨H,a6,aA⟩:=ce.out;have eX:=g6.out;have J:=bo.out.add (s:=s) (a2:=bs) (c2:=bu) bA (W2:=d0) (by show World.ownsRow _ _ _ _ (.slice bs (aw.length+1) bu) (aw.length+1) _;rw[eX];exact he) (by rw[H,a6,aA];exact d1) (by rw[ND];dsimp only;rw[eX];exact eL);dsimp only at J;rw[eX]at J;exact J
     have cr:Hid ((d0.setCell ⟨G,rL*2+1,none⟩<|.slice bs (a1+1+1) bu).heap[db]? =some (.cells #[.pointer<|some ⟨d.b,d.p,none⟩,.int .i64 d.ly] 164 (0,0))/\∀e∈E.set rL ⟨dz,bs,bu,aw++[s]⟩,e.a≠some ⟨db,0,none⟩):=by
      have ez:=(N3.1 c3.1).1;have eB:db≠G:=λq=>by
       rcases bo.row.2 with⟨H,_⟩|⟨g,cap,kx,H,_,cx,_⟩
       .cases H
       .simp only[CH,RV,Cj]at H
        rw[<-H.1.1,<-q,c3.out.1]at cx;simp at cx
      refine⟨?_,λf ek q=>?_⟩
      .rw[Cv _ _ _ _ (by exact eB),d1.block db (by rw[ND];omega) (by simpa [Value.ownBlock]using λq=>g7 q.symm),ti _ _ _ ez]
       exact c3.1
      .obtain⟨bg,al⟩:=R7 ek
       rw[gt]at al;split at al
       .cases al
        dsimp only at q;subst q;simp only[Value.ownBlock,RV]at eL;rcases eL with q|q
        .exact g7 q.symm
        .omega
       .exact c3.2 f (NW al) q
     have cD:Hid<|Es (Ca<|E.set rL ⟨dz,bs,bu,aw++[s]⟩) (K.take j) (bd.take<|k+1)/\E4 (E.set rL ⟨dz,bs,bu,aw++[s]⟩)<=kc (K.take j)+(k+1):=by
      obtain⟨H,a6,aA⟩:=ce.out;rw[Yg,Om eq.out,Yi bA.out oS];refine⟨ap.1.add (Pq bA) (λnT hf q=>?_) λr eF=>?_,by have:=ap.out.2;omega⟩
      .rw[g2.out]at hf
       cases hf;exact eE<|q.trans aA
      .rw[aA]
       obtain⟨bk,bl⟩:=R7<|List.mem_of_mem_take eF;have b6:=(NE.1 bl).1;obtain⟨p2,b7⟩:∃p2,d.x.dirKs[bk]? =some p2:=⟨_,NA (by rw[<-dr.out.2.1];exact b6)⟩;obtain⟨_,_,ef,_,f1,_,_,f2,_⟩:=dr.2.2 bk p2 b7;rw[bl]at f1;cases f1;exact f2
     go_wp2;go_roundw
     case rel=>exact⟨k+1,_,by omega,by go_num,cD,co,cr⟩
     case measure=>(simp[intOf];try omega)
open Go.Shelf
structure Ic (l:Bc):Prop where
 ne:l≠[]
 ly:(l.map (·.2)).Nodup
 lil:∀q∈l,AI q.1
 lim:∀q∈l,A7 q.1
 tot:tot l<=1000
 ids:∀q∈l,A0 q.1
theorem WZ:∀l:Bc,(F5 l).Sublist l
 |[]=>List.Sublist.refl _
 |q::r=>by
  rw[F5];split
  .exact List.nil_sublist _
  split
  .exact List.Sublist.cons_cons _<|List.nil_sublist _
  .exact List.Sublist.cons_cons _<|WZ r
theorem Pb(l:Bc):(A8 l).Sublist l:=by cases l<;>grind [A8,WZ]
theorem Rw(nm:BA):∀l:Bc,((BU nm l).map (·.2)).Sublist<|l.map (·.2)
 |[]=>List.Sublist.refl _
 |q::r=>by
  have G:=Rw nm r;unfold BU at G⊢;rw[CL];cases Ek nm q.1 with
  |none=>exact List.Sublist.cons _ G
  |some y=>exact List.Sublist.cons_cons _ G
theorem SD{x y:Nd}(h:AI x)(G:Ek nm x=some y):AI y:=by
 rw[LR]at G;obtain⟨i,H⟩:=R7<|MJ<|O8 G;obtain⟨k,m,u,g,o,rL,d,ks⟩:=x;rw[AI]at h;exact(MV h.2.2 H).2
theorem om{x y:Nd}(h:A7 x)(G:Ek nm x=some y):A7 y:=by
 rw[LR]at G;obtain⟨i,H⟩:=R7<|MJ<|O8 G;obtain⟨k,m,u,g,o,rL,d,ks⟩:=x;rw[A7]at h;exact MZ h.2.2 H
theorem Nb{q:Nd×Nat}(h:q∈Ci l nm):∃p∈l,Ek nm p.1=some q.1:=by
 obtain⟨p,G,e⟩:=C0.1<|Jr _ _ h;obtain⟨y,H,rfl⟩:=R2.1 e;grind
theorem Ic.next(h:Ic l)(I:Ci l nm≠[]):Ic<|Ci l nm:=by
 refine⟨I,?_,λq G=>?_,λq G=>?_,?_,λq G=>?_⟩
 .exact(h.ly.sublist<|Rw nm l).sublist ((Pb _).map _)
 .obtain⟨p,H,e⟩:=Nb G
  exact SD (h.lil p H) e
 .obtain⟨p,H,e⟩:=Nb G
  exact om (h.lim p H) e
 .have:=MQ l nm;have:=h.tot;omega
 .exact Gx.sh (Gx.kid h.ids nm) q G
theorem ZE{D:List Sp}(h:D.map Sp.pr=l)(G:(l.map (·.2)).Nodup):∀(i j:Nat) a b,D[i]? =some a->D[j]? =some b->i≠j->a.ly≠b.ly:=by
 subst h;intro i j a b H I J e;have O:(D.map (·.ly)).Nodup:=by rw[tC]at G;exact G
 grind [tw.1]
structure GE (xs:List Nd):Prop where
 lil:∀x∈xs,AI x
 tot:tot (A5 xs)<=1000
 ids:∀x∈xs,A0 x
theorem JX{q:Nd×Nat}(h:q∈A5 xs):q.1∈xs:=by grind [A5]
theorem nk:∀{l:Bc} {q:Nd×Nat},q∈l->cnt q.1<=tot l:=by intro l q;induction l generalizing q<;>grind [tot]
theorem Wr(xs:List Nd):(A5 xs).length=xs.length:=by unfold A5;rw[List.length_zipIdx]
theorem GE.len(h:GE xs):xs.length<=1000:=by
 have G:=LJ<|A5 xs;rw[Wr]at G;have:=h.tot;omega
theorem GE.small(h:GE xs):EM<|A5 xs:=⟨by rw[Wr];exact h.len,λq G=>by have:=nk G;have:=h.tot;omega⟩
theorem GE.lim(h:GE xs):GH<|A5 xs:=λq G=>Id q.1 (h.small.2 q G)<|h.lil _<|JX G
theorem GE.seen(h:GE xs)(H:A8 (A5 xs)≠[]):Ic<|A8<|A5 xs:=by
 refine⟨H,?_,λq G=>h.lil _<|JX<|Jr _ _ G,λq G=>h.lim q<|Jr _ _ G,?_,λq G=>h.ids _<|JX<|Jr _ _ G⟩
 .grind [Pb,A5,List.zipIdx_map_snd]
 .have:=Sv<|A5 xs;have:=h.tot;omega
theorem cP(ry:List BA):∀{l:Bc},(l≠[]->Ic l)->ry.foldl (λl nm=>A8<|BU nm l) l≠[]->Ic (ry.foldl (λl nm=>A8<|BU nm l) l):=by
 induction ry with
 |nil=>intro l h G;exact h G
 |cons nm ry I=>
  intro l h G;rw[Ko]at G⊢;refine I (λH=>?_) G;refine(h λe=>H ?_).next (nm:=nm) H;rw[e];rfl
theorem GE.stack(h:GE xs)(ry:List BA):AX xs ry≠[]->Ic (AX xs ry):=cP ry h.seen
def I3:Bc->Bc
 |[]=>[]
 |q::r=>if q.2=0 then r else q::r
def P0(l:Bc):Prop:=(l.map (·.2)).Pairwise (·<·)
theorem VU(nm:BA):∀{l:Bc},(∀q∈l,q.2≠0)->KQ true nm l=BU nm l:=by intro l;induction l<;>grind [KQ,BU]
theorem cM(nm:BA)(h:P0 l):KQ true nm l=BU nm (I3 l):=by
 cases l with
 |nil=>rfl
 |cons q r=>
  unfold P0 at h;rw[CB,CK]at h;have I:∀p∈r,p.2≠0:=λp G=>by have:=h.1 p.2<|tr G;omega
  rw[I3];split
  .rename_i e
   have J:=VU nm I;unfold KQ at J⊢;rw[CL,NS ⟨rfl,e⟩];exact J
  .rename_i e
   exact VU nm λp G=>by
    rcases R1.1 G with H|H
    .rw[H];exact e
    .exact I p H
theorem cG(xs:List Nd):∀ry:List BA,P0<|AX xs ry:=by
 intro ry;unfold AX;have G:P0<|A8<|A5 xs:=by
  refine List.Pairwise.sublist ((Pb _).map _) ?_;grind [A5,List.zipIdx_map_snd,List.pairwise_lt_range']
 generalize A8 (A5 xs)=l at G⊢;induction ry generalizing l with
 |nil=>exact G
 |cons nm ry H=>
  rw[Ko];refine H _ ?_;exact List.Pairwise.sublist ((Pb _).map _)<|List.Pairwise.sublist (Rw nm l) G
theorem U9(xs:List Nd)(ry:List BA):∀i,i<ry.length->Nr true xs ry i=AX xs (ry.take i)
 |0,_=>rfl
 |i+1,h=>by
  have e:ry[i]? =some ry[i]:=NA oM;rw[Nr,e,Lv e,<-U9 xs ry i oM];have hd:decide (i+1=ry.length)=false:=NM oM;simp[hd,i7]
def G5(xs:List Nd)(ry:List BA):Bool:=decide (0<ry.length)&& !(Nr true xs ry ry.length).isEmpty
theorem fX{ry:List BA}(G:ry.length=n+1)(H:ry[n]? =some nm):G5 xs ry= !(A8<|BU nm<|I3<|AX xs<|ry.take n).isEmpty:=by grind [G5,Nr,U9,cM,cG]
theorem Ol(h:EM l):EM<|I3 l:=by
 cases l with
 |nil=>exact h
 |cons q r=>
  rw[I3];split
  .exact⟨by have:=h.1;rw[R5]at this;omega,λp G=>h.2 p<|R4 _ G⟩
  .exact h
theorem Jn{b c:Bool}(h:b=c):Ending.returned (.bool b)=.returned (.bool c):=by rw[h]
theorem Rh{S:Nat->Bool}(bA:∀k,S k=true->k<w.heap.size){cap:Nat}{an:Option Addr}{rN:Nat}{ry:List BA}(hx:CP (Ag w.cell? S) a xs)(bB:Bi (Ag w.cell? S) an ry)(bC:GE xs)(bF:ry.length<=1000)(bG:ry.length<=rN/\rN<=9223372036854775807):
 Calls prog 177 #[.slice a xs.length cap,.slice an ry.length rN] w λe w'=>e=.returned (.bool<|G5 xs ry)/\Below w.heap.size w w':=by
 have a1:Hid _:=bA;have bH:Hid _:=bB;have bY:Hid _:=hx;have bd:Hid _:=bC;obtain⟨N,a6⟩:=Aq<|ry.length;rw[a6.out]at bG bF⊢;go_enter func177,ntmps177;cases N with
 |zero=>
  go_wp2;go_ret;refine⟨Jn ?_,NB _ _⟩;unfold G5;rw[a6.out];rfl
 |succ n=>
  obtain⟨nm,be⟩:∃nm,ry[n]? =some nm:=⟨_,NA (by rw[a6.out];omega)⟩;have ab:Hid _:=fX (xs:=xs) a6 be;obtain⟨bf,bg,rfl,bs⟩:∃b ar,an=some ⟨b,ar,none⟩/\∀i s,ry[i]? =some s->Ag w.cell? S ⟨b,ar+i,none⟩=some (.string s):=by
   rcases bH.out with e|e
   .subst e;simp at be
   .exact e
  have b0:(ry.take n).length=n:=by rw[C3,a6.out];omega
  have bu:Hid (Calls prog 74 #[.slice a xs.length cap,sL bf bg n rN] w λe w'=>∃v,e=.returned v/\ES (Ag w'.cell? S) v (AX xs<|ry.take n)/\Below w.heap.size w w'):=by
   have e:=Sh (cap:=cap) (rN:=rN) (an:=some ⟨bf,bg,none⟩) (ry:=ry.take n) a1 bY (.inr ⟨bf,bg,rfl,λi s aw=>bs i s (by
    rw[Kp]at aw;split at aw
    .exact aw
    .cases aw)⟩) bd.len oM bd.small
   rw[b0]at e;exact e
  have b1:=BW _ _ _ _<|bs n nm be;have ce:IntKind.i64.wrap (((n+1:Nat):Int)-1)=(n:Int):=(DQ oM oM).trans oM;have cf:IntKind.i64.wrap ((n:Int)+1-1)=(n:Int):=(DQ oM oM).trans oM;have ch:(n:Int)<=(rN:Int):=by omega
  have cl:(0:Int)<=(n:Int):=by omega
  have co:decide ((n:Int)+1=0)=false:=NM oM;have a7:Hid<|EM<|AX xs<|ry.take n:=QN bd.small _;generalize AX xs (ry.take n)=bi at bu ab a7;go_wp2_with fail
  refine rQ bu ?_;rintro e G ⟨v,rfl,b2,J⟩;obtain⟨va,vc,D,rfl,g1,cr,g3,g4,bk⟩:=b2;have cx:=Ai J _ _ b1;have cD:(n:Int)<(n:Int)+1:=by omega
  have cF:n<n+1:=by omega
  cases D with
  |nil=>
   have ak:Eh (Ag G.cell? S) va []:=g3;have q4:∀s∈([]:List Sp),C8 (Ag G.cell? S) s:=g4;have q5:([]:List Sp).map Sp.pr=I3 bi:=by rw[<-bk];rfl
   have I:Hid _:=MG (A:=G) (S:=S) (cap:=vc) (w:=(G.alloc<|.cells #[.slice va ([]:List Sp).length vc] 155).alloc<|.cells #[.string nm] 9) (λk al=>N1 (a1 k al) J.size) nm ak q4 (by rw[q5];exact Ol a7) rfl;rw[q5]at I;go_wp2_with fail
   refine rQ (MB G va ([]:List Sp).length vc nm) ?_;rintro e bl ⟨rfl,rfl⟩;go_wp2_with fail
   refine rQ I ?_;rintro e bn ⟨v3,rfl,ao,ap⟩;obtain⟨a3,bo,H,rfl,_,_,_,_,O⟩:=ao;have Z:=J.trans<|ap.mono J.size;cases H with
   |nil=>
    go_wp2;go_ret;exact⟨Jn (by rw[ab.out,<-O];rfl),Z⟩
   |cons bp H=>
    have a8:decide ((H.length:Int)+1>0)=true:=NY oM;have bq:decide ((0:Int)<(H.length:Int)+1)=true:=NY oM;go_wp2;go_ret;exact⟨Jn (by rw[ab.out,<-O];rfl),Z⟩
  |cons s D=>
   obtain⟨vb,vo,rfl,bx⟩:∃b ar,va=some ⟨b,ar,none⟩/\∀i az,(s::D)[i]? =some az->Ag G.cell? S ⟨b,ar+i*2,none⟩=some (pO az.b az.p)/\Ag G.cell? S ⟨b,ar+i*2+1,none⟩=some (iN az.ly):=by
    rcases g3 with e|e
    .cases e
    .exact e
   obtain⟨v0,ba⟩:=bx 0 _ rfl;have ba:=BW _ _ _ _ ba;rw[tB,tl]at ba;obtain⟨aA,ad⟩:=Aq<|D.length;have a8:decide ((aA:Int)+1>0)=true:=NY oM;have c3:(0:Int)<(aA:Int)+1:=by omega
   by_cases bb:s.ly=0
   .have b4:(((s.ly:Nat):Int)==0)=true:=by rw[bb];rfl
    have c4:decide (((s.ly:Nat):Int)=0)=true:=NY oM;rw[bb]at ba;have q4:∀s∈D,C8 (Ag G.cell? S) s:=λt b6=>g4 t<|R4 _ b6;have q5:D.map Sp.pr=I3 bi:=by
     rw[<-bk,CB,I3,NS (show(Sp.pr s).2=0 from bb)]
    have c5:Hid<|(s::D).length=aA+1:=by show _=_;rw[R5,ad.out]
    simp only[R5]at g1;rw[ad.out]at g1;by_cases b7:vc=1
    .subst b7
     have ak:Eh (Ag G.cell? S) (some ⟨vb,vo,none⟩) D:=.inl<|R0 (by rw[ad.out];omega);obtain rfl:D=[]:=R0 (by rw[ad.out];omega);obtain rfl:aA=0:=ad.symm;simp only[R5,RC];have I:Hid _:=MG (A:=G) (S:=S) (cap:=0) (w:=(G.alloc<|.cells #[sL vb vo ([]:List Sp).length 0] 155).alloc<|.cells #[.string nm] 9) (λk al=>N1 (a1 k al) J.size) nm ak q4 (by rw[q5];exact Ol a7) rfl;rw[q5]at I;simp only[RC]at I;go_wp2_with fail
     refine rQ (MB G (some ⟨vb,vo,none⟩) 0 0 nm) ?_;rintro e bl ⟨rfl,rfl⟩;go_wp2_with fail
     refine rQ I ?_;rintro e bn ⟨v3,rfl,ao,ap⟩;obtain⟨a3,bo,H,rfl,_,_,_,_,O⟩:=ao;have Z:=J.trans<|ap.mono J.size;cases H with
     |nil=>
      go_wp2;go_ret;exact⟨Jn (by rw[ab.out,<-O];rfl),Z⟩
     |cons bp H=>
      have a8:decide ((H.length:Int)+1>0)=true:=NY oM;have bq:decide ((0:Int)<(H.length:Int)+1)=true:=NY oM;go_wp2;go_ret;exact⟨Jn (by rw[ab.out,<-O];rfl),Z⟩
    .have ak:Eh (Ag G.cell? S) (some ⟨vb,vo+2,none⟩) D:=.inr ⟨vb,vo+2,rfl,λi az aw=>by
      have b9:=bx (i+1) az (by simpa using aw);rw[show vo+2+i*2=vo+(i+1)*2 by omega];exact b9⟩
     simp only[R5];rw[ad.out];have I:Hid _:=MG (A:=G) (S:=S) (cap:=(vc-1)) (w:=(G.alloc<|.cells #[sL vb (vo+2) D.length<|vc-1] 155).alloc<|.cells #[.string nm] 9) (λk al=>N1 (a1 k al) J.size) nm ak q4 (by rw[q5];exact Ol a7) rfl;rw[q5]at I;rw[ad.out]at I;go_wp2_with fail
     refine rQ (MB G (some ⟨vb,vo+2,none⟩) aA (vc-1) nm) ?_;rintro e bl ⟨rfl,rfl⟩;go_wp2_with fail
     refine rQ I ?_;rintro e bn ⟨v3,rfl,ao,ap⟩;obtain⟨a3,bo,H,rfl,_,_,_,_,O⟩:=ao;have Z:=J.trans<|ap.mono J.size;cases H with
     |nil=>
      go_wp2;go_ret;exact⟨Jn (by rw[ab.out,<-O];rfl),Z⟩
     |cons bp H=>
      have a8:decide ((H.length:Int)+1>0)=true:=NY oM;have bq:decide ((0:Int)<(H.length:Int)+1)=true:=NY oM;go_wp2;go_ret;exact⟨Jn (by rw[ab.out,<-O];rfl),Z⟩
   .have b4:(((s.ly:Nat):Int)==0)=false:=by simp;omega
    have ak:Eh (Ag G.cell? S) (some ⟨vb,vo,none⟩) (s::D):=g3;have q4:∀t∈s::D,C8 (Ag G.cell? S) t:=g4;have q5:(s::D).map Sp.pr=I3 bi:=by
     rw[<-bk,CB,I3,NO (show¬(Sp.pr s).2=0 from bb)]
    simp only[R5];rw[ad.out];have I:Hid _:=MG (A:=G) (S:=S) (cap:=vc) (w:=(G.alloc<|.cells #[sL vb vo (s::D).length vc] 155).alloc<|.cells #[.string nm] 9) (λk al=>N1 (a1 k al) J.size) nm ak q4 (by rw[q5];exact Ol a7) rfl;rw[q5]at I;simp only[R5]at I;rw[ad.out]at I;go_wp2_with fail
    refine rQ (MB G (some ⟨vb,vo,none⟩) (aA+1) vc nm) ?_;rintro e bl ⟨rfl,rfl⟩;go_wp2_with fail
    refine rQ I ?_;rintro e bn ⟨v3,rfl,ao,ap⟩;obtain⟨a3,bo,H,rfl,_,_,_,_,O⟩:=ao;have Z:=J.trans<|ap.mono J.size;cases H with
    |nil=>
     go_wp2;go_ret;exact⟨Jn (by rw[ab.out,<-O];rfl),Z⟩
    |cons bp H=>
     have a8:decide ((H.length:Int)+1>0)=true:=NY oM;have bq:decide ((0:Int)<(H.length:Int)+1)=true:=NY oM;go_wp2;go_ret;exact⟨Jn (by rw[ab.out,<-O];rfl),Z⟩
def CX(x:Int):Bool:=decide (0<=x)&&decide (x<=65535)
def AV(w:World)(a:Option Addr)(zs:List Int):Prop:=
 zs=[]\/∃b G,a=some (aD b G)/\∀i,i<zs.length->w.cell? (aD b<|G+i)=some (iN<|zs.getD i 0)
theorem AV.below(h:AV w a zs)(hb:Below w.heap.size w w'):AV w' a zs:=by
 rcases h with h|⟨b,G,H,I⟩
 .exact .inl h
 .exact .inr ⟨b,G,H,λi J=>by
   have:=I i J;have O:=bL this;rw[hb.cell (p:=(aD b<|G+i)) O];exact this⟩
theorem qN{W G:World}(hb:Below W.heap.size W G):(∀b o,b<W.heap.size->G.cell? (aD b o)=W.cell? (aD b o))/\(∀b o,b<W.heap.size->G.frozen? (aD b o)=W.frozen? (aD b o)):=
 ⟨λb o h=>hb.cell (p:=(aD b o)) h,λb o h=>hb.frozen (p:=(aD b o)) h⟩
theorem Hz(x:Int)(w:World):Calls prog 232 #[iN x] w λe w'=>e=.returned (.bool<|CX x)/\w=w':=by
 by_cases h:0<=x
 .go_enter func232,ntmps232
  go_wp2;go_ret;exact⟨BI<|by simp[CX,h],rfl⟩
 .have hd:decide (0<=x)=false:=by simpa using h
  go_enter func232,ntmps232;go_wp2;go_ret;exact⟨BI<|by simp[CX,hd],rfl⟩
theorem WN{x:Int}(G:k<zs.length)(H:(zs.take k).contains x=false)(I:¬zs[k]=x):(zs.take<|k+1).contains x=false:=by grind [List.take_succ_eq_append_getElem]
def Gm(g:Int)(zs:List Int)(x:Int):Bool:=(x==g)||zs.contains x
theorem RK(u g x c:Int)(a:Option Addr)(cap:Nat)(zs:List Int)(w:World)(ad:zs.length<=8)(h:AV w a zs):
 Calls prog 230 #[.agg #[iN u,iN g,.slice a zs.length cap,iN c],iN x] w λe w'=>
  e=.returned (.bool<|Gm g zs x)/\Below w.heap.size w w':=by
 by_cases hx:x=g
 .subst hx
  go_enter func230,ntmps230;go_wp2;go_ret;exact⟨BI<|by simp[Gm],bN⟩
 .have J:(x==g)=false:=by simpa using hx
  go_enter func230,ntmps230;go_wp2;go_loop [14] (λi=>∃k:Nat,k<=zs.length/\i=iN k/\(zs.take k).contains x=false) (λi=>zs.length-(intOf i).toNat)
  case atStart=>exact⟨0,N7 _,rfl,rfl⟩
  case round=>
   obtain⟨k,ak,rfl,H⟩:=hrel;by_cases I:k<zs.length
   .rcases h with rfl|⟨b,al,rfl,O⟩
    .simp at I
    .have Z:=O k I
     have ao:b<w.heap.size:=bL Z;by_cases G:zs[k]=x
     .have ab:(zs[k]==x)=true:=by simpa using G
      go_wp2;go_ret;exact⟨BI<|by simp[Gm,<-G],bN⟩
     .have ab:(zs[k]==x)=false:=by simpa using G
      go_wp2;go_round
      case rel=>exact⟨k+1,by omega,by go_num,WN I H G⟩
      case measure=>simp[intOf];omega
   .go_wp2
    go_ret;rw[R3 oM]at H;exact⟨BI (by simp[Gm,J];simpa using H),bN⟩
theorem O1(u g c x:Int)(v:Value)(w:World):
 Calls prog 219 #[.agg #[iN u,iN g,v,iN c],iN x] w λe w'=>
  e=.returned (.bool<|bits .and .i64 c x==x)/\Below w.heap.size w w':=by
 go_enter func219,ntmps219;go_wp2;go_ret;exact⟨rfl,bN⟩
def Hh(zs:List Int)(k:Nat):Int:=if CX (zs.getD k 0)=false then 1 else if 0<k/\zs.getD k 0<=zs.getD (k-1) 0 then 3 else 0
def gF(zs:List Int):Nat->Nat->Int
 |_,0=>0
 |k,n+1=>if Hh zs k=0 then gF zs (k+1) n else Hh zs k
def DZ(u g:Int)(zs:List Int)(c:Int):Int:=
 if CX u=false\/CX g=false\/c<0\/15<c then 1 else if 4<zs.length then 2 else gF zs 0 zs.length
theorem ZG(h:Hh zs k=0):gF zs k (n+1)=gF zs (k+1) n:=by simp[gF,h]
theorem YO(h:¬Hh zs k=0):gF zs k (n+1)=Hh zs k:=by simp[gF,h]
theorem WR(h:CX (zs.getD k 0)=false):Hh zs k=1:=by unfold Hh;rw[NS h]
theorem WC(h:CX (zs.getD k 0)=true)(G:0<k)(H:zs.getD k 0<=zs.getD (k-1) 0):Hh zs k=3:=by grind [Hh]
theorem gX(h:CX (zs.getD 0 0)=true):Hh zs 0=0:=by grind [Hh]
theorem jT(h:CX (zs.getD k 0)=true)(G:¬zs.getD k 0<=zs.getD (k-1) 0):Hh zs k=0:=by grind [Hh]
theorem gL(G:CX u=true)(H:CX g=true)(I:¬c<0)(J:¬15<c)(O:¬4<zs.length):DZ u g zs c=gF zs 0 zs.length:=by grind [DZ]
theorem dQ(G:CX u=true)(H:CX g=true)(I:¬c<0)(J:¬15<c)(O:4<zs.length):DZ u g zs c=2:=by grind [DZ]
theorem OK(h:CX u=false\/CX g=false\/c<0\/15<c):DZ u g zs c=1:=by unfold DZ;rw[NS h]
theorem UQ(u g c:Int)(a:Option Addr)(cap:Nat)(zs:List Int)(w:World)(be:zs.length<=8)(h:AV w a zs):
 Calls prog 188 #[.agg #[iN u,iN g,.slice a zs.length cap,iN c]] w λe w'=>
  e=.returned (Ao<|DZ u g zs c)/\Below w.heap.size w w':=by
 by_cases ao:CX u=false
 .go_enter func188,ntmps188
  go_wp2_with (go_at_call 232;go_call Hz _ _ as e w' ⟨rfl,rfl⟩)
  go_ret;exact⟨CM (AP (OK<|.inl ao) oD).symm,bN⟩
 have ap:CX u=true:=by simpa using ao
 by_cases ar:CX g=false
 .go_enter func188,ntmps188
  go_wp2_with (go_at_call 232;go_call Hz _ _ as e w' ⟨rfl,rfl⟩)
  go_ret;exact⟨CM (AP (OK<|.inr<|.inl ar) oD).symm,bN⟩
 have aw:CX g=true:=by simpa using ar
 by_cases Z:c<0
 .go_enter func188,ntmps188
  go_wp2_with (go_at_call 232;go_call Hz _ _ as e w' ⟨rfl,rfl⟩)
  go_ret;exact⟨CM (AP (OK<|.inr<|.inr<|.inl Z) oD).symm,bN⟩
 have bf:decide (c<0)=false:=by simpa using Z
 by_cases ab:15<c
 .go_enter func188,ntmps188
  go_wp2_with (go_at_call 232;go_call Hz _ _ as e w' ⟨rfl,rfl⟩)
  go_ret;exact⟨CM (AP (OK<|.inr<|.inr<|.inr ab) oD).symm,bN⟩
 have bg:decide (15<c)=false:=by simpa using ab
 by_cases az:4<zs.length
 .have a8:Hid<|DZ u g zs c=2:=dQ ap aw Z ab az
  go_enter func188,ntmps188;go_wp2_with (go_at_call 232;go_call Hz _ _ as e w' ⟨rfl,rfl⟩)
  go_ret;exact⟨CM (AP a8.out oD).symm,bN⟩
 have al:=hid<|gL ap aw Z ab az;go_enter func188,ntmps188;go_wp2_with (go_at_call 232;go_call Hz _ _ as e w' ⟨rfl,rfl⟩)
 go_loop [34] (λi=>∃k:Nat,k<=zs.length/\i=iN k/\Hid (gF zs 0 zs.length=gF zs k (zs.length-k))) (λi=>zs.length-(intOf i).toNat)
 case atStart=>exact⟨0,N7 _,rfl,rfl⟩
 case round=>
  obtain⟨k,bi,rfl,H⟩:=hrel;by_cases G:k<zs.length
  .rcases h with rfl|⟨b,ba,rfl,aA⟩
   .simp at G
   .have a1:=aA k G
    have bk:b<w.heap.size:=bL a1;have ad:Hid<|gF zs k (zs.length-k)=gF zs k ((zs.length-(k+1))+1):=by show _=_;congr 1;omega
    by_cases ak:CX (zs.getD k 0)=false
    .have bb:CX zs[k]=false:=by simpa [G]using ak
     go_wp2_with (go_at_call 232;go_call Hz _ _ as e w' ⟨rfl,rfl⟩)
     go_ret;exact⟨CM (AP (by rw[al.out,H.out,ad.out,YO (by rw[WR ak];decide),WR ak]) oD).symm,bN⟩
    .have I:CX (zs.getD k 0)=true:=by simpa using ak
     have bb:CX zs[k]=true:=by simpa [G]using I
     rcases k with _|j
     .have J:Hid<|gF zs 0 (zs.length-0)=gF zs 1 (zs.length-1):=ad.trans<|ZG<|gX I
      have bl:Ce w b ba<|iN<|zs.getD 0 0:=a1;go_wp2_with (go_at_call 232;go_call Hz _ _ as e w' ⟨rfl,rfl⟩)
      go_round
      case rel=>exact⟨1,by omega,rfl,H.trans J⟩
      case measure=>simp[intOf];omega
     .have bn:=aA j oM
      have a6:j<zs.length:=by omega
      by_cases O:zs.getD (j+1) 0<=zs.getD j 0
      .have J:Hid<|gF zs (j+1) (zs.length-(j+1))=3:=ad.trans<|(YO (by rw[WC I oM O];decide)).trans<|WC I oM O
       have a7:zs[j+1]<=zs[j]:=by simpa [G,a6]using O
       go_wp2_with (go_at_call 232;go_call Hz _ _ as e w' ⟨rfl,rfl⟩)
       go_ret;exact⟨CM (AP (by rw[al.out,H.out,J.out]) oD).symm,bN⟩
      .have J:Hid<|gF zs (j+1) (zs.length-(j+1))=gF zs (j+2) (zs.length-(j+2)):=ad.trans<|ZG<|jT I O
       have a7:¬zs[j+1]<=zs[j]:=by simpa [G,a6]using O
       have bo:decide (zs[j+1]<=zs[j])=false:=by simpa using a7
       go_wp2_with (go_at_call 232;go_call Hz _ _ as e w' ⟨rfl,rfl⟩)
       go_round
       case rel=>exact⟨j+2,by omega,by go_num,H.trans J⟩
       case measure=>simp[intOf];omega
  .have bd:zs.length-k=0:=by omega
   go_wp2;go_ret;exact⟨CM (DE (by rw[al.out,H.out,bd];rfl)).symm,bN⟩
theorem Kz{a b:Int}(h:a=b):Ending.returned (iN a)=.returned (iN b):=by rw[h]
def K5(n b:Int):Bool:=(n / b)%2==1
theorem AV.alloc(h:AV w a zs)(o:Obj):AV (w.alloc o) a zs:=h.below<|(NB _ _).alloc (rP _) _
theorem jL(u g x c:Int)(a:Option Addr)(cap:Nat)(zs:List Int)(w:World)(ad:zs.length<=9223372036854775807)(h:AV w a zs):
 Calls prog 230 #[.agg #[iN u,iN g,.slice a zs.length cap,iN c],iN x] w λe w'=>
  e=.returned (.bool<|Gm g zs x)/\Below w.heap.size w w':=by
 by_cases hx:x=g
 .subst hx
  go_enter func230,ntmps230;go_wp2;go_ret;exact⟨BI<|by simp[Gm],bN⟩
 .have J:(x==g)=false:=by simpa using hx
  go_enter func230,ntmps230;go_wp2;go_loop [14] (λi=>∃k:Nat,k<=zs.length/\i=iN k/\(zs.take k).contains x=false) (λi=>zs.length-(intOf i).toNat)
  case atStart=>exact⟨0,N7 _,rfl,rfl⟩
  case round=>
   obtain⟨k,ak,rfl,H⟩:=hrel;by_cases I:k<zs.length
   .rcases h with rfl|⟨b,al,rfl,O⟩
    .simp at I
    .have Z:=O k I
     have ao:b<w.heap.size:=bL Z;by_cases G:zs[k]=x
     .have ab:(zs[k]==x)=true:=by simpa using G
      go_wp2;go_ret;exact⟨BI<|by simp[Gm,<-G],bN⟩
     .have ab:(zs[k]==x)=false:=by simpa using G
      go_wp2;go_round
      case rel=>exact⟨k+1,by omega,by go_num,WN I H G⟩
      case measure=>simp[intOf];omega
   .go_wp2
    go_ret;rw[R3 oM]at H;exact⟨BI (by simp[Gm,J];simpa using H),bN⟩
theorem Ww(u g c x:Int)(v:Value)(w:World):
 Calls prog 219 #[.agg #[iN u,iN g,v,iN c],iN x] w λe w'=>
  e=.returned (.bool<|bits .and .i64 c x==x)/\Below w.heap.size w w':=by
 go_enter func219,ntmps219;go_wp2;go_ret;exact⟨rfl,bN⟩
def Ld(u:Int)(G:Int)(H:Bool):Bool:=H&&G==u
theorem QU(u g c:Int)(v:Value)(d:Bool)(m H I:Int)(G:Bool)(w:World):
 Calls prog 253 #[.agg #[iN u,iN g,v,iN c],.agg #[.bool d,iN m,iN H,iN I,.bool G]] w λe w'=>
  e=.returned (.bool<|Ld u H G)/\Below w.heap.size w w':=by
 cases G
 .go_enter func253,ntmps253
  go_wp2;go_ret;exact⟨rfl,bN.alloc oS _⟩
 .go_enter func253,ntmps253
  go_wp2;go_ret;exact⟨BI<|by simp[Ld],bN.alloc oS _⟩
def GZ(w:World)(b:Nat)(u g:Int)(v:Value)(c:Int):Prop:=
 w.cell? (aD b 0)=some (iN u)/\w.cell? (aD b 1)=some (iN g)/\w.cell? (aD b 2)=some v/\w.cell? (aD b 3)=some (iN c)/\∀o,w.frozen? (aD b o)=false
theorem GZ.new(w:World)(u g:Int)(v:Value)(c:Int):GZ (w.alloc<|.cells #[iN u,iN g,v,iN c] 41) w.heap.size u g v c:=
 ⟨aC,aC,aC,aC,λ_=>RB _ _ _ _ rfl⟩
theorem GZ.lt(h:GZ w b u g v c):b<w.heap.size:=NF _ _ h.1
theorem GZ.below(h:GZ w b u g v c)(hb:Below w.heap.size w w'):GZ w' b u g v c:=by
 have G:=h.lt;obtain⟨H,I,J,O,Z⟩:=h;exact⟨(hb.cell (p:=(aD b 0)) G).trans H,(hb.cell (p:=(aD b 1)) G).trans I,(hb.cell (p:=(aD b 2)) G).trans J,(hb.cell (p:=(aD b 3)) G).trans O,λo=>(hb.frozen (p:=(aD b o)) G).trans<|Z o⟩
theorem GZ.alloc(h:GZ w b u g v c)(o:Obj):GZ (w.alloc o) b u g v c:=h.below<|(NB _ _).alloc (rP _) _
def FG(w:World)(b:Nat)(d:Bool)(m G H:Int)(I:Bool):Prop:=
 w.cell? (aD b 0)=some (.bool d)/\w.cell? (aD b 1)=some (iN m)/\w.cell? (aD b 2)=some (iN G)/\w.cell? (aD b 3)=some (iN H)/\w.cell? (aD b 4)=some (.bool I)
theorem FG.new(w:World)(B:Nat)(J:B=w.heap.size)(d:Bool)(m G H:Int)(I:Bool):FG (w.alloc<|E6 d m G H I) B d m G H I:=by
 subst J;exact⟨aC,aC,aC,aC,aC⟩
theorem FG.below{d:Bool}{m H I:Int}{J:Bool}(h:FG w b d m H I J)(hb:Below w.heap.size w w'):FG w' b d m H I J:=by
 have G:=bL h.1;obtain⟨O,Z,ab,ad,ak⟩:=h;exact⟨(hb.cell (p:=(aD b 0)) G).trans O,(hb.cell (p:=(aD b 1)) G).trans Z,(hb.cell (p:=(aD b 2)) G).trans ab,(hb.cell (p:=(aD b 3)) G).trans ad,(hb.cell (p:=(aD b 4)) G).trans ak⟩
theorem FG.alloc{d:Bool}{m G H:Int}{I:Bool}(h:FG w b d m G H I)(o:Obj):FG (w.alloc o) b d m G H I:=h.below<|(NB _ _).alloc (rP _) _
theorem OV(w G:World)(u g:Int)(v:Value)(c:Int)(d:Bool)(m H I:Int)(J:Bool)
 (hb:Below ((w.alloc<|.cells #[iN u,iN g,v,iN c] 41).alloc<|E6 d m H I J).heap.size ((w.alloc<|.cells #[iN u,iN g,v,iN c] 41).alloc<|E6 d m H I J) G):
 GZ G w.heap.size u g v c/\FG G (w.heap.size+1) d m H I J/\Below w.heap.size w G:=
 ⟨((GZ.new w u g v c).alloc _).below hb,(FG.new (w.alloc _) _ oS d m H I J).below hb,(bN.alloc oS _).trans<|hb.mono (by simp;omega)⟩
theorem AV.two(h:AV w a zs)(o G:Obj):AV ((w.alloc o).alloc G) a zs:=(h.alloc _).alloc _
def J9(u g:Int)(zs:List Int)(m H I:Int)(G:Bool):Int:=if Ld u H G=true then m / 64 else if(G&&Gm g zs I)=true then m / 8 else m
theorem aV(u g c:Int)(a:Option Addr)(cap:Nat)(zs:List Int)(d:Bool)(m I G:Int)(H:Bool)(w:World)(al:zs.length<=9223372036854775807)(h:AV w a zs)(_hm0:0<=m)(_hm1:m<=4095):
 Calls prog 250 #[Fj u g a zs.length cap c,Gc d m I G H] w λe w'=>
  e=.returned (iN<|J9 u g zs m I G H)/\Below w.heap.size w w':=by
 go_enter func250,ntmps250;go_wp2_with fail
 go_call QU u g c _ d m I G H _ as e w1 ⟨rfl,hb⟩
 obtain⟨ao,ab,O⟩:=OV w w1 u g _ c d m I G H hb;have ap:=(h.two _ _).below hb;obtain⟨ar,aw,az,aA,a1⟩:=id ao;obtain⟨a6,a7,a8,ba,bb⟩:=id ab;obtain⟨t,J⟩:∃t,Ld u I H=t:=⟨_,rfl⟩;have Z:=hid J;rw[J];cases t
 .cases H
  .go_wp2
   go_ret;exact⟨Kz (by unfold J9;rw[NO (by rw[Z.out];decide),NO oS]),O⟩
  .go_wp2_with fail
   go_call jL u g G c a cap zs _ al ap as e w2 ⟨rfl,hb2⟩
   obtain⟨bd,be,bf,bg,bi⟩:=ab.below hb2;have ad:=O.trans<|hb2.mono O.size;obtain⟨t,J⟩:∃t,Gm g zs G=t:=⟨_,rfl⟩;have ak:=hid J;rw[J];cases t
   .go_wp2
    go_ret;exact⟨Kz (by unfold J9;rw[NO (by rw[Z.out];decide),NO (by rw[ak.out];simp)]),ad⟩
   .go_wp2
    go_ret;exact⟨Kz (by unfold J9;rw[NO (by rw[Z.out];decide),NS (by rw[ak.out];rfl)]),ad⟩
 .go_wp2
  go_ret;exact⟨Kz (by unfold J9;rw[NS Z.out]),O⟩
def KS(c:Int)(d:Bool)(m:Int)(G:Bool)(H:Int):Bool:=G&&(bits .and .i64 c 2==2)&&(d||bits .and .i64 H 1==0||bits .and .i64 m 73 !=0)
theorem dM(u g c:Int)(v:Value)(d:Bool)(m Z ab:Int)(J:Bool)(O:Int)(w:World):
 Calls prog 251 #[.agg #[iN u,iN g,v,iN c],Gc d m Z ab J,iN O] w λe w'=>
  e=.returned (.bool<|KS c d m J O)/\Below w.heap.size w w':=by
 cases J
 .go_enter func251,ntmps251
  go_wp2;go_ret;exact⟨rfl,bN.alloc oS _⟩
 .go_enter func251,ntmps251
  go_wp2_with fail
  go_call Ww u g c 2 _ _ as e w1 ⟨rfl,hb⟩
  obtain⟨al,ak,G⟩:=OV w w1 u g _ c d m Z ab true hb;obtain⟨ao,ap,ar,aw,az⟩:=id ak;obtain⟨t,H⟩:∃t,(bits .and .i64 c 2==2)=t:=⟨_,rfl⟩;have I:=hid H;rw[H];cases t
  .go_wp2
   go_ret;exact⟨BI (by unfold KS;rw[I.out];simp),G⟩
  .cases d
   .obtain⟨t,H⟩:∃t,(bits .and .i64 O 1==0)=t:=⟨_,rfl⟩
    have ad:=hid H;cases t
    .go_wp2
     go_ret;exact⟨BI (by unfold KS;rw[I.out,ad.out];simp),G⟩
    .go_wp2
     go_ret;exact⟨BI (by unfold KS;rw[I.out,ad.out];simp),G⟩
   .go_wp2
    go_ret;exact⟨BI (by unfold KS;rw[I.out];simp),G⟩
def KY(u g:Int)(zs:List Int)(c:Int)(d:Bool)(m I J:Int)(H:Bool)(G:Int):Bool:=
 if G<0\/7<G then false else(bits .and .i64 (J9 u g zs m I J H) G==G)||KS c d m H G
theorem kE(u g c:Int)(a:Option Addr)(cap:Nat)(zs:List Int)(d:Bool)(m I J:Int)(H:Bool)(G:Int)(w:World)(ak:zs.length<=9223372036854775807)(h:AV w a zs)(al:0<=m)(ao:m<=4095):
 Calls prog 212 #[Fj u g a zs.length cap c,Gc d m I J H,iN G] w λe w'=>
  e=.returned (.bool<|KY u g zs c d m I J H G)/\Below w.heap.size w w':=by
 by_cases ad:G<0
 .go_enter func212,ntmps212
  go_wp2;go_ret;exact⟨BI (by unfold KY;rw[NS<|.inl ad]),bN.alloc oS _⟩
 have a1:decide (G<0)=false:=by simpa using ad
 by_cases Z:7<G
 .have ap:decide (7<G)=true:=by simpa using Z
  go_enter func212,ntmps212;go_wp2;go_ret;exact⟨BI (by unfold KY;rw[NS<|.inr Z]),bN.alloc oS _⟩
 have ap:decide (7<G)=false:=by simpa using Z
 have O:Hid<|KY u g zs c d m I J H G=((bits .and .i64 (J9 u g zs m I J H) G==G)||KS c d m H G):=by
  show _=_;unfold KY;rw[NO oM]
 go_enter func212,ntmps212;go_wp2_with fail
 go_call aV u g c a cap zs d m I J H _ ak (h.two _ _) al ao as e w1 ⟨rfl,hb⟩
 obtain⟨ar,aw,ab⟩:=OV w w1 u g _ c d m I J H hb;obtain⟨a6,a7,a8,ba,bb⟩:=id ar;obtain⟨bd,be,bf,bg,bi⟩:=id aw;generalize J9 u g zs m I J H=n at O⊢;obtain⟨t,az⟩:∃t,(bits .and .i64 n G==G)=t:=⟨_,rfl⟩;rw[az]at O;cases t
 .go_wp2_with fail
  go_call dM u g c _ d m I J H G _ as e w2 ⟨rfl,hb2⟩
  have aA:=ab.trans<|hb2.mono ab.size;go_wp2;go_ret;exact⟨BI (by rw[O.out];rfl),aA⟩
 .go_wp2
  go_ret;exact⟨BI (by rw[O.out];rfl),ab⟩
def J7(u c:Int)(H:Int)(G:Bool):Bool:=Ld u H G||(G&&bits .and .i64 c 4==4)
theorem VE(u g c:Int)(v:Value)(d:Bool)(m H J:Int)(G:Bool)(w:World):
 Calls prog 214 #[.agg #[iN u,iN g,v,iN c],Gc d m H J G] w λe w'=>
  e=.returned (.bool<|J7 u c H G)/\Below w.heap.size w w':=by
 go_enter func214,ntmps214;go_wp2_with fail
 go_call QU u g c _ d m H J G _ as e w1 ⟨rfl,hb⟩
 obtain⟨ab,ad,I⟩:=OV w w1 u g _ c d m H J G hb;obtain⟨al,ao,ap,ar,aw⟩:=id ab;obtain⟨az,aA,a1,a6,a7⟩:=id ad;obtain⟨t,Z⟩:∃t,Ld u H G=t:=⟨_,rfl⟩;have O:=hid Z;rw[Z];cases t
 .cases G
  .go_wp2
   go_ret;exact⟨BI (by unfold J7;rw[O.out];rfl),I⟩
  .go_wp2_with fail
   go_call Ww u g c 4 _ _ as e w2 ⟨rfl,hb2⟩
   have ak:=I.trans<|hb2.mono I.size;go_wp2;go_ret;exact⟨BI (by unfold J7;rw[O.out];rfl),ak⟩
 .go_wp2
  go_ret;exact⟨BI (by unfold J7;rw[O.out];rfl),I⟩
theorem cZ(w G:World)(u g:Int)(v:Value)(c:Int)(d:Bool)(m H I:Int)(J:Bool)(O:Bool)(Z ab ad:Int)(ak:Bool)
 (hb:Below (((w.alloc<|.cells #[iN u,iN g,v,iN c] 41).alloc<|E6 d m H I J).alloc<|E6 O Z ab ad ak).heap.size (((w.alloc<|.cells #[iN u,iN g,v,iN c] 41).alloc<|E6 d m H I J).alloc<|E6 O Z ab ad ak) G):
 GZ G w.heap.size u g v c/\FG G (w.heap.size+1) d m H I J/\FG G (w.heap.size+2) O Z ab ad ak/\Below w.heap.size w G:=
 ⟨(((GZ.new w u g v c).alloc _).alloc _).below hb,((FG.new (w.alloc _) _ oS d m H I J).alloc _).below hb,(FG.new ((w.alloc _).alloc _) _ oS O Z ab ad ak).below hb,((bN.alloc oS _).alloc (by simp;omega) _).trans<|hb.mono (by simp;omega)⟩
def Ma(u c:Int)(G H:Int)(I:Bool)(J:Int)(O:Bool):Bool:=bits .and .i64 G 512==0||J7 u c J O||Ld u H I
theorem dv(u g c:Int)(v:Value)(ab:Bool)(G J ad:Int)(O:Bool)(d:Bool)(m H ak:Int)(I:Bool)(w:World):
 Calls prog 220 #[.agg #[iN u,iN g,v,iN c],Gc ab G J ad O,Gc d m H ak I] w λe w'=>
  e=.returned (.bool<|Ma u c G J O H I)/\Below w.heap.size w w':=by
 obtain⟨t,Z⟩:∃t,(bits .and .i64 G 512==0)=t:=⟨_,rfl⟩;have al:=hid Z;cases t
 .go_enter func220,ntmps220
  go_wp2_with fail
  go_call VE u g c _ d m H ak I _ as e w1 ⟨rfl,hb⟩
  obtain⟨ar,aw,_,ao⟩:=cZ w w1 u g _ c ab G J ad O d m H ak I hb;obtain⟨aA,a1,a6,a7,a8⟩:=id ar;obtain⟨ba,bb,bd,be,bf⟩:=id aw;obtain⟨t,Z⟩:∃t,J7 u c H I=t:=⟨_,rfl⟩;have ap:=hid Z;rw[Z];cases t
  .go_wp2_with fail
   go_call QU u g c _ ab G J ad O _ as e w2 ⟨rfl,hb2⟩
   have az:=ao.trans<|hb2.mono ao.size;go_wp2;go_ret;exact⟨BI (by unfold Ma;rw[al.out,ap.out];rfl),az⟩
  .go_wp2
   go_ret;exact⟨BI (by unfold Ma;rw[al.out,ap.out];rfl),ao⟩
 .go_enter func220,ntmps220
  go_wp2;go_ret;exact⟨BI (by unfold Ma;rw[al.out];rfl),(bN.alloc oS _).alloc (by simp;omega) _⟩
end Go.Proofs.YtchpdmjlicmdaaaGreatDoor
