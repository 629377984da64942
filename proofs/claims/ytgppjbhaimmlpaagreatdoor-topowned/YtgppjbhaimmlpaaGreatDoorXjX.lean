/-
  TopOwned: Xj Jc Shp Jd Je Xk Xl Xm Xn.
-/
import Derived.Test.YtgppjbhaimmlpaaGreatDoorApX
import Derived.Test.YtgppjbhaimmlpaaGreatDoorUoX
import Derived.Test.YtgppjbhaimmlpaaGreatDoorMaX
import Derived.Deep.QuietTactic
import Derived.BigQuiet
import Derived.Shelf.Strings.Split
import Derived.Test.YtgppjbhaimmlpaaGreatDoorProg
import Derived.Lib.SplitLaws
set_option maxRecDepth 100000
set_option maxHeartbeats 16000000
namespace Go.Proofs.YtgppjbhaimmlpaaGreatDoor
open Go.RowKit Go.Proofs.Tryz
def JE(F:Except Int Fd)(an:Option Addr)(nj:Nat)(nf:List BA):Value:=match F with
 |.ok f=>.tuple #[Fd.v {f with na:=an,nc:=nj,nf:=nf},Am 0]
 |.error E=>.tuple #[Dg.v,Am E]
theorem Jh{G H:World}{n p:Nat}{cs:List Value}(hb:Bw G H):AR (Ag G.cell? (fun k=>k==n)) (H.setCells n p cs).cell?:=fun q v F=>by
 have I:q.block≠n:=fun e=>by
  unfold Ag at F;rw[nC (by simp[e])]at F;cases F
 rw[BM I];exact Aj hb q v (Ci _ _ q v F)
theorem Xn{w:World}{b:Nat}{B:Bx}(h:A5 w b B){an:Option Addr}{nj:Nat}{nf:List BA}(e8:A0 w.cell? an nf)(e9:B.xs.length≤1000)(fy:nf.length≤1000)(fa:DC (BD B.xs))(fb:EZ (BD B.xs))(fA:AP B.xs []≠[])(fB:∀j q r,AP B.xs (nf.take j)=q::r→Eu q.1)(fc:∀j q r,AP B.xs (nf.take j)=q::r→0≤(B.th true q.1).m∧(B.th true q.1).m≤4095):
 Calls prog 114 #[.pointer (some ⟨b,0,none⟩),.slice an nf.length nj] w fun e w'=>(∃L:List Fl,(∃b0,L[0]? =some b0∧e=.returned (JE (B.wk (B.fd b0.x b0.h b0.ly) nf.length (L.drop 1)) an nj nf))∧(∀(j:Nat) f,L[j]? =some f→∃q r,AP B.xs (nf.take j)=q::r∧f.x=q.1.with []∧f.ly=q.2)∧(L.length=nf.length+1∨L.length≤nf.length∧AP B.xs (nf.take L.length)=[])∧∀f∈L,Ah w'.cell? f.x f.h)∧Bw w w':=by
 have eB:=A6.new w _ rfl CB 86;have d0:Bw w (w.alloc AF):=(nt _ _).alloc (nl _) _;have fd:∀q,(w.alloc AF).frozen? ⟨w.heap.size,q,none⟩=false:=fun q=>nP _ _ _ _ rfl;have fe:∀o,(w.alloc AF).cell? ⟨w.heap.size,o,none⟩=CB[o]?:=fun o=>by rw[nk _ _ _ _ rfl];simp
 have d1:=h.below d0;have ff:Hid _:=Qv (w:=(w.alloc AF)) (S:=fun _=>false) (cap:=B.lc) (nj:=nj) (fun _ fC=>by cases fC) (by rw[C4];exact d1.lay) (by rw[C4];exact e8.on (Aj d0)) e9 fy fa fb;have c2:=d1.cells.2.2.1;have eE:Hid _:=d0;have fD:Hid _:=d1;clear h d0 d1 e8 e9 fa fb;go_enter func114,ntmps114;go_upto_region 1 with fail
 generalize(w.alloc AF)=fE at*;go_wp2_with fail
 refine nn ff.out ?_;rintro e H ⟨⟨vn,vf,L,rfl,fg,c6,d2⟩,cr⟩;have eF:L≠[]:=fun e=>by
  subst e;rcases d2 with q|q
  ·simp at q
  ·exact fA q.2
 obtain⟨g,be,cn,f2,cf,f3,f4⟩:=JF.of fg eF;obtain⟨b0,b6⟩:∃b0,L[0]? =some b0:=⟨_,np (by cases L;exact absurd rfl eF;simp)⟩;have fh:∀f∈L,Eu f.x:=fun f b7=>by
  obtain⟨j,fF⟩:=n5 b7;obtain⟨q,r,de,dg,_⟩:=c6 j f fF;rw[dg];have:=fB j q r de;generalize q.1=x at this⊢;obtain⟨k,m,u,g,o,nh,d,ks⟩:=x;exact this
 have bF:=cf.nd 0 b0 b6;have cg:=cf.ly 0 b0 b6;obtain rfl:=cf.en;obtain rfl:=cf.ef;have d3:=fh b0 (nD b6);obtain⟨c8,hx,a8⟩:=b0;dsimp only at bF cg d3;obtain⟨k,m,u,ba,o,nh,d,ks⟩:=c8;obtain⟨d4,d5,d6,d7,d8,d9,ea,eb⟩:=bF;rw[r3]at d4 d5 d6 d7 d8 d9 ea eb;rw[nT]at d5 d6 d7 d8 d9 ea eb;have a1:g≠H.heap.size:=fun e=>by have:=ny _ _ d4;simp only at this;omega
 have ec:be≠H.heap.size:=fun e=>by have:=ny _ _ cg;simp only at this;omega
 have fG:0<L.length:=ri.2 eF;have fH:(0:Int)<(L.length:Int):=by omega
 obtain⟨R,dj⟩:∃R:List Value,kb (Fd.l (B.fd (.mk k m u ba o nh d ks) hx a8)) R:=⟨_,rfl⟩;have a6:R.length=21:=by rw[←(show _=_ from dj)];rfl
 have bG:Hid (R.length=21):=a6;have c9:Hid (∀v∈R,v.oneCell'=true):=by
  show∀v∈R,_;rw[←(show _=_ from dj)];simp[Value.oneCell',Fd.l,Bx.fd,Bi,JC]
 have b9:=BT R;unfold Value.cells at b9;have b1:Hid ((B.fd (.mk k m u ba o nh d ks) hx a8).v=BK R):=by show _=_;unfold Fd.v BK;rw[show _=_ from dj]
 have ed:=fD.out.below cr;have eG:Hid _:=NR (x:=.mk k m u ba o nh d ks) (hx:=hx) (ed.below (nt _ _).drew) d3 a8;have eH:Hid _:=NR (x:=.mk k m u ba o nh d ks) (hx:=hx) ((ed.below (Bq H AF)).below (nt _ _).drew) d3 a8;rw[b1.out]at eH eG;have da:Hid _:=eE.out.trans (cr.mono eE.out.size);have eI:=eB.below cr;have eJ:w.heap.size<fE.heap.size:=ny _ _ (eB 0 _ rfl);have fi:=cr;have eK:w.heap.size<H.heap.size:=nG eJ cr.size;have eL:∀q,H.frozen? ⟨w.heap.size,q,none⟩=false:=fun q=>(cr.frozen (p:=⟨w.heap.size,q,none⟩) eJ).trans (fd q)
 have eM:Hid (∀f∈L,Ah (Ag H.cell? (fun k=>k==w.heap.size)) f.x f.h):=fun f b7=>GY (fun fI fJ=>by
  have e:fI=w.heap.size:=by simpa using fJ
  subst e;exact Lh fun q=>(fi.cell (p:=⟨w.heap.size,q,none⟩) eJ).trans (fe q)) ((fg.nd f b7).on (Ci _ _))
 clear ff cr b1 eB fd c2 eE fi fe;have T:H.drew.cell? ⟨g,0,none⟩=some (.int .i64 k)∧H.drew.cell? ⟨g,1,none⟩=some (.int .i64 m)∧H.drew.cell? ⟨g,2,none⟩=some (.int .i64 u)∧H.drew.cell? ⟨g,3,none⟩=some (.int .i64 ba)∧H.drew.cell? ⟨g,4,none⟩=some (.bool o)∧H.drew.cell? ⟨g,5,none⟩=some (.slice hx.aa nh.length hx.ca)∧H.drew.cell? ⟨g,6,none⟩=some (.string d)∧H.drew.cell? ⟨g,7,none⟩=some (.slice hx.ak ks.length hx.ck)∧H.drew.cell? ⟨be,0,none⟩=some (.int .i64 a8):=⟨d4,d5,d6,d7,d8,d9,ea,eb,cg⟩;have ap:(H.alloc AF).drew.cell? ⟨g,0,none⟩=some (.int .i64 k)∧(H.alloc AF).drew.cell? ⟨g,1,none⟩=some (.int .i64 m)∧(H.alloc AF).drew.cell? ⟨g,2,none⟩=some (.int .i64 u)∧(H.alloc AF).drew.cell? ⟨g,3,none⟩=some (.int .i64 ba)∧(H.alloc AF).drew.cell? ⟨g,4,none⟩=some (.bool o)∧(H.alloc AF).drew.cell? ⟨g,5,none⟩=some (.slice hx.aa nh.length hx.ca)∧(H.alloc AF).drew.cell? ⟨g,6,none⟩=some (.string d)∧(H.alloc AF).drew.cell? ⟨g,7,none⟩=some (.slice hx.ak ks.length hx.ck)∧(H.alloc AF).drew.cell? ⟨be,0,none⟩=some (.int .i64 a8):=⟨Ad ((Bq H _).drew) T.1,Ad ((Bq H _).drew) T.2.1,Ad ((Bq H _).drew) T.2.2.1,Ad ((Bq H _).drew) T.2.2.2.1,Ad ((Bq H _).drew) T.2.2.2.2.1,Ad ((Bq H _).drew) T.2.2.2.2.2.1,Ad ((Bq H _).drew) T.2.2.2.2.2.2.1,Ad ((Bq H _).drew) T.2.2.2.2.2.2.2.1,Ad ((Bq H _).drew) T.2.2.2.2.2.2.2.2⟩;clear d4 d5 d6 d7 d8 d9 ea eb cg;have db:=A6.new H _ rfl CB 86;have db:A6 (H.alloc AF).drew H.heap.size 0 _:=fun i v eN=>db i v eN;have eO:∀q,(H.alloc AF).drew.frozen? ⟨H.heap.size,q,none⟩=false:=fun q=>nP _ _ _ _ rfl
 have eP:H.heap.size<(H.alloc AF).drew.heap.size:=ny _ _ (db 0 _ rfl);go_upto_region 2 with fail
 go_region_held3 (fun w'=>w'.cell? ⟨g,0,none⟩=some (.int .i64 k)∧w'.cell? ⟨g,1,none⟩=some (.int .i64 m)∧w'.cell? ⟨g,2,none⟩=some (.int .i64 u)∧w'.cell? ⟨g,3,none⟩=some (.int .i64 ba)∧w'.cell? ⟨g,4,none⟩=some (.bool o)∧w'.cell? ⟨g,5,none⟩=some (.slice hx.aa nh.length hx.ca)∧w'.cell? ⟨g,6,none⟩=some (.string d)∧w'.cell? ⟨g,7,none⟩=some (.slice hx.ak ks.length hx.ck)∧w'.cell? ⟨be,0,none⟩=some (.int .i64 a8)) (first|with_reducible exact T|with_reducible exact ap|with_reducible exact ad|with_reducible exact bY|with_reducible exact fj)
  (first|(go_at_call 149;refine nn eH.out ?_;rintro e F ⟨rfl,O⟩;have ad:F.cell? ⟨g,0,none⟩=some (.int .i64 k)∧F.cell? ⟨g,1,none⟩=some (.int .i64 m)∧F.cell? ⟨g,2,none⟩=some (.int .i64 u)∧F.cell? ⟨g,3,none⟩=some (.int .i64 ba)∧F.cell? ⟨g,4,none⟩=some (.bool o)∧F.cell? ⟨g,5,none⟩=some (.slice hx.aa nh.length hx.ca)∧F.cell? ⟨g,6,none⟩=some (.string d)∧F.cell? ⟨g,7,none⟩=some (.slice hx.ak ks.length hx.ck)∧F.cell? ⟨be,0,none⟩=some (.int .i64 a8):=⟨Ad O ap.1,Ad O ap.2.1,Ad O ap.2.2.1,Ad O ap.2.2.2.1,Ad O ap.2.2.2.2.1,Ad O ap.2.2.2.2.2.1,Ad O ap.2.2.2.2.2.2.1,Ad O ap.2.2.2.2.2.2.2.1,Ad O ap.2.2.2.2.2.2.2.2⟩;have bY:(F.setCells H.heap.size 0 R).cell? ⟨g,0,none⟩=some (.int .i64 k)∧(F.setCells H.heap.size 0 R).cell? ⟨g,1,none⟩=some (.int .i64 m)∧(F.setCells H.heap.size 0 R).cell? ⟨g,2,none⟩=some (.int .i64 u)∧(F.setCells H.heap.size 0 R).cell? ⟨g,3,none⟩=some (.int .i64 ba)∧(F.setCells H.heap.size 0 R).cell? ⟨g,4,none⟩=some (.bool o)∧(F.setCells H.heap.size 0 R).cell? ⟨g,5,none⟩=some (.slice hx.aa nh.length hx.ca)∧(F.setCells H.heap.size 0 R).cell? ⟨g,6,none⟩=some (.string d)∧(F.setCells H.heap.size 0 R).cell? ⟨g,7,none⟩=some (.slice hx.ak ks.length hx.ck)∧(F.setCells H.heap.size 0 R).cell? ⟨be,0,none⟩=some (.int .i64 a8):=⟨(BM a1).trans ad.1,(BM a1).trans ad.2.1,(BM a1).trans ad.2.2.1,(BM a1).trans ad.2.2.2.1,(BM a1).trans ad.2.2.2.2.1,(BM a1).trans ad.2.2.2.2.2.1,(BM a1).trans ad.2.2.2.2.2.2.1,(BM a1).trans ad.2.2.2.2.2.2.2.1,(BM ec).trans ad.2.2.2.2.2.2.2.2⟩;have bv:=Cd (P:=prog) (db.below O) (fun q=>(O.frozen (p:=⟨H.heap.size,q,none⟩) eP).trans (eO q)) bG.out.symm c9.out)|(go_at_call 149;refine nn eG.out ?_;rintro e F ⟨rfl,O⟩;have ad:F.cell? ⟨g,0,none⟩=some (.int .i64 k)∧F.cell? ⟨g,1,none⟩=some (.int .i64 m)∧F.cell? ⟨g,2,none⟩=some (.int .i64 u)∧F.cell? ⟨g,3,none⟩=some (.int .i64 ba)∧F.cell? ⟨g,4,none⟩=some (.bool o)∧F.cell? ⟨g,5,none⟩=some (.slice hx.aa nh.length hx.ca)∧F.cell? ⟨g,6,none⟩=some (.string d)∧F.cell? ⟨g,7,none⟩=some (.slice hx.ak ks.length hx.ck)∧F.cell? ⟨be,0,none⟩=some (.int .i64 a8):=⟨Ad O T.1,Ad O T.2.1,Ad O T.2.2.1,Ad O T.2.2.2.1,Ad O T.2.2.2.2.1,Ad O T.2.2.2.2.2.1,Ad O T.2.2.2.2.2.2.1,Ad O T.2.2.2.2.2.2.2.1,Ad O T.2.2.2.2.2.2.2.2⟩;have bY:(F.alloc AF).cell? ⟨g,0,none⟩=some (.int .i64 k)∧(F.alloc AF).cell? ⟨g,1,none⟩=some (.int .i64 m)∧(F.alloc AF).cell? ⟨g,2,none⟩=some (.int .i64 u)∧(F.alloc AF).cell? ⟨g,3,none⟩=some (.int .i64 ba)∧(F.alloc AF).cell? ⟨g,4,none⟩=some (.bool o)∧(F.alloc AF).cell? ⟨g,5,none⟩=some (.slice hx.aa nh.length hx.ca)∧(F.alloc AF).cell? ⟨g,6,none⟩=some (.string d)∧(F.alloc AF).cell? ⟨g,7,none⟩=some (.slice hx.ak ks.length hx.ck)∧(F.alloc AF).cell? ⟨be,0,none⟩=some (.int .i64 a8):=⟨Ad (Bq F _) ad.1,Ad (Bq F _) ad.2.1,Ad (Bq F _) ad.2.2.1,Ad (Bq F _) ad.2.2.2.1,Ad (Bq F _) ad.2.2.2.2.1,Ad (Bq F _) ad.2.2.2.2.2.1,Ad (Bq F _) ad.2.2.2.2.2.2.1,Ad (Bq F _) ad.2.2.2.2.2.2.2.1,Ad (Bq F _) ad.2.2.2.2.2.2.2.2⟩;have ch:g≠F.heap.size:=fun e=>(by have:=ny _ _ ad.1;simp only at this;omega);have fK:be≠F.heap.size:=fun e=>(by have:=ny _ _ (ad.2.2.2.2.2.2.2.2);simp only at this;omega);have fj:((F.alloc AF).setCells F.heap.size 0 R).cell? ⟨g,0,none⟩=some (.int .i64 k)∧((F.alloc AF).setCells F.heap.size 0 R).cell? ⟨g,1,none⟩=some (.int .i64 m)∧((F.alloc AF).setCells F.heap.size 0 R).cell? ⟨g,2,none⟩=some (.int .i64 u)∧((F.alloc AF).setCells F.heap.size 0 R).cell? ⟨g,3,none⟩=some (.int .i64 ba)∧((F.alloc AF).setCells F.heap.size 0 R).cell? ⟨g,4,none⟩=some (.bool o)∧((F.alloc AF).setCells F.heap.size 0 R).cell? ⟨g,5,none⟩=some (.slice hx.aa nh.length hx.ca)∧((F.alloc AF).setCells F.heap.size 0 R).cell? ⟨g,6,none⟩=some (.string d)∧((F.alloc AF).setCells F.heap.size 0 R).cell? ⟨g,7,none⟩=some (.slice hx.ak ks.length hx.ck)∧((F.alloc AF).setCells F.heap.size 0 R).cell? ⟨be,0,none⟩=some (.int .i64 a8):=⟨(BM ch).trans bY.1,(BM ch).trans bY.2.1,(BM ch).trans bY.2.2.1,(BM ch).trans bY.2.2.2.1,(BM ch).trans bY.2.2.2.2.1,(BM ch).trans bY.2.2.2.2.2.1,(BM ch).trans bY.2.2.2.2.2.2.1,(BM ch).trans bY.2.2.2.2.2.2.2.1,(BM fK).trans bY.2.2.2.2.2.2.2.2⟩;have bv:=Cd (P:=prog) (A6.new F _ rfl CB 86) (fun q=>nP _ _ _ _ rfl) bG.out.symm c9.out))
 all_goals
  first
   |(have dk:Hid _:=CP (b:=H.heap.size) (p:=0) R (nl _) (((Bq H AF).drew).trans (O.mono ((Bq H AF).drew).size))
     have cu:Hid _:=C5 R (db.below O) bG.out.symm;have cx:∀q,(F.setCells H.heap.size 0 R).frozen? ⟨H.heap.size,q,none⟩=false:=fun q=>by rw[rl];exact(O.frozen (p:=⟨H.heap.size,q,none⟩) eP).trans (eO q)
     generalize F.setCells H.heap.size 0 R=fl at dk cu cx⊢;obtain⟨J,dm⟩:∃J,J=H.heap.size:=⟨_,rfl⟩;have ee:H.heap.size≤J:=by omega
     rw[←dm]at cu cx⊢;clear dm)
   |(have eQ:H.heap.size≤F.heap.size:=O.size
     have dk:Hid _:=CP (b:=F.heap.size) (p:=0) R eQ (((nt _ H).drew.trans O).alloc eQ AF);have cu:Hid _:=C5 R (A6.new F _ rfl CB 86) bG.out.symm;have cx:∀q,((F.alloc AF).setCells F.heap.size 0 R).frozen? ⟨F.heap.size,q,none⟩=false:=fun q=>by rw[rl];exact nP _ _ _ _ rfl
     generalize(F.alloc AF).setCells F.heap.size 0 R=fl at dk cu cx⊢;obtain⟨J,dm⟩:∃J,J=F.heap.size:=⟨_,rfl⟩;have ee:H.heap.size≤J:=by omega
     rw[←dm]at cu cx⊢;clear dm eQ)
  try clear fj
  clear T ap ad bY bv O eH eG db eO eP b9 a6 a1 ec fG fH;obtain⟨eR,ef⟩:∃fL,Hid (B.wk (B.fd (.mk k m u ba o nh d ks) hx a8) nf.length (L.drop 1)=fL):=⟨_,rfl⟩;have fm:Hid (A6 fl J 0 (B.fd (.mk k m u ba o nh d ks) hx a8).l):=by rw[show _=_ from dj];exact cu.out
  have fo:Hid (0≤(B.fd (.mk k m u ba o nh d ks) hx a8).t.m∧(B.fd (.mk k m u ba o nh d ks) hx a8).t.m≤4095):=by
   obtain⟨q,r,de,dg,_⟩:=c6 0 _ b6;have:=fc 0 q r de;obtain⟨⟨fM,fN,fO,fP,fQ,fR,fS,fT⟩,fU⟩:=q;cases dg;exact this
  have fp:Hid _:=cx;clear cu dj bG c9 cx d3;go_wp2_with fail
  go_loopw [33] (fun i wr=>∃(G:Nat) (f:Fd),G≤nf.length∧i=.int .i64 G∧Hid (B.wk f (nf.length-G) (L.drop (G+1))=eR)∧Hid (A6 wr J 0 f.l)∧Hid (Bw H wr)∧Hid (∀q,wr.frozen? ⟨J,q,none⟩=false)∧Hid (0≤f.t.m∧f.t.m≤4095)) (fun i _=>nf.length-(intOf i).toNat)
  case atStart=>exact⟨0,_,nM _,rfl,ef,fm,dk,fp,fo⟩
  case round=>
   obtain⟨G,f,f5,rfl,cA,cb,eg,eS,fV⟩:=hrel;clear fm fo fp dk;by_cases f7:G<nf.length
   ·have hd:decide ((G:Int)<(nf.length:Int))=true:=nE (by omega)
    obtain⟨⟨V,Y,Z,tg,aa⟩,ej,na,nc,ek,el,c8,em,en⟩:=f;have t0:wr.cell? ⟨J,0,none⟩=some (.bool V):=cb.out 0 _ rfl;have eo:wr.cell? ⟨J,1,none⟩=some (.int .i64 Y):=cb.out 1 _ rfl;have ep:wr.cell? ⟨J,2,none⟩=some (.int .i64 Z):=cb.out 2 _ rfl;have t3:wr.cell? ⟨J,3,none⟩=some (.int .i64 tg):=cb.out 3 _ rfl;have t4:wr.cell? ⟨J,4,none⟩=some (.bool aa):=cb.out 4 _ rfl;have fq:Hid _:=Yn (w:=wr) (ed.below eg.out) ⟨V,Y,Z,tg,aa⟩ fV.out;obtain⟨E,dn⟩:∃E,Hid (B.passE ⟨V,Y,Z,tg,aa⟩=E):=⟨_,rfl⟩;rw[dn.out]at fq;obtain⟨n,eq⟩:∃n,nf.length-G=n+1:=⟨nf.length-G-1,by omega⟩;go_wp2_with fail
    refine nn fq.out ?_;rintro e a7 ⟨rfl,er⟩;have ak:=eg.out.trans (er.mono eg.out.size);have bH:=cb.out.below er;by_cases es:E=0
    ·subst es
     rw[show Am 0=Value.nilIface from rfl];have fs:J<a7.heap.size:=ny _ _ (bH 0 _ rfl);have ft:J<wr.heap.size:=ny _ _ (cb.out 0 _ rfl);have cl:=A6.new a7 _ rfl CB 86;have b4:Bw a7 (a7.alloc AF):=Bq a7 _;have co:∀q,(a7.alloc AF).frozen? ⟨a7.heap.size,q,none⟩=false:=fun q=>nP _ _ _ _ rfl;have dp:a7.heap.size≤a7.heap.size:=nl _
     have f8:IntKind.i64.wrap ((G:Int)+1)=(G:Int)+1:=Ez (by omega) (by omega);have f9:((G:Int)+1).toNat=G+1:=by omega
     go_upto_region 10 with fail
     generalize(a7.alloc AF)=bf at cl b4 co⊢;obtain⟨I,fu⟩:∃I,I=a7.heap.size:=⟨_,rfl⟩;rw[←fu]at cl co dp⊢;have dp:a7.heap.size≤I:=by omega
     clear fu;by_cases eT:G+1<L.length
     ·have fW:decide ((G:Int)+1<(L.length:Int))=true:=nE (by omega)
      obtain⟨cB,dd⟩:∃cB,L[G+1]? =some cB:=⟨_,np eT⟩;have dr:L.drop (G+1)=cB::L.drop (G+1+1):=by
       rw[nN eT];rw[np eT]at dd;cases dd;rfl
      have eu:=ak.trans (b4.mono ak.size);have bF:=(cf.below eu).nd (G+1) cB dd;have cg:=(cf.below eu).ly (G+1) cB dd;have fv:=fh cB (nD dd);obtain⟨fX,ab,bg⟩:=cB;dsimp only at bF cg fv;obtain⟨bi,bk,bl,bn,bo,bp,bs,bu⟩:=fX;have eU:Hid (0≤(B.fd (.mk bi bk bl bn bo bp bs bu) ab bg).t.m∧(B.fd (.mk bi bk bl bn bo bp bs bu) ab bg).t.m≤4095):=by
       obtain⟨q,r,de,dg,_⟩:=c6 _ _ dd;have:=fc _ q r de;obtain⟨⟨fM,fN,fO,fP,fQ,fR,fS,fT⟩,fU⟩:=q;cases dg;exact this
      have a1:g≠I:=fun e=>by have:=ny _ _ (cf.nd 0 _ b6).1;simp only at this;have:=ak.size;omega
      have ec:be≠I:=fun e=>by have:=ny _ _ (cf.ly 0 _ b6);simp only at this;have:=ak.size;omega
      have T:bf.drew.cell? ⟨g,(G+1)*8,none⟩=some (.int .i64 bi)∧bf.drew.cell? ⟨g,(G+1)*8+1,none⟩=some (.int .i64 bk)∧bf.drew.cell? ⟨g,(G+1)*8+2,none⟩=some (.int .i64 bl)∧bf.drew.cell? ⟨g,(G+1)*8+3,none⟩=some (.int .i64 bn)∧bf.drew.cell? ⟨g,(G+1)*8+4,none⟩=some (.bool bo)∧bf.drew.cell? ⟨g,(G+1)*8+5,none⟩=some (.slice ab.aa bp.length ab.ca)∧bf.drew.cell? ⟨g,(G+1)*8+6,none⟩=some (.string bs)∧bf.drew.cell? ⟨g,(G+1)*8+7,none⟩=some (.slice ab.ak bu.length ab.ck)∧bf.drew.cell? ⟨be,G+1,none⟩=some (.int .i64 bg):=⟨bF.1,bF.2.1,bF.2.2.1,bF.2.2.2.1,bF.2.2.2.2.1,bF.2.2.2.2.2.1,bF.2.2.2.2.2.2.1,bF.2.2.2.2.2.2.2,cg⟩;clear bF cg;obtain⟨az,ds⟩:∃az:List Value,kb (Fd.l (B.fd (.mk bi bk bl bn bo bp bs bu) ab bg)) az:=⟨_,rfl⟩;have a6:az.length=21:=by rw[←(show _=_ from ds)];exact DW _
      have bG:Hid (az.length=21):=a6;have c9:Hid (∀v∈az,v.oneCell'=true):=by show∀v∈az,_;rw[←(show _=_ from ds)];exact Ej _
      have b9:=BT az;unfold Value.cells at b9;have b1:Hid ((B.fd (.mk bi bk bl bn bo bp bs bu) ab bg).v=BK az):=by show _=_;unfold Fd.v BK;rw[show _=_ from ds]
      have eV:Hid _:=NR (x:=.mk bi bk bl bn bo bp bs bu) (hx:=ab) ((ed.below eu).below (nt _ _).drew) fv bg;rw[b1.out]at eV;have ev:A6 bf.drew I 0 _:=fun i v eN=>cl i v eN;have eW:∀q,bf.drew.frozen? ⟨I,q,none⟩=false:=fun q=>co q
      have eX:I<bf.drew.heap.size:=ny _ _ (ev 0 _ rfl);have ga:(G:Int)+1<(L.length:Int):=by omega
      have gb:(0:Int)≤(G:Int)+1:=by omega
      clear b1 cl co;go_upto_region 12 with fail
      go_region_held3 (fun w'=>w'.cell? ⟨g,(G+1)*8,none⟩=some (.int .i64 bi)∧w'.cell? ⟨g,(G+1)*8+1,none⟩=some (.int .i64 bk)∧w'.cell? ⟨g,(G+1)*8+2,none⟩=some (.int .i64 bl)∧w'.cell? ⟨g,(G+1)*8+3,none⟩=some (.int .i64 bn)∧w'.cell? ⟨g,(G+1)*8+4,none⟩=some (.bool bo)∧w'.cell? ⟨g,(G+1)*8+5,none⟩=some (.slice ab.aa bp.length ab.ca)∧w'.cell? ⟨g,(G+1)*8+6,none⟩=some (.string bs)∧w'.cell? ⟨g,(G+1)*8+7,none⟩=some (.slice ab.ak bu.length ab.ck)∧w'.cell? ⟨be,G+1,none⟩=some (.int .i64 bg)) (first|with_reducible exact T|with_reducible exact ap|with_reducible exact ad) (first|(go_at_call 149;refine nn eV.out ?_;rintro e F ⟨rfl,O⟩;have ap:F.cell? ⟨g,(G+1)*8,none⟩=some (.int .i64 bi)∧F.cell? ⟨g,(G+1)*8+1,none⟩=some (.int .i64 bk)∧F.cell? ⟨g,(G+1)*8+2,none⟩=some (.int .i64 bl)∧F.cell? ⟨g,(G+1)*8+3,none⟩=some (.int .i64 bn)∧F.cell? ⟨g,(G+1)*8+4,none⟩=some (.bool bo)∧F.cell? ⟨g,(G+1)*8+5,none⟩=some (.slice ab.aa bp.length ab.ca)∧F.cell? ⟨g,(G+1)*8+6,none⟩=some (.string bs)∧F.cell? ⟨g,(G+1)*8+7,none⟩=some (.slice ab.ak bu.length ab.ck)∧F.cell? ⟨be,G+1,none⟩=some (.int .i64 bg):=⟨Ad O T.1,Ad O T.2.1,Ad O T.2.2.1,Ad O T.2.2.2.1,Ad O T.2.2.2.2.1,Ad O T.2.2.2.2.2.1,Ad O T.2.2.2.2.2.2.1,Ad O T.2.2.2.2.2.2.2.1,Ad O T.2.2.2.2.2.2.2.2⟩;have ad:(F.setCells I 0 az).cell? ⟨g,(G+1)*8,none⟩=some (.int .i64 bi)∧(F.setCells I 0 az).cell? ⟨g,(G+1)*8+1,none⟩=some (.int .i64 bk)∧(F.setCells I 0 az).cell? ⟨g,(G+1)*8+2,none⟩=some (.int .i64 bl)∧(F.setCells I 0 az).cell? ⟨g,(G+1)*8+3,none⟩=some (.int .i64 bn)∧(F.setCells I 0 az).cell? ⟨g,(G+1)*8+4,none⟩=some (.bool bo)∧(F.setCells I 0 az).cell? ⟨g,(G+1)*8+5,none⟩=some (.slice ab.aa bp.length ab.ca)∧(F.setCells I 0 az).cell? ⟨g,(G+1)*8+6,none⟩=some (.string bs)∧(F.setCells I 0 az).cell? ⟨g,(G+1)*8+7,none⟩=some (.slice ab.ak bu.length ab.ck)∧(F.setCells I 0 az).cell? ⟨be,G+1,none⟩=some (.int .i64 bg):=⟨(BM a1).trans ap.1,(BM a1).trans ap.2.1,(BM a1).trans ap.2.2.1,(BM a1).trans ap.2.2.2.1,(BM a1).trans ap.2.2.2.2.1,(BM a1).trans ap.2.2.2.2.2.1,(BM a1).trans ap.2.2.2.2.2.2.1,(BM a1).trans ap.2.2.2.2.2.2.2.1,(BM ec).trans ap.2.2.2.2.2.2.2.2⟩;have bv:=Cd (P:=prog) (ev.below O) (fun q=>(O.frozen (p:=⟨I,q,none⟩) eX).trans (eW q)) bG.out.symm c9.out))
      have bb:Hid _:=C5 az (ev.below O) bG.out.symm;have bx:Bw a7 (F.setCells I 0 az):=CP az dp (b4.drew.trans (O.mono b4.drew.size));have bA:Hid (∀q,(F.setCells I 0 az).frozen? ⟨I,q,none⟩=false):=fun q=>by rw[rl];exact(O.frozen (p:=⟨I,q,none⟩) eX).trans (eW q)
      generalize F.setCells I 0 az=Q at bb bx bA⊢;have bb:Hid (A6 Q I 0 (B.fd (.mk bi bk bl bn bo bp bs bu) ab bg).l):=by rw[show _=_ from ds];exact bb.out
      have eY:Hid (B.wk {(B.fd (.mk bi bk bl bn bo bp bs bu) ab bg)with dir:=⟨V,Y,Z,tg,aa⟩} (nf.length-(G+1)) (L.drop (G+1+1))=eR):=by
       show _=_;rw[←cA.out,eq,dr,NV (f:=⟨⟨V,Y,Z,tg,aa⟩,ej,na,nc,ek,el,c8,em,en⟩) dn.out,show nf.length-(G+1)=n by omega]
      clear T ap ad bv O ev eW eX eV b9 a6 bG c9 ds cA b4 eu dr;obtain⟨t0,eo,ep,t3,t4⟩:Q.cell? ⟨J,0,none⟩=some (.bool V)∧Q.cell? ⟨J,1,none⟩=some (.int .i64 Y)∧Q.cell? ⟨J,2,none⟩=some (.int .i64 Z)∧Q.cell? ⟨J,3,none⟩=some (.int .i64 tg)∧Q.cell? ⟨J,4,none⟩=some (.bool aa):=⟨Ad bx (bH 0 _ rfl),Ad bx (bH 1 _ rfl),Ad bx (bH 2 _ rfl),Ad bx (bH 3 _ rfl),Ad bx (bH 4 _ rfl)⟩;obtain⟨z0,eZ,e0,z3,z4⟩:Q.cell? ⟨I,5,none⟩=some (.bool false)∧Q.cell? ⟨I,6,none⟩=some (.int .i64 0)∧Q.cell? ⟨I,7,none⟩=some (.int .i64 0)∧Q.cell? ⟨I,8,none⟩=some (.int .i64 0)∧Q.cell? ⟨I,9,none⟩=some (.bool false):=⟨bb.out 5 _ rfl,bb.out 6 _ rfl,bb.out 7 _ rfl,bb.out 8 _ rfl,bb.out 9 _ rfl⟩;have e1:=bA.out 5;have e2:=bA.out 6;have e3:=bA.out 7;have e4:=bA.out 8;have e5:=bA.out 9;go_upto_region 16 with fail
      obtain⟨cs,ao⟩:∃cs:List Value,kb (Fd.l {(B.fd (.mk bi bk bl bn bo bp bs bu) ab bg)with dir:=⟨V,Y,Z,tg,aa⟩}) cs:=⟨_,rfl⟩;have a6:cs.length=21:=by rw[←(show _=_ from ao)];exact DW _
      have bB:∀v∈cs,v.oneCell'=true:=by rw[←(show _=_ from ao)];exact Ej _
      have c3:A6 (Q.setCells I 5 [.bool V,.int .i64 Y,.int .i64 Z,.int .i64 tg,.bool aa]) I 0 cs:=by
       rw[←(show _=_ from ao)];exact TG (f:=(B.fd (.mk bi bk bl bn bo bp bs bu) ab bg)) ⟨V,Y,Z,tg,aa⟩ bb.out
      have b2:Bw a7 (Q.setCells I 5 [.bool V,.int .i64 Y,.int .i64 Z,.int .i64 tg,.bool aa]):=CP _ dp bx;have du:∀q,(Q.setCells I 5 [.bool V,.int .i64 Y,.int .i64 Z,.int .i64 tg,.bool aa]).frozen? ⟨I,q,none⟩=false:=fun q=>by rw[rl];exact bA.out q
      have cp:(((((Q.setCell ⟨I,5,none⟩ (.bool V)).setCell ⟨I,6,none⟩ (.int .i64 Y)).setCell ⟨I,7,none⟩ (.int .i64 Z)).setCell ⟨I,8,none⟩ (.int .i64 tg)).setCell ⟨I,9,none⟩ (.bool aa))=Q.setCells I 5 [.bool V,.int .i64 Y,.int .i64 Z,.int .i64 tg,.bool aa]:=rfl;rw[cp];clear cp t0 eo ep t3 t4 z0 eZ e0 z3 z4 e1 e2 e3 e4 e5;generalize Q.setCells I 5 [.bool V,.int .i64 Y,.int .i64 Z,.int .i64 tg,.bool aa]=b5 at c3 b2 du⊢;have c4:=bH.below b2;have dw:∀q,b5.frozen? ⟨J,q,none⟩=false:=fun q=>(b2.frozen (p:=⟨J,q,none⟩) fs).trans ((er.frozen (p:=⟨J,q,none⟩) ft).trans (eS.out q));refine rU ?_
      refine wpList_load_mid rfl _ _ rfl _ _ rfl cs _ c3 rfl rfl (by rw[a6];rfl) ?_;simp only[tk];have bv:=Cd (P:=prog) c4 dw (by rw[a6];exact DW _) bB;have bd:Hid _:=C5 cs c4 (by rw[a6];exact DW _);have bC:Hid _:=CP (b:=J) (p:=0) cs ee (ak.trans (b2.mono ak.size));have dx:Hid (∀q,(b5.setCells J 0 cs).frozen? ⟨J,q,none⟩=false):=fun q=>by rw[rl];exact dw q
      generalize b5.setCells J 0 cs=e6 at bv bd bC dx;have e7:Hid (A6 e6 J 0 (Fd.l {(B.fd (.mk bi bk bl bn bo bp bs bu) ab bg)with dir:=⟨V,Y,Z,tg,aa⟩})):=by rw[show _=_ from ao];exact bd.out
      clear c4 c3 b2 du bB bd;go_wp2;go_roundw
      case rel=>exact⟨G+1,{(B.fd (.mk bi bk bl bn bo bp bs bu) ab bg)with dir:=⟨V,Y,Z,tg,aa⟩},by omega,by go_num,eY,e7,bC,dx,eU⟩
      case measure=>simp[intOf];omega
     ·have fW:decide ((G:Int)+1<(L.length:Int))=false:=nA (by omega)
      have dr:L.drop (G+1)=[]:=List.drop_eq_nil_of_le (by omega);by_cases gd:G+1<nf.length
      ·have fY:decide ((G:Int)+1<(nf.length:Int))=true:=nE (by omega)
       have ak:=ak.trans (b4.mono ak.size);clear cl b4 co;obtain⟨c0,ao⟩:∃cs:List Value,kb CB cs:=⟨_,rfl⟩;have c5:c0.length=21:=by rw[←(show _=_ from ao)];rfl
       have bG:Hid (c0.length=21):=c5;have bB:∀v∈c0,v.oneCell'=true:=by
        rw[←(show _=_ from ao)];simp[Value.oneCell']
       have b3:=eI.below ak;have bv:=Cd (P:=prog) b3 (fun q=>(ak.frozen (p:=⟨w.heap.size,q,none⟩) eK).trans (eL q)) c5.symm bB;have bd:Hid _:=C5 c0 b3 c5.symm;have bC:Hid _:=CP (b:=w.heap.size) (p:=0) c0 (nl _) (da.out.trans (ak.mono da.out.size));have cq:Hid (AR (Ag H.cell? (fun k=>k==w.heap.size)) (bf.setCells w.heap.size 0 c0).cell?):=Jh ak;generalize bf.setCells w.heap.size 0 c0=dy at bv bd bC cq;have dz:=run_loadVar_mid (P:=prog) dy w.heap.size 0 86 c0 _ bd.out rfl rfl (by rw[bG.out];rfl);have fZ:Value.agg #[.bool false,.int .i64 0,.int .i64 0,.int .i64 0,.bool false,.bool false,.int .i64 0,.int .i64 0,.int .i64 0,.bool false,.slice none 0 0,.bool false,.int .i64 0,.int .i64 0,.int .i64 0,.int .i64 0,.bool false,.slice none 0 0,.string ⟨#[]⟩,.slice none 0 0,.int .i64 0]=BK c0:=by rw[←(show _=_ from ao)];rfl
       have b9:=BT c0;unfold Value.cells at b9;have b1:Hid (Dg.v=.agg c0.toArray):=nV (fun l:List Value=>Value.agg l.toArray) (show CB=c0 from ao);clear bB b3;go_wp2;refine nF (v:=.tuple #[.agg c0.toArray,.iface 74 (.int .i64 5)]) ?_ rfl ⟨⟨L,⟨_,b6,?_⟩,c6,d2,fun f b7=>(eM.out f b7).on cq.out⟩,bC.out⟩
       ·simp[results,results114,asAddr,dz]
       ·rw[ef.out,←cA.out,eq,dr,UG (f:=⟨⟨V,Y,Z,tg,aa⟩,ej,na,nc,ek,el,c8,em,en⟩) dn.out,nC (by omega),JE,b1.out];rfl
      ·have fY:decide ((G:Int)+1<(nf.length:Int))=false:=nA (by omega)
       obtain⟨Q,fw⟩:∃Q,Q=bf:=⟨_,rfl⟩;rw[←fw]at cl b4 co⊢;clear fw;have bx:=b4;have bb:Hid (A6 Q I 0 Dg.l):=cl;have bA:Hid _:=co;have eU:Hid (0≤Dg.t.m∧Dg.t.m≤4095):=⟨by decide,by decide⟩;have eY:Hid (B.wk {Dg with dir:=⟨V,Y,Z,tg,aa⟩} (nf.length-(G+1)) (L.drop (G+1+1))=eR):=by
        show _=_;rw[←cA.out,eq,dr,UG (f:=⟨⟨V,Y,Z,tg,aa⟩,ej,na,nc,ek,el,c8,em,en⟩) dn.out,nB (by omega),show nf.length-(G+1)=0 by omega,Bx.wk]
       clear cl b4 co cA;obtain⟨t0,eo,ep,t3,t4⟩:Q.cell? ⟨J,0,none⟩=some (.bool V)∧Q.cell? ⟨J,1,none⟩=some (.int .i64 Y)∧Q.cell? ⟨J,2,none⟩=some (.int .i64 Z)∧Q.cell? ⟨J,3,none⟩=some (.int .i64 tg)∧Q.cell? ⟨J,4,none⟩=some (.bool aa):=⟨Ad bx (bH 0 _ rfl),Ad bx (bH 1 _ rfl),Ad bx (bH 2 _ rfl),Ad bx (bH 3 _ rfl),Ad bx (bH 4 _ rfl)⟩;obtain⟨z0,eZ,e0,z3,z4⟩:Q.cell? ⟨I,5,none⟩=some (.bool false)∧Q.cell? ⟨I,6,none⟩=some (.int .i64 0)∧Q.cell? ⟨I,7,none⟩=some (.int .i64 0)∧Q.cell? ⟨I,8,none⟩=some (.int .i64 0)∧Q.cell? ⟨I,9,none⟩=some (.bool false):=⟨bb.out 5 _ rfl,bb.out 6 _ rfl,bb.out 7 _ rfl,bb.out 8 _ rfl,bb.out 9 _ rfl⟩;have e1:=bA.out 5;have e2:=bA.out 6;have e3:=bA.out 7;have e4:=bA.out 8;have e5:=bA.out 9;go_upto_region 16 with fail
       obtain⟨cs,ao⟩:∃cs:List Value,kb (Fd.l {Dg with dir:=⟨V,Y,Z,tg,aa⟩}) cs:=⟨_,rfl⟩;have a6:cs.length=21:=by rw[←(show _=_ from ao)];exact DW _
       have bB:∀v∈cs,v.oneCell'=true:=by rw[←(show _=_ from ao)];exact Ej _
       have c3:A6 (Q.setCells I 5 [.bool V,.int .i64 Y,.int .i64 Z,.int .i64 tg,.bool aa]) I 0 cs:=by
        rw[←(show _=_ from ao)];exact TG (f:=Dg) ⟨V,Y,Z,tg,aa⟩ bb.out
       have b2:Bw a7 (Q.setCells I 5 [.bool V,.int .i64 Y,.int .i64 Z,.int .i64 tg,.bool aa]):=CP _ dp bx;have du:∀q,(Q.setCells I 5 [.bool V,.int .i64 Y,.int .i64 Z,.int .i64 tg,.bool aa]).frozen? ⟨I,q,none⟩=false:=fun q=>by rw[rl];exact bA.out q
       have cp:(((((Q.setCell ⟨I,5,none⟩ (.bool V)).setCell ⟨I,6,none⟩ (.int .i64 Y)).setCell ⟨I,7,none⟩ (.int .i64 Z)).setCell ⟨I,8,none⟩ (.int .i64 tg)).setCell ⟨I,9,none⟩ (.bool aa))=Q.setCells I 5 [.bool V,.int .i64 Y,.int .i64 Z,.int .i64 tg,.bool aa]:=rfl;rw[cp];clear cp t0 eo ep t3 t4 z0 eZ e0 z3 z4 e1 e2 e3 e4 e5;generalize Q.setCells I 5 [.bool V,.int .i64 Y,.int .i64 Z,.int .i64 tg,.bool aa]=b5 at c3 b2 du⊢;have c4:=bH.below b2;have dw:∀q,b5.frozen? ⟨J,q,none⟩=false:=fun q=>(b2.frozen (p:=⟨J,q,none⟩) fs).trans ((er.frozen (p:=⟨J,q,none⟩) ft).trans (eS.out q));refine rU ?_
       refine wpList_load_mid rfl _ _ rfl _ _ rfl cs _ c3 rfl rfl (by rw[a6];rfl) ?_;simp only[tk];have bv:=Cd (P:=prog) c4 dw (by rw[a6];exact DW _) bB;have bd:Hid _:=C5 cs c4 (by rw[a6];exact DW _);have bC:Hid _:=CP (b:=J) (p:=0) cs ee (ak.trans (b2.mono ak.size));have dx:Hid (∀q,(b5.setCells J 0 cs).frozen? ⟨J,q,none⟩=false):=fun q=>by rw[rl];exact dw q
       generalize b5.setCells J 0 cs=e6 at bv bd bC dx;have e7:Hid (A6 e6 J 0 (Fd.l {Dg with dir:=⟨V,Y,Z,tg,aa⟩})):=by rw[show _=_ from ao];exact bd.out
       clear c4 c3 b2 du bB bd;go_wp2;go_roundw
       case rel=>exact⟨G+1,{Dg with dir:=⟨V,Y,Z,tg,aa⟩},by omega,by go_num,eY,e7,bC,dx,eU⟩
       case measure=>simp[intOf];omega
    ·rw[AH rfl es]
     obtain⟨c0,ao⟩:∃cs:List Value,kb CB cs:=⟨_,rfl⟩;have c5:c0.length=21:=by rw[←(show _=_ from ao)];rfl
     have bG:Hid (c0.length=21):=c5;have bB:∀v∈c0,v.oneCell'=true:=by
      rw[←(show _=_ from ao)];simp[Value.oneCell']
     have b3:=eI.below ak;have bv:=Cd (P:=prog) b3 (fun q=>(ak.frozen (p:=⟨w.heap.size,q,none⟩) eK).trans (eL q)) c5.symm bB;have bd:Hid _:=C5 c0 b3 c5.symm;have bC:Hid _:=CP (b:=w.heap.size) (p:=0) c0 (nl _) (da.out.trans (ak.mono da.out.size));have cq:Hid (AR (Ag H.cell? (fun k=>k==w.heap.size)) (a7.setCells w.heap.size 0 c0).cell?):=Jh ak;generalize a7.setCells w.heap.size 0 c0=dy at bv bd bC cq;have dz:=run_loadVar_mid (P:=prog) dy w.heap.size 0 86 c0 _ bd.out rfl rfl (by rw[bG.out];rfl);have fZ:Value.agg #[.bool false,.int .i64 0,.int .i64 0,.int .i64 0,.bool false,.bool false,.int .i64 0,.int .i64 0,.int .i64 0,.bool false,.slice none 0 0,.bool false,.int .i64 0,.int .i64 0,.int .i64 0,.int .i64 0,.bool false,.slice none 0 0,.string ⟨#[]⟩,.slice none 0 0,.int .i64 0]=BK c0:=by rw[←(show _=_ from ao)];rfl
     have b9:=BT c0;unfold Value.cells at b9;have b1:Hid (Dg.v=.agg c0.toArray):=nV (fun l:List Value=>Value.agg l.toArray) (show CB=c0 from ao);clear bB b3;go_wp2;refine nF (v:=.tuple #[.agg c0.toArray,.iface 74 (.int .i64 E)]) ?_ rfl ⟨⟨L,⟨_,b6,?_⟩,c6,d2,fun f b7=>(eM.out f b7).on cq.out⟩,bC.out⟩
     ·simp[results,results114,asAddr,dz]
     ·rw[ef.out,←cA.out,eq,Ok (f:=⟨⟨V,Y,Z,tg,aa⟩,ej,na,nc,ek,el,c8,em,en⟩) dn.out es,JE,b1.out,AH rfl es]
   ·have hd:decide ((G:Int)<(nf.length:Int))=false:=nA (by omega)
    have f0:wr.cell? ⟨J,10,none⟩=some (.slice f.na f.nf.length f.nc):=cb.out 10 _ rfl;have f1:=eS.out 10;go_upto_region 19 with fail
    obtain⟨cs,ao⟩:∃cs:List Value,kb (Fd.l {f with na:=an,nc:=nj,nf:=nf}) cs:=⟨_,rfl⟩;have a6:cs.length=21:=by rw[←(show _=_ from ao)];exact DW _
    have bB:∀v∈cs,v.oneCell'=true:=by rw[←(show _=_ from ao)];exact Ej _
    have fx:A6 (wr.setCells J 10 [.slice an nf.length nj]) J 0 cs:=by rw[←(show _=_ from ao)];exact Xi an nj nf cb.out
    have ak:Bw H (wr.setCells J 10 [.slice an nf.length nj]):=CP _ ee eg.out;have cp:wr.setCell ⟨J,10,none⟩ (.slice an nf.length nj)=wr.setCells J 10 [.slice an nf.length nj]:=rfl;rw[cp];clear cp f0 f1;generalize wr.setCells J 10 [.slice an nf.length nj]=b5 at fx ak⊢;refine rU ?_;refine wpList_load_mid rfl _ _ rfl _ _ rfl cs _ fx rfl rfl (by rw[a6];rfl) ?_;simp only[tk];have b3:=eI.below ak;have bv:=Cd (P:=prog) b3 (fun q=>(ak.frozen (p:=⟨w.heap.size,q,none⟩) eK).trans (eL q)) (by rw[a6];rfl) bB;have bd:Hid _:=C5 cs b3 (by rw[a6];rfl);have bC:Hid _:=CP (b:=w.heap.size) (p:=0) cs (nl _) (da.out.trans (ak.mono da.out.size));have cq:Hid (AR (Ag H.cell? (fun k=>k==w.heap.size)) (b5.setCells w.heap.size 0 cs).cell?):=Jh ak;generalize b5.setCells w.heap.size 0 cs=dy at bv bd bC cq;have dz:=run_loadVar_mid (P:=prog) dy w.heap.size 0 86 cs _ bd.out rfl rfl (by rw[a6];rfl);have b1:Hid (Fd.v {f with na:=an,nc:=nj,nf:=nf}=.agg cs.toArray):=nV (fun l:List Value=>Value.agg l.toArray) (show _=cs from ao);clear bB b3;go_wp2;refine nF (v:=.tuple #[.agg cs.toArray,.nilIface]) ?_ rfl ⟨⟨L,⟨_,b6,?_⟩,c6,d2,fun f b7=>(eM.out f b7).on cq.out⟩,bC.out⟩
    ·simp[results,results114,asAddr,dz]
    ·rw[ef.out,←cA.out,show nf.length-G=0 by omega,Bx.wk,JE,b1.out]
     rfl
def L8(w:World)(a:Option Addr)(xs:List BA):Prop:=
 xs=[]∨∃b F,a=some ⟨b,F,none⟩∧∀i x,xs[i]? =some x→w.cell? ⟨b,F+i,none⟩=some (.string x)
def FL(xs:List BA):Int:=if xs.all AQ=true then(if 6<xs.length then 2 else 0)else 4
theorem Xt{f:BA→Bool}{l:List BA}{k:Nat}{b:BA}(hb:l[k]? =some b)(h:(l.take k).all f=true)(F:f b=true):(l.take (k+1)).all f=true:=by
 rw[rv,hb];simp at h⊢;exact⟨h,F⟩
theorem Zb{f:BA→Bool}{l:List BA}{k:Nat}{b:BA}(hb:l[k]? =some b)(F:f b=false):l.all f=false:=by
 have G:b∈l:=nD hb;cases h:l.all f with
 |false=>rfl
 |true=>rw[List.all_eq_true]at h;rw[h b G]at F;cases F
theorem VP(a:Option Addr)(cap:Nat)(xs:List BA)(w:World)(Y:xs.length≤4611686018427387904)(h:L8 w a xs):
 Calls prog 147 #[.slice a xs.length cap] w fun e w'=>e=.returned (Am (FL xs))∧w=w':=by
 go_enter func147,ntmps147;go_wp2;go_loop [7] (fun i=>∃k:Nat,k≤xs.length∧i=iN k∧Hid ((xs.take k).all AQ=true)) (fun i=>xs.length-(intOf i).toNat)
 case atStart=>exact⟨0,nM _,rfl,rfl⟩
 case round=>
  obtain⟨k,Z,rfl,H⟩:=hrel;by_cases I:k<xs.length
  ·rcases h with rfl|⟨b,aa,rfl,J⟩
   ·simp at I
   ·obtain⟨x,hx⟩:∃x,xs[k]? =some x:=⟨xs[k],by simp[I]⟩
    have O:=hid hx;have ab:=J k x hx;clear hx J;obtain⟨t,Q⟩:∃t,AQ x=t:=⟨_,rfl⟩;have F:=hid Q;clear Q;go_wp2_with fail
    refine(Gc _ _).mono ?_;rintro e w' ⟨rfl,rfl⟩;rw[F.out];cases t
    ·go_wp2
     go_ret;exact⟨Cm (AH (by unfold FL;rw[nB (by rw[Zb O.out F.out];decide)]) (by decide)).symm,rfl⟩
    ·go_wp2
     go_round
     case rel=>exact⟨k+1,by omega,by go_num,Xt O.out H.out F.out⟩
     case measure=>simp[intOf];omega
  ·have R:Hid (xs.all AQ=true):=by
    show _=_;have:=H.out;rw[n1 (by omega)]at this;exact this
   by_cases T:6<xs.length
   ·have V:decide (6<(xs.length:Int))=true:=nE (by omega)
    have G:Hid (FL xs=2):=by show _=_;unfold FL;rw[nC R.out,nC T]
    go_wp2;go_ret;exact⟨Cm (AH G.out (by decide)).symm,rfl⟩
   ·have V:decide (6<(xs.length:Int))=false:=nA (by omega)
    have G:Hid (FL xs=0):=by show _=_;unfold FL;rw[nC R.out,nB T]
    go_wp2;go_ret;exact⟨Cm (Cr G.out).symm,rfl⟩
end Go.Proofs.YtgppjbhaimmlpaaGreatDoor
namespace Go.Proofs.YtgppjbhaimmlpaaGreatDoor
open Go.Shelf Go.Proofs.Tryz
def Tryz.lays146_ren:Go.Shelf.Ren:=⟨fun|146=>146|221=>169|268=>184|138=>185|143=>186|195=>197|197=>198|218=>199|219=>181|260=>203|217=>193|225=>194|224=>195|267=>196|266=>201|314=>202|n=>n,fun|9=>9|31=>40|3=>3|4=>4|0=>0|105=>241|21=>21|5=>5|46=>201|119=>247|139=>250|138=>249|146=>245|51=>226|n=>n,fun|1=>0|3=>1|4=>2|n=>n⟩
theorem Tryz.lays146:Go.Proofs.Lays.n146 prog Tryz.lays146_ren:={
 mixed:=by kernel_rfl
 f138:=func185.trans (nV some (by kernel_rfl))
 f143:=func186.trans (nV some (by kernel_rfl))
 f146:=func146.trans (nV some (by kernel_rfl))
 f195:=func197.trans (nV some (by kernel_rfl))
 f197:=func198.trans (nV some (by kernel_rfl))
 f217:=func193.trans (nV some (by kernel_rfl))
 f218:=func199.trans (nV some (by kernel_rfl))
 f219:=func181.trans (nV some (by kernel_rfl))
 f221:=func169.trans (nV some (by kernel_rfl))
 f224:=func195.trans (nV some (by kernel_rfl))
 f225:=func194.trans (nV some (by kernel_rfl))
 f260:=func203.trans (nV some (by kernel_rfl))
 f266:=func201.trans (nV some (by kernel_rfl))
 f267:=func196.trans (nV some (by kernel_rfl))
 f268:=func184.trans (nV some (by kernel_rfl))
 f314:=func202.trans (nV some (by kernel_rfl))
 t0:=underlying0
 a0:=Tryz.isAgg0
 z0:=Tryz.sizeOf0
 v0:=Tryz.zeroValue0
 t3:=underlying3
 a3:=Tryz.isAgg3
 z3:=Tryz.sizeOf3
 v3:=Tryz.zeroValue3
 t4:=underlying4
 a4:=Tryz.isAgg4
 z4:=Tryz.sizeOf4
 v4:=Tryz.zeroValue4
 t5:=underlying5
 a5:=Tryz.isAgg5
 z5:=Tryz.sizeOf5
 v5:=Tryz.zeroValue5
 t9:=underlying9
 a9:=Tryz.isAgg9
 z9:=Tryz.sizeOf9
 v9:=Tryz.zeroValue9
 t21:=underlying21
 a21:=Tryz.isAgg21
 z21:=Tryz.sizeOf21
 v21:=Tryz.zeroValue21
 t31:=underlying40
 a31:=Tryz.isAgg40
 z31:=Tryz.sizeOf40
 v31:=Tryz.zeroValue40
 t46:=underlying201
 a46:=Tryz.isAgg201
 z46:=Tryz.sizeOf201
 v46:=Tryz.zeroValue201
 t51:=underlying226
 a51:=Tryz.isAgg226
 z51:=Tryz.sizeOf226
 v51:=Tryz.zeroValue226
 t105:=underlying241
 a105:=Tryz.isAgg241
 z105:=Tryz.sizeOf241
 v105:=Tryz.zeroValue241
 t119:=underlying247
 a119:=Tryz.isAgg247
 z119:=Tryz.sizeOf247
 t138:=underlying249
 a138:=Tryz.isAgg249
 z138:=Tryz.sizeOf249
 v138:=Tryz.zeroValue249
 t139:=underlying250
 a139:=Tryz.isAgg250
 z139:=Tryz.sizeOf250
 v139:=Tryz.zeroValue250
 t146:=underlying245
 a146:=Tryz.isAgg245
 z146:=Tryz.sizeOf245
 v146:=Tryz.zeroValue245
 g1:=by kernel_rfl
 g3:=by kernel_rfl
 g4:=by kernel_rfl}
open Go.RowKit Go.Lib in
theorem Tryz.strings_Split(s F:BA)(m:Int)(w:World)(G:s.size<4294967281)(H:w.cell? ⟨0,0,none⟩=some (.int .i64 m))(I:1≤F.size):
 Calls prog 146 #[.string s,.string F] w fun e w'=>
  e=.returned (.slice (some ⟨w.heap.size,0,none⟩) (Lib.countB s F+1) (Lib.countB s F+1))∧w'=w.alloc (.cells ((Lib.splitB F 0 (Lib.countB s F) s).map Value.string).toArray 9):=Any.strings_Split Tryz.lays146 (by kernel_rfl) s F m w G H I
end Go.Proofs.YtgppjbhaimmlpaaGreatDoor
namespace Go.Proofs.YtgppjbhaimmlpaaGreatDoor
open Go.RowKit Go.Proofs.Tryz
def EU:List UInt8→List (List UInt8)
 |[]=>[[]]
 |c::l=>if c=47 then []::EU l else match EU l with
  |x::xs=>(c::x)::xs
  |[]=>[[c]]
theorem XE:∀l,EU l≠[]
 |[]=>by simp[EU]
 |c::l=>by
  unfold EU;split
  ·simp
  ·split<;>simp
theorem Pq(l:List UInt8):Lib.index (47::l) [47]=0:=by rw[Lib.index];simp[List.isPrefixOf]
theorem X9(b:UInt8)(l:List UInt8)(h:b≠47):Lib.index (b::l) [47]=if Lib.index l [47]==-1 then-1 else Lib.index l [47]+1:=by
 have F:([47]:List UInt8).isPrefixOf (b::l)=false:=by simp[List.isPrefixOf,Ne.symm h]
 rw[Lib.index,F];simp
theorem Qp:∀l:List UInt8,Lib.splitK [47] 0 (Lib.count l [47]) l=EU l
 |[]=>by rw[Lib.count_miss (by simp[Lib.index])];rfl
 |b::l=>by
  have F:=Qp l;by_cases h:b=47
  ·subst h
   rw[Lib.count_cons_eq,Nat.add_comm,Lib.splitK,nB (by rw[Pq];decide),Pq];simp[EU,F]
  ·rw[Lib.count_cons_ne b 47 l h]
   cases hn:Lib.count l [47]with
   |zero=>
    rw[hn]at F;have e:EU l=[l]:=F.symm;simp[Lib.splitK,EU,h,e]
   |succ k=>
    rw[hn]at F;have I:¬Lib.index l [47]=-1:=fun e=>by rw[Lib.count_miss e]at hn;cases hn
    have J:=Lib.index_ge l [47];obtain⟨j,G⟩:∃j:Nat,Lib.index l [47]=j:=⟨(Lib.index l [47]).toNat,by omega⟩;have H:Lib.index (b::l) [47]=((j+1:Nat):Int):=by rw[X9 b l h,nB (fun e=>I (beq_iff_eq.1 e)),G];omega
    rw[Lib.splitK,nB (by rw[G];intro e;have:=beq_iff_eq.1 e;omega),G]at F;rw[Lib.splitK,nB (by rw[H];intro e;have:=beq_iff_eq.1 e;omega),H];simp only[EU,h,if_false,←F];simp
def O5(l:List UInt8):BA:=⟨l.toArray⟩
theorem Zs(s:BA):O5 s.data.toList=s:=by cases s;rfl
theorem Z7{xs:List BA}{L:List (List UInt8)}(h:xs.map (·.data.toList)=L):xs=L.map O5:=by
 subst h;rw[r4];conv=>lhs;rw[←List.map_id xs]
 apply List.map_congr_left;intro x _;exact(Zs x).symm
def EH(l:List UInt8):List BA:=(EU l).map O5
theorem Qy(s:BA):Lib.splitB ⟨#[47]⟩ 0 (Lib.countB s ⟨#[47]⟩) s=EH s.data.toList:=by
 refine Z7 ?_;rw[Lib.splitB_data];exact Qp s.data.toList
theorem VT(s:BA):(EH s.data.toList).length=Lib.countB s ⟨#[47]⟩+1:=by
 rw[←Qy];exact Lib.splitB_all _ (by decide) 0 _ s rfl
def Db(l:List UInt8):Int:=if l=[]∨79<l.length∨l.head?≠some 47 then 4 else if l=[47]then 0 else FL (EH (l.drop 1))
def BJ(l:List UInt8):List BA:=if Db l=0∧l≠[47]then EH (l.drop 1)else []
theorem Pd:∀l:List UInt8,(EU l).length≤l.length+1
 |[]=>by simp[EU]
 |c::l=>by
  have F:=Pd l;unfold EU;split
  ·simp;omega
  ·split
   ·rename_i x xs e;rw[e]at F;simp at F⊢;omega
   ·simp
theorem V4(w:World)(l:List BA):L8 (w.alloc (.cells (l.map Value.string).toArray 9)) (some (aD w.heap.size 0)) l:=by
 refine .inr ⟨_,_,rfl,fun i x F=>?_⟩;rw[nk _ _ _ _ (by rfl)];simp[F]
theorem QI{p:BA}(h:0<p.size):p.data.toList.head? =some p[0]:=by
 rw[List.head?_eq_getElem?];exact Rr p 0 h
theorem PB(p:BA):p.toList.isEmpty=decide (p.size=0):=by rw[r1,←Ht];cases p.data.toList<;>simp
theorem Mt(p:BA)(w:World)(m:Int)(bb:w.cell? (aD 0 0)=some (iN m)):
 Calls prog 113 #[.string p] w fun e w'=>(∃J H,e=.returned (.tuple #[.slice J (BJ p.data.toList).length H,Am (Db p.data.toList)])∧(BJ p.data.toList).length≤H∧H≤9223372036854775807∧L8 w' J (BJ p.data.toList))∧Below w.heap.size w w':=by
 have T:Db p.data.toList=4→∀w':World,Below w.heap.size w w'→(∃J H,Ending.returned (.tuple #[nL,.iface 74 (iN 4)])=.returned (.tuple #[.slice J (BJ p.data.toList).length H,Am (Db p.data.toList)])∧(BJ p.data.toList).length≤H∧H≤9223372036854775807∧L8 w' J (BJ p.data.toList))∧Below w.heap.size w w':=by
  intro ak w' hb;have bd:BJ p.data.toList=[]:=by unfold BJ;rw[nB (by rw[ak];simp)]
  rw[bd,ak];exact⟨⟨none,0,by simp[Am],by simp,by simp,.inl rfl⟩,hb⟩
 by_cases V:p.size=0
 ·have be:p.toList.isEmpty=true:=by rw[PB];simpa using V
  have F:Hid (Db p.data.toList=4):=by show _=_;unfold Db;rw[nC (.inl (nW (by rw[Ht];exact V)))]
  go_enter func113,ntmps113;go_wp2;go_ret2;exact T F.out _ (nt _ _)
 have be:p.toList.isEmpty=false:=by rw[PB];simpa using V
 by_cases ao:79<p.size
 ·have bf:decide (79<(p.size:Int))=true:=nE (by omega)
  have F:Hid (Db p.data.toList=4):=by show _=_;unfold Db;rw[nC (.inr (.inl (by rw[Ht];exact ao)))]
  go_enter func113,ntmps113;go_wp2;go_ret2;exact T F.out _ (nt _ _)
 have bf:=nA (by omega);have ap:0<p.size:=by omega
 obtain⟨t,az⟩:∃t,((p[0].toNat:Int)!=47)=t:=⟨_,rfl⟩;cases t;rotate_left
 ·have F:Hid (Db p.data.toList=4):=by
   show _=_;unfold Db
   refine nC (.inr (.inr ?_));rw[QI ap];intro e;have bg:p[0]=47:=by simpa using e
   have bi:(p[0].toNat:Int)=47:=by rw[bg];rfl
   have bk:=bne_iff_ne.1 az;exact bk bi
  go_enter func113,ntmps113;go_wp2;go_ret2;exact T F.out _ (nt _ _)
 have O:p.data.toList.head? =some 47:=by
  rw[QI ap];have:(p[0].toNat:Int)=47:=by simpa using az
  have a1:p[0].toNat=(47:UInt8).toNat:=by have:p[0].toNat=47:=by omega
                                          rw[this];rfl
  rw[UInt8.toNat_inj.1 a1]
 have Y:¬(p.data.toList=[]∨79<p.data.toList.length∨p.data.toList.head?≠some 47):=by
  rw[Ht];rintro(e|e|e)
  ·rw[e]at O;cases O
  ·exact ao e
  ·exact e O
 obtain⟨t,a6⟩:∃t,(p.toList==[47])=t:=⟨_,rfl⟩;cases t;rotate_left
 ·have Z:p.data.toList=[47]:=by rw[←r1];simpa using a6
  have F:Hid (Db p.data.toList=0):=by show _=_;unfold Db;rw[nB Y,nC Z]
  have I:Hid (BJ p.data.toList=[]):=by show _=_;unfold BJ;rw[nB (by rw[Z];simp)]
  clear Z;go_enter func113,ntmps113;go_wp2;go_ret2;rw[I.out,F.out];exact⟨⟨none,0,by simp[Am],by simp,by simp,.inl rfl⟩,nt _ _⟩
 have a7:¬p.data.toList=[47]:=by rw[←r1];simpa using a6
 have F:Hid (Db p.data.toList=FL (EH (p.data.toList.drop 1))):=by show _=_;unfold Db;rw[nB Y,nB a7]
 have a8:=hid (Lib.extract_to_end p 1);have ba:(p.extract 1 p.size).size<4294967281:=by rw[ByteArray.size_extract];omega
 clear O Y;go_enter func113,ntmps113;go_wp2_with fail
 refine(Tryz.strings_Split _ ⟨#[47]⟩ m _ ba bb (by decide)).mono ?_;rintro e bp ⟨rfl,rfl⟩;rw[Qy,←VT,a8.out];have Q:=V4 w (EH (p.data.toList.drop 1));have aa:Below w.heap.size w (w.alloc (.cells ((EH (p.data.toList.drop 1)).map Value.string).toArray 9)):=bN;have bl:(EH (p.data.toList.drop 1)).length≤80:=by
  have:=Pd (p.data.toList.drop 1);have a1:=Ht p;simp[EH]at this⊢;omega
 have I:Hid (FL (EH (p.data.toList.drop 1))=0→BJ p.data.toList=EH (p.data.toList.drop 1)):=fun h=>by unfold BJ;rw[nC ⟨by rw[F.out];exact h,a7⟩]
 have R:Hid (FL (EH (p.data.toList.drop 1))≠0→BJ p.data.toList=[]):=fun h=>by unfold BJ;rw[nB (by rintro⟨e,_⟩;rw[F.out]at e;exact h e)]
 generalize w.alloc (.cells ((EH (p.data.toList.drop 1)).map Value.string).toArray 9)=W at Q aa⊢;generalize EH (p.data.toList.drop 1)=ab at F Q bl I R⊢;clear a8 ba;go_wp2_with fail
 refine(VP _ _ ab _ (by omega) Q).mono ?_;rintro e w' ⟨rfl,rfl⟩;by_cases G:FL ab=0
 ·have ad:Hid (BJ p.data.toList=ab):=I.out G
  have bn:=hid (F.out.trans G);rw[Cr G];clear I R F G;go_wp2;go_ret2;rw[ad.out,bn.out];exact⟨⟨_,_,by simp[Am],nl _,by omega,Q⟩,aa⟩
 ·have ad:Hid (BJ p.data.toList=[]):=R.out G
  have bo:=hid G;rw[AH rfl G];clear I R G;go_wp2;go_ret2;rw[ad.out,F.out,AH rfl bo.out];exact⟨⟨none,0,by simp,by simp,by simp,.inl rfl⟩,aa⟩
structure Ik (B:Bx):Prop where
 len:B.xs.length≤1000
 sm:DC (BD B.xs)
 lim:EZ (BD B.xs)
 ne:AP B.xs []≠[]
 ids:∀nf q r,AP B.xs nf=q::r→Eu q.1
 mode:∀nf q r,AP B.xs nf=q::r→0≤(B.th true q.1).m∧(B.th true q.1).m≤4095
structure JD (B:Bx) (w:World) (nf:List BA) (L:List Fl):Prop where
 nh:∀(j:Nat) f,L[j]? =some f→∃q r,AP B.xs (nf.take j)=q::r∧f.x=q.1.with []∧f.ly=q.2
 len:L.length=nf.length+1∨L.length≤nf.length∧AP B.xs (nf.take L.length)=[]
 nd:∀f∈L,Ah w.cell? f.x f.h
def Vp(B:Bx)(w:World)(an:Option Addr)(nj:Nat)(nf:List BA)(e:Ending):Prop:=∃L F,L[0]? =some F∧JD B w nf L∧e=.returned (JE (B.wk (B.fd F.x F.h F.ly) nf.length (L.drop 1)) an nj nf)
theorem SA{w:World}{b:Nat}{B:Bx}(h:A5 w b B)(F:Ik B){an:Option Addr}{nj:Nat}{nf:List BA}(G:A0 w.cell? an nf)(H:nf.length≤1000):
 Calls prog 114 #[.pointer (some ⟨b,0,none⟩),.slice an nf.length nj] w fun e w'=>Vp B w' an nj nf e∧Bw w w':=by
 refine(Xn h G F.len H F.sm F.lim F.ne (fun j=>F.ids _) (fun j=>F.mode _)).mono ?_;rintro e w' ⟨⟨L,⟨I,J,O⟩,Q,R,T⟩,hb⟩;exact⟨⟨L,I,J,⟨Q,R,T⟩,O⟩,hb⟩
theorem JD.below{B:Bx}{w w':World}{nf:List BA}{L:List Fl}(h:JD B w nf L)(hb:AR w.cell? w'.cell?):JD B w' nf L:=⟨h.nh,h.len,fun f F=>(h.nd f F).on hb⟩
theorem YL(F:Except Int Fd)(an:Option Addr)(nj:Nat)(nf:List BA):∃cs E,JE F an nj nf=.tuple #[BK cs,Am E]∧cs.length=21∧∀v∈cs,v.oneCell'=true:=by
 cases F with
 |ok f=>exact⟨_,0,rfl,DW _,Ej _⟩
 |error E=>exact⟨_,E,rfl,DW _,Ej _⟩
theorem LH{o:Nat}{s:BA}(h:([.bool false,.int .i64 0,.int .i64 0,.int .i64 0,.bool false,.bool false,.int .i64 0,.int .i64 0,.int .i64 0,.bool false,.slice none 0 0,.bool false,.int .i64 0,.int .i64 0,.int .i64 0,.int .i64 0,.bool false,.slice none 0 0,.string ⟨#[]⟩,.slice none 0 0,.int .i64 0]:List Value)[o]? =some (.string s)):s=⟨#[]⟩:=
 match o,h with
 |0,h=>by simp at h
 |1,h=>by simp at h
 |2,h=>by simp at h
 |3,h=>by simp at h
 |4,h=>by simp at h
 |5,h=>by simp at h
 |6,h=>by simp at h
 |7,h=>by simp at h
 |8,h=>by simp at h
 |9,h=>by simp at h
 |10,h=>by simp at h
 |11,h=>by simp at h
 |12,h=>by simp at h
 |13,h=>by simp at h
 |14,h=>by simp at h
 |15,h=>by simp at h
 |16,h=>by simp at h
 |17,h=>by simp at h
 |18,h=>by
  have e:(⟨#[]⟩:BA)=s:=by simpa using h
  exact e.symm
 |19,h=>by simp at h
 |20,h=>by simp at h
 |n+21,h=>by simp at h
def FE(B:Bx)(w:World)(p:BA)(e:Ending):Prop:=(Db p.data.toList≠0∧e=.returned (.tuple #[Dg.v,Am (Db p.data.toList)]))∨(Db p.data.toList=0∧∃an nj,A0 w.cell? an (BJ p.data.toList)∧(BJ p.data.toList).length≤nj∧nj≤9223372036854775807∧Vp B w an nj (BJ p.data.toList) e)
theorem MT{w:World}{b:Nat}{B:Bx}(h:A5 w b B)(b4:Ik B)(p:BA)(bl:(BJ p.data.toList).length≤1000)(bn:∀s∈BJ p.data.toList,s≠⟨#[]⟩)(bo:Int)(bp:w.cell? ⟨0,0,none⟩=some (.int .i64 bo)):
 Calls prog 67 #[.pointer (some ⟨b,0,none⟩),.string p] w fun e w'=>FE B w' p e∧Bw w w':=by
 have ad:=A6.new w _ rfl CB 86;have R:Bw w (w.alloc AF):=(nt _ _).alloc (nl _) _;have bs:∀q,(w.alloc AF).frozen? ⟨w.heap.size,q,none⟩=false:=fun q=>nP _ _ _ _ rfl;have bu:∀o,(w.alloc AF).cell? ⟨w.heap.size,o,none⟩=CB[o]?:=fun o=>by rw[nk _ _ _ _ rfl];simp
 have bv:=h.below R;have ak:Hid _:=Mt p (w.alloc AF) bo (Ad R bp);obtain⟨H,T⟩:∃H,Hid (Db p.data.toList=H):=⟨_,rfl⟩;obtain⟨N,G⟩:∃N,Hid (BJ p.data.toList=N):=⟨_,rfl⟩;rw[T.out,G.out]at ak;rw[G.out]at bl bn;have ao:Hid _:=R;have bx:Hid _:=bv;clear h R bv bp;go_enter func67,ntmps67;go_upto_region 1 with fail
 generalize(w.alloc AF)=b5 at*;go_wp2_with fail
 refine nn ak.out ?_;rintro e V ⟨⟨Y,ap,rfl,b6,b7,bA⟩,c2⟩;have az:w.heap.size<b5.heap.size:=ny _ _ (ad 0 _ rfl);have a1:Hid _:=ao.out.trans (c2.mono ao.out.size);have a6:=ad.below c2;have bB:∀q,V.frozen? ⟨w.heap.size,q,none⟩=false:=fun q=>(c2.frozen (p:=⟨w.heap.size,q,none⟩) az).trans (bs q);have bC:∀o,V.cell? ⟨w.heap.size,o,none⟩=CB[o]?:=fun o=>(c2.cell (p:=⟨w.heap.size,o,none⟩) az).trans (bu o)
 have bF:w.heap.size<V.heap.size:=nG az c2.size;have b9:=bx.out.below c2;clear ak ao bx ad bs bu;by_cases hF:H=0
 ·subst hF
  have cb:Hid _:=SA b9 b4 (an:=Y) (nj:=ap) (nf:=N) bA bl;rw[show Am 0=Value.nilIface from rfl];go_wp2_with fail
  refine nn cb.out ?_;rintro e F ⟨⟨L,Z,cf,aa,rfl⟩,I⟩;obtain⟨cs,E,a7,a8,J⟩:=YL (B.wk (B.fd Z.x Z.h Z.ly) N.length (L.drop 1)) Y ap N;have ba:=a6.below I;have bG:∀q,F.frozen? ⟨w.heap.size,q,none⟩=false:=fun q=>(I.frozen (p:=⟨w.heap.size,q,none⟩) bF).trans (bB q);have bH:∀o,F.cell? ⟨w.heap.size,o,none⟩=CB[o]?:=fun o=>(I.cell (p:=⟨w.heap.size,o,none⟩) bF).trans (bC o)
  have bb:=Cd (P:=prog) ba bG (by rw[a8];rfl) J;have O:Hid _:=C5 cs ba (by rw[a8];rfl);have Q:Hid _:=CP (b:=w.heap.size) (p:=0) cs (nl _) (a1.out.trans (I.mono a1.out.size));have bY:Hid (AR (Ag F.cell? (fun k=>k==w.heap.size)) (F.setCells w.heap.size 0 cs).cell?):=Jh (nt _ _)
  have b0:Hid (JD B (F.setCells w.heap.size 0 cs) N L):=⟨aa.nh,aa.len,fun f cg=>(GY (fun ch cl=>by
   have e:ch=w.heap.size:=by simpa using cl
   subst e;exact Lh bH) (aa.nd f cg)).on bY.out⟩
  have b1:Hid (A0 (F.setCells w.heap.size 0 cs).cell? Y N):=by
   rcases bA with e|⟨b2,co,cp,b3⟩
   ·exact .inl e
   ·refine .inr ⟨b2,co,cp,fun i s bd=>?_⟩
    have cq:=Ad I (b3 i s bd);refine(BM ?_).trans cq;intro e;have e:b2=w.heap.size:=e;subst e;exact bn s (nD bd) (LH ((bC _).symm.trans (b3 i s bd)))
  generalize F.setCells w.heap.size 0 cs=be at bb O Q b0 b1;have bf:=run_loadVar_mid (P:=prog) be w.heap.size 0 86 cs _ O.out rfl rfl (by rw[a8];rfl);have bg:=BT cs;unfold Value.cells at bg;clear bY aa J ba bG bH;have cr:Hid _:=a7;rw[a7];clear a7;go_wp2;refine nF (v:=.tuple #[.agg cs.toArray,Am E]) ?_ rfl ⟨.inr ⟨T.out,Y,ap,?_,?_,b7,L,Z,cf,?_,?_⟩,Q.out⟩
  ·simp[results,results67,asAddr,bf]
  ·rw[G.out];exact b1.out
  ·rw[G.out];exact b6
  ·rw[G.out];exact b0.out
  ·rw[G.out,cr.out];rfl
 ·have bi:=AH (n:=H) rfl hF
  rw[bi];obtain⟨c0,ab⟩:∃cs:List Value,kb CB cs:=⟨_,rfl⟩;have bk:c0.length=21:=by rw[←(show _=_ from ab)];rfl
  have cu:=hid bk;have J:∀v∈c0,v.oneCell'=true:=by
   rw[←(show _=_ from ab)];simp[Value.oneCell']
  have bb:=Cd (P:=prog) a6 bB bk.symm J;have O:Hid _:=C5 c0 a6 bk.symm;have Q:Hid _:=CP (b:=w.heap.size) (p:=0) c0 (nl _) a1.out;generalize V.setCells w.heap.size 0 c0=be at bb O Q;have bf:=run_loadVar_mid (P:=prog) be w.heap.size 0 86 c0 _ O.out rfl rfl (by rw[cu.out];rfl);have cB:Value.agg #[.bool false,.int .i64 0,.int .i64 0,.int .i64 0,.bool false,.bool false,.int .i64 0,.int .i64 0,.int .i64 0,.bool false,.slice none 0 0,.bool false,.int .i64 0,.int .i64 0,.int .i64 0,.int .i64 0,.bool false,.slice none 0 0,.string ⟨#[]⟩,.slice none 0 0,.int .i64 0]=BK c0:=by rw[←(show _=_ from ab)];rfl
  have bg:=BT c0;unfold Value.cells at bg;have cx:Hid (Dg.v=.agg c0.toArray):=nV (fun l:List Value=>Value.agg l.toArray) (show CB=c0 from ab);have cA:Hid _:=bi;clear J bi;go_wp2;refine nF (v:=.tuple #[.agg c0.toArray,.iface 74 (.int .i64 H)]) ?_ rfl ⟨.inl ⟨by rw[T.out];exact hF,?_⟩,Q.out⟩
  ·simp[results,results67,asAddr,bf]
  ·rw[T.out,cA.out,cx.out]
theorem FE.form{B:Bx}{w:World}{p:BA}{e:Ending}(h:FE B w p e):∃cs E G,e=.returned (.tuple #[BK cs,Am E])∧cs.length=21∧(∀v∈cs,v.oneCell'=true)∧cs[11]? =some (.bool G):=by
 rcases h with⟨_,rfl⟩|⟨_,an,nj,_,_,_,L,F,_,_,rfl⟩
 ·exact⟨Dg.l,_,false,rfl,DW _,Ej _,rfl⟩
 ·cases B.wk (B.fd F.x F.h F.ly) (BJ p.data.toList).length (L.drop 1)with
  |ok f=>exact⟨Fd.l {f with na:=an,nc:=nj,nf:=BJ p.data.toList},0,f.there,rfl,DW _,Ej _,rfl⟩
  |error E=>exact⟨Dg.l,E,false,rfl,DW _,Ej _,rfl⟩
theorem FE.below{B:Bx}{w w':World}{p:BA}{e:Ending}(h:FE B w p e)(hb:Bw w w'):FE B w' p e:=by
 rcases h with h|⟨F,an,nj,G,H,I,L,J,O,Q,R⟩
 ·exact .inl h
 ·exact .inr ⟨F,an,nj,G.on (Aj hb),H,I,L,J,O,Q.below (Aj hb),R⟩
theorem FE.set{B:Bx}{w:World}{p:BA}{e:Ending}(h:FE B w p e)(O:∀s∈BJ p.data.toList,s≠⟨#[]⟩){n:Nat}(H:∀o,w.cell? ⟨n,o,none⟩=([.bool false,.int .i64 0,.int .i64 0,.int .i64 0,.bool false,.bool false,.int .i64 0,.int .i64 0,.int .i64 0,.bool false,.slice none 0 0,.bool false,.int .i64 0,.int .i64 0,.int .i64 0,.int .i64 0,.bool false,.slice none 0 0,.string ⟨#[]⟩,.slice none 0 0,.int .i64 0]:List Value)[o]?)(cs:List Value):FE B (w.setCells n 0 cs) p e:=by
 rcases h with h|⟨Q,an,nj,R,T,V,L,Y,Z,F,aa⟩
 ·exact .inl h
 ·refine .inr ⟨Q,an,nj,?_,T,V,L,Y,Z,⟨F.nh,F.len,fun f ab=>(GY (fun ad ak=>by
   have e:ad=n:=by simpa using ak
   subst e;exact Lh H) (F.nd f ab)).on (Jh (nt _ _))⟩,aa⟩
  rcases R with e|⟨I,ao,ap,J⟩
  ·exact .inl e
  ·refine .inr ⟨I,ao,ap,fun i s G=>(BM ?_).trans (J i s G)⟩
   intro e;have e:I=n:=e;subst e;exact O s (nD G) (LH ((H _).symm.trans (J i s G)))
def Vt(B:Bx)(w:World)(p:BA)(e:Ending):Prop:=∃cs E F,FE B w p (.returned (.tuple #[BK cs,Am E]))∧cs.length=21∧cs[11]? =some (.bool F)∧e=.returned (if E=0∧F=false then .tuple #[Dg.v,Am 5]else .tuple #[BK cs,Am E])
theorem Rt(cs:List Value)(G:cs.length=21)(H:∀v∈cs,v.oneCell'=true)(E:Int)(I:Bool):∃F D,(if E=0∧I=false then(.tuple #[Dg.v,Am 5]:Value)else .tuple #[BK cs,Am E])=.tuple #[BK F,Am D]∧F.length=21∧∀v∈F,v.oneCell'=true:=by
 split
 ·exact⟨Dg.l,5,rfl,DW _,Ej _⟩
 ·exact⟨cs,E,rfl,G,H⟩
theorem Jt{w:World}{b:Nat}{B:Bx}(h:A5 w b B)(bg:Ik B)(p:BA)(bi:(BJ p.data.toList).length≤1000)(aa:∀s∈BJ p.data.toList,s≠⟨#[]⟩)(ab:Int)(ad:w.cell? ⟨0,0,none⟩=some (.int .i64 ab)):
 Calls prog 33 #[.pointer (some ⟨b,0,none⟩),.string p] w fun e w'=>Vt B w' p e∧Bw w w':=by
 have ak:=A6.new w _ rfl CB 86;have H:Bw w (w.alloc AF):=(nt _ _).alloc (nl _) _;have bk:∀q,(w.alloc AF).frozen? ⟨w.heap.size,q,none⟩=false:=fun q=>nP _ _ _ _ rfl;have bl:∀o,(w.alloc AF).cell? ⟨w.heap.size,o,none⟩=CB[o]?:=fun o=>by rw[nk _ _ _ _ rfl];simp
 have ao:Hid _:=MT (h.below H) bg p bi aa ab (Ad H ad);have ap:Hid _:=H;clear h H ad;go_enter func33,ntmps33;go_upto_region 1 with fail
 generalize(w.alloc AF)=bn at*;go_wp2_with fail
 refine nn ao.out ?_;rintro e az ⟨J,c2⟩;obtain⟨cs,E,O,rfl,I,Q,a1⟩:=J.form;have R:w.heap.size<bn.heap.size:=ny _ _ (ak 0 _ rfl);have a6:w.heap.size<az.heap.size:=nG R c2.size;have bo:Hid _:=Pk az cs I Q O a1 E;clear ao;go_wp2_with fail
 refine nn bo.out ?_;rintro e T ⟨rfl,G⟩;obtain⟨F,D,V,Y,a7⟩:=Rt cs I Q E O;have Z:=(ak.below c2).below G;have a8:∀q,T.frozen? ⟨w.heap.size,q,none⟩=false:=fun q=>(G.frozen (p:=⟨w.heap.size,q,none⟩) a6).trans ((c2.frozen (p:=⟨w.heap.size,q,none⟩) R).trans (bk q));have ba:∀o,T.cell? ⟨w.heap.size,o,none⟩=CB[o]?:=fun o=>(G.cell (p:=⟨w.heap.size,o,none⟩) a6).trans ((c2.cell (p:=⟨w.heap.size,o,none⟩) R).trans (bl o))
 have bb:=ap.out.trans ((c2.trans (G.mono c2.size)).mono ap.out.size);have bp:=Cd (P:=prog) Z a8 (by rw[Y];rfl) a7;have bd:Hid _:=C5 F Z (by rw[Y];rfl);have be:Hid _:=CP (b:=w.heap.size) (p:=0) F (nl _) bb;have bf:Hid _:=(J.below G).set aa ba F;generalize T.setCells w.heap.size 0 F=bs at bp bd be bf;have bu:=run_loadVar_mid (P:=prog) bs w.heap.size 0 86 F _ bd.out rfl rfl (by rw[Y];rfl);have bv:=BT F;unfold Value.cells at bv;have bx:Hid _:=V;have bA:Hid _:=I;rw[V];clear V J a7 Q Z a8 ba bb I;go_wp2;refine nF (v:=.tuple #[.agg F.toArray,Am D]) ?_ rfl ⟨⟨cs,E,O,bf.out,bA.out,a1,?_⟩,be.out⟩
 ·simp[results,results33,asAddr,bu]
 ·rw[bx.out];rfl
theorem Gy{w:World}{b:Nat}{la:Option Addr}{lc:Nat}{x:Nd}{ni:List Nd}(O:w.cell? ⟨b,2,none⟩=some (.slice la (x::ni).length lc))(Q:Ch w.cell? la (x::ni)):
 Calls prog 22 #[.pointer (some ⟨b,0,none⟩)] w fun e w'=>(∃h,e=.returned (Ao x h)∧Ah w.cell? x h∧Ah w'.cell? x h)∧Bw w w':=by
 obtain⟨H,az,rfl,f,R⟩:∃H T,la=some ⟨H,T,none⟩∧∃f:Nat→Hd,∀i y,(x::ni)[i]? =some y→Bj w.cell? H (T+i*8) y (f i)∧Ah w.cell? y (f i):=by
  rcases Q with e|e
  ·cases e
  ·exact e
 obtain⟨G,I⟩:=R 0 x rfl;generalize f 0=hd at G I;clear R;rw[r3,rT]at G;obtain⟨k,m,u,g,o,nh,d,ks⟩:=x;have J:=As.zero w;have hb:Bw w (w.alloc AO):=(nt _ _).alloc (nl _) _;have Z:=G.on (Aj hb);obtain⟨a1,a6,a7,a8,ba,bb,bd,be⟩:=Z;have c2:=Ad hb O;have aa:(0:Int)<(((.mk k m u g o nh d ks:Nd)::ni).length:Int):=by rw[n3];omega
 generalize((.mk k m u g o nh d ks:Nd)::ni).length=bf at c2 aa;go_enter func22,ntmps22;go_upto_region 1 with fail
 have ab:Hid _:=hb;have V:Hid _:=I;obtain⟨z0,ad,ak,z3,z4,z5,ao,ap⟩:=J.1;have fz:=J.2;have bg:=fz 0;have bi:=fz 1;have bk:=fz 2;have bl:=fz 3;have bn:=fz 4;have bo:=fz 5;have bp:=fz 6;have bs:=fz 7;clear hb I J fz G O Q;generalize w.alloc AO=bu at*;have F:w.heap.size≤w.heap.size:=nl _;have Y:Hid _:=(((((((ab.out.setCell (p:=⟨w.heap.size,0,none⟩) F (.int .i64 k)).setCell (p:=⟨w.heap.size,1,none⟩) F (.int .i64 m)).setCell (p:=⟨w.heap.size,2,none⟩) F (.int .i64 u)).setCell (p:=⟨w.heap.size,3,none⟩) F (.int .i64 g)).setCell (p:=⟨w.heap.size,4,none⟩) F (.bool o)).setCell (p:=⟨w.heap.size,5,none⟩) F (.slice hd.aa nh.length hd.ca)).setCell (p:=⟨w.heap.size,6,none⟩) F (.string d)).setCell (p:=⟨w.heap.size,7,none⟩) F (.slice hd.ak ks.length hd.ck);go_wp2;refine nF (v:=Ao (.mk k m u g o nh d ks) hd) ?_ rfl ⟨⟨hd,rfl,V.out,V.out.on (Aj Y.out)⟩,Y.out⟩;simp[results,results22,go_sem,z0,ad,ak,z3,z4,z5,ao,ap,Ao]
end Go.Proofs.YtgppjbhaimmlpaaGreatDoor
