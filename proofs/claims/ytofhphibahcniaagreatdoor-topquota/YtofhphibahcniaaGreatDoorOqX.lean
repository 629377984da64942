/-
  TopQuota: Oq Or.
-/
import Derived.Test.YtofhphibahcniaaGreatDoorWoX
import Derived.Test.YtofhphibahcniaaGreatDoorApX
import Derived.Test.YtofhphibahcniaaGreatDoorOcX
import Derived.Test.YtofhphibahcniaaGreatDoorOjX
import Derived.Test.YtofhphibahcniaaGreatDoorHeX
import Derived.Test.YtofhphibahcniaaGreatDoorFjX
import Derived.SizedLaws
import Derived.Shelf.Vars
import Derived.LaidMore
import Derived.Lay
import Derived.Stop.Joined
import Derived.ChangeMaps5
set_option maxRecDepth 100000
set_option maxHeartbeats 16000000
namespace Go.Proofs.YtofhphibahcniaaGreatDoor
open Go.RowKit Go.Proofs.Tryz
theorem Qn(s:BA):(s==s)=true:=by
 obtain⟨x⟩:=s;exact(show(x==x)=true by simp)
theorem Ao.far{b c:Nat}{u v w:World}(h:Ao b u v)(k:Ao c v w)(G:u.heap.size≤c):Ao b u w:=
 ⟨k.os.trans h.os,k.tape.trans h.tape,k.output.trans h.output,nP h.size k.size,fun i F hb=>(k.block i (nH F h.size) (by omega)).trans (h.block i F hb)⟩
def PG(C:Int×Int×List Int×Int)(F:Nd):BA:=A8 (Dn C.1 C.2.1 C.2.2.2 C.2.2.1++BK F)
theorem cH(a b:List UInt8):A8 a++A8 b=A8 (a++b):=by
 apply ByteArray.ext;simp[A8]
theorem K9{w:World}{b:Nat}{B:Bx}{G:Nd}{ni:List Nd}(h:AX w b B)(F:Bv B G ni)(H:B.q≤64){C:Int×Int×List Int×Int}(I:B.crd=C):Calls prog 8 #[.pointer (some ⟨b,0,none⟩)] w fun e w'=>e=.returned (.string (PG C G))∧Bw w w':=by
 have e:=Xm h F.xs (by have:=F.cred.2;omega) F.fine.lil (by have:=F.fine.cnt;omega) (by have:=O1 F.ok F.quo H;omega) F.ok;rw[cH]at e;rw[←I];exact e
theorem eF{B X:Bx}{G:Nd}{xs:List Nd}(H:Bv B G xs)(I:Bv X G xs)(J:B.M.us=X.M.us)(O:B.M.gs=X.M.gs)(F:B.crd=X.crd):X.cor=B.cor:=by
 unfold Bx.cor;unfold Bx.crd at F;simp only[Prod.mk.injEq]at F;rw[J,O,H.xs,I.xs,F.1,F.2.1,F.2.2.1,F.2.2.2]
theorem Z7{w w':World}{c:Nat}{X:Bx}(G:AX w c X)(hb:Ao c w w'){a:Option Addr}{l:List BA}(h:AW w.cell? a l):AW w'.cell? a l:=by
 rcases h with e|⟨F,H,rfl,I⟩
 ·exact .inl e
 ·refine .inr ⟨F,H,rfl,fun i s J=>?_⟩
  have q:=I i s J;exact(hb.cell (nz _ _ q) (fun e=>by have e:F=c:=e;subst e;exact G.noStr _ _ q)).trans q
theorem eG(c:AO)(cA cB:Int):(c.beS cA cB).2.2.2.1=c.cs:=by
 unfold AO.beS;split
 ·rfl
 split
 ·rfl
 ·rfl
theorem bZ(c:AO)(q:Int)(x0:Nd)(ni:List Nd)(cop cA cB:Int)(p o n d:BA):(c.actS q x0 ni cop cA cB p o n d).2.2.2.2.1=c.cs:=by
 unfold AO.actS;repeat' split
 all_goals first|rfl|exact eG c cA cB
theorem eC(c:AO)(q:Int)(x0:Nd)(ni:List Nd)(cop cA cB:Int)(p o n d:BA):(c.doF q x0 ni cop cA cB p o n d).2.2.2.2.2.1=c.cs:=by
 unfold AO.doF;repeat' split
 all_goals first|rfl|exact bZ c q x0 ni cop cA cB p o n d
theorem ct{H I:World}{c:Nat}{B F:Bx}(J:A6 H B.ca B.cs)(Q:H.heap.size≤c)(R:c<I.heap.size)(O:F.cs=B.cs)(h:F.ca=B.ca∨∀p,F.ca=some p→I.heap.size≤p.block):F.cs=[]∨D6 F.ca c:=by
 rcases dU J with e|e
 ·exact .inl (O.trans e)
 refine .inr fun p G=>?_;rcases h with q|q
 ·rw[q]at G
  have:=e p G;omega
 ·have:=q p G
  omega
theorem WD{W:World}{H I ca lwa:Option Addr}{uc gc cc lwn lwc:Nat}{us gs:List Rg}{cs:List Int}{F G ck q:Int}(fs:Rgs W H us)(fv:Rgs W I gs)(fx:us.length≤uc)(fY:gs.length≤gc)(f0:∀r∈us,r.ok)(f1:∀r∈gs,r.ok)(f2:A6 W ca cs)(hid:A2 F∧A2 G)
 {a:Option Addr} {cap:Nat} {xs:List Nd} (hx:Cn W.cell? a xs) (c3:xs.length≤cap∧cap≤9223372036854775807) (f3:∀x∈xs,AP x) {la:Option Addr} {lcap:Nat} {l:List Cl} (f4:Io W.cell? la l) (d0:Int) (f5:W.cell? ⟨0,0,none⟩=some (.int .i64 d0)):
 Calls prog 3 #[.agg #[.slice H us.length uc,.slice I gs.length gc,.int .i64 F,.int .i64 G,.slice ca cs.length cc,.int .i64 ck,.int .i64 q,.slice lwa lwn lwc],.slice a xs.length cap,.slice la l.length lcap] W fun e hn=>e=.returned (.bool true)∧Bw W hn:=by
 have c4:Bw W (W.alloc (A0 H I ca lwa uc gc cc lwn lwc us gs cs F G ck q)):=(nv _ _).alloc (nn _) _;have d1:Hid ((W.alloc (A0 H I ca lwa uc gc cc lwn lwc us gs cs F G ck q)).cell? ⟨W.heap.size,0,none⟩=some (.slice H us.length uc)∧(W.alloc (A0 H I ca lwa uc gc cc lwn lwc us gs cs F G ck q)).cell? ⟨W.heap.size,1,none⟩=some (.slice I gs.length gc)∧(W.alloc (A0 H I ca lwa uc gc cc lwn lwc us gs cs F G ck q)).cell? ⟨W.heap.size,2,none⟩=some (.int .i64 F)∧(W.alloc (A0 H I ca lwa uc gc cc lwn lwc us gs cs F G ck q)).cell? ⟨W.heap.size,3,none⟩=some (.int .i64 G)∧(W.alloc (A0 H I ca lwa uc gc cc lwn lwc us gs cs F G ck q)).cell? ⟨W.heap.size,4,none⟩=some (.slice ca cs.length cc)∧(W.alloc (A0 H I ca lwa uc gc cc lwn lwc us gs cs F G ck q)).cell? ⟨W.heap.size,5,none⟩=some (.int .i64 ck)∧(W.alloc (A0 H I ca lwa uc gc cc lwn lwc us gs cs F G ck q)).cell? ⟨W.heap.size,6,none⟩=some (.int .i64 q)∧(W.alloc (A0 H I ca lwa uc gc cc lwn lwc us gs cs F G ck q)).cell? ⟨W.heap.size,7,none⟩=some (.slice lwa lwn lwc)):=⟨nl _ _ _ _ rfl,nl _ _ _ _ rfl,nl _ _ _ _ rfl,nl _ _ _ _ rfl,nl _ _ _ _ rfl,nl _ _ _ _ rfl,nl _ _ _ _ rfl,nl _ _ _ _ rfl⟩;obtain⟨c0,c1,c2,ar,ay,az,J,c7⟩:=d1.out;have f7:Hid (Calls prog 4 #[JP H I ca lwa uc gc cc lwn lwc us gs cs F G ck q] (W.alloc (A0 H I ca lwa uc gc cc lwn lwc us gs cs F G ck q)) fun e w'=>(∃r,e=.returned (.bool r)∧(r=true→us.length≤6∧gs.length≤6∧cs.length≤8))∧Bw (W.alloc (A0 H I ca lwa uc gc cc lwn lwc us gs cs F G ck q)) w'):=Wp;have c5:Hid (Bw W (W.alloc (A0 H I ca lwa uc gc cc lwn lwc us gs cs F G ck q))):=c4;have ii:Hid (W.heap.size<(W.alloc (A0 H I ca lwa uc gc cc lwn lwc us gs cs F G ck q)).heap.size):=by show _<_;rw[nw];omega
 have el:Hid (Cn W.cell? a xs):=hx;have f8:Hid (xs.length≤cap∧cap≤9223372036854775807):=c3;have f9:Hid (∀x∈xs,AP x):=f3;have ga:Hid (Io W.cell? la l):=f4;have R:Hid ((Rgs W H us∧Rgs W I gs)∧(us.length≤uc∧gs.length≤gc)∧((∀r∈us,r.ok)∧∀r∈gs,r.ok)∧A6 W ca cs∧A2 F∧A2 G):=⟨⟨fs,fv⟩,⟨fx,fY⟩,⟨f0,f1⟩,f2,hid⟩;have gb:Hid (W.cell? ⟨0,0,none⟩=some (.int .i64 d0)):=f5;obtain⟨N,c6⟩:∃N,Hid (xs.length=N):=⟨_,rfl⟩;obtain⟨bB,d2⟩:∃N,Hid (l.length=N):=⟨_,rfl⟩;rw[c6.out,d2.out];clear fs fv fx fY f0 f1 f2 hid hx c3 f3 f4 f5 c4;go_enter func3,ntmps3;go_upto_region 1 with fail
 generalize(W.alloc (A0 H I ca lwa uc gc cc lwn lwc us gs cs F G ck q))=ba at*;go_wp2_with fail
 refine np f7.out ?_;rintro e d3 ⟨⟨r,rfl,bC⟩,q2⟩;have c8:Hid (Bw W d3):=c5.out.trans (q2.mono c5.out.size);have em:Hid (Bw ba d3):=q2;clear f7 q2;cases r with
 |false=>
  clear bC c0 c1 c2 ar ay az J c7;go_wp2;go_ret;exact⟨rfl,c8.out⟩
 |true=>
  have cf:Hid (us.length≤6∧gs.length≤6∧cs.length≤8):=bC rfl;clear bC;have en:Hid (Calls prog 5 #[.slice a N cap] d3 fun e w'=>e=.returned (.bool (H0 xs))∧Bw d3 w'):=by
   have e:=XW (cap:=cap) (el.out.on (Aj c8.out)) (nP f8.out.1 f8.out.2);rw[c6.out]at e;exact e
  obtain⟨ho,gg⟩:∃B,Hid (H0 xs=B):=⟨_,rfl⟩;rw[gg.out]at en;go_wp2_with fail
  refine np en.out ?_;rintro e d4 ⟨rfl,eo⟩;have c9:Hid (Bw W d4):=c8.out.trans (eo.mono c8.out.size);have ep:Hid (Bw ba d4):=em.out.trans (eo.mono em.out.size);clear en eo c8 em;cases ho with
  |false=>
   clear c0 c1 c2 ar ay az J c7;go_wp2;go_ret;exact⟨rfl,c9.out⟩
  |true=>
   have d5:=dA gg.out;have da:Hid (xs.length≤5∧∀x∈xs,AB x∧cnt x≤1000):=⟨d5.1,fun x hx=>⟨(d5.2 x hx).1,by have:=(d5.2 x hx).2;omega⟩⟩;have gl:Hid (Calls prog 6 #[.slice la bB lcap] d4 fun e w'=>(∃r,e=.returned (.bool r)∧(r=true→l.length≤40∧∀c∈l,c.nm.size≤60))∧Bw d4 w'):=by
    have e:=Wr (cap:=lcap) (ga.out.on (Aj c9.out));rw[d2.out]at e⊢;exact e
   clear d5;go_wp2_with fail
   refine np gl.out ?_;rintro e bF ⟨⟨r,rfl,bC⟩,q4⟩;have bl:Hid (Bw W bF):=c9.out.trans (q4.mono c9.out.size);have aa:Hid (Bw ba bF):=ep.out.trans (q4.mono ep.out.size);clear gl q4 c9 ep;cases r with
   |false=>
    clear bC c0 c1 c2 ar ay az J c7;go_wp2;go_ret;exact⟨rfl,bl.out⟩
   |true=>
    have go:Hid (l.length≤40∧∀c∈l,c.nm.size≤60):=bC rfl;have ij:bB≤40:=by rw[←d2.out];exact go.out.1
    have ik:N≤5:=by rw[←c6.out];exact da.out.1
    have gq:Hid (Calls prog 7 #[JP H I ca lwa uc gc cc lwn lwc us gs cs F G ck q,.slice a N cap] bF fun e w'=>PC bF w' us gs cs F G ck q xs e∧Bw bF w'):=by
     have e:=SO (w:=bF) (uc:=uc) (gc:=gc) (cc:=cc) (lwa:=lwa) (lwn:=lwn) (lwc:=lwc) (ck:=ck) (q:=q) (cap:=cap) (R.out.1.1.below bl.out) (R.out.1.2.below bl.out) (by have:=cf.out.1;omega) (by have:=cf.out.2.1;omega) R.out.2.1.1 R.out.2.1.2 R.out.2.2.1.1 R.out.2.2.1.2 (R.out.2.2.2.1.below bl.out) cf.out.2.2 R.out.2.2.2.2 (el.out.on (Aj bl.out)) da.out.1 da.out.2 f9.out;rw[c6.out]at e;exact e
    replace c0:=Af aa.out c0;replace c1:=Af aa.out c1;replace c2:=Af aa.out c2;replace ar:=Af aa.out ar;replace ay:=Af aa.out ay;replace az:=Af aa.out az;replace J:=Af aa.out J;replace c7:=Af aa.out c7;clear bC;go_wp2_with fail
    refine np gq.out ?_;rintro e ab ⟨hp,q5⟩;have d6:Hid (Bw W ab):=bl.out.trans (q5.mono bl.out.size);have a1:Hid (Bw ba ab):=aa.out.trans (q5.mono aa.out.size);have hq:Hid (ba.heap.size≤bF.heap.size):=aa.out.size;clear gq q5 c0 c1 c2 ar ay az J c7 bl aa;obtain⟨c0,c1,c2,ar,ay,az,J,c7⟩:=d1.out;replace c0:=Af a1.out c0;replace c1:=Af a1.out c1;replace c2:=Af a1.out c2;replace ar:=Af a1.out ar;replace ay:=Af a1.out ay;replace az:=Af a1.out az;replace J:=Af a1.out J;replace c7:=Af a1.out c7;rcases hp with⟨E,rfl,hr,_⟩|⟨b,B,y,rfl,bG,cg,ch,db,dd,bb,_,bn,_⟩
    ·have hs:=AG (n:=E) rfl hr
     rw[hs];clear c0 c1 c2 ar ay az J c7;go_wp2;go_ret;exact⟨rfl,d6.out⟩
    ·have ht:Hid (ba.heap.size≤b):=nP hq.out bG
     have hu:q≤64:=bn.q2;have hv:Hid (EZ us gs cs F G ck 64 xs y):=⟨bn.mu,bn.mg,bn.cr,by omega,by omega,bn.len,bn.low,bn.root⟩;have d7:Hid (AX ab b B∧Bv B y xs∧B.M.us=us∧B.M.gs=gs∧B.q=q):=⟨cg,ch,db,dd,bb⟩;clear cg ch db dd bb bG bn;go_upto_region 10 with fail
     have hw:Hid (BX (ab.alloc (A0 H I ca lwa uc gc cc lwn lwc us gs cs F G ck 64)) ab.heap.size [.slice H us.length uc,.slice I gs.length gc,.int .i64 F,.int .i64 G,.slice ca cs.length cc,.int .i64 ck,.int .i64 64,.slice lwa lwn lwc]):=BX.new ab _ _;have gr:Hid (Bw W (ab.alloc (A0 H I ca lwa uc gc cc lwn lwc us gs cs F G ck 64))):=d6.out.alloc d6.out.size _;have gu:Hid (Bw ba (ab.alloc (A0 H I ca lwa uc gc cc lwn lwc us gs cs F G ck 64))):=a1.out.alloc a1.out.size _;have gv:Hid (AX (ab.alloc (A0 H I ca lwa uc gc cc lwn lwc us gs cs F G ck 64)) b B∧Bv B y xs∧B.M.us=us∧B.M.gs=gs∧B.q=q):=⟨d7.out.1.below bN,d7.out.2⟩;have hy:Hid (b≠ab.heap.size):=by have:=d7.out.1.lt;show _≠_;omega
     clear d7 c0 c1 c2 ar ay az J c7 d6 a1;generalize ab.alloc (A0 H I ca lwa uc gc cc lwn lwc us gs cs F G ck 64)=d8 at*;generalize ab.heap.size=il at*;go_wp2;go_loopw [10] (fun i wr=>∃j:Nat,j≤bB∧i=.int .i64 j∧Hid (Ao b d8 wr∧∃B Z,AX wr b B∧Bv B Z xs∧B.M.us=us∧B.M.gs=gs∧B.q=q)) (fun i _=>bB-(intOf i).toNat)
     case atStart=>exact⟨0,nN _,rfl,Ao.refl _ _,B,y,gv.out⟩
     case round=>
      clear gv;obtain⟨j,im,rfl,eq⟩:=hrel;have bG:ba.heap.size≤b:=ht.out;have er:Hid (Bw W wr):=gr.out.trans (eq.out.1.below (nP c5.out.size bG) gr.out.size);by_cases hz:j<bB
      case neg=>
       have hA:decide ((j:Int)<(bB:Int))=false:=nB (by omega);go_wp2;go_ret;exact⟨rfl,er.out⟩
      have hA:(j:Int)<(bB:Int):=by omega
      obtain⟨c,de⟩:∃c,l[j]? =some c:=⟨_,nt (by rw[d2.out];exact hz)⟩;rcases ga.out with e|⟨lb,gw,rfl,gx⟩
      ·rw[e]at de;simp at de
      obtain⟨gy,B,Z,cg,ch,db,dd,bb⟩:=eq.out;have es:c.nm.size≤1000:=by have:=go.out.2 c (nE de);omega
      have V:=Go.Proofs.YtofhphibahcniaaGreatDoor.hid (gx j c de);obtain⟨cop,cpath,coth,cname,cdata,cA,cB⟩:=c;dsimp only at es;obtain⟨dg,d9⟩:=AQ B.crd;have a6:=Go.Proofs.YtofhphibahcniaaGreatDoor.hid (K9 cg ch (by omega) d9.out);obtain⟨S,eu⟩:=AQ (PG dg Z);rw[eu.out]at a6;have ea:=Go.Proofs.YtofhphibahcniaaGreatDoor.hid cg;have bH:=Go.Proofs.YtofhphibahcniaaGreatDoor.hid ch;have ad:Hid (B.M.us=us∧B.M.gs=gs∧B.q=q∧Ao b d8 wr):=⟨db,dd,bb,gy⟩;have io:(S==S)=true:=(Qn S);clear de gx cg ch db dd bb gy eq;go_wp2_with fail
      refine np a6.out ?_;rintro e bo ⟨rfl,q7⟩;have bY:=Go.Proofs.YtofhphibahcniaaGreatDoor.hid (er.out.trans (q7.mono er.out.size));have bd:=((hw.out.but ad.out.2.2.2 (Ne.symm hy.out)).below q7).1;have hB:=bd 0 _ rfl;have hC:=bd 1 _ rfl;have hD:=bd 2 _ rfl;have hE:=bd 3 _ rfl;have hG:=bd 4 _ rfl;have hH:=bd 5 _ rfl;have hI:=bd 6 _ rfl;have hJ:=bd 7 _ rfl;have gz:Hid (Calls prog 9 #[JP H I ca lwa uc gc cc lwn lwc us gs cs F G ck 64,.slice a N cap,.string S] bo fun e w'=>(∃c X,e=.returned (.tuple #[.pointer (some ⟨c,0,none⟩),.nilIface])∧bo.heap.size≤c∧AX w' c X∧Bv X Z xs∧X.M.us=us∧X.M.gs=gs∧X.q=64∧X.crd=dg∧∀p,X.ca=some p→bo.heap.size≤p.block)∧Bw bo w'):=by
       have e:=Yo (w:=bo) (lwa:=lwa) (cc:=cc) (lwn:=lwn) (lwc:=lwc) (cap:=cap) (R.out.1.1.below bY.out) (R.out.1.2.below bY.out) (by have:=cf.out.1;omega) (by have:=cf.out.2.1;omega) R.out.2.1.1 R.out.2.1.2 R.out.2.2.1.1 R.out.2.2.1.2 (R.out.2.2.2.1.below bY.out) cf.out.2.2 R.out.2.2.2.2 (el.out.on (Aj bY.out)) da.out.1 da.out.2 f9.out hv.out bH.out.cred.1 bH.out.fine bH.out.ok (by have:=bH.out.quo;have:=ad.out.2.2.1;omega);rw[c6.out]at e;have gC:=eu.out;rw[←d9.out]at gC⊢;rw[←gC];exact e
      have gD:Hid (wr.heap.size≤bo.heap.size):=q7.size;have hK:=Go.Proofs.YtofhphibahcniaaGreatDoor.hid ea.out.grp;have ip:b<bo.heap.size:=nH ea.out.lt q7.size;have gE:=Go.Proofs.YtofhphibahcniaaGreatDoor.hid (ea.out.below q7);have gG:=Go.Proofs.YtofhphibahcniaaGreatDoor.hid (ad.out.2.2.2.then q7);clear a6 q7 bd;go_wp2_with fail
      refine np gz.out ?_;rintro e ev ⟨⟨dj,X,rfl,gH,eB,gI,gJ,gK,gL,c3,gM⟩,eb⟩;have ak:=Go.Proofs.YtofhphibahcniaaGreatDoor.hid (bY.out.trans (eb.mono bY.out.size));have ao:Hid (bo.heap.size≤dj∧dj<ev.heap.size∧X.M.us=us∧X.M.gs=gs∧X.q=64∧X.crd=dg):=⟨gH,eB.lt,gJ,gK,gL,c3⟩;have gN:=Go.Proofs.YtofhphibahcniaaGreatDoor.hid eB;have eE:=Go.Proofs.YtofhphibahcniaaGreatDoor.hid gI;have gO:=Go.Proofs.YtofhphibahcniaaGreatDoor.hid gM;have eL:=Go.Proofs.YtofhphibahcniaaGreatDoor.hid (gE.out.below eb);have gP:=Go.Proofs.YtofhphibahcniaaGreatDoor.hid (gG.out.then eb);obtain⟨⟨be,O,b0,b1⟩,ec⟩:=AQ (B.cor.doF q Z xs cop cA cB cpath coth cname cdata);obtain⟨⟨cl,T,b2,ed⟩,gQ⟩:=AQ (B.cor.doF 64 Z xs cop cA cB cpath coth cname cdata);have e0:=Go.Proofs.YtofhphibahcniaaGreatDoor.hid (Um (cop:=cop) (cA:=cA) (cB:=cB) (cpath:=cpath) (coth:=coth) (cname:=cname) (cdata:=cdata) eL.out bH.out d0 (Af ak.out gb.out) es (S:=(be,O,b0,b1)) (by rw[ad.out.2.2.1];exact ec.out));have co:Hid (QD q (be,O,b0,b1) (cl,T,b2,ed)):=by have e:=fm (c:=B.cor) (show q≤64 by omega) (x0:=Z) (by have:=bH.out.quo;have:=ad.out.2.2.1;omega) xs cop cA cB cpath coth cname cdata;rw[ec.out,gQ.out]at e;exact e
      have hL:Hid (be≠0→(b0,b1)=(Z,dg)):=by have e:=fw B.cor q Z xs cop cA cB cpath coth cname cdata;rw[ec.out]at e;rw[←d9.out];exact e
      have dk:ev.cell? ⟨lb,gw+j*7,none⟩=some (.int .i64 cop):=Af ak.out (V.out 0 _ rfl);have dm:=Af ak.out (V.out 1 _ rfl);have dn:=Af ak.out (V.out 2 _ rfl);have dp:=Af ak.out (V.out 3 _ rfl);have dr:=Af ak.out (V.out 4 _ rfl);have ds:=Af ak.out (V.out 5 _ rfl);have f6:=Af ak.out (V.out 6 _ rfl);dsimp only at dk dm dn dp dr ds f6;dsimp only at e0;clear gH eB gI gJ gK gL c3 gM eb gz gE gG ea hB hC hD hE hG hH hI hJ;go_wp2_with fail
      refine np e0.out ?_;rintro e bf ⟨⟨bp,bs,rfl,gR,e1⟩,cp,bg,c4,gS,gT,gU,e2,gV⟩;obtain⟨hM,e3⟩:=AQ (Am be);obtain⟨gW,ee⟩:=AQ (Am cl);rw[e3.out];have Y:Bw bf (bf.alloc (Fw O bp bs)):=bN;have ef:=Go.Proofs.YtofhphibahcniaaGreatDoor.hid ((gN.out.other eL.out (by have:=ao.out.1;omega) (.inr fun p hN=>by have:=gO.out p hN;omega) cp).below Y);have gX:=Go.Proofs.YtofhphibahcniaaGreatDoor.hid (c4.below Y);have ap:=Go.Proofs.YtofhphibahcniaaGreatDoor.hid ((ak.out.trans (cp.below (nP c5.out.size bG) ak.out.size)).trans (Y.mono (ak.out.trans (cp.below (nP c5.out.size bG) ak.out.size)).size));have gY:=Go.Proofs.YtofhphibahcniaaGreatDoor.hid ((gP.out.trans cp).then Y);have gZ:Hid (BX (bf.alloc (Fw O bp bs)) bf.heap.size [.int .i64 O.k,.int .i64 O.m,.int .i64 O.u,.int .i64 O.g,.int .i64 O.n,.slice bp O.nm.length bs,.string O.d]):=BX.new bf _ _;have g0:Hid (AW (bf.alloc (Fw O bp bs)).cell? bp O.nm):=by rw[Dg]at e1;exact e1.on (Aj Y)
      have hO:Hid (O.nm.length≤bs∧bs≤9223372036854775807):=gR;have e4:=Go.Proofs.YtofhphibahcniaaGreatDoor.hid gS;have bu:Hid (dj<bf.heap.size∧bg.M=B.M∧bg.q=B.q∧bg.crd=b1∧(bg.ca=B.ca∨∀p,bg.ca=some p→ev.heap.size≤p.block)):=⟨nH ao.out.2.1 cp.size,gT,gU,e2,gV⟩;have hP:Hid (bg.cs=B.cs):=by
       have e:=eC B.cor q Z xs cop cA cB cpath coth cname cdata;rw[ec.out]at e;have hQ:bg.crd.2.2.1=B.cor.cs:=by rw[e2];exact e
       exact hQ
      clear gR e1 cp c4 gS gT gU e2 gV e0 Y dk dm dn dp dr ds f6 eL gP;go_upto_region 18 with fail
      generalize bf.alloc (Fw O bp bs)=hR at*;generalize bf.heap.size=iq at*;have e5:=Go.Proofs.YtofhphibahcniaaGreatDoor.hid (Um (cop:=cop) (cA:=cA) (cB:=cB) (cpath:=cpath) (coth:=coth) (cname:=cname) (cdata:=cdata) ef.out eE.out d0 (Af ap.out gb.out) es (S:=(cl,T,b2,ed)) (by rw[ao.out.2.2.2.2.1,eF bH.out eE.out (by rw[ad.out.1,ao.out.2.2.1]) (by rw[ad.out.2.1,ao.out.2.2.2.1]) (by rw[d9.out,ao.out.2.2.2.2.2])];exact gQ.out));have dk:hR.cell? ⟨lb,gw+j*7,none⟩=some (.int .i64 cop):=Af ap.out (V.out 0 _ rfl);have dm:=Af ap.out (V.out 1 _ rfl);have dn:=Af ap.out (V.out 2 _ rfl);have dp:=Af ap.out (V.out 3 _ rfl);have dr:=Af ap.out (V.out 4 _ rfl);have ds:=Af ap.out (V.out 5 _ rfl);have f6:=Af ap.out (V.out 6 _ rfl);dsimp only at dk dm dn dp dr ds f6 e5;go_wp2_with fail
      refine np e5.out ?_;rintro e bi ⟨⟨bv,vc,rfl,hS,e6⟩,b3,g2,g5,g6,hT,g7,g8,_⟩;rw[ee.out];have Y:Bw bi (bi.alloc (Fw T bv vc)):=bN;have g9:W.heap.size≤dj:=nP bY.out.size ao.out.1;have hU:d8.heap.size≤dj:=nP ad.out.2.2.2.size (nP gD.out ao.out.1);have e7:=Go.Proofs.YtofhphibahcniaaGreatDoor.hid ((gX.out.other ef.out (by have:=ao.out.1;omega) (ct hK.out (nP gD.out ao.out.1) ao.out.2.1 hP.out bu.out.2.2.2.2) b3).below Y);have e8:=Go.Proofs.YtofhphibahcniaaGreatDoor.hid (g5.below Y);have b4:=Go.Proofs.YtofhphibahcniaaGreatDoor.hid g6;have e9:Hid (g2.q=64∧g2.crd=ed):=⟨by rw[g7];exact ao.out.2.2.2.2.1,g8⟩;have ir:=Go.Proofs.YtofhphibahcniaaGreatDoor.hid ((ap.out.trans (b3.below g9 ap.out.size)).trans (Y.mono (ap.out.trans (b3.below g9 ap.out.size)).size));have ha:=Go.Proofs.YtofhphibahcniaaGreatDoor.hid ((gY.out.far b3 hU).then Y);have hV:=Go.Proofs.YtofhphibahcniaaGreatDoor.hid ((gZ.out.but b3 (by have:=bu.out.1;omega)).below Y);have hW:Hid (AW (bi.alloc (Fw T bv vc)).cell? bp O.nm):=(Z7 ef.out b3 g0.out).on (Aj Y);have hX:Hid (BX (bi.alloc (Fw T bv vc)) bi.heap.size [.int .i64 T.k,.int .i64 T.m,.int .i64 T.u,.int .i64 T.g,.int .i64 T.n,.slice bv T.nm.length vc,.string T.d]):=BX.new bi _ _;have hY:Hid (AW (bi.alloc (Fw T bv vc)).cell? bv T.nm):=by rw[Dg]at e6;exact e6.on (Aj Y)
      clear dk dm dn dp dr ds f6 hS e6 b3 g5 g6 hT g7 g8 e5 Y ef gX gY gZ g0 gN eE gO V;go_upto_region 19 with fail
      generalize bi.alloc (Fw T bv vc)=a7 at*;generalize bi.heap.size=iu at*;have fa:Hid (∀eg,Bw a7 eg→Ao b d8 eg∧∃B Z,AX eg b B∧Bv B Z xs∧B.M.us=us∧B.M.gs=gs∧B.q=q):=fun eg hc=>⟨ha.out.then hc,bg,b0,e7.out.below hc,e4.out,by rw[bu.out.2.1];exact ad.out.1,by rw[bu.out.2.1];exact ad.out.2.1,by rw[bu.out.2.2.1];exact ad.out.2.2.1⟩;have he:bg.q≤64:=by rw[bu.out.2.2.1,ad.out.2.2.1];exact hu
      have ej:Hid (Bw ba a7):=gu.out.trans (ha.out.below bG gu.out.size);have fb:Hid (∀(a8:World) (b5:Hd),Ah a8.cell? b2 b5→Calls prog 12 #[Al b2 b5] a8 fun e w'=>e=.returned (.int .i64 (CH b2))∧Bw a8 w'):=fun a8 b5 b6=>JV b6 b4.out.fine.lil (by have:=b4.out.fine.cnt;omega) (by have:=O1 b4.out.ok b4.out.quo (by rw[e9.out.1];exact Int.le_refl _);omega);obtain⟨du,dw⟩:=AQ (CH b2)
      rw[dw.out]at fb;by_cases cr:be=0
      case neg=>
       have ek:b0=Z∧b1=dg:=by simpa using hL.out cr
       have a6:=Go.Proofs.YtofhphibahcniaaGreatDoor.hid (K9 e7.out e4.out he bu.out.2.2.2.1);rw[ek.1,ek.2,eu.out]at a6;have hf:=e3.out;rw[AG rfl cr]at hf;subst hf;go_wp2_with fail
       refine np a6.out ?_;rintro e fc ⟨rfl,hg⟩;have Q:=Go.Proofs.YtofhphibahcniaaGreatDoor.hid hg;clear a6 hg;by_cases b7:cl=0
       case neg=>
        have hh:=ee.out;rw[AG rfl b7]at hh;obtain rfl:be=cl:=co.out.1 b7;subst hh;have fd:=Go.Proofs.YtofhphibahcniaaGreatDoor.hid (Yd be);rw[AG rfl cr]at fd;go_wp2_with fail
        refine np (fd.out _) ?_;rintro e fe ⟨rfl,rfl⟩;go_wp2_with fail
        refine np (fd.out _) ?_;rintro e fe ⟨rfl,rfl⟩;generalize JS be=iv;go_wp2;go_roundw
        case rel=>exact⟨j+1,by omega,by go_num,fa.out _ Q.out⟩
        case measure=>(simp[intOf];try omega)
       subst b7;obtain rfl:Value.nilIface=gW:=ee.out;have bb:q<du:=by
        rcases Int.lt_or_le q du with h|h
        ·exact h
        ·have e:=(co.out.2 rfl).2 (by rw[dw.out];exact h)
         exact absurd (Prod.mk.inj e).1 cr
       obtain rfl:be=12:=(co.out.2 rfl).1 (by rw[dw.out];exact bb);have bk:Bw fc fc.drew:=(nv _ _).drew;go_upto_region 24 with fail
       have ff:=Go.Proofs.YtofhphibahcniaaGreatDoor.hid (Qp (e8.out.below (Q.out.trans (bk.mono Q.out.size))) b4.out);have J:fc.drew.cell? ⟨W.heap.size,6,none⟩=some (.int .i64 q):=Af (ej.out.trans ((Q.out.trans (bk.mono Q.out.size)).mono ej.out.size)) d1.out.2.2.2.2.2.2.1;go_region_held3 (fun w'=>w'.cell? ⟨W.heap.size,6,none⟩=some (.int .i64 q)) (first|with_reducible exact J|with_reducible exact b9|with_reducible exact dx) (first|(go_at_call 13;(with_reducible refine np ff.out ?_);rintro e a8 ⟨⟨b5,rfl,b6⟩,cb⟩;have dy:=Go.Proofs.YtofhphibahcniaaGreatDoor.hid (fb.out a8 b5 b6);have b9:=Af cb J;have dz:Hid (Bw a7 a8):=(Q.out.trans (bk.mono Q.out.size)).trans (cb.mono (Q.out.trans (bk.mono Q.out.size)).size);clear cb b6)|(go_at_call 12;(with_reducible refine np dy.out ?_);rintro e cu ⟨rfl,cd⟩;have dx:=Af cd b9;have bx:Hid (Bw a7 cu):=dz.out.trans (cd.mono dz.out.size);clear cd dy))
       all_goals
        clear J b9 dx;have cx:=Go.Proofs.YtofhphibahcniaaGreatDoor.hid (OC 12 12 cu);rw[AG rfl cr,show Fo 12 12=true from rfl]at cx;go_wp2_with fail
        refine np cx.out ?_;rintro e fe ⟨rfl,rfl⟩;go_wp2;go_roundw
        case rel=>exact⟨j+1,by omega,by go_num,fa.out _ bx.out⟩
        case measure=>(simp[intOf];try omega)
      subst cr;obtain rfl:Value.nilIface=hM:=e3.out;by_cases b7:cl=0
      case neg=>exact absurd (co.out.1 b7).symm b7
      subst b7;obtain rfl:Value.nilIface=gW:=ee.out;have bb:du≤q:=by
       rcases Int.lt_or_le q du with h|h
       ·exact absurd ((co.out.2 rfl).1 (by rw[dw.out];exact h)) (show¬(0:Int)=12 by decide)
       ·exact h
      have e:=(co.out.2 rfl).2 (by rw[dw.out];exact bb);have hZ:O=T:=nW (fun x=>x.2.1) e;have ek:b0=b2:=nW (fun x=>x.2.2.1) e;have h0:b1=ed:=nW (fun x=>x.2.2.2) e;subst hZ ek h0;clear e;have iw:decide (q<du)=false:=nB (by omega);have Q:Hid (Bw a7 a7):=nv _ _;have bk:Bw a7 a7.drew:=(nv _ _).drew;go_upto_region 24 with fail
      have ff:=Go.Proofs.YtofhphibahcniaaGreatDoor.hid (Qp (e8.out.below (Q.out.trans (bk.mono Q.out.size))) b4.out);have J:a7.drew.cell? ⟨W.heap.size,6,none⟩=some (.int .i64 q):=Af (ej.out.trans ((Q.out.trans (bk.mono Q.out.size)).mono ej.out.size)) d1.out.2.2.2.2.2.2.1;go_region_held3 (fun w'=>w'.cell? ⟨W.heap.size,6,none⟩=some (.int .i64 q)) (first|with_reducible exact J|with_reducible exact b9|with_reducible exact dx) (first|(go_at_call 13;(with_reducible refine np ff.out ?_);rintro e a8 ⟨⟨b5,rfl,b6⟩,cb⟩;have dy:=Go.Proofs.YtofhphibahcniaaGreatDoor.hid (fb.out a8 b5 b6);have b9:=Af cb J;have dz:Hid (Bw a7 a8):=(Q.out.trans (bk.mono Q.out.size)).trans (cb.mono (Q.out.trans (bk.mono Q.out.size)).size);clear cb b6)|(go_at_call 12;(with_reducible refine np dy.out ?_);rintro e cu ⟨rfl,cd⟩;have dx:=Af cd b9;have bx:Hid (Bw a7 cu):=dz.out.trans (cd.mono dz.out.size);clear cd dy))
      all_goals
       clear J b9 dx;have cx:=Go.Proofs.YtofhphibahcniaaGreatDoor.hid (OC 0 0 cu);rw[show Fo 0 0=true from rfl,show Am 0=Value.nilIface from rfl]at cx;go_wp2_with fail
       refine np cx.out ?_;rintro e fe ⟨rfl,rfl⟩;clear cx;have a0:=(hV.out.below bx.out).1;have h1:=a0 0 _ rfl;have h2:=a0 1 _ rfl;have h3:=a0 2 _ rfl;have h4:=a0 3 _ rfl;have h5:=a0 4 _ rfl;have h6:=a0 5 _ rfl;have h7:=a0 6 _ rfl;have bA:=(hX.out.below bx.out).1;have h8:=bA 0 _ rfl;have h9:=bA 1 _ rfl;have ia:=bA 2 _ rfl;have ib:=bA 3 _ rfl;have ic:=bA 4 _ rfl;have ie:=bA 5 _ rfl;have ig:=bA 6 _ rfl;have hi:=Go.Proofs.YtofhphibahcniaaGreatDoor.hid (WM O bp bv bs vc cu hO.out (hW.out.on (Aj bx.out)) (hY.out.on (Aj bx.out)));clear a0 bA;go_wp2_with fail
       refine np hi.out ?_;rintro e ix ⟨rfl,hj⟩;have fg:=Go.Proofs.YtofhphibahcniaaGreatDoor.hid (bx.out.trans (hj.mono bx.out.size));have a6:=Go.Proofs.YtofhphibahcniaaGreatDoor.hid (K9 (e7.out.below fg.out) e4.out he bu.out.2.2.2.1);obtain⟨fh,hk⟩:=AQ (PG b1 b0);have iy:(fh==fh)=true:=(Qn fh);rw[hk.out]at a6;clear h1 h2 h3 h4 h5 h6 h7 h8 h9 ia ib ic ie ig hi hj;go_wp2_with fail
       refine np a6.out ?_;rintro e iz ⟨rfl,hl⟩;have fl:=Go.Proofs.YtofhphibahcniaaGreatDoor.hid (fg.out.trans (hl.mono fg.out.size));have fr:=Go.Proofs.YtofhphibahcniaaGreatDoor.hid (K9 (e8.out.below fl.out) b4.out (by rw[e9.out.1];exact Int.le_refl _) e9.out.2);rw[hk.out]at fr;clear a6 hl;go_wp2_with fail
       refine np fr.out ?_;rintro e iA ⟨rfl,hm⟩;have ih:=Go.Proofs.YtofhphibahcniaaGreatDoor.hid (fl.out.trans (hm.mono fl.out.size));clear fr hm;go_wp2;go_roundw
       case rel=>exact⟨j+1,by omega,by go_num,fa.out _ ih.out⟩
       case measure=>(simp[intOf];try omega)
end Go.Proofs.YtofhphibahcniaaGreatDoor
namespace Go.Proofs.YtofhphibahcniaaGreatDoor
open Go.ChangeShapes Go.WideShapes Go.ChangeAt Go.RowKit Go.ChangeMaps Go.Proofs.Tryz
namespace RowsIn
theorem maxLen_cell{W:World}(h:W.ShapedOpen prog):∃m,W.cell? ⟨0,0,none⟩=some (.int .i64 m):=
 Go.Proofs.cell_of_shapedOpen_int (t:=3) (zero:=#[.int .i64 0]) h (rI (by kernel_rfl)) (by kernel_rfl) rfl (by kernel_rfl) (by kernel_rfl) underlying3
theorem handed{H:Type}{enc:TypeId×Value→H}{os:Os}{f:FuncId}{fn:Func}{s:ChangeSpec}{I J O:Bool}{X:World→Array Value→Prop}
 (_hX:∀(w w':World) (args:Array Value),w.heap=w'.heap→X w args→X w' args) (R:os.Started) (T:Tryz.checked.prog.inits.idxOf? f=none) (V:Tryz.checked.prog.funcs[f]? =some fn)
 (Y:∃(w:World) (tape:Tape) (i:Input),w.os=os∧(w.forCall tape i).Shaped Tryz.checked.prog∧i.vars=[]∧Input.okWide Tryz.checked.prog (w.forCall tape i) .any w.heap.size f i∧
  ((s.pre enc Tryz.checked.prog fn [] false (w.forCall tape i).memory i.args∧X (w.forCall tape i).memory i.args)∧sizedMet enc Tryz.checked.prog fn (OpenSpec.ofChange s) false (w.forCall tape i).memory i.args)∧({}:Assume).holds Tryz.checked.prog (lone (Frame.enter Tryz.checked.prog f i.args .normal) [] (w.forCall tape i)))
 (Z:∀(W:World) (base:Nat) (args:Array Value) (F gs:List (DataW H)) (G:List MemPlace),
  (∀(j:Nat) t v,fn.params[j]? =some t→args[j]? =some v→Value.okWide Tryz.checked.prog W .any base t v)→
  DataW.Whole enc Tryz.checked.prog fn.params.toList s.vars false W args.toList F gs G→W.ShapedOpen Tryz.checked.prog→
  Calls Tryz.checked.prog f args W fun e Q=>∃v,e=.returned v∧s.post enc Tryz.checked.prog fn false I J O W args v Q):
 ReturnsInHanded {} Tryz.checked os f .any (fun w args=>(s.pre enc Tryz.checked.prog fn [] false w args∧X w args)∧sizedMet enc Tryz.checked.prog fn (OpenSpec.ofChange s) false w args) (s.post enc Tryz.checked.prog fn false I J O):=by
 refine returnsInHanded_of_calls RowsIn.own R T Y ?_;intro w tape i _ aa _ ab ad _;obtain⟨_,_,_,ak,ao,_,_,_,_,ap⟩:=ab;obtain rfl:ak=fn:=Option.some.inj (ao.symm.trans V);obtain⟨⟨⟨F,gs,G,ar,_⟩,_⟩,_⟩:=ad;refine(Z (w.forCall tape i) w.heap.size i.args F gs G ap (DataW.Whole.of_heap (w':=w.forCall tape i) (by rfl) ar) aa).mono fun e Q ⟨v,he,hp⟩=>?_;subst he
 exact ChangeSpec.post_blind hp
end RowsIn
end Go.Proofs.YtofhphibahcniaaGreatDoor
