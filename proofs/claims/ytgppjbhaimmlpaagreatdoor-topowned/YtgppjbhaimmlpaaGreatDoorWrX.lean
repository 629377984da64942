/-
  TopOwned: Wr Ws Wt Ne Zh Zn Ug Ha Hb Fe.
-/
import Derived.Test.YtgppjbhaimmlpaaGreatDoorApX
import Derived.Test.YtgppjbhaimmlpaaGreatDoorUcX
import Derived.Test.YtgppjbhaimmlpaaGreatDoorMaX
import Derived.Test.YtgppjbhaimmlpaaGreatDoorWoX
import Derived.Deep.RegionHeld3
import Derived.Deep.RegionLaw
import Derived.Deep.Cut
import Derived.Test.YtgppjbhaimmlpaaGreatDoorKbX
import Derived.Deep.CutRange
set_option maxRecDepth 100000
set_option maxHeartbeats 16000000
namespace Go.Proofs.YtgppjbhaimmlpaaGreatDoor
open Go.RowKit Go.Proofs.Tryz
theorem Pf{W:World}{S:Nat→Bool}(eY:∀k,S k=true→k<W.heap.size){x0:Nd}{h:Hd}(eZ:Ah (Ag W.cell? S) x0 h)(a:Option Addr)(cq:Nat)(l:List BA)(eq:A0 W.cell? a l)(fE:l.length≤1000)(fF:l.length≤cq∧cq≤9223372036854775807)(e0:cnt x0≤800)(b5:Nat)(V:Nd)(b6:Hd)(e1:Cc W b5 V b6)(er:Ah (Ag W.cell? S) V b6)(es:∀r,AG (some V) l x0=.ok r→A7 r∧cnt r≤1000):
 Calls prog 161 #[Ao x0 h,.slice a l.length cq,.func (.func 166) #[] #[.pointer (some ⟨b5,0,none⟩)]] W fun e e2=>FT W e2 S e (AG (some V) l x0):=by
 obtain⟨aa,b7⟩:∃aa,Hid (AG (some V) l x0=aa):=⟨_,rfl⟩;have e3:Hid (∀r,aa=.ok r→A7 r∧cnt r≤1000):=by rw[←b7.out];exact es
 clear es;obtain⟨k,m,u,g,o,nh,d,ks⟩:=x0;have d0:=As.new W k m u g o nh d ks h;have dm:Below W.heap.size W (W.alloc (Ap k m u g o nh d ks h)):=(nt _ _).alloc (nl _) _;have b9:=As.zero (W.alloc (Ap k m u g o nh d ks h));rw[nv]at b9;have d1:=d0.below ((nt _ _).alloc (nl _) AO);have d2:Below W.heap.size W ((W.alloc (Ap k m u g o nh d ks h)).alloc AO):=dm.alloc dm.size _;show Calls prog 161 #[(AY k m u g o nh d ks h),.slice a l.length cq,.func (.func 166) #[] #[.pointer (some ⟨b5,0,none⟩)]] _ _;rw[b7.out];by_cases dn:l=[]
 ·subst dn
  have T:Hid (aa=.error 7):=by show _=_;rw[←b7.out,AG]
  obtain⟨bk,a1,a6,a7,a8,ba,bb,bd,be⟩:(∀j,((W.alloc (Ap k m u g o nh d ks h)).alloc AO).frozen? ⟨W.heap.size+1,j,none⟩=false)∧Cc ((W.alloc (Ap k m u g o nh d ks h)).alloc AO) (W.heap.size+1) zN zH:=⟨b9.2,b9.1⟩;clear d0 dm d1 b9;go_enter func161,ntmps161;go_wp2;refine nF (v:=.tuple #[Ao zN zH,Am 7]) (by simp[results,results161,go_sem,Ao,zN,zH,Am]) rfl ⟨⟨zH,by rw[T.out];rfl,by rw[T.out];exact G5 _⟩,?_⟩;exact d2
 obtain⟨b,Y,rfl,eu⟩:∃b Y,a=some ⟨b,Y,none⟩∧∀i s,l[i]? =some s→W.cell? ⟨b,Y+i,none⟩=some (.string s):=by
  rcases eq with e|e
  ·exact absurd e dn
  ·exact e
 have dp:=hid eu;obtain⟨n,ev⟩:∃n,l.length=n+1:=⟨l.length-1,by have:=ri.2 dn;omega⟩;have e4:=hid ev;have fG:n<l.length:=by omega
 have fH:n≤cq:=by omega
 have fI:n≤1000:=by omega
 have e5:IntKind.i64.wrap ((l.length:Int)-1)=(n:Int):=(Ez (by omega) (by omega)).trans (by omega);have e6:(l.length:Int)-1=(n:Int):=by omega
 have e7:((l.length:Int)==0)=false:=by simp;omega
 have Z:EX W ((W.alloc (Ap k m u g o nh d ks h)).alloc AO) S W.heap.size (.mk k m u g o nh d ks) (some V) l l W.heap.size 0 (.mk k m u g o nh d ks) h:=EX.start d2 rfl b9 d1 eY eZ;clear eu eq dn ev d0 dm d1 b9 d2;go_enter func161,ntmps161;go_wp2;generalize(W.alloc (Ap k m u g o nh d ks h)).alloc AO=fJ at Z⊢;generalize fK:W.heap.size=J at Z⊢;clear e5 e6 e7;go_loopw [27,8] (fun i v wr=>∃(j H I:Nat) (y:Nd) (F:Hd),j≤n∧i=.int .i64 j∧v=.pointer (some ⟨H,I,none⟩)∧EX W wr S J (.mk k m u g o nh d ks) (some V) l (l.drop j) H I y F∧cnt y≤800) (fun i _ _=>n-(intOf i).toNat)
 case atStart=>exact⟨0,J,0,_,h,nM _,rfl,rfl,Z,e0⟩
 case round=>
  obtain⟨j,H,I,y,F,fL,rfl,rfl,Z,eB⟩:=hrel;have eE:y.kids.length≤800:=N0 eB
  obtain⟨L,d3,d4⟩:=Og (show DP (Ag W.cell? S) F.ak y.kids by
   have d5:=Z.tree;obtain⟨bp,d6,d7,d8,d9,ea,eb,G⟩:=y;exact(Cj.1 d5).2.2.2)
  have eF:y.kids.length=L.length:=by rw[←d3,ER]
  have eG:y.kids.length≤F.ck∧F.ck≤9223372036854775807:=by
   have d5:=Z.tree;obtain⟨bp,d6,d7,d8,d9,ea,eb,G⟩:=y;exact(Cj.1 d5).2.2.1
  have dr:=hid d3;have cb:=hid eF;have ec:Cu wr.cell? F.ak L:=(d4.on (Ci _ _)).on (Aj Z.low);have ed:=Z.res;have bs:=ed.store zN zH;have eH:Au (J+1) wr (Ar wr (J+1) zN zH):=Cf;have eI:=Z.low.trans (eH.below (B:=W.heap.size) (by omega) Z.low.size);obtain⟨⟨z0,bu,bv,z3,z4,z5,bx,bA⟩,bk⟩:=id ed;have eJ:=Z.atc;have cf:=Z.fz;have az:=hid Z;have bB:Hid (∀f,f≠0→aa=.error f→FT W (Ar wr (J+1) zN zH) S (.returned (.tuple #[Ao zN zH,Am f])) aa):=by
   intro f _ e8;rw[e8];exact⟨⟨zH,rfl,G5 _⟩,eI⟩
  generalize bf:Ar wr (J+1) zN zH=fM at bs bB;have cg:=hid bf;have ab:Below W.heap.size W wr:=Z.low;clear bf eH eI ed d3 eF Z;by_cases fN:j<n;rotate_left
  ·
   have e9:j=n:=by omega
   subst e9;have fa:decide ((j:Int)<(j:Int))=false:=nA (by omega);obtain⟨nm,ad⟩:∃s,l[j]? =some s:=⟨l[j]'(by omega),np _⟩;have cr:Hid (l.drop j=[nm]):=by
    show _=_;rw[nN (by omega),n7 (by have:=e4.out;omega)];rw[np (by omega)]at ad;simp at ad;rw[ad]
   rw[cr.out]at az;have c0:wr.cell? ⟨b,Y+j,none⟩=some (.string nm):=(ab.cell (p:=⟨b,Y+j,none⟩) (ny _ _ (dp.out j nm ad))).trans (dp.out j nm ad);have cu:Hid (∃ao:Nd→Nd,aa=(AG (some V) [nm] y).map ao):=by
    obtain⟨ao,q,_⟩:=az.out.wand;exact⟨ao,by rw[←b7.out];exact q⟩
   clear ad cr;obtain⟨bp,d6,d7,d8,d9,ea,eb,G⟩:=y;obtain⟨cx,cA,cB,c3,c4,c5,c6,bl⟩:=eJ;have fO:(j:Int)<(l.length:Int):=by omega
   by_cases bi:bp=2;rotate_left
   ·have ee:(bp !=2)=true:=bne_iff_ne.2 bi
    have T:Hid (aa=.error 7):=by
     obtain⟨ao,q⟩:=cu.out;show _=_;rw[q,AG,nC (by exact bi)];rfl
    clear bi;go_wp2;have bf:=cg.out;simp only[Ar,zN,zH]at bf;simp only[nQ]at bf;rw[bf];obtain⟨a1,a6,a7,a8,ba,bb,bd,be⟩:=bs.1;refine nF (v:=.tuple #[Ao zN zH,Am 7]) (by simp[results,results161,go_sem,Ao,zN,zH,Am,a1,a6,a7,a8,ba,bb,bd,be]) rfl (bB.out 7 (by decide) T.out)
   subst bi;have ee:((2:Int)!=2)=false:=rfl;have bC:Below wr.heap.size wr wr.drew:=rz (nt _ _) 1;have c8:=YH F.ak F.ck b5 V b6 L nm wr.drew (by have:=cb.out;omega) (by have:=cb.out;have:=eG.1;omega) eG.2 (ec.on (Aj bC)) (e1.below (ab.trans (bC.mono ab.size))) ((er.on (Ci _ _)).ab (ab.trans (bC.mono ab.size)));rw[←cb.out]at c8;have c9:Hid (FM (some V) nm G=match Ed (some (V,b6)) nm L with|.error f=>.error f|.ok M=>.ok (bare M)):=by
    have q:=RJ (some (V,b6)) nm L;rw[dr.out]at q;exact q
   cases hA:Ed (some (V,b6)) nm L with
   |error f=>
    rw[hA]at c9;have da:Calls prog 166 #[.slice F.ak G.length F.ck,.string nm,.pointer (some ⟨b5,0,none⟩)] wr.drew fun e w'=>(f≠0∧e=.returned (.tuple #[.slice none 0 0,.iface 74 (.int .i64 f)]))∧Below wr.drew.heap.size wr.drew w':=by
     refine c8.mono ?_;rintro e w' ⟨q|⟨M,v,q,_⟩,hb⟩
     ·obtain⟨fP,q1,q2,db⟩:=q
      rw[hA]at q1;simp only[rS]at q1;subst q1;exact⟨⟨q2,db⟩,hb⟩
     ·rw[hA]at q;cases q
    have T:Hid (aa=.error f):=by
     obtain⟨ao,q⟩:=cu.out;show _=_;rw[q,AG,nB (by show¬(2:Int)≠2;simp)];show Except.map ao (Except.map _ (FM (some V) nm G))=_;rw[c9.out];rfl
    have ak:wr.drew.cell? ⟨H,I+7,none⟩=some (.slice F.ak G.length F.ck)∧wr.drew.cell? ⟨b,Y+j,none⟩=some (.string nm):=⟨bl,c0⟩;have dd:Hid _:=da;clear hA c8 da c9;go_wp2;go_region_held3 (fun w'=>w'.cell? ⟨H,I+7,none⟩=some (.slice F.ak G.length F.ck)∧w'.cell? ⟨b,Y+j,none⟩=some (.string nm)) (first|exact ak|exact ch) (first|(go_at_call 166;refine nn dd.out ?_;rintro e O ⟨⟨fb,rfl⟩,ap⟩;have ch:O.cell? ⟨H,I+7,none⟩=some (.slice F.ak G.length F.ck)∧O.cell? ⟨b,Y+j,none⟩=some (.string nm):=⟨(ap.cell (p:=⟨H,I+7,none⟩) (ny _ _ ak.1)).trans ak.1,(ap.cell (p:=⟨b,Y+j,none⟩) (ny _ _ ak.2)).trans ak.2⟩))
    all_goals
     have Q:Below wr.heap.size wr O:=bC.trans ap;have de:=az.out.res.below Q;have bF:=ab.trans (Q.mono ab.size);have bn:=de.store zN zH;have bg:Au (J+1) O (Ar O (J+1) zN zH):=Cf;have bo:=bF.trans (bg.below (B:=W.heap.size) (by omega) bF.size);generalize R:Ar O (J+1) zN zH=eK at bn bo;have dg:=hid R;clear R bg cx cA cB c3 c4 c5 c6 bl z0 bu bv z3 z4 z5 bx bA bk c0 ap ak ch ab bF bC Q bs cg bB dd cf;obtain⟨⟨z0,bu,bv,z3,z4,z5,bx,bA⟩,bk⟩:=id de;go_wp2;have R:=dg.out;simp only[Ar,zN,zH,nQ]at R;rw[R];obtain⟨a1,a6,a7,a8,ba,bb,bd,be⟩:=bn.1;refine nF (v:=.tuple #[Ao zN zH,.iface 74 (.int .i64 f)]) (by simp[results,results161,go_sem,Ao,zN,zH,a1,a6,a7,a8,ba,bb,bd,be]) rfl ⟨⟨zH,by rw[T.out,PN fb];rfl,by rw[T.out];exact G5 _⟩,bo⟩
   |ok M=>
    rw[hA]at c9;have da:Calls prog 166 #[.slice F.ak G.length F.ck,.string nm,.pointer (some ⟨b5,0,none⟩)] wr.drew fun e w'=>(∃cl ck,e=.returned (.tuple #[.slice cl M.length ck,.nilIface])∧w'.ownsRow wr.heap.size 73 9 (.slice cl M.length ck) M.length (BH M))∧Below wr.drew.heap.size wr.drew w':=by
     refine c8.mono ?_;rintro e w' ⟨⟨f,q,_⟩|⟨M',v,q,rfl,q2⟩,hb⟩
     ·rw[hA]at q;cases q
     ·rw[hA]at q
      simp only[rE]at q;subst q;obtain⟨cl,ck,ds,_⟩:=Ei q2;subst ds;exact⟨⟨cl,ck,rfl,q2⟩,hb⟩
    have fc:Hid (∀e∈M,Ah (Ag W.cell? S) e.2.1 e.2.2):=by
     intro e fd;simp only[Ed]at hA;split at hA
     ·cases hA
     ·simp only[rE]at hA
      subst hA;rcases Z8 fd with q|q
      ·rw[q];exact er
      ·exact d4.2 e q
    have ak:wr.drew.cell? ⟨H,I+7,none⟩=some (.slice F.ak G.length F.ck)∧wr.drew.cell? ⟨b,Y+j,none⟩=some (.string nm):=⟨bl,c0⟩;have dd:Hid _:=da;clear hA c8 da;go_wp2;go_region_held3 (fun w'=>w'.cell? ⟨H,I+7,none⟩=some (.slice F.ak G.length F.ck)∧w'.cell? ⟨b,Y+j,none⟩=some (.string nm)) (first|exact ak|exact ch) (first|(go_at_call 166;refine nn dd.out ?_;rintro e O ⟨⟨cl,ck,rfl,bG⟩,ap⟩;have ch:O.cell? ⟨H,I+7,none⟩=some (.slice F.ak G.length F.ck)∧O.cell? ⟨b,Y+j,none⟩=some (.string nm):=⟨(ap.cell (p:=⟨H,I+7,none⟩) (ny _ _ ak.1)).trans ak.1,(ap.cell (p:=⟨b,Y+j,none⟩) (ny _ _ ak.2)).trans ak.2⟩))
    all_goals
     have Q:Below wr.heap.size wr O:=bC.trans ap;obtain⟨r,fQ,q1,q2,db,q4,q5⟩:=az.out.fin Q (nl _) fc.out rfl c9.out rfl bG;have fe:O.frozen? ⟨H,I+7,none⟩=false:=(Q.frozen (p:=⟨H,I+7,none⟩) az.out.atc.lt).trans (cf _);have T:Hid (aa=.ok r):=by show _=_;rw[←b7.out];exact q1
     obtain⟨ff,fg⟩:=e3.out r T.out;have dj:=ch.1;clear q1 cx cA cB c3 c4 c5 c6 bl z0 bu bv z3 z4 z5 bx bA bk c0 ap ak ch ab bC Q bs cg bB dd cf bG
     have eL:=Hv (S:=EN J S) (fun k dk=>by
      simp[EN]at dk;rcases dk with dk|dk
      ·have:=q5.1.lt;omega
      ·have:=az.out.hS k dk;have:=q4.size;omega) db ff fg
     have ef:Hid _:=eL;clear eL;generalize eM:O.setCell ⟨H,I+7,none⟩ (.slice cl M.length ck)=co at q2 db q4 q5 ef;have fR:=hid eM;obtain⟨bH,bY,u2,b0,b1,b2,b3,b4⟩:=r;obtain⟨x0,fh,fi,fj,fl,fm,fo,fp⟩:=id q2;go_wp2_with fail
     refine nn ef.out ?_;rintro e cp ⟨⟨h',rfl,fq⟩,eg⟩;have eN:=q5.below eg;have ap:=q4.trans (eg.mono q4.size);have bn:=eN.store (.mk bH bY u2 b0 b1 b2 b3 b4) h';have bg:Au (J+1) cp (Ar cp (J+1) (.mk bH bY u2 b0 b1 b2 b3 b4) h'):=Cf;have bo:=ap.trans (bg.below (B:=W.heap.size) (by omega) ap.size);have step:AR (Ag cp.cell? (EN J S)) (Ag (Ar cp (J+1) (.mk bH bY u2 b0 b1 b2 b3 b4) h').cell? S):=Cb fun q fs eO=>⟨(Ju.1 eO).2,bg.block q fs (Ju.1 eO).1⟩;have ft:Ao (.mk bH bY u2 b0 b1 b2 b3 b4) h'=(AY bH bY u2 b0 b1 b2 b3 b4 h'):=rfl
     rw[ft];generalize R:Ar cp (J+1) (.mk bH bY u2 b0 b1 b2 b3 b4) h'=eK at bn bg bo step;have dg:=hid R;clear R eM x0 fh fi fj fl fm fo fp ef q2 db q4 q5 eg fe dj bg;obtain⟨⟨z0,bu,bv,z3,z4,z5,bx,bA⟩,bk⟩:=id eN;go_wp2;have R:=dg.out;simp only[Ar]at R;rw[R];obtain⟨a1,a6,a7,a8,ba,bb,bd,be⟩:=bn.1;refine nF (v:=.tuple #[Ao (.mk bH bY u2 b0 b1 b2 b3 b4) h',.nilIface]) (by simp[results,results161,go_sem,Ao,a1,a6,a7,a8,ba,bb,bd,be]) rfl ⟨⟨h',by rw[T.out];rfl,?_⟩,bo⟩;rw[T.out];exact fq.on step
  have fa:(j:Int)<(n:Int):=by omega
  obtain⟨nm,ad⟩:∃s,l[j]? =some s:=⟨l[j]'(by omega),np _⟩;obtain⟨ej,du⟩:∃s,l[j+1]? =some s:=⟨l[j+1]'(by omega),np _⟩;have eP:Hid (l.drop (j+1)=ej::l.drop (j+2)):=by
   show _=_;rw[nN (by omega)];rw[np (by omega)]at du;simp at du;rw[du]
  have cr:Hid (l.drop j=nm::ej::l.drop (j+2)):=by
   show _=_;rw[nN (by omega),eP.out];rw[np (by omega)]at ad;simp at ad;rw[ad]
  rw[cr.out]at az;have c0:wr.cell? ⟨b,Y+j,none⟩=some (.string nm):=(ab.cell (p:=⟨b,Y+j,none⟩) (ny _ _ (dp.out j nm ad))).trans (dp.out j nm ad);have cu:Hid (∃ao:Nd→Nd,aa=(AG (some V) (nm::ej::l.drop (j+2)) y).map ao):=by
   obtain⟨ao,q,_⟩:=az.out.wand;exact⟨ao,by rw[←b7.out];exact q⟩
  clear ad du cr;have eQ:H<wr.heap.size:=az.out.atc.lt;obtain⟨bp,d6,d7,d8,d9,ea,eb,G⟩:=y;obtain⟨cx,cA,cB,c3,c4,c5,c6,bl⟩:=eJ;by_cases bi:bp=2;rotate_left
  ·have ee:(bp !=2)=true:=bne_iff_ne.2 bi
   have T:Hid (aa=.error 7):=by
    obtain⟨ao,q⟩:=cu.out;show _=_;rw[q,AG,nC (by exact bi)];rfl
   clear bi;go_wp2;have bf:=cg.out;simp only[Ar,zN,zH]at bf;simp only[nQ]at bf;rw[bf];obtain⟨a1,a6,a7,a8,ba,bb,bd,be⟩:=bs.1;refine nF (v:=.tuple #[Ao zN zH,Am 7]) (by simp[results,results161,go_sem,Ao,zN,zH,Am,a1,a6,a7,a8,ba,bb,bd,be]) rfl (bB.out 7 (by decide) T.out)
  subst bi;have ee:((2:Int)!=2)=false:=rfl
  have eR:Calls prog 137 #[.slice F.ak G.length F.ck,.string nm] wr fun e w'=>e=.returned (.int .i64 (Bl nm G 0))∧Below wr.heap.size wr w':=JT F.ak F.ck G nm wr (by exact nO eE (by decide)) (by
   have q:=IB ec;rw[dr.out]at q;exact q)
  have dw:Hid _:=eR;clear eR;rcases Hw nm G 0 with⟨ek,_⟩|⟨p,z,el,hx,_⟩
  ·have dx:Hid (Bl nm G 0=-1):=ek
   have T:Hid (aa=.error 5):=by
    obtain⟨ao,q⟩:=cu.out;show _=_;rw[q,AG,nB (by show¬(2:Int)≠2;simp),nC (by show Bl nm G 0<0;rw[ek];decide)];rfl
   clear ek;go_wp2_with fail
   refine nn dw.out ?_;rintro e O ⟨rfl,Q⟩;rw[dx.out];have de:=az.out.res.below Q;have bF:=ab.trans (Q.mono ab.size);have bn:=de.store zN zH;have bg:Au (J+1) O (Ar O (J+1) zN zH):=Cf;have bo:=bF.trans (bg.below (B:=W.heap.size) (by omega) bF.size);generalize R:Ar O (J+1) zN zH=eK at bn bo;have dg:=hid R;clear R bg cx cA cB c3 c4 c5 c6 bl z0 bu bv z3 z4 z5 bx bA bk c0 ab bF Q bs cg bB cf dw;obtain⟨⟨z0,bu,bv,z3,z4,z5,bx,bA⟩,bk⟩:=id de;go_wp2;have R:=dg.out;simp only[Ar,zN,zH,nQ]at R;rw[R];obtain⟨a1,a6,a7,a8,ba,bb,bd,be⟩:=bn.1;refine nF (v:=.tuple #[Ao zN zH,.iface 74 (.int .i64 5)]) (by simp[results,results161,go_sem,Ao,zN,zH,a1,a6,a7,a8,ba,bb,bd,be]) rfl ⟨⟨zH,by rw[T.out];rfl,by rw[T.out];exact G5 _⟩,bo⟩
  rw[nT]at el;have dx:=hid el;have fS:p<G.length:=(nw.1 hx).1;have fu:cnt z≤800:=by
   have q1:=Iw hx;rw[cnt]at eB;omega
  obtain⟨⟨fv,eS,fw⟩,em⟩:∃e,L[p]? =some e:=⟨L[p]'(by have:=cb.out;simp only[Nd.kids]at this;omega),np _⟩;have fx:fv=nm∧eS=z:=by
   have q:=dr.out;have q2:(bare L)[p]? =some (nm,z):=by rw[q];exact hx
   unfold bare at q2;rw[n4,em]at q2;simpa using q2
  obtain⟨rfl,rfl⟩:=fx;have fy:=hid em;have fA:L.length≤1000:=by rw[←cb.out];exact nO eE (by decide)
  clear el hx em;have fT:decide ((p:Int)<0)=false:=nA (by omega);have fU:(p:Int)<(G.length:Int):=by omega
  go_wp2_with fail
  refine nn dw.out ?_;rintro e O ⟨rfl,Q⟩;rw[dx.out];have dj:O.cell? ⟨H,I+7,none⟩=some (.slice F.ak G.length F.ck):=(Q.cell (p:=⟨H,I+7,none⟩) eQ).trans bl;have eT:=ec.on (Aj Q);have en:=MJ F.ak F.ck L O fA eT;have eU:L.length=G.length:=cb.out.symm;rw[eU]at en;have eV:Hid _:=en;clear en eU cx cA cB c3 c4 c5 c6 bl z0 bu bv z3 z4 z5 bx bA bk c0 bs cg bB dw eT;go_wp2_with fail
  refine nn eV.out ?_;rintro e co ⟨⟨v,rfl,bG⟩,eo⟩;obtain⟨a3,dy,ds,_,_,fB⟩:=Ei bG;rcases fB with⟨_,q,_⟩|⟨g3,rfl,fV,_,_,_⟩
  ·omega
  rw[ds]at bG⊢;clear ds;have ep:=Q.trans (eo.mono Q.size);have eW:co.cell? ⟨H,I+7,none⟩=some (.slice F.ak G.length F.ck):=(eo.cell (p:=⟨H,I+7,none⟩) (ny _ _ dj)).trans dj;have fC:co.frozen? ⟨H,I+7,none⟩=false:=(ep.frozen (p:=⟨H,I+7,none⟩) eQ).trans (cf _);have dz:=az.out.step ep Q.size dr.out d4.2 rfl dx.out fy.out bG;have eX:(co.setCell ⟨H,I+7,none⟩ (.slice (some ⟨g3,0,none⟩) G.length dy)).cell? ⟨H,I+7,none⟩=some (.slice (some ⟨g3,0,none⟩) G.length dy):=nH _ _ _ eW;rw[←eP.out]at dz;change EX W (co.setCell ⟨H,I+7,none⟩ (.slice (some ⟨g3,0,none⟩) G.length dy)) S J _ _ _ _ _ _ _ _ at dz;generalize fD:co.setCell ⟨H,I+7,none⟩ (.slice (some ⟨g3,0,none⟩) G.length dy)=cp at dz eX;clear bG Q eo ep dj eV cf;go_wp2;clear fD eW eX fC;go_roundw
  case rel=>exact⟨j+1,g3,p*9+1,eS,fw,by omega,by go_num,by first|rfl|simp,dz,fu⟩
  case measure=>simp[intOf];omega
def Mm(W G:World)(e:Ending)(F:Except Int Nd):Prop:=(∃h',e=.returned (.tuple #[Ao (DM F) h',Am (EG F)])∧Ah G.cell? (DM F) h')∧Below W.heap.size W G
theorem YR{W:World}{x0:Nd}{h:Hd}(a8:Ah W.cell? x0 h)(a:Option Addr)(R:Nat)(l:List BA)(ba:A0 W.cell? a l)(bx:l.length≤1000)(bA:l.length≤R∧R≤9223372036854775807)(bB:cnt x0≤800)(bb:∀r,AG none l x0=.ok r→A7 r∧cnt r≤1000):
 Calls prog 132 #[Ao x0 h,.slice a l.length R] W fun e ao=>Mm W ao e (AG none l x0):=by
 obtain⟨ap,bd⟩:=A3 (AG none l x0);obtain⟨k,m,u,g,o,nh,d,ks⟩:=x0;have be:=As.new W k m u g o nh d ks h;have az:Below W.heap.size W (W.alloc (Ap k m u g o nh d ks h)):=bN;have ab:=As.zero (W.alloc (Ap k m u g o nh d ks h));rw[nv]at ab;have q2:=(nt _ (W.alloc (Ap k m u g o nh d ks h))).alloc (nl _) AO;have bf:=be.below q2;have T:Below W.heap.size W ((W.alloc (Ap k m u g o nh d ks h)).alloc AO):=az.alloc az.size _;have bg:AR W.cell? (Ag ((W.alloc (Ap k m u g o nh d ks h)).alloc AO).cell? (fun q=>q==(W.heap.size+1))):=Na T (fun q V=>by simp;omega);have bi:cL 161 #[Ao (.mk k m u g o nh d ks) h,.slice a l.length R,.func (.func 162) #[] #[]] ((W.alloc (Ap k m u g o nh d ks h)).alloc AO) fun e ao=>FT ((W.alloc (Ap k m u g o nh d ks h)).alloc AO) ao (fun q=>q==(W.heap.size+1)) e ap:=by
  rw[←bd.out];exact VC (S:=fun q=>q==(W.heap.size+1)) (fun q V=>by simp at V;rw[V];exact ab.1.lt) (a8.on bg) a R l (ba.on (Aj T)) bx bA bB bb
 have bk:Hid _:=bi;rw[bd.out];show cL 132 #[(AY k m u g o nh d ks h),.slice a l.length R] _ _;obtain⟨⟨bC,bF,bG,bH,bY,b0,b1,b2⟩,b3⟩:=id bf;clear bi bb bg ba a8;go_enter func132,ntmps132;go_wp2_with fail
 refine nn bk.out ?_;rintro e Y ⟨⟨h',rfl,ad⟩,a1⟩;have a6:=ab.below a1;have bl:=T.trans (a1.mono T.size);clear bC bF bG bH bY b0 b1 b2 b3 bk be bf ab az T a1 q2;generalize cp:(W.heap.size+1)=Z at a6 ad⊢;generalize bn:DM ap=r at ad⊢;have bo:=hid bn;clear bn;obtain⟨F,G,u2,H,I,J,O,Q⟩:=r;have bp:=a6.store (.mk F G u2 H I J O Q) h';have a7:Au Z Y (Ar Y Z (.mk F G u2 H I J O Q) h'):=Cf;have bs:=bl.trans (a7.below (B:=W.heap.size) (by omega) bl.size);have step:AR (Ag Y.cell? (fun q=>q==Z)) (Ar Y Z (.mk F G u2 H I J O Q) h').cell?:=(Cb (S':=fun _=>false) fun q V b4=>⟨rfl,a7.block q V (by simpa using b4)⟩).trans (Ci _ _);have bu:=ad.on step;generalize aa:Ar Y Z (.mk F G u2 H I J O Q) h'=cq at bp bs bu;have b5:=hid aa;have ak:Ao (.mk F G u2 H I J O Q) h'=(AY F G u2 H I J O Q h'):=rfl;rw[ak];obtain⟨⟨z0,cr,cu,z3,z4,z5,cx,cA⟩,cB⟩:=id a6;clear aa step a7 ad ak;generalize bv:Am (EG ap)=ak;have b6:=hid bv;clear bv;go_wp2;have aa:=b5.out;simp only[Ar]at aa;rw[aa];obtain⟨b7,b9,cb,cf,cg,ch,cl,co⟩:=bp.1;refine nF (v:=.tuple #[Ao (.mk F G u2 H I J O Q) h',ak]) (by simp[results,results132,go_sem,Ao,b7,b9,cb,cf,cg,ch,cl,co]) rfl ⟨⟨h',by rw[bo.out,b6.out],by rw[bo.out];exact bu⟩,bs⟩
theorem ZK{W:World}{x0:Nd}{h:Hd}(bp:Ah W.cell? x0 h)(a:Option Addr)(ak:Nat)(l:List BA)(bs:A0 W.cell? a l)(b5:l.length≤1000)(b6:l.length≤ak∧ak≤9223372036854775807)(b7:cnt x0≤800)(ao:Nd)(hx:Hd)(bu:Ah W.cell? ao hx)(bv:∀r,AG (some ao) l x0=.ok r→A7 r∧cnt r≤1000):
 Calls prog 138 #[Ao x0 h,.slice a l.length ak,Ao ao hx] W fun e bd=>Mm W bd e (AG (some ao) l x0):=by
 obtain⟨be,bx⟩:=A3 (AG (some ao) l x0);obtain⟨F,G,H,I,J,O,Q,R⟩:=ao;obtain⟨k,m,u,g,o,nh,d,ks⟩:=x0;have bA:=As.new W k m u g o nh d ks h;have bf:Below W.heap.size W (W.alloc (Ap k m u g o nh d ks h)):=bN;have bg:=As.new (W.alloc (Ap k m u g o nh d ks h)) F G H I J O Q R hx;rw[nv]at bg;have bi:Below W.heap.size W ((W.alloc (Ap k m u g o nh d ks h)).alloc (Ap F G H I J O Q R hx)):=bf.alloc bf.size _;have a8:=As.zero ((W.alloc (Ap k m u g o nh d ks h)).alloc (Ap F G H I J O Q R hx));rw[nv,nv]at a8;have q1:=(nt _ (W.alloc (Ap k m u g o nh d ks h))).alloc (nl _) (Ap F G H I J O Q R hx);have q2:=(nt _ ((W.alloc (Ap k m u g o nh d ks h)).alloc (Ap F G H I J O Q R hx))).alloc (nl _) AO;have bB:=(bA.below q1).below q2;have bC:=bg.below q2;have ap:Below W.heap.size W (((W.alloc (Ap k m u g o nh d ks h)).alloc (Ap F G H I J O Q R hx)).alloc AO):=bi.alloc bi.size _;have bk:AR W.cell? (Ag (((W.alloc (Ap k m u g o nh d ks h)).alloc (Ap F G H I J O Q R hx)).alloc AO).cell? (fun q=>q==(W.heap.size+1+1))):=Na ap (fun q az=>by simp;omega);have bF:cL 161 #[Ao (.mk k m u g o nh d ks) h,.slice a l.length ak,.func (.func 166) #[] #[pO (W.heap.size+1) 0]] (((W.alloc (Ap k m u g o nh d ks h)).alloc (Ap F G H I J O Q R hx)).alloc AO) fun e bd=>FT (((W.alloc (Ap k m u g o nh d ks h)).alloc (Ap F G H I J O Q R hx)).alloc AO) bd (fun q=>q==(W.heap.size+1+1)) e be:=by
  rw[←bx.out];exact Pf (S:=fun q=>q==(W.heap.size+1+1)) (fun q az=>by simp at az;rw[az];exact a8.1.lt) (bp.on bk) a ak l (bs.on (Aj ap)) b5 b6 b7 (W.heap.size+1) (.mk F G H I J O Q R) hx bC.1 (bu.on bk) bv
 have bG:Hid _:=bF;rw[bx.out];show cL 138 #[(AY k m u g o nh d ks h),.slice a l.length ak,(AY F G H I J O Q R hx)] _ _;obtain⟨⟨b9,cb,cf,cg,ch,cl,co,cp⟩,cq⟩:=id bB;clear bF bv bk bs bp;go_enter func138,ntmps138;go_wp2_with fail
 refine nn bG.out ?_;rintro e a1 ⟨⟨h',rfl,ba⟩,bl⟩;have bn:=a8.below bl;have bH:=ap.trans (bl.mono ap.size);clear b9 cb cf cg ch cl co cp cq bG bA bB a8 bf ap bl q2 bg bC bi q1 bu;generalize da:(W.heap.size+1+1)=a6 at bn ba⊢;generalize bY:DM be=r at ba⊢;have b0:=hid bY;clear bY;obtain⟨T,V,u2,Y,Z,aa,ab,ad⟩:=r;have b1:=bn.store (.mk T V u2 Y Z aa ab ad) h';have bo:Au a6 a1 (Ar a1 a6 (.mk T V u2 Y Z aa ab ad) h'):=Cf;have b2:=bH.trans (bo.below (B:=W.heap.size) (by omega) bH.size);have step:AR (Ag a1.cell? (fun q=>q==a6)) (Ar a1 a6 (.mk T V u2 Y Z aa ab ad) h').cell?:=(Cb (S':=fun _=>false) fun q az cr=>⟨rfl,bo.block q az (by simpa using cr)⟩).trans (Ci _ _);have b3:=ba.on step;generalize a7:Ar a1 a6 (.mk T V u2 Y Z aa ab ad) h'=db at b1 b2 b3;have cu:=hid a7;have bb:Ao (.mk T V u2 Y Z aa ab ad) h'=(AY T V u2 Y Z aa ab ad h'):=rfl;rw[bb];obtain⟨⟨z0,dd,de,z3,z4,z5,dg,dj⟩,dk⟩:=id bn;clear a7 step bo ba bb;generalize b4:Am (EG be)=bb;have cx:=hid b4;clear b4;go_wp2;have a7:=cu.out;simp only[Ar]at a7;rw[a7];obtain⟨cA,cB,c3,c4,c5,c6,c8,c9⟩:=b1.1;refine nF (v:=.tuple #[Ao (.mk T V u2 Y Z aa ab ad) h',bb]) (by simp[results,results138,go_sem,Ao,cA,cB,c3,c4,c5,c6,c8,c9]) rfl ⟨⟨h',by rw[b0.out,cx.out],by rw[b0.out];exact b3⟩,b2⟩
theorem KK{W:World}{x0:Nd}{h:Hd}(c3:Ah W.cell? x0 h)(a:Option Addr)(c4:Nat)(l:List BA)(c5:A0 W.cell? a l)(eV:l.length≤1000)(em:cnt x0≤800)(en:A7 x0):
 Calls prog 89 #[Ao x0 h,.slice a l.length c4] W fun e c6=>(∃h',e=.returned (.tuple #[Ao ((AV l x0).getD zN) h',.bool (AV l x0).isSome])∧Ah c6.cell? ((AV l x0).getD zN) h')∧Below W.heap.size W c6:=by
 obtain⟨O,c8⟩:=A3 (AV l x0);rw[c8.out];have c9:Hid (∀i s,l[i]? =some s→∃b ao,a=some (aD b ao)∧Ce W b (ao+i) (.string s)):=by
  intro i s b9;rcases c5 with e|⟨b,ao,e,eo⟩
  ·rw[e]at b9;simp at b9
  ·exact⟨b,ao,e,eo i s b9⟩
 clear c5;have ep:=hid c3;obtain⟨k,m,u,g,o,nh,d,ks⟩:=x0;have da:=As.new W k m u g o nh d ks h;have cb:Below W.heap.size W (W.alloc (Ap k m u g o nh d ks h)):=bN;have bo:=As.zero (W.alloc (Ap k m u g o nh d ks h));rw[nv]at bo;have q2:=(nt _ (W.alloc (Ap k m u g o nh d ks h))).alloc (nl _) AO;have b5:=da.below q2;have cf:Below W.heap.size W ((W.alloc (Ap k m u g o nh d ks h)).alloc AO):=cb.alloc cb.size _;show cL 89 #[(AY k m u g o nh d ks h),.slice a l.length c4] _ _;have db:a=none→l=[]:=by
  intro e;cases hl:l with
  |nil=>rfl
  |cons s t=>
   obtain⟨b,ao,q,_⟩:=c9.out 0 s (by rw[hl];rfl);rw[e]at q;cases q
 have eW:=hid db;clear da cb q2 c3 db;go_enter func89,ntmps89;go_wp2;generalize(W.alloc (Ap k m u g o nh d ks h)).alloc AO=eX at b5 bo cf⊢;generalize eY:W.heap.size=G at b5 bo⊢;go_loopw [11] (fun i wr=>∃(j:Nat) (y:Nd) (bp:Hd),j≤l.length∧i=iN j∧Hid (O=AV (l.drop j) y)∧As wr G y bp∧As wr (G+1) zN zH∧Ah W.cell? y bp∧cnt y≤800∧A7 y∧Below W.heap.size W wr) (fun i _=>l.length-(intOf i).toNat)
 case atStart=>exact⟨0,_,h,nM _,rfl,c8.out.symm,b5,bo,ep.out,em,en,cf⟩
 case round=>
  obtain⟨j,y,bp,eZ,rfl,cg,az,ap,dd,de,ch,Q⟩:=hrel;have eq:=N0 de;clear b5 bo cf;by_cases dg:j<l.length;rotate_left
  ·have er:decide ((j:Int)<(l.length:Int))=false:=nA (by omega)
   have bf:Hid (O=some y):=by show _=_;rw[cg.out,n7 (by omega),AV]
   have dj:=Hv (W:=wr) (S:=fun q=>q==G+1) (fun q bs=>by simp at bs;rw[bs];exact ap.1.lt) (dd.on (Na Q (fun q bs=>by simp;omega))) ch (by omega);have dk:Hid _:=dj;clear dj;obtain⟨a1,a6,u2,a7,a8,ba,bb,bd⟩:=y;obtain⟨⟨T,V,Y,Z,aa,ab,ad,R⟩,ak⟩:=id az;go_wp2_with fail
   refine nn dk.out ?_;rintro e bu ⟨⟨h',rfl,dm⟩,cl⟩;have dn:=ap.below cl;have dp:=Q.trans (cl.mono Q.size);have bg:=dn.store (.mk a1 a6 u2 a7 a8 ba bb bd) h';have bi:Au (G+1) bu (Ar bu (G+1) (.mk a1 a6 u2 a7 a8 ba bb bd) h'):=Cf;have dr:=dp.trans (bi.below (B:=W.heap.size) (by omega) dp.size);have step:AR (Ag bu.cell? (fun q=>q==G+1)) (Ar bu (G+1) (.mk a1 a6 u2 a7 a8 ba bb bd) h').cell?:=(Cb (S':=fun _=>false) fun q bs es=>⟨rfl,bi.block q bs (by simpa using es)⟩).trans (Ci _ _);have ds:=dm.on step;have du:Ao (.mk a1 a6 u2 a7 a8 ba bb bd) h'=(AY a1 a6 u2 a7 a8 ba bb bd h'):=rfl;rw[du];generalize F:Ar bu (G+1) (.mk a1 a6 u2 a7 a8 ba bb bd) h'=be at bg bi dr step ds;have bv:=hid F;clear F T V Y Z aa ab ad R ak dk cl bi step dm du az ap;obtain⟨⟨z0,dw,dx,z3,z4,z5,dy,dz⟩,d0⟩:=id dn;go_wp2;have F:=bv.out;simp only[Ar]at F;rw[F];obtain⟨bx,bA,bB,bC,bF,bG,bH,bY⟩:=bg.1;refine nF (v:=.tuple #[Ao (.mk a1 a6 u2 a7 a8 ba bb bd) h',.bool true]) (by simp[results,results89,go_sem,Ao,bx,bA,bB,bC,bF,bG,bH,bY]) rfl ⟨⟨h',by rw[bf.out];rfl,by rw[bf.out];exact ds⟩,dr⟩
  have er:(j:Int)<(l.length:Int):=by omega
  obtain⟨nm,b0⟩:∃s,l[j]? =some s:=⟨l[j],np _⟩;obtain⟨b,ao,rfl,co⟩:=c9.out j nm b0;have c0:Ce wr b (ao+j) (.string nm):=(Q.cell (p:=(aD b (ao+j))) (bL co)).trans co;have cp:Hid (O=if y.kind≠2∨Bl nm y.kids 0<0 then none else AV (l.drop (j+1)) (y.kid (Bl nm y.kids 0).toNat)):=by
   show _=_;have e:l.drop j=nm::l.drop (j+1):=by
    rw[nN dg];rw[np dg]at b0;simp at b0;rw[b0]
   rw[cg.out,e,AV]
  clear b0 co cg;obtain⟨d1,d2,d3,d4,d5,d6,d7,J⟩:=y;have d8:=(Cj.1 dd).2.2.2;have d9:=JT bp.ak bp.ck J nm wr (by exact nO eq (by decide)) (d8.below Q);have bk:Hid _:=d9;clear d9;have b1:Hid (∀I,Below wr.heap.size wr I→O=none→∃be,Ar I (G+1) zN zH=be∧As be (G+1) zN zH∧((∃h',(Ending.returned (.tuple #[Ao zN zH,.bool false]))=.returned (.tuple #[Ao (O.getD zN) h',.bool O.isSome])∧Ah be.cell? (O.getD zN) h')∧Below W.heap.size W be)):=by
   intro I H ea;have eu:=ap.below H;have eb:=Q.trans (H.mono Q.size);have bi:Au (G+1) I (Ar I (G+1) zN zH):=Cf;refine⟨_,rfl,eu.store zN zH,⟨zH,by rw[ea];rfl,by rw[ea];exact G5 _⟩,eb.trans (bi.below (B:=W.heap.size) (by omega) eb.size)⟩
  obtain⟨⟨T,V,Y,Z,aa,ab,ad,R⟩,ak⟩:=id az;by_cases b6:d1=2;rotate_left
  ·have ev:(d1 !=2)=true:=bne_iff_ne.2 b6
   have bf:Hid (O=none):=by show _=_;rw[cp.out,nC (.inl (by exact b6))]
   obtain⟨e0,eB⟩:=A3 (Bl nm J 0);clear b6;go_wp2_with fail
   refine nn bk.out ?_;rintro e I ⟨rfl,H⟩;rw[eB.out];obtain⟨be,F,bg,b2⟩:=b1.out I H bf.out;have bv:=hid F;have cq:Hid _:=b2;have bl:=az.below H;have b3:=ap.below H;clear F b2 T V Y Z aa ab ad R ak c0 bk b1;obtain⟨⟨T,V,Y,Z,aa,ab,ad,R⟩,ak⟩:=id bl;obtain⟨⟨z0,dw,dx,z3,z4,z5,dy,dz⟩,d0⟩:=id b3;go_wp2;have F:=bv.out;simp only[Ar,zN,zH,nQ]at F;rw[F];obtain⟨bx,bA,bB,bC,bF,bG,bH,bY⟩:=bg.1;refine nF (v:=.tuple #[Ao zN zH,.bool false]) (by simp[results,results89,go_sem,Ao,zN,zH,bx,bA,bB,bC,bF,bG,bH,bY]) rfl cq.out
  subst b6;have ev:((2:Int)!=2)=false:=rfl;rcases Hw nm J 0 with⟨cr,_⟩|⟨p,z,b4,hx,_⟩
  ·have cu:Hid (Bl nm J 0=-1):=cr
   have bf:Hid (O=none):=by show _=_;rw[cp.out,nC (.inr (by show Bl nm J 0<0;rw[cr];decide))]
   clear cr;go_wp2_with fail
   refine nn bk.out ?_;rintro e I ⟨rfl,H⟩;rw[cu.out];obtain⟨be,F,bg,b2⟩:=b1.out I H bf.out;have bv:=hid F;have cq:Hid _:=b2;have bl:=az.below H;have b3:=ap.below H;clear F b2 T V Y Z aa ab ad R ak c0 bk b1;obtain⟨⟨T,V,Y,Z,aa,ab,ad,R⟩,ak⟩:=id bl;obtain⟨⟨z0,dw,dx,z3,z4,z5,dy,dz⟩,d0⟩:=id b3;go_wp2;have F:=bv.out;simp only[Ar,zN,zH,nQ]at F;rw[F];obtain⟨bx,bA,bB,bC,bF,bG,bH,bY⟩:=bg.1;refine nF (v:=.tuple #[Ao zN zH,.bool false]) (by simp[results,results89,go_sem,Ao,zN,zH,bx,bA,bB,bC,bF,bG,bH,bY]) rfl cq.out
  rw[nT]at b4;have cu:=hid b4;have ec:p<J.length:=(nw.1 hx).1;have eE:Hid (O=AV (l.drop (j+1)) z):=by
   show _=_
   rw[cp.out,nB (by
    intro q;rcases q with q|q
    ·exact q rfl
    ·have q2:Bl nm J 0<0:=q
     rw[b4]at q2;omega)]
   have eF:(Bl nm (Nd.mk 2 d2 d3 d4 d5 d6 d7 J).kids 0).toNat=p:=by
    show(Bl nm J 0).toNat=p;rw[b4];rfl
   rw[eF];have eG:(Nd.mk 2 d2 d3 d4 d5 d6 d7 J).kid p=z:=by
    unfold Nd.kid;show(match J[p]? with|some q=>q.2|none=>_)=z;rw[hx]
   rw[eG]
  have eH:cnt z≤800:=by
   have q1:=Iw hx;rw[cnt]at de;omega
  have eI:A7 z:=by
   rw[A7]at ch;exact J2 ch.2.2 hx
  rcases d8 with eJ|⟨e1,e2,ed,f,ee⟩
  ·rw[eJ]at ec;simp at ec
  obtain⟨cx,ef⟩:=ee p nm z hx;have eK:=hid ed;clear b4 hx ee ed;generalize f p=b7 at cx ef;have e3:decide ((p:Int)<0)=false:=nA (by omega);have e4:(p:Int)<(J.length:Int):=by omega
  go_wp2_with fail
  refine nn bk.out ?_;rintro e I ⟨rfl,H⟩;rw[cu.out];have cA:=Q.trans (H.mono Q.size);have bl:=az.below H;have b3:=ap.below H;have eL:=cx.below cA;clear T V Y Z aa ab ad R ak c0 bk b1 az ap Q H cx;obtain⟨⟨T,V,Y,Z,aa,ab,ad,R⟩,ak⟩:=id bl;rw[eK.out]at R;have eg:=bl.store z b7;have cB:Au G I (Ar I G z b7):=Cf;have ej:=b3.but cB (by omega);have ek:=cA.trans (cB.below (B:=W.heap.size) (by omega) cA.size);generalize bn:Ar I G z b7=e5 at eg ej ek;have el:=hid bn;clear cB bn;obtain⟨e6,e7,u3,g3,e8,e9,fa,fb⟩:=z;obtain⟨eM,eN,eO,eP,eQ,eR,eS,eT,eU⟩:=eL.nine;go_wp2;have bn:=el.out;simp only[Ar]at bn;rw[bn];clear bn el eM eN eO eP eQ eR eS eT eU T V Y Z aa ab ad R ak;go_roundw
  case rel=>exact⟨j+1,_,b7,by omega,by go_num,eE.out,eg,ej,ef,eH,eI,ek⟩
  case measure=>simp[intOf];omega
mutual
def Fb(up:Bool):Nat→Nd→Prop
 |deep,.mk k m u g o nh d ks=>deep≤6∧D6 up (decide (deep=0)) (.mk k m u g o nh d ks)=0∧E0 up (deep+1) none ks
def E0(up:Bool):Nat→Option BA→At→Prop
 |_,_,[]=>True
 |deep,p,(n,x)::l=>AQ n=true∧IX p n=true∧Fb up deep x∧E0 up deep (some n) l
end
mutual
theorem TR(up:Bool):∀(x:Nd) (F G:Nat),((CL up x F G).1=0↔Fb up F x∧G+cnt x≤60)∧((CL up x F G).1=0→(CL up x F G).2=G+cnt x)
 |.mk k m u g o nh d ks,F,G=>by
  rw[CL,Fb,cnt];by_cases I:60≤G∨6<F
  ·rw[nC I]
   refine⟨⟨fun h=>by simp at h,fun h=>by omega⟩,fun h=>by simp at h⟩
  rw[nB I];by_cases H:D6 up (decide (F=0)) (.mk k m u g o nh d ks)=0
  ·rw[nB (by simpa using H)]
   obtain⟨J,O⟩:=Rj up none ks (F+1) (G+1);refine⟨⟨fun h=>?_,fun h=>?_⟩,fun h=>?_⟩
   ·have:=J.1 h
    refine⟨⟨by omega,H,this.1⟩,?_⟩;rcases this.2 with q|q
    ·subst q;rw[cntL];omega
    ·omega
   ·exact J.2 ⟨h.1.2.2,.inr (by omega)⟩
   ·rw[O h];omega
  ·rw[nC H]
   refine⟨⟨fun h=>absurd h H,fun h=>absurd h.1.2.1 H⟩,fun h=>absurd h H⟩
theorem Rj(up:Bool):∀(p:Option BA) (l:At) (G F:Nat),((CG up p l G F).1=0↔E0 up G p l∧(l=[]∨F+cntL l≤60))∧((CG up p l G F).1=0→(CG up p l G F).2=F+cntL l)
 |p,[],G,F=>by
  rw[CG,E0,cntL];exact⟨⟨fun _=>⟨trivial,.inl rfl⟩,fun _=>rfl⟩,fun _=>rfl⟩
 |p,(n,x)::l,G,F=>by
  rw[CG,E0,cntL];by_cases I:AQ n=false
  ·rw[nC I]
   exact⟨⟨fun h=>by simp at h,fun h=>by rw[I]at h;simp at h⟩,fun h=>by simp at h⟩
  rw[nB I];by_cases J:IX p n=false
  ·rw[nC J]
   exact⟨⟨fun h=>by simp at h,fun h=>by rw[J]at h;simp at h⟩,fun h=>by simp at h⟩
  rw[nB J];obtain⟨Q,T⟩:=TR up x G F;by_cases H:(CL up x G F).1=0
  ·rw[nB (by simpa using H)]
   have V:=Q.1 H;rw[T H];obtain⟨R,Y⟩:=Rj up (some n) l G (F+cnt x);refine⟨⟨fun h=>?_,fun h=>?_⟩,fun h=>?_⟩
   ·obtain⟨g1,O⟩:=R.1 h
    refine⟨⟨by simpa using I,by simpa using J,V.1,g1⟩,.inr ?_⟩;rcases O with O|O
    ·subst O;rw[cntL];omega
    ·omega
   ·refine R.2 ⟨h.1.2.2.2,?_⟩
    rcases h.2 with q|q
    ·cases q
    ·exact .inr (by omega)
   ·rw[Y h];omega
  ·rw[nC H]
   refine⟨⟨fun h=>absurd h H,fun h=>?_⟩,fun h=>absurd h H⟩;exfalso;refine H (Q.2 ⟨h.1.2.2.1,?_⟩);rcases h.2 with q|q
   ·cases q
   ·omega
end
theorem Jw(up:Bool)(x:Nd):DN up x=0↔x.kind=2∧Fb up 0 x∧cnt x≤60:=by
 obtain⟨k,m,u,g,o,nh,d,ks⟩:=x;rw[DN];have h:=(TR up (.mk k m u g o nh d ks) 0 0).1;show _↔k=2∧_;by_cases F:k=2
 ·rw[nB (by simpa using F),h,nT];exact⟨fun q=>⟨F,q⟩,fun q=>q.2⟩
 ·rw[nC F];exact⟨fun q=>by simp at q,fun q=>absurd q.1 F⟩
theorem RO{up:Bool}{F:Nat}{x:Nd}(h:Fb up F x):E0 up (F+1) none x.kids:=by
 obtain⟨k,m,u,g,o,nh,d,G⟩:=x;rw[Fb]at h;exact h.2.2
theorem Ro{up:Bool}{H:Nat}{q:BA}:∀{l:At} {p:BA},E0 up H (some p) l→(q=p∨AX q p=true)→fk q l=none
 |[],p,_,_=>rfl
 |(n,x)::l,p,h,F=>by
  rw[E0]at h;have G:AX q n=true:=by
   rcases F with rfl|F
   ·exact h.2.1
   ·exact F5 F h.2.1
  rw[fk,nB (fun e=>GX G e.symm)];exact Ro h.2.2.2 (.inr G)
theorem Lv{m:BA}{y:Nd}:∀{ks:At},Bt ks→fk m ks=some y→AB y
 |[],_,h=>by cases h
 |(n,x)::l,ha,h=>by
  rw[Bt]at ha;rw[fk]at h;by_cases e:n=m
  ·rw[nC e]at h;simp only[nU]at h;subst h;exact ha.2.1
  ·rw[nB e]at h;exact Lv ha.2.2 h
theorem KW{m:BA}{z:Nd}(F:AB z):∀{ks:At},Bt ks→Bt (BQ m z ks)
 |[],_=>by rw[BQ,Bt];trivial
 |(n,x)::l,ha=>by
  rw[Bt]at ha;rw[BQ];by_cases e:n=m
  ·rw[nC e,Bt];subst e;exact⟨ha.1,F,ha.2.2⟩
  ·rw[nB e,Bt];exact⟨ha.1,ha.2.1,KW F ha.2.2⟩
theorem Rf{m:BA}:∀{ks:At},Bt ks→Bt (DA m ks)
 |[],_=>by rw[DA,Bt];trivial
 |(n,x)::l,ha=>by
  rw[Bt]at ha;rw[DA];split
  ·exact ha.2.2
  ·rw[Bt];exact⟨ha.1,ha.2.1,Rf ha.2.2⟩
theorem GW{x:Nd}{ks:At}:AB (x.with ks)↔AB (x.with [])∧Bt ks:=by
 obtain⟨k,m,u,g,o,nh,d,F⟩:=x;show AB (.mk k m u g o nh d ks)↔AB (.mk k m u g o nh d [])∧Bt ks;rw[AB,AB,Bt];exact⟨fun h=>⟨⟨h.1,h.2.1,trivial⟩,h.2.2⟩,fun h=>⟨h.1.1,h.1.2.1,h.2⟩⟩
theorem Ug{l:List BA}{n r:Nd}(h:AG none l n=.ok r):AB n→AB r:=by
 refine Jo (c:=none) (fun n r=>AB n→AB r) ?_ ?_ h
 ·intro m n ks _ G F
  rw[←Gx n,GW]at F;rw[GW];refine⟨F.1,?_⟩;rcases JH G with⟨x,q,_⟩|⟨_,_,rfl⟩
  ·cases q
  ·exact Rf F.2
 ·intro m n y z _ H I F
  rw[←Gx n,GW]at F;rw[GW];exact⟨F.1,KW (I (Lv F.2 H)) F.2⟩
theorem R0:∀{l:List BA} {n y:Nd},AV l n=some y→(Cq n→Cq y)∧cnt y≤cnt n
 |[],n,y,h=>by rw[AV]at h;simp only[nU]at h;subst h;exact⟨id,nl _⟩
 |m::l,n,y,h=>by
  rw[CJ]at h;by_cases G:n.kind≠2
  ·rw[nC G]at h;cases h
  rw[nB G]at h;cases hf:fk m n.kids with
  |none=>rw[hf]at h;cases h
  |some z=>
   rw[hf]at h;simp only at h;obtain⟨I,J⟩:=R0 h;have O:cnt z≤cntL n.kids:=by
    rcases Hp m n.kids 0 with⟨_,q⟩|⟨j,Q,_,q2,F,_⟩
    ·rw[hf]at q;cases q
    ·rw[hf]at F;simp only[nU]at F;subst F;exact Iw q2
   refine⟨fun H=>I ?_,by rw[IE n];omega⟩;rw[←Gx n,Jf]at H;exact Od H.2 hf
def IY(S:Nat→Bool)(b:Nat):Nat→Bool:=fun k=>k==b||S k
theorem XJ{W:World}{S:Nat→Bool}(b6:∀k,S k=true→k<W.heap.size){x0:Nd}{h:Hd}(bs:Ah (Ag W.cell? S) x0 h)(a:Option Addr)(ao:Nat)(l:List BA)(bu:A0 W.cell? a l)(b7:l.length≤1000)(b9:l.length≤ao∧ao≤9223372036854775807)(cb:cnt x0≤800)(ap:Nd)(hx:Hd)(bv:Ah (Ag W.cell? S) ap hx)(bx:∀r,AG (some ap) l x0=.ok r→A7 r∧cnt r≤1000):
 Calls prog 138 #[Ao x0 h,.slice a l.length ao,Ao ap hx] W fun e be=>FT W be S e (AG (some ap) l x0):=by
 obtain⟨bf,bA⟩:=A3 (AG (some ap) l x0);obtain⟨F,G,H,I,J,O,Q,R⟩:=ap;obtain⟨k,m,u,g,o,nh,d,ks⟩:=x0;have bB:=As.new W k m u g o nh d ks h;have bg:Below W.heap.size W (W.alloc (Ap k m u g o nh d ks h)):=bN;have bi:=As.new (W.alloc (Ap k m u g o nh d ks h)) F G H I J O Q R hx;rw[nv]at bi;have bk:Below W.heap.size W ((W.alloc (Ap k m u g o nh d ks h)).alloc (Ap F G H I J O Q R hx)):=bg.alloc bg.size _;have ba:=As.zero ((W.alloc (Ap k m u g o nh d ks h)).alloc (Ap F G H I J O Q R hx));rw[nv,nv]at ba;have q1:=(nt _ (W.alloc (Ap k m u g o nh d ks h))).alloc (nl _) (Ap F G H I J O Q R hx);have q2:=(nt _ ((W.alloc (Ap k m u g o nh d ks h)).alloc (Ap F G H I J O Q R hx))).alloc (nl _) AO;have bC:=(bB.below q1).below q2;have bF:=bi.below q2;have az:Below W.heap.size W (((W.alloc (Ap k m u g o nh d ks h)).alloc (Ap F G H I J O Q R hx)).alloc AO):=bk.alloc bk.size _;have bl:AR (Ag W.cell? S) (Ag (((W.alloc (Ap k m u g o nh d ks h)).alloc (Ap F G H I J O Q R hx)).alloc AO).cell? (IY S (W.heap.size+1+1))):=Cb fun k cf a1=>⟨by simp[IY,a1];omega,az.block k cf⟩;have bG:cL 161 #[Ao (.mk k m u g o nh d ks) h,.slice a l.length ao,.func (.func 166) #[] #[pO (W.heap.size+1) 0]] (((W.alloc (Ap k m u g o nh d ks h)).alloc (Ap F G H I J O Q R hx)).alloc AO) fun e be=>FT (((W.alloc (Ap k m u g o nh d ks h)).alloc (Ap F G H I J O Q R hx)).alloc AO) be (IY S (W.heap.size+1+1)) e bf:=by
  rw[←bA.out];exact Pf (S:=IY S (W.heap.size+1+1)) (fun q T=>by simp only[IY,Bool.or_eq_true,beq_iff_eq]at T;rcases T with T|T;(rw[T];exact ba.1.lt);(have dd:=b6 q T;have de:=az.size;omega)) (bs.on bl) a ao l (bu.on (Aj az)) b7 b9 cb (W.heap.size+1) (.mk F G H I J O Q R) hx bF.1 (bv.on bl) bx
 have bH:Hid _:=bG;rw[bA.out];show cL 138 #[(AY k m u g o nh d ks h),.slice a l.length ao,(AY F G H I J O Q R hx)] _ _;obtain⟨⟨cg,ch,cl,co,cp,cq,cr,cu⟩,cx⟩:=id bC;clear bG bx bl bu bs;go_enter func138,ntmps138;go_wp2_with fail
 refine nn bH.out ?_;rintro e a6 ⟨⟨h',rfl,bb⟩,bn⟩;have bo:=ba.below bn;have bY:=az.trans (bn.mono az.size);clear cg ch cl co cp cq cr cu cx bH bB bC ba bg az bn q2 bi bF bk q1 bv;generalize dg:(W.heap.size+1+1)=a7 at bo bb⊢;generalize b0:DM bf=r at bb⊢;have b1:=hid b0;clear b0;obtain⟨V,Y,u2,Z,aa,ab,ad,ak⟩:=r;have b2:=bo.store (.mk V Y u2 Z aa ab ad ak) h';have bp:Au a7 a6 (Ar a6 a7 (.mk V Y u2 Z aa ab ad ak) h'):=Cf;have b3:=bY.trans (bp.below (B:=W.heap.size) (by omega) bY.size);have step:AR (Ag a6.cell? (IY S a7)) (Ag (Ar a6 a7 (.mk V Y u2 Z aa ab ad ak) h').cell? S):=Cb fun q T a1=>by simp only[IY,Bool.or_eq_false_iff,beq_eq_false_iff_ne]at a1;exact⟨a1.2,bp.block q T a1.1⟩
 have b4:=bb.on step;generalize a8:Ar a6 a7 (.mk V Y u2 Z aa ab ad ak) h'=dj at b2 b3 b4;have cA:=hid a8;have bd:Ao (.mk V Y u2 Z aa ab ad ak) h'=(AY V Y u2 Z aa ab ad ak h'):=rfl;rw[bd];obtain⟨⟨z0,dk,dm,z3,z4,z5,dn,dp⟩,dr⟩:=id bo;clear a8 step bp bb bd;generalize b5:Am (EG bf)=bd;have cB:=hid b5;clear b5;go_wp2;have a8:=cA.out;simp only[Ar]at a8;rw[a8];obtain⟨c3,c4,c5,c6,c8,c9,da,db⟩:=b2.1;refine nF (v:=.tuple #[Ao (.mk V Y u2 Z aa ab ad ak) h',bd]) (by simp[results,results138,go_sem,Ao,c3,c4,c5,c6,c8,c9,da,db]) rfl ⟨⟨h',by rw[b1.out,cB.out],by rw[b1.out];exact b4⟩,b3⟩
def DL(us gs:List Rg)(xs:List Nd)(nf:List BA)(U:Nd):Except Int Nd:=if AP xs nf=[]then .error 5 else E5 us gs xs nf U nf.length
theorem nZ(c:AJ):Ah c zN zH:=Cj.2 ⟨.inl rfl,⟨nl _,by decide⟩,⟨nl _,by decide⟩,.inl rfl⟩
theorem UE(W A B:World)(G H:Option Addr)(I J uc gc:Nat)(F:A=W.alloc (.cells #[.slice G I uc,.slice H J gc] 24))(O:B=A.alloc (.cells #[iN 0,iN 0,iN 0,iN 0,.bool false,.slice none 0 0,.string ⟨#[]⟩,.slice none 0 0] 50)):
 B.cell? (aD W.heap.size 0)=some (.slice G I uc)∧B.cell? (aD W.heap.size 1)=some (.slice H J gc)∧As B (W.heap.size+1) zN zH∧Below W.heap.size W B∧B.heap.size=W.heap.size+1+1:=by
 have R:A.heap.size=W.heap.size+1:=by rw[F,nv]
 have Y:B.heap.size=W.heap.size+1+1:=by rw[O,nv,R]
 have T:Below W.heap.size W A:=by rw[F];exact bN
 have Q:Below A.heap.size A B:=by rw[O];exact bN
 have c0:Ce A W.heap.size 0 (.slice G I uc):=by rw[F];exact aC
 have c1:Ce A W.heap.size 1 (.slice H J gc):=by rw[F];exact aC
 have V:=As.zero A;rw[←O,R]at V;exact⟨Aj Q _ _ c0,Aj Q _ _ c1,V,T.trans (Q.mono T.size),Y⟩
theorem Bq(w:World)(o:Obj):Below w.heap.size w (w.alloc o):=(nt _ _).alloc (nl _) _
def Dj(q r:Rg):Prop:=(q.i+q.n≤r.i∨r.i+r.n≤q.i)∧(q.o+q.n≤r.o∨r.o+r.n≤q.o)
theorem Dj.symm{q r:Rg}(h:Dj q r):Dj r q:=by unfold Dj at*;omega
theorem ZU(p r:Rg):Fw p r=false↔Dj p r:=by
 unfold Fw GD Dj;rw[Bool.or_eq_false_iff,decide_eq_false_iff_not,decide_eq_false_iff_not];omega
theorem Wy{L:List Rg}(h:CY L=0):L.Pairwise Dj:=by
 rw[rZ];intro i j J F O;have G:=(Qs h).2 j F;have H:=np F;have hb:=MB H G;have I:(L.take j).any (fun p=>Fw p L[j])=false:=by
  by_cases e:(L.take j).any (fun p=>Fw p L[j])=true
  ·rw[JK H hb e]at G;omega
  ·simpa using e
 rw[List.any_eq_false]at I;have:=I L[i] (by rw[List.mem_take_iff_getElem];exact⟨i,by omega,rfl⟩);exact(ZU _ _).1 (by simpa using this)
theorem Yy{G:Type}{F:G→G→Prop}(R:∀a b,F a b→F b a){l:List G}(h:l.Pairwise F):∀a∈l,∀b∈l,a=b∨F a b:=by
 induction h with
 |nil=>intro a H;cases H
 |cons hx _ T=>
  intro a H b hb;rcases nX.1 H with O|Q
  ·rcases nX.1 hb with I|J
   ·exact .inl (O.trans I.symm)
   ·rw[O];exact .inr (hx b J)
  ·rcases nX.1 hb with I|J
   ·rw[I];exact .inr (R _ _ (hx a Q))
   ·exact T a Q b J
theorem JY{fr tg:Rg→Int}{x y:Int}:∀{L:List Rg},CK fr tg L x=some y→∃r∈L,fr r≤x∧x-fr r<r.n∧y=tg r+x-fr r
 |[],h=>by cases h
 |r::l,h=>by
  by_cases e:fr r≤x∧x-fr r<r.n
  ·rw[KP e.1 e.2]at h;cases h;exact⟨r,by simp,e.1,e.2,rfl⟩
  ·rw[I7 e]at h
   obtain⟨q,F,G⟩:=JY h;exact⟨q,by simp[F],G⟩
theorem Ub{fr tg:Rg→Int}{x:Int}:∀{L:List Rg},(∀r∈L,∀q∈L,(fr r≤x∧x-fr r<r.n)→(fr q≤x∧x-fr q<q.n)→r=q)→∀r∈L,fr r≤x→x-fr r<r.n→CK fr tg L x=some (tg r+x-fr r)
 |[],_,r,F,_,_=>by cases F
 |p::l,hd,r,F,h1,h2=>by
  by_cases e:fr p≤x∧x-fr p<p.n
  ·have:=hd p (by simp) r F e ⟨h1,h2⟩
   subst this;exact KP h1 h2
  ·rw[I7 e]
   rcases nX.1 F with rfl|F
   ·exact absurd ⟨h1,h2⟩ e
   ·exact Ub (fun a G b hb=>hd a (by simp[G]) b (by simp[hb])) r F h1 h2
theorem Ud{L:List Rg}{x y:Int}(h:Fp L x=some y):Ff L y=some x:=by
 unfold Fp at h;unfold Ff;by_cases F:CY L=0
 ·rw[nC F]at h⊢
  obtain⟨r,G,J,O,rfl⟩:=JY h;have hd:=Yy (fun _ _=>Dj.symm) (Wy F)
  have H:=Ub (fr:=(·.o)) (tg:=(·.i)) (x:=r.o+x-r.i) (L:=L) (fun a I b hb Q R=>by
   rcases hd a I b hb with e|e
   ·exact e
   ·unfold Dj at e;omega) r G (by omega) (by omega)
  rw[H];congr 1;omega
 ·rw[nB F]at h;cases h
theorem My(nm:BA)(q:Nd×Nat)(l:AU):Bc nm (q::l)=(match CV nm q.1 with|none=>Bc nm l|some y=>(y,q.2)::Bc nm l):=by
 unfold Bc;rw[rr];cases CV nm q.1<;>rfl
theorem Nh{x:Nd}(h:x.kind=2)(nm:BA):CV nm x=fk nm x.kids:=by rw[Ls,nB (by simp[h])]
def H0(us gs:List Rg):List BA→AU→BA→List (Nd×BA)→Prop
 |[],s0,nm,L=>∃q r y,A8 s0=q::r∧Bh true us gs (CF q.1)=some y∧L=[(y,nm)]
 |n::ns,s0,nm,L=>∃q r y F,A8 s0=q::r∧Bh true us gs (CF q.1)=some y∧H0 us gs ns (Bc n (q::r)) n F∧L=(y,nm)::F
theorem PU{us gs:List Rg}{nm:BA}{L:List (Nd×BA)}:∀{J:List BA} {F:AU},H0 us gs J F nm L→A8 F≠[]∧∃y G,L=(y,nm)::G
 |[],F,h=>by
  obtain⟨q,r,y,H,_,I⟩:=h;exact⟨by rw[H];simp,y,[],I⟩
 |n::J,F,h=>by
  obtain⟨q,r,y,G,H,_,_,I⟩:=h;exact⟨by rw[H];simp,y,G,I⟩
def D1(x:Nd)(t:AU):AU:=if x.opq=true then []else DZ t
def Mi(us gs:List Rg)(F:List BA)(L:List (Nd×BA)):List BA→Nd→AU→Prop
 |[],_,_=>False
 |[m],x,t=>x.kind=2∧fk m x.kids=none∧H0 us gs F (Bc m (D1 x t)) m L
 |m::G::N,x,t=>x.kind=2∧∃y,fk m x.kids=some y∧(y.kind=1∨y.kind=2)∧Mi us gs F L (G::N) y (Bc m (D1 x t))
theorem J5{x:Nd}(h:x.kind=2)(t:AU):A8 ((x,0)::t)=(x,0)::D1 x t:=by
 rw[A8,nB (by simp only[h];decide),DZ,nB (by simp[h])];unfold D1;split<;>rfl
def VV(x:Nd):Prop:=∃up F,Fb up F x
theorem RY{up:Bool}{F:Nat}{m:BA}{y:Nd}:∀{p:Option BA} {ks:At},E0 up F p ks→fk m ks=some y→AQ m=true∧Fb up F y
 |_,[],_,h=>by cases h
 |p,(n,x)::l,hv,h=>by
  rw[E0]at hv;rw[fk]at h;split at h
  ·rename_i e
   cases h;rw[←e];exact⟨hv.1,hv.2.2.1⟩
  ·exact RY hv.2.2.2 h
theorem VV.kid{x y:Nd}{m:BA}(h:VV x)(F:fk m x.kids=some y):AQ m=true∧VV y:=by
 obtain⟨up,G,H⟩:=h;obtain⟨I,J⟩:=RY (RO H) F;exact⟨I,up,G+1,J⟩
theorem aU{l:AU}(h:∀q∈l,VV q.1)(nm:BA):∀q∈Bc nm l,AQ nm=true∧VV q.1:=fun q G=>by
 obtain⟨p,H,e⟩:=rC.1 G;obtain⟨z,F,rfl⟩:=nY.1 e;rw[Ls]at F;split at F
 ·cases F
 ·exact(h p H).kid F
theorem Si{xs:List Nd}(h:∀x∈xs,VV x):∀nf:List BA,∀q∈AP xs nf,VV q.1:=by
 intro nf;unfold AP;have F:∀q∈A8 (BD xs),VV q.1:=fun q G=>by
  have:=(LO _).subset G;obtain⟨i,H⟩:=n5 this;unfold BD at H;rw[List.getElem?_zipIdx]at H;obtain⟨y,I,rfl⟩:=nY.1 H;exact h y (nD I)
 generalize A8 (BD xs)=l at F;induction nf generalizing l with
 |nil=>exact F
 |cons nm nf J=>
  rw[rK];exact J _ fun q G=>(aU F nm q ((LO _).subset G)).2
theorem Tr{us gs:List Rg}:∀{A L:List (Nd×BA)},BW us gs A=.ok L→(∀p∈A,∃y,Bh true us gs p.1=some y)∧L=A.map fun p=>((Bh true us gs p.1).getD zN,p.2)
 |[],L,h=>by
  rw[BW]at h;injection h with h
  subst h;exact⟨fun p F=>(by cases F),rfl⟩
 |(x,m)::r,L,h=>by
  rw[BW]at h;cases hm:Bh true us gs x with
  |none=>rw[hm]at h;cases h
  |some y=>
   rw[hm]at h;dsimp only at h;split at h
   ·cases h
   cases hr:BW us gs r with
   |error f=>rw[hr]at h;cases h
   |ok I=>
    rw[hr]at h;dsimp only at h;injection h with h
    subst h;obtain⟨G,H⟩:=Tr hr;refine⟨fun p F=>?_,?_⟩
    ·rcases nX.1 F with rfl|F
     ·exact⟨y,hm⟩
     ·exact G p F
    ·rw[rh,hm,←H];rfl
theorem SB{us gs:List Rg}{f:Int}:∀{A:List (Nd×BA)},(∀p∈A,AQ p.2=true)→BW us gs A=.error f→f=11
 |[],_,h=>by rw[BW]at h;cases h
 |(x,m)::r,hn,h=>by
  rw[BW]at h;cases hm:Bh true us gs x with
  |none=>rw[hm]at h;injection h with h;exact h.symm
  |some y=>
   rw[hm]at h;dsimp only at h;rw[nB (by rw[hn (x,m) (nJ ..)];decide)]at h;cases hr:BW us gs r with
   |error G=>
    rw[hr]at h;injection h with h
    subst h;exact SB (fun p F=>hn p (n2 _ F)) hr
   |ok H=>rw[hr]at h;cases h
def I1(us gs:List Rg)(F:Nat→Nd×Nat)(nf:List BA)(j d:Nat):List (Nd×BA):=(List.range' j d).map fun i=>((Bh true us gs (CF (F i).1)).getD zN,nf.getD (i-1) ⟨#[]⟩)
theorem Qa{us gs:List Rg}{xs:List Nd}{nf:List BA}{F:Nat→Nd×Nat}(J:FQ xs nf F):∀(d j:Nat) (H:AU),1≤j→j+d=nf.length→A8 H=AP xs (nf.take j)→(∀i,j≤i→i≤nf.length→∃y,Bh true us gs (CF (F i).1)=some y)→
 H0 us gs (nf.drop j) H (nf.getD (j-1) ⟨#[]⟩) (I1 us gs F nf j (d+1))
 |0,j,H,hj1,hj,he,hm=>by
  rw[List.drop_eq_nil_of_le (by omega)];obtain⟨r,I⟩:=J j (by omega);obtain⟨y,G⟩:=hm j (nl _) (by omega);refine⟨F j,r,y,he.trans I,G,?_⟩;simp[I1,G]
 |d+1,j,H,hj1,hj,he,hm=>by
  have O:j<nf.length:=by omega
  have e:=np O;rw[nN O];obtain⟨r,I⟩:=J j (by omega);obtain⟨y,G⟩:=hm j (nl _) (by omega);have Q:=Qa (us:=us) (gs:=gs) J d (j+1) (Bc nf[j] (F j::r)) (by omega) (by omega) (by rw[I5 e,I]) (fun i T R=>hm i (by omega) R);rw[show j+1-1=j by omega,show nf.getD j ⟨#[]⟩=nf[j] by simp[O]]at Q;refine⟨F j,r,y,I1 us gs F nf (j+1) (d+1),he.trans I,G,Q,?_⟩;unfold I1;rw[show List.range' j (d+1+1)=j::List.range' (j+1) (d+1)from rfl,rh,G];rfl
theorem YY{us gs:List Rg}{xs:List Nd}{nf:List BA}{F:Nat→Nd×Nat}(H:FQ xs nf F){k:Nat}(O:k<nf.length)(Q:∀j,j≤k→(F j).2=0)(ad:(F (k+1)).2≠0)(ak:∀i,k+1≤i→i≤nf.length→∃y,Bh true us gs (CF (F i).1)=some y):
 ∀(d i:Nat) (t:AU),i+d=k→A8 ((((F i).1,0)::t):AU)=AP xs (nf.take i)→Mi us gs (nf.drop (k+1)) (I1 us gs F nf (k+1) (nf.length-k)) ((nf.take (k+1)).drop i) (F i).1 t:=by
 intro d;induction d with
 |zero=>
  intro i t ao R;have ap:i=k:=by omega
  subst ap;have e:=np O;obtain⟨G,_,I,_⟩:=Ho H e;have T:(nf.take (i+1)).drop i=[nf[i]]:=by
   rw[List.drop_take,show i+1-i=1 by omega,nN O];rfl
  rw[T];have I:=I (Q i (nl _)) ad;refine⟨G,I,?_⟩
  have V:=Qa (us:=us) (gs:=gs) H (nf.length-i-1) (i+1) (Bc nf[i] (D1 (F i).1 t)) (by omega) (by omega) (by
   rw[I5 e,←R,J5 G,My,Nh G,I]) ak
  rw[show i+1-1=i by omega,show nf.getD i ⟨#[]⟩=nf[i] by simp[O],show nf.length-i-1+1=nf.length-i by omega]at V;exact V
 |succ d az=>
  intro i t ao R;have a1:i<nf.length:=by omega
  have e:=np a1;obtain⟨G,_,_,J⟩:=Ho H e;have J:=J (Q i (by omega)) (Q (i+1) (by omega));have Y:A8 ((((F (i+1)).1,0)::Bc nf[i] (D1 (F i).1 t)):AU)=AP xs (nf.take (i+1)):=by
   rw[I5 e,←R,J5 G,My,Nh G,J]
  have Z:=az (i+1) _ (by omega) Y;have T:(nf.take (k+1)).drop i=nf[i]::(nf.take (k+1)).drop (i+1):=by
   rw[nN (by rw[rF];omega)];simp
  have aa:(nf.take (k+1)).drop (i+1)=nf[i+1]'(by omega)::(nf.take (k+1)).drop (i+1+1):=by
   rw[nN (by rw[rF];omega)];simp
  rw[T,aa];rw[aa]at Z;refine⟨G,(F (i+1)).1,J,?_,Z⟩;obtain⟨r,ab⟩:=H (i+1) (by omega);rw[←Y]at ab;rcases(GT ab).2 with q|q
  ·exact .inr q
  ·exact .inl q.1
theorem VA{xs:List Nd}{nf:List BA}(h:AP xs nf≠[]):∃G,FQ xs nf G:=by
 have H:∀i,i≤nf.length→AP xs (nf.take i)≠[]:=fun i F e=>by
  apply h;have:AP xs nf=(nf.drop i).foldl (fun l nm=>A8 (Bc nm l)) (AP xs (nf.take i)):=by
   unfold AP;rw[←List.foldl_append,ry]
  rw[this,e];exact Zr _
 refine⟨fun i=>(AP xs (nf.take i)).headD (zN,0),fun i F=>?_⟩;cases hc:AP xs (nf.take i)with
 |nil=>exact absurd hc (H i F)
 |cons q r=>exact⟨r,by simp[hc]⟩
theorem JR{us gs:List Rg}{x0:Nd}{ni:List Nd}{nf:List BA}(Y:∀F,FQ (x0::ni) nf F→∀(i:Nat) (Z:i<nf.length),AQ nf[i]=true):
 (∀H,DL us gs (x0::ni) nf x0=.ok H→(H=x0∧∃z r,AP (H::ni) nf=(z,0)::r∧AV nf H=some z)∨∃N aa L,nf=N++aa∧Mi us gs aa L N x0 (ni.zipIdx 1)∧AG (some (BN L)) N x0=.ok H)∧
 (∀f,DL us gs (x0::ni) nf x0=.error f→f=5∨f=11):=by
 unfold DL;by_cases R:AP (x0::ni) nf=[]
 ·rw[nC R]
  exact⟨fun H h=>(by cases h),fun f h=>(by injection h with h;exact .inl h.symm)⟩
 rw[nB R];obtain⟨F,G⟩:=VA R;have ab:=Qg G;have I:(F 0).1=x0:=by
  have:=ab.2;simp at this;exact this.symm
 by_cases J:∀j,j≤nf.length→(F j).2=0
 ·have e:=Lo (us:=us) (gs:=gs) (U:=x0) G nf.length (nl _) J
  rw[e];refine⟨fun H h=>?_,fun f h=>(by cases h)⟩;injection h with h
  subst h;refine .inl ⟨rfl,?_⟩;obtain⟨r,ad⟩:=G nf.length (nl _);rw[List.take_length]at ad;have ak:=KS G nf.length (nl _) J;rw[List.take_length,I]at ak;exact⟨(F nf.length).1,r,by rw[ad,←J nf.length (nl _)],ak⟩
 ·obtain⟨k,Q,T,ao⟩:∃k,k<nf.length∧(∀j,j≤k→(F j).2=0)∧(F (k+1)).2≠0:=by
   have:∃n,n≤nf.length∧(F n).2≠0:=by
    by_cases e:∃n,n≤nf.length∧(F n).2≠0
    ·exact e
    ·exfalso
     exact J fun j O=>by
      by_cases q:(F j).2=0
      ·exact q
      ·exact absurd ⟨j,O,q⟩ e
   obtain⟨n,bp,ap⟩:=this;clear J;induction n with
   |zero=>exact absurd ab.1 ap
   |succ n ba=>
    by_cases q:∀j,j≤n→(F j).2=0
    ·exact⟨n,by omega,q,ap⟩
    ·by_cases q2:(F n).2=0
     ·have:∃j,j≤n∧(F j).2≠0:=by
       by_cases e:∃j,j≤n∧(F j).2≠0
       ·exact e
       ·exfalso
        exact q fun j O=>by
         by_cases az:(F j).2=0
         ·exact az
         ·exact absurd ⟨j,O,az⟩ e
      obtain⟨j,O,bb⟩:=this;have up:∀i,j≤i→i≤n→(F i).2≠0:=by
       intro i a1;induction a1 with
       |refl=>exact fun _=>bb
       |@step m a1 bd=>
        intro bs;have e:nf[m]? =some (nf[m]'(by omega)):=np (by omega);exact(Ho G e).2.1 (bd (by omega))
      exact absurd q2 (up n O (nl _))
     ·exact ba (by omega) q2
  have e:=UO (us:=us) (gs:=gs) G Q T ao (nf.length-k-1) (by omega);rw[show k+(nf.length-k-1)+1=nf.length by omega,show nf.length-k-1+1=nf.length-k by omega,I]at e;rw[e];have be:∀p∈D4 F nf k (nf.length-k),AQ p.2=true:=fun p bf=>by
   obtain⟨i,Z,rfl⟩:=rx.1 bf;rw[List.mem_range'_1]at Z;have a6:=Y F G (i-1) (by omega);show AQ (nf.getD (i-1) ⟨#[]⟩)=true;rw[show nf.getD (i-1) ⟨#[]⟩=nf[i-1] by rw[List.getD_eq_getElem?_getD,np (by omega)];rfl];exact a6
  cases hb:BW us gs (D4 F nf k (nf.length-k))with
  |error f=>
   refine⟨fun H h=>(by cases h),fun bu h=>?_⟩;injection h with h
   subst h;exact .inr (SB be hb)
  |ok L=>
   dsimp only;obtain⟨bg,bi⟩:=Tr hb;have bk:L=I1 us gs F nf (k+1) (nf.length-k):=by
    rw[bi];unfold D4 I1;rw[r4];rfl
   have bl:∀i,k+1≤i→i≤nf.length→∃y,Bh true us gs (CF (F i).1)=some y:=fun i a6 bv=>
    bg (CF (F i).1,nf.getD (i-1) ⟨#[]⟩) (rx.2 ⟨i,by rw[List.mem_range'_1];omega,rfl⟩)
   have a7:=YY (us:=us) (gs:=gs) G Q T ao bl k 0 (ni.zipIdx 1) (by omega) (by rw[I];rfl);rw[List.drop_zero,I,←bk]at a7;have a8:=np Q;have bn:=KS G k (by omega) T;have bo:=(Ho G a8).1;obtain⟨bx,V⟩:=(K9 (x:=BN L) bn bo).2 (by rw[Y F G k Q];decide);rw[←Hm a8,I]at V;rw[V];refine⟨fun H h=>?_,fun f h=>(by cases h)⟩;injection h with h
   subst h;exact .inr ⟨_,_,L,(ry _ _).symm,a7,V⟩
end Go.Proofs.YtgppjbhaimmlpaaGreatDoor
namespace Go.Proofs.YtgppjbhaimmlpaaGreatDoor
open Go.RowKit Go.Shelf Go.Proofs.Tryz
attribute [local go_sem] Oper.semAt_some
theorem Wt(w:World)(a:Option Addr)(n cap:Nat):
 Calls prog 115 #[.slice a n cap] w fun e w'=>e=.returned (.func (.func 151) #[] #[pO w.heap.size 0])∧w'=w.alloc (.cells #[.slice a n cap] 100):=by
 go_enter func115,ntmps115;go_wp2;go_ret;exact⟨rfl,rfl⟩
theorem V6(F n₀:Nat)(a:Option Addr)(cap:Nat)(D:List Sp)(w:World)(ab:n₀=w.heap.size)(hd:w.cell? (aD F 0)=some (.slice a D.length cap))(ad:D.length≤1000)(I:Dx w.cell? a D):
 Mo 151 #[pO F 0] n₀ w D:=by
 subst ab;intro l ak bl W J ao O ap;have az:F<w.heap.size:=bL hd;have a1:=(J.cell (p:=(aD F 0)) az).trans hd;show CallsIn Fence.wide 0 prog 151 #[.func (.yield l) #[] #[],pO F 0] W _;refine callsIn_of_wp func151 rfl trivial ?_ rfl;simp only[ntmps151,List.size_toArray,n3,nQ,Nat.reduceAdd,Nat.reduceSub,r9,r8,List.push_toArray,List.append_toArray,ru,n9];have a6:Hid _:=O;have a7:Hid _:=I;obtain⟨N,Q⟩:=A3 D.length;rw[Q.out]at a1 ad⊢;clear O I hd;gi_wp2
 gi_loopw [4,7] (fun _ i wr=>∃j:Nat,j≤N∧i=iN j∧ak j wr∧Below w.heap.size w wr) (fun _ i _=>N-(intOf i).toNat)
 case atStart=>exact⟨0,nM _,rfl,ap,J⟩
 case round=>
  obtain⟨j,bn,rfl,R,G⟩:=hrel;by_cases a8:j<N;rotate_left
  ·have ba:decide ((j:Int)<(N:Int))=false:=nA (by omega)
   gi_wp2
   go_end0
   exact⟨⟨_,rfl⟩,.inl (by rw[show N=j by omega];exact R)⟩
  ·have ba:decide ((j:Int)<(N:Int))=true:=nE (by omega)
   obtain⟨d,hd⟩:∃d,D[j]? =some d:=⟨_,np (by rw[Q.out];exact a8)⟩;obtain⟨b,H,rfl,T⟩:∃b H,a=some (aD b H)∧∀i d,D[i]? =some d→Ce w b (H+i*2) (pO d.b d.p)∧Ce w b (H+i*2+1) (iN d.ly):=by
    rcases a7.out with e|e
    ·subst e;simp at hd
    ·exact e
   obtain⟨V,Y⟩:=T j d hd;have V:=Aj G _ _ V;have Y:=Aj G _ _ Y;have Z:Below wr.heap.size wr (wr.alloc (.cells #[pO d.b d.p,iN d.ly] 104)):=bN;obtain⟨c0,c1⟩:=GA wr (pO d.b d.p) (iN d.ly) 104;have bb:=G.trans (Z.mono G.size);obtain⟨fn,tmps,assign,body,bd,aa⟩:=a6.out j d _ hd (ao _ _ _ R Z);rw[Sp.v]at bd;have be:Hid _:=aa;clear aa hd T;gi_wp2
   refine⟨rfl,RoundIn.mono be.out ?_⟩;rintro e bo (⟨rfl,bf,bg⟩|⟨rfl,bi⟩)
   ·have bk:=bb.trans bg
    gi_wp2
    go_roundw
    case rel=>exact⟨j+1,by omega,by go_num,bf,bk⟩
    case measure=>(simp[intOf];try omega)
   ·gi_wp2
    refine nF (results_none rfl _ _ _) rfl ?_;exact⟨⟨_,rfl⟩,.inr bi⟩
theorem am(a:BA)(w:World):Calls prog 155 #[.string a] w fun e w'=>e=.returned (.bool false)∧w'=w:=by
 have h:(a.toList==a.toList)=true:=by simp
 go_enter func155,ntmps155;go_wp2;go_ret;exact⟨rfl,rfl⟩
def FO(a b:BA):Int:=if AX a b=true then-1 else if AX b a=true then 1 else 0
theorem Zz(a b:BA)(w:World):Calls prog 120 #[.string a,.string b] w fun e w'=>e=.returned (.int .i64 (FO a b))∧w'=w:=by
 have F:=hid am;cases h1:AX a b with
 |true=>
  have e:FO a b=-1:=by unfold FO;rw[nC h1]
  rw[e];have G:Op.bytesLess a.toList b.toList=true:=h1;clear h1 e;go_enter func120,ntmps120;go_wp2_with (go_at_call 155;refine(F.out _ _).mono ?_;rintro e w' ⟨rfl,rfl⟩)
  go_ret;exact⟨rfl,rfl⟩
 |false=>
  have G:Op.bytesLess a.toList b.toList=false:=h1;cases h2:AX b a with
  |true=>
   have e:FO a b=1:=by unfold FO;rw[nB (by rw[h1];simp),nC h2]
   rw[e];have H:(a.toList==b.toList)=false:=by
    rw[beq_eq_false_iff_ne];exact fun q=>GX h2 (I9 q).symm
   clear h1 h2 e;go_enter func120,ntmps120;go_wp2_with (go_at_call 155;refine(F.out _ _).mono ?_;rintro e w' ⟨rfl,rfl⟩)
   go_ret;exact⟨rfl,rfl⟩
  |false=>
   have e:FO a b=0:=by unfold FO;rw[nB (by rw[h1];simp),nB (by rw[h2];simp)]
   rw[e];have H:(a.toList==b.toList)=true:=by
    rw[beq_iff_eq];rcases It a b with q|q|q
    ·rw[h1]at q;cases q
    ·rw[q]
    ·rw[h2]at q;cases q
   clear h1 h2 e;go_enter func120,ntmps120;go_wp2_with (go_at_call 155;refine(F.out _ _).mono ?_;rintro e w' ⟨rfl,rfl⟩)
   go_ret;exact⟨rfl,rfl⟩
theorem Rb(n:BA)(a:Option Addr)(F cap:Nat)(w:World)(G:F≤1000):Calls prog 117 #[.agg #[.string n,.slice a F cap]] w fun e w'=>e=.returned (.bool (decide (F=0)))∧w'=w.alloc (.cells #[.string n,.slice a F cap] 128):=by
 obtain⟨c0,c1⟩:=GA w (.string n) (.slice a F cap) 128;by_cases h:F=0
 ·subst h
  go_enter func117,ntmps117;go_wp2;go_ret;exact⟨rfl,rfl⟩
 ·have e:decide (F=0)=false:=nA h
  have H:((F:Int)==0)=false:=by rw[beq_eq_false_iff_ne];omega
  rw[e];go_enter func117,ntmps117;go_wp2;go_ret;exact⟨rfl,rfl⟩
theorem Xc(n F:BA)(a G:Option Addr)(l c H I:Nat)(w:World):Calls prog 119 #[.agg #[.string n,.slice a l c],.agg #[.string F,.slice G H I]] w fun e w'=>e=.returned (iN (FO n F))∧w'=(w.alloc (.cells #[.string n,.slice a l c] 128)).alloc (.cells #[.string F,.slice G H I] 128):=by
 have J:Hid (∀W:World,cL 120 #[.string n,.string F] W fun e w'=>e=.returned (iN (FO n F))∧w'=W):=fun W=>Zz n F W;generalize FO n F=r at J⊢
 go_enter func119,ntmps119;go_wp2_with (go_at_call 120;refine(J.out _).mono ?_;rintro e w' ⟨rfl,rfl⟩)
 go_ret;exact⟨rfl,rfl⟩
end Go.Proofs.YtgppjbhaimmlpaaGreatDoor
