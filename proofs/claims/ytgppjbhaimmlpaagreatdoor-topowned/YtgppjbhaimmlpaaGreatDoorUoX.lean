/-
  TopOwned: Uo Xi.
-/
import Derived.Test.YtgppjbhaimmlpaaGreatDoorApX
import Derived.Test.YtgppjbhaimmlpaaGreatDoorUnX
import Derived.Test.YtgppjbhaimmlpaaGreatDoorWrX
import Derived.Test.YtgppjbhaimmlpaaGreatDoorEaX
import Derived.Test.YtgppjbhaimmlpaaGreatDoorFiX
set_option maxRecDepth 100000
set_option maxHeartbeats 16000000
namespace Go.Proofs.YtgppjbhaimmlpaaGreatDoor
open Go.RowKit Go.Proofs.Tryz
theorem S1{W F:World}{S:Nat→Bool}{f:Int}{G:Except Int Nd}(H:G=.error f)(I:f≠0)(hb:Below W.heap.size W F):FT W F S (.returned (.tuple #[Ao zN zH,.iface 74 (.int .i64 f)])) G:=by
 subst H;refine⟨⟨zH,?_,nZ _⟩,hb⟩;show _=Ending.returned (.tuple #[Ao zN zH,Am f]);rw[AH rfl I]
theorem Tv{w:World}{base:Nat}{t:TypeId}{z n:Nat}{v:Value}{xs:List Value}(h:w.ownsRow base t z v n xs):∃a cap,v=.slice a n cap∧n≤cap∧cap≤9223372036854775807:=by
 rcases h.2 with⟨rfl,F⟩|⟨g,cap,I,rfl,hb,J,G,H,O,Q⟩
 ·rw[F];exact⟨none,0,rfl,nl _,by omega⟩
 ·exact⟨_,cap,rfl,G,by simpa [maxLen]using H⟩
theorem bD{w:World}{base:Nat}{v:Value}{L:List Fl}(h:w.ownsRow base 3 1 v L.length (Fn L)){t:Nat}{f:Fl}(F:L[t]? =some f):∃g cap,v=.slice (some ⟨g,0,none⟩) L.length cap∧w.cell? ⟨g,t,none⟩=some (.int .i64 f.ly):=by
 rcases h.2 with⟨rfl,G⟩|⟨g,cap,J,rfl,hb,H,O,Q,R,I⟩
 ·rw[rp.1 G]at F;simp at F
 ·exact⟨g,cap,rfl,Fq H I (NI L t f F)⟩
theorem XR(x:Nd):CF (x.with [])=CF x:=by obtain⟨k,m,u,g,o,nh,d,ks⟩:=x;rfl
theorem Z0{F:Nat→Nd×Nat}{nf:List BA}{L:List Fl}{k:Nat}(O:k<nf.length)(Q:L.length=nf.length+1)(H:∀(j:Nat) f,L[j]? =some f→f.x=(F j).1.with []):DI ((L.drop (k+1)).map Fl.x) (nf.drop k)=D4 F nf k (nf.length-k):=by
 refine List.ext_getElem? fun i=>?_;unfold DI D4
 rw[n4,n4];by_cases G:i<nf.length-k
 ·have I:((L.drop (k+1)).map Fl.x)[i]? =some ((F (k+1+i)).1.with []):=by
   rw[n4,rM];have e:L[k+1+i]? =some L[k+1+i]:=np (by omega);rw[e,←H _ _ e];rfl
  have J:(nf.drop k)[i]? =some nf[k+i]:=by rw[rM];exact np (by omega)
  rw[(List.getElem?_zip_eq_some (z:=((F (k+1+i)).1.with [],nf[k+i]))).2 ⟨I,J⟩,np (by simpa using G)];simp only[r0,List.getElem_range',XR,nU,Prod.mk.injEq];rw[Nat.one_mul,show k+1+i-1=k+i by omega];exact⟨rfl,by simp[show k+i<nf.length by omega]⟩
 ·rw[List.getElem?_eq_none (by simp;omega),List.getElem?_eq_none (by simpa using G)];rfl
theorem aO{w:World}{base:Nat}{v:Value}{L:List Fl}{S S':Nat→Bool}(h:w.ownsRow base 50 8 v L.length (Be L))(H:∀f∈L,Ah (Ag w.cell? S') f.x f.h)(I:∀k,S' k=false→S k=false)(J:∀g,v.ownBlock=some g→S g=false){t:Nat}(Y:t<L.length):∃g cap,v=.slice (some ⟨g,0,none⟩) L.length cap∧L.length≤cap∧cap≤9223372036854775807∧Ch (Ag w.cell? S) (some ⟨g,t*8,none⟩) ((L.drop t).map Fl.x):=by
 rcases h.2 with⟨rfl,Z⟩|⟨g,cap,aa,rfl,hb,O,Q,R,ab,T⟩
 ·omega
 ·refine⟨g,cap,rfl,Q,by simpa [maxLen]using R,.inr ⟨g,t*8,rfl,fun i=>(L.getD (t+i) ⟨zN,zH,0⟩).h,fun i x G=>?_⟩⟩
  rw[n4,rM]at G;obtain⟨f,F,rfl⟩:=nY.1 G;have e:(L.getD (t+i) ⟨zN,zH,0⟩)=f:=by rw[List.getD_eq_getElem?_getD,F];rfl
  dsimp only;rw[e];refine⟨Fe.2 fun q u V=>?_,(H f (nD F)).on (Su I)⟩;rw[Co (J g rfl),show t*8+i*8+q=(t+i)*8+q by omega];exact Fq O T (Jn L (t+i) f F q u V)
theorem A0.drop{c:AJ}{b F:Nat}{l:List BA}(h:∀i s,l[i]? =some s→c ⟨b,F+i,none⟩=some (.string s))(n:Nat):A0 c (some ⟨b,F+n,none⟩) (l.drop n):=by
 refine .inr ⟨b,F+n,rfl,fun i s G=>?_⟩;rw[rM]at G;have:=h _ _ G;rwa [←Nat.add_assoc]at this
theorem ce{G:Bool}{us gs:List Rg}{x y:Nd}(h:Bh G us gs x=some y)(F:Cq x):Cq y:=by
 obtain⟨k,m,u,g,o,nh,d,ks⟩:=x;rw[Bh]at h;split at h
 ·cases h;rw[Cq]at F⊢;exact F
 ·cases h
theorem ZF{x:Nd}(h:A7 x):Cq (CF x):=by
 obtain⟨k,m,u,g,o,nh,d,ks⟩:=x;rw[A7]at h;show Cq (.mk k m u g false nh d []);rw[Cq];exact⟨h.1,by rw[CA];trivial⟩
theorem Tw{us gs:List Rg}:∀{A L:List (Nd×BA)},BW us gs A=.ok L→(∀p∈A,Cq p.1)→(∀p∈L,Cq p.1)∧L.length=A.length
 |[],L,h,_=>by cases h;exact⟨fun p F=>(by cases F),rfl⟩
 |(x,m)::r,L,h,ha=>by
  rw[BW]at h;cases hm:Bh true us gs x with
  |none=>rw[hm]at h;cases h
  |some y=>
   rw[hm]at h;dsimp only at h;by_cases G:AQ m=false
   ·rw[nC G]at h;cases h
   rw[nB G]at h;cases hb:BW us gs r with
   |error f=>rw[hb]at h;cases h
   |ok K=>
    rw[hb]at h;cases h;obtain⟨H,I⟩:=Tw hb (fun p F=>ha p (n2 _ F));refine⟨fun p F=>?_,by simp[I]⟩;rcases nX.1 F with rfl|F
    ·exact ce hm (ha (x,m) (nJ ..))
    ·exact H p F
theorem Qm:∀L:List (Nd×BA),(∀p∈L,Cq p.1∧p.1.kids=[])→Cq (BN L)∧cnt (BN L)≤L.length+1
 |[],_=>⟨by show Cq zN;unfold zN;rw[Cq];exact⟨nM _,by rw[CA];trivial⟩,by show cnt zN≤_;unfold zN;rw[cnt,cntL];omega⟩
 |[p],h=>by
  obtain⟨F,G⟩:=h p (nJ ..);refine⟨F,?_⟩;show cnt p.1≤_;rw[IE,G,cntL];simp
 |p::q::r,h=>by
  obtain⟨F,G⟩:=h p (nJ ..);obtain⟨H,I⟩:=Qm (q::r) (fun x hx=>h x (n2 _ hx));constructor
  ·show Cq (p.1.with [(q.2,BN (q::r))])
   rw[Jf];refine⟨?_,by rw[CA];exact⟨H,by rw[CA];trivial⟩⟩;have e:=Gx p.1;rw[G]at e;rw[e];exact F
  ·show cnt (p.1.with [(q.2,BN (q::r))])≤_
   rw[M9,cntL,cntL];simp at I⊢;omega
theorem LQ{W:World}{S:Nat→Bool}(G:∀k,S k=true→k<W.heap.size){w':World}(h:W.heap.size+1+1≤w'.heap.size):∀q,(fun k=>k==W.heap.size||k==W.heap.size+1||S k) q=true→q<w'.heap.size:=fun q F=>by
 simp at F;rcases F with(e|e)|e
 ·omega
 ·omega
 ·have:=G q e;omega
theorem cT(x:Nd)(h:Hd):(Bi x h)[0]? =some (.int .i64 x.kind):=by obtain⟨k,m,u,g,o,nh,d,ks⟩:=x;rfl
theorem Uh{us gs:List Rg}{f:Int}:∀{A:List (Nd×BA)},BW us gs A=.error f→f≠0
 |[],h=>by cases h
 |(x,m)::r,h=>by
  rw[BW]at h;cases hm:Bh true us gs x with
  |none=>rw[hm]at h;cases h;decide
  |some y=>
   rw[hm]at h;dsimp only at h;by_cases F:AQ m=false
   ·rw[nC F]at h;cases h;decide
   rw[nB F]at h;cases hb:BW us gs r with
   |error G=>rw[hb]at h;cases h;exact Uh hb
   |ok K=>rw[hb]at h;cases h
theorem Rv{us gs:List Rg}:∀{A L:List (Nd×BA)},BW us gs A=.ok L→(∀p∈A,p.1.kids=[])→∀p∈L,p.1.kids=[]
 |[],L,h,_=>by cases h;intro p F;cases F
 |(x,m)::r,L,h,ha=>by
  rw[BW]at h;cases hm:Bh true us gs x with
  |none=>rw[hm]at h;cases h
  |some y=>
   rw[hm]at h;dsimp only at h;by_cases G:AQ m=false
   ·rw[nC G]at h;cases h
   rw[nB G]at h;cases hb:BW us gs r with
   |error f=>rw[hb]at h;cases h
   |ok K=>
    rw[hb]at h;cases h;have H:=Rv hb (fun p F=>ha p (n2 _ F));intro p F;rcases nX.1 F with rfl|F
    ·exact(Gz hm).2.trans (ha (x,m) (nJ ..))
    ·exact H p F
theorem Xl{x:Nd}(h:A7 x):A7 (x.with []):=by
 obtain⟨k,m,u,g,o,nh,d,ks⟩:=x;rw[A7]at h;show A7 (.mk k m u g o nh d []);rw[A7];exact⟨h.1,by simp,by rw[Dl];trivial⟩
theorem ZS{x:Nd}(h:Eu x):Eu (x.with []):=by obtain⟨k,m,u,g,o,nh,d,ks⟩:=x;exact h
def O8:Except Int (List (Nd×BA))→Nd
 |.error _=>zN
 |.ok L=>BN L
def dZ(nf:List BA)(k:Nat)(U:Nd):Except Int (List (Nd×BA))→Except Int Nd
 |.error f=>.error f
 |.ok F=>AG (some (BN F)) (nf.take (k+1)) U
def Vq:Except Int (List (Nd×BA))→Value
 |.error f=>.iface 74 (.int .i64 f)
 |.ok _=>.nilIface
theorem Z1{W G:World}{S:Nat→Bool}{e:Ending}{F:Except Int (List (Nd×BA))}(h:Mj W G S e F):(∃h',e=.returned (.tuple #[Ao (O8 F) h',Vq F])∧Ah (Ag G.cell? S) (O8 F) h')∧Below W.heap.size W G:=by
 cases F with
 |error f=>exact⟨⟨zH,h.1,nZ _⟩,h.2⟩
 |ok L=>exact h
theorem cm{W:World}{S:Nat→Bool}(da:∀k,S k=true→k<W.heap.size){a:Option Addr}{cap:Nat}{xs:List Nd}{an:Option Addr}{nj:Nat}{nf:List BA}(hx:Ch (Ag W.cell? S) a xs)(az:A0 (Ag W.cell? S) an nf)(gi:xs.length≤1000)(fp:nf.length≤500)(gj:nf.length≤nj∧nj≤9223372036854775807)(eR:DC (BD xs))(eS:EZ (BD xs))(fq:EO (BD xs)){M:CE}(fs:DD W M){U:Nd}(ft:∀x,xs[0]? =some x→x=U)(g6:cnt U≤400)(fu:Cq U):
 Calls prog 136 #[.slice a xs.length cap,M.v,.slice an nf.length nj] W fun e bg=>FT W bg S e (DL M.us M.gs xs nf U):=by
 obtain⟨bl,bn,uc,gc,us,gs⟩:=M;obtain⟨c0,c1,fv,eo,eT⟩:=UE W _ _ bl bn us.length gs.length uc gc rfl rfl;have eU:AR (Ag W.cell? S) (Ag ((W.alloc (.cells #[.slice bl us.length uc,.slice bn gs.length gc] 24)).alloc (.cells #[.int .i64 0,.int .i64 0,.int .i64 0,.int .i64 0,.bool false,.slice none 0 0,.string ⟨#[]⟩,.slice none 0 0] 50)).cell? (fun k=>k==W.heap.size||k==W.heap.size+1||S k)):=Cb fun k b1 az=>⟨by simp[az];omega,eo.block k b1⟩
 have fw:Hid _:=Qv (w:=((W.alloc (.cells #[.slice bl us.length uc,.slice bn gs.length gc] 24)).alloc (.cells #[.int .i64 0,.int .i64 0,.int .i64 0,.int .i64 0,.bool false,.slice none 0 0,.string ⟨#[]⟩,.slice none 0 0] 50))) (cap:=cap) (nj:=nj) (S:=(fun k=>k==W.heap.size||k==W.heap.size+1||S k)) (fun q bo=>by
  rw[eT];simp at bo;rcases bo with(e|e)|e
  ·omega
  ·omega
  ·have:=da q e;omega) (hx.on eU) (az.on eU) gi (by omega) eR eS
 have fx:Hid (Ch (Ag W.cell? S) a xs):=hx;have fy:Hid (A0 (Ag W.cell? S) an nf):=az;have ep:Hid (EZ (BD xs)):=eS;have fA:Hid (EO (BD xs)):=fq;have fB:Hid (DD W ⟨bl,bn,uc,gc,us,gs⟩):=fs;have fC:Hid _:=ft;have eV:Hid (Cq U):=fu;have g7:Hid (DC (BD xs)):=eR;show Calls prog 136 #[.slice a xs.length cap,.agg #[.slice bl us.length uc,.slice bn gs.length gc],.slice an nf.length nj] W fun e bg=>FT W bg S e (DL us gs xs nf U);obtain⟨N,bp⟩:∃N,Hid (nf.length=N):=⟨_,rfl⟩
 clear eU hx az eS fq fs ft fu eR;have g8:Hid (nf.length≤500):=fp;go_enter func136,ntmps136;go_wp2_with fail
 refine nn fw.out ?_;rintro e F ⟨⟨vn,vf,L,rfl,dw,fD,db⟩,dx⟩;obtain⟨gl,cp,rfl,gm,g9⟩:=Tv dw.rn;obtain⟨go,gp,rfl,gq,ha⟩:=Tv dw.rf;have bv:=eo.trans (dx.mono eo.size);have bs:=fv.below dx;have b5:=Aj dx _ _ c0;have b6:=Aj dx _ _ c1;have eq:Hid (∀(j:Nat) f,L[j]? =some f→∃q r,AP xs (nf.take j)=q::r∧f.x=q.1.with []∧f.ly=q.2):=fD;have hc:L.length≤1000:=by rcases db with e|e<;>omega
 clear fw fv eo c0 c1 fD;rw[bp.out]at gj db fp⊢;cases hst:AP xs nf with
 |nil=>
  have er:Hid (DL us gs xs nf U=.error 5):=nC hst;have he:L.length≤N:=by
   rcases db with e|e
   ·exfalso
    obtain⟨f,bB⟩:∃f,L[N]? =some f:=⟨_,np (by omega)⟩;obtain⟨q,r,bo,_⟩:=eq.out N f bB;rw[n1 (by rw[bp.out];omega),hst]at bo;cases bo
   ·exact e.1
  have hb:decide ((L.length:Int)≤(N:Int))=true:=nE (by omega);clear hst eq dw db;go_upto_region 3 with fail
  have dy:=As.store bs zN zH;have dz:Below W.heap.size W (Ar F (W.heap.size+1) zN zH):=bv.trans (Cf.below (by omega) bv.size);have z0:=bs.2 0;have dd:=bs.2 1;have de:=bs.2 2;have z3:=bs.2 3;have z4:=bs.2 4;have z5:=bs.2 5;have dg:=bs.2 6;have dj:=bs.2 7;obtain⟨es,eu,ev,eB,eE,eF,f6,eG⟩:=bs.1;go_wp2;obtain⟨d0,d1⟩:∃d0,Hid (Ar F (W.heap.size+1) zN zH=d0):=⟨_,rfl⟩;rw[d1.out]at dy dz;have cq:=d1.out;simp only[Ar,zN,zH]at cq;simp only[nQ]at cq;rw[cq];obtain⟨b7,cr,cu,cx,cA,cB,c3,c4⟩:=dy.1;refine nF (v:=.tuple #[Ao zN zH,.iface 74 (.int .i64 5)]) (by simp[results,results136,go_sem,Ao,zN,zH,b7,cr,cu,cx,cA,cB,c3,c4]) rfl (S1 er.out (by decide) dz)
 |cons hf b7=>
  have eW:AP xs nf≠[]:=by rw[hst];simp
  have er:Hid (DL us gs xs nf U=E5 us gs xs nf U nf.length):=nB eW;obtain⟨bx,d2⟩:=aY eW;have c5:Hid (FQ xs nf bx):=d2;obtain⟨fE,b9⟩:=Qg d2;have eH:=fC.out _ b9;have eI:L.length=N+1:=by
   rcases db with e|⟨d3,cb⟩
   ·exact e
   ·obtain⟨r,cf⟩:=d2 L.length (by rw[bp.out];exact d3)
    rw[cf]at cb;cases cb
  have d4:Hid (∀(j:Nat) f,L[j]? =some f→f.x=(bx j).1.with []∧f.ly=(bx j).2):=fun j f bB=>by
   obtain⟨q,r,bo,d3,cb⟩:=eq.out j f bB;have c6:=(nw.1 bB).1;obtain⟨hg,gr⟩:=d2 j (by rw[bp.out];omega);rw[gr]at bo;cases bo;exact⟨d3,cb⟩
  obtain⟨ab,ao,rfl,gu,fF⟩:∃b d5,a=some ⟨b,d5,none⟩∧∃f:Nat→Hd,∀i x,xs[i]? =some x→Bj (Ag W.cell? S) b (d5+i*8) x (f i)∧Ah (Ag W.cell? S) x (f i):=by
   rcases fx.out with e|e
   ·rw[e]at b9;cases b9
   ·exact e
  obtain⟨d6,eJ⟩:=fF 0 _ b9;rw[eH]at d6 eJ;rw[r3,rT]at d6;generalize gu 0=ap at d6 eJ;have gv:(0:Int)<(xs.length:Int):=by have:=(nw.1 b9).1;omega
  have gw:Hid (0<xs.length):=by have:=(nw.1 b9).1;exact this
  have fG:Hid (A7 U):=by rw[←eH];exact ep.out ((bx 0).1,0) (List.mem_zipIdx_iff_getElem?.2 b9)
  have fH:Hid (cnt U≤1000):=by show _≤_;omega
  have eX:Hid ((bx 0).2=0∧(bx 0).1=U):=⟨fE,eH⟩;have dk:Hid (Bj (Ag W.cell? S) ab ao U ap):=d6;have d7:Hid (Ah (Ag W.cell? S) U ap):=eJ;have bC:Hid (L.length=N+1):=eI;have c8:Hid (Fy (fun k=>k==W.heap.size||k==W.heap.size+1||S k) ((W.alloc (.cells #[.slice bl us.length uc,.slice bn gs.length gc] 24)).alloc (.cells #[.int .i64 0,.int .i64 0,.int .i64 0,.int .i64 0,.bool false,.slice none 0 0,.string ⟨#[]⟩,.slice none 0 0] 50)).heap.size F (.slice gl (N+1) cp) (.slice go (N+1) gp) L L):=by rw[←eI];exact dw
  rw[eI]at gm gq⊢;rw[eT]at c8;have hb:decide (((N+1:Nat):Int)≤(N:Int))=false:=nA (by omega);clear hst eW db dw eq d2 fE b9 eH fF d6 eJ fC eI eT;go_upto_region 4 with fail
  go_wp2;go_loop [10] (fun i=>∃t:Nat,t≤N+1∧i=.int .i64 t∧Hid (∀s,s<t→(bx s).2=0)) (fun i=>N+1-(intOf i).toNat)
  case atStart=>exact⟨0,nM _,rfl,fun s az=>by omega⟩
  case round=>
   obtain⟨t,hi,rfl,d8⟩:=hrel;by_cases gx:t<N+1
   ·obtain⟨f,bB⟩:∃f,L[t]? =some f:=⟨_,np (by rw[bC.out];exact gx)⟩
    have eY:=(d4.out t f bB).2;obtain⟨hj,hk,fI,eZ⟩:=bD (by have:=c8.out.rf;rw[←bC.out]at this;exact this) bB;simp only[ro,bC.out,true_and]at fI;obtain⟨rfl,rfl⟩:=fI;rw[eY]at eZ;have fJ:decide ((t:Int)<((N+1:Nat):Int))=true:=nE (by omega);by_cases d9:(bx t).2=0
    ·rw[d9]at eZ
     have gy:Hid (∀s,s<t+1→(bx s).2=0):=fun s az=>by
      rcases Nat.lt_succ_iff_lt_or_eq.1 az with e|e
      ·exact d8.out s e
      ·rw[e];exact d9
     clear eY bB;go_wp2;go_round
     case rel=>exact⟨t+1,by omega,by go_num,gy.out⟩
     case measure=>(simp[intOf];try omega)
    ·have gz:(((bx t).2:Int)==0)=false:=by rw[beq_eq_false_iff_ne];omega
     have fK:(t:Int)≠((N+1:Nat):Int):=by omega
     have gA:((t:Int)==((N+1:Nat):Int))=false:=by rw[beq_eq_false_iff_ne];exact fK
     go_upto_region 9 with fail
     have hl:0<t:=by
      rcases Nat.eq_zero_or_pos t with e|e
      ·rw[e]at d9;exact absurd eX.out.1 d9
      ·exact e
     obtain⟨H,rfl⟩:∃H,t=H+1:=⟨t-1,by omega⟩;have fL:H<N:=by omega
     have dm:W.heap.size+1+1≤F.heap.size:=by have:=bs.1.lt;omega
     obtain⟨ea,hm,fM,hn,ho,fN⟩:=aO (S:=(fun k=>k==W.heap.size||k==W.heap.size+1||S k)) (t:=H+1) (by have:=c8.out.rn;rw[←bC.out]at this;exact this) c8.out.nd (fun k b1=>(Bool.or_eq_false_iff.1 b1).2) (fun g fO=>by
      have e:=(c8.out.rn.lt g (by rw[bC.out]at fO;exact fO)).1;have cb:S g=false:=by
       cases hh:S g with
       |false=>rfl
       |true=>have:=da g hh;omega
      simp[cb];omega) (by rw[bC.out];omega)
     simp only[ro,bC.out,true_and]at fM;obtain⟨rfl,rfl⟩:=fM;obtain⟨b2,b3,rfl,fP⟩:∃b d5,an=some ⟨b,d5,none⟩∧∀i s,nf[i]? =some s→Ag W.cell? S ⟨b,d5+i,none⟩=some (.string s):=by
      rcases fy.out with e|e
      ·have:=bp.out;rw[e]at this;simp at this;omega
      ·exact e
     have dn:((L.drop (H+1)).map Fl.x).length=N-H:=by rw[rk,List.length_drop,bC.out];omega
     have e0:(nf.drop H).length=N-H:=by rw[List.length_drop,bp.out]
     have fQ:Hid (DI ((L.drop (H+1)).map Fl.x) (nf.drop H)=D4 bx nf H (N-H)):=by
      show _=_;rw[←bp.out];exact Z0 (by rw[bp.out];exact fL) (by rw[bp.out];exact bC.out) (fun j f bB=>(d4.out j f bB).1)
     obtain⟨cg,dp⟩:∃cg,Hid (BW us gs (D4 bx nf H (N-H))=cg):=⟨_,rfl⟩;have eK:Hid (DL us gs xs nf U=dZ nf H U cg):=by
      show _=_;have e:=UO (us:=us) (gs:=gs) c5.out (k:=H) (by rw[bp.out];exact fL) (fun j c6=>d8.out j (by omega)) d9 (N-H-1) (by rw[bp.out];omega);rw[show H+(N-H-1)+1=N by omega,show N-H-1+1=N-H by omega,dp.out,eX.out.2]at e;rw[er.out,bp.out];refine e.trans ?_;cases cg<;>rfl
     have fR:Hid (∀y∈(L.drop (H+1)).map Fl.x,y.kids=[]∧A7 y∧Eu y):=fun y gB=>by
      obtain⟨gC,gD,rfl⟩:=rx.1 gB;obtain⟨j,c6⟩:=List.mem_iff_getElem?.1 (List.mem_of_mem_drop gD);have hp:=(nw.1 c6).1;obtain⟨r,cf⟩:=c5.out j (by rw[bp.out];have:=bC.out;omega);have fS:bx j∈AP xs (nf.take j):=by rw[cf];exact nJ ..
      rw[(d4.out j gC c6).1];exact⟨FH _ _,Xl (MI ep.out _ _ fS),ZS (cz (Yg fA.out _ _ fS))⟩
     have e1:Hid (∀bF,cg=.ok bF→Cq (BN bF)∧cnt (BN bF)≤501):=fun bF e=>by
      have eL:BW us gs (D4 bx nf H (N-H))=.ok bF:=dp.out.trans e;have hb:∀p∈D4 bx nf H (N-H),Cq p.1:=fun p dr=>by
       obtain⟨j,c6,rfl⟩:=rx.1 dr;rw[List.mem_range'_1]at c6;obtain⟨r,cf⟩:=c5.out j (by rw[bp.out];omega);exact ZF (MI ep.out (nf.take j) _ (by rw[cf];exact nJ ..))
      obtain⟨q1,q2⟩:=Tw eL hb
      have gE:∀p∈bF,p.1.kids=[]:=Rv eL (fun p dr=>by
       obtain⟨j,c6,rfl⟩:=rx.1 dr;exact JO _)
      obtain⟨q4,q5⟩:=Qm bF (fun p dr=>⟨q1 p dr,gE p dr⟩);refine⟨q4,?_⟩;rw[q2]at q5;simp[D4]at q5;omega
     obtain⟨e2,eM⟩:∃e2,Hid (O8 cg=e2):=⟨_,rfl⟩;obtain⟨eb,ec⟩:∃E,Hid (Vq cg=E):=⟨_,rfl⟩;obtain⟨J,O,Q,R,T,V,Y,Z⟩:=e2;have e3:Hid (∀(w':World) (S':Nat→Bool),(∀q,S' q=true→q<w'.heap.size)→Ch (Ag w'.cell? S') (some ⟨ea,(H+1)*8,none⟩) ((L.drop (H+1)).map Fl.x)→A0 (Ag w'.cell? S') (some ⟨b2,b3+H,none⟩) (nf.drop H)→Below W.heap.size W w'→Calls prog 164 #[.agg #[.slice bl us.length uc,.slice bn gs.length gc],.slice (some ⟨ea,(H+1)*8,none⟩) (N-H) (cp-(H+1)),.slice (some ⟨b2,b3+H,none⟩) (N-H) (nj-H)] w' fun e bg=>(∃h',e=.returned (.tuple #[.agg #[.int .i64 J,.int .i64 O,.int .i64 Q,.int .i64 R,.bool T,.slice h'.aa V.length h'.ca,.string Y,.slice h'.ak Z.length h'.ck],eb])∧Ah (Ag bg.cell? S') (.mk J O Q R T V Y Z) h')∧Below w'.heap.size w' bg):=by
      intro w' S' gG gH G hb;have e:=Wr (cn:=cp-(H+1)) (cs:=nj-H) gG gH G (fun e=>by rw[e]at dn;simp at dn;omega) (by rw[dn];omega) (by rw[dn,e0];omega) fR.out (fB.out.below hb);rw[dn,e0]at e;refine nn e fun e bg gI=>?_;have fT:=Z1 gI
      rw[fQ.out,dp.out,eM.out,ec.out]at fT;exact fT
     have e4:Hid (Ch (Ag F.cell? (fun k=>k==W.heap.size||k==W.heap.size+1||S k)) (some ⟨ea,(H+1)*8,none⟩) ((L.drop (H+1)).map Fl.x)):=fN;have ds:AR (Ag W.cell? S) (Ag F.cell? (fun k=>k==W.heap.size||k==W.heap.size+1||S k)):=Cb fun k b1 az=>⟨by simp[az];omega,bv.block k b1⟩;have e5:Hid (A0 (Ag F.cell? (fun k=>k==W.heap.size||k==W.heap.size+1||S k)) (some ⟨b2,b3+H,none⟩) (nf.drop H)):=A0.drop (fun i s gJ=>ds _ _ (fP i s gJ)) H
     have bi:F.cell? ⟨W.heap.size,0,none⟩=some (.slice bl us.length uc)∧F.cell? ⟨W.heap.size,1,none⟩=some (.slice bn gs.length gc):=⟨b5,b6⟩;have du:F.drew.cell? ⟨W.heap.size,0,none⟩=some (.slice bl us.length uc)∧F.drew.cell? ⟨W.heap.size,1,none⟩=some (.slice bn gs.length gc):=bi;have e6:(F.alloc (.cells #[.int .i64 0,.int .i64 0,.int .i64 0,.int .i64 0,.bool false,.slice none 0 0,.string ⟨#[]⟩,.slice none 0 0] 50)).drew.cell? ⟨W.heap.size,0,none⟩=some (.slice bl us.length uc)∧(F.alloc (.cells #[.int .i64 0,.int .i64 0,.int .i64 0,.int .i64 0,.bool false,.slice none 0 0,.string ⟨#[]⟩,.slice none 0 0] 50)).drew.cell? ⟨W.heap.size,1,none⟩=some (.slice bn gs.length gc):=⟨Aj (Bq F _) _ _ b5,Aj (Bq F _) _ _ b6⟩;have e7:Hid (Calls prog 164 #[.agg #[.slice bl us.length uc,.slice bn gs.length gc],.slice (some ⟨ea,(H+1)*8,none⟩) (N-H) (cp-(H+1)),.slice (some ⟨b2,b3+H,none⟩) (N-H) (nj-H)] F.drew (fun e bg=>(∃h',e=.returned (.tuple #[.agg #[.int .i64 J,.int .i64 O,.int .i64 Q,.int .i64 R,.bool T,.slice h'.aa V.length h'.ca,.string Y,.slice h'.ak Z.length h'.ck],eb])∧Ah (Ag bg.cell? (fun k=>k==W.heap.size||k==W.heap.size+1||S k)) (.mk J O Q R T V Y Z) h')∧Below F.drew.heap.size F.drew bg)):=e3.out F.drew (fun k=>k==W.heap.size||k==W.heap.size+1||S k) (LQ da dm) e4.out e5.out bv.drew;have fU:Below W.heap.size W (F.alloc (.cells #[.int .i64 0,.int .i64 0,.int .i64 0,.int .i64 0,.bool false,.slice none 0 0,.string ⟨#[]⟩,.slice none 0 0] 50)).drew:=(bv.trans ((Bq F (.cells #[.int .i64 0,.int .i64 0,.int .i64 0,.int .i64 0,.bool false,.slice none 0 0,.string ⟨#[]⟩,.slice none 0 0] 50)).mono bv.size)).drew;have e8:AR (Ag F.cell? (fun k=>k==W.heap.size||k==W.heap.size+1||S k)) (Ag (F.alloc (.cells #[.int .i64 0,.int .i64 0,.int .i64 0,.int .i64 0,.bool false,.slice none 0 0,.string ⟨#[]⟩,.slice none 0 0] 50)).drew.cell? (fun k=>k==F.heap.size||(fun k=>k==W.heap.size||k==W.heap.size+1||S k) k)):=Cb fun q bo az=>⟨Bool.or_eq_false_iff.2 ⟨by simp;omega,az⟩,(Bq F (.cells #[.int .i64 0,.int .i64 0,.int .i64 0,.int .i64 0,.bool false,.slice none 0 0,.string ⟨#[]⟩,.slice none 0 0] 50)).drew.block q bo⟩;have gK:(F.alloc (.cells #[.int .i64 0,.int .i64 0,.int .i64 0,.int .i64 0,.bool false,.slice none 0 0,.string ⟨#[]⟩,.slice none 0 0] 50)).drew.heap.size=F.heap.size+1:=nv _ _
     have e9:Hid (Calls prog 164 #[.agg #[.slice bl us.length uc,.slice bn gs.length gc],.slice (some ⟨ea,(H+1)*8,none⟩) (N-H) (cp-(H+1)),.slice (some ⟨b2,b3+H,none⟩) (N-H) (nj-H)] (F.alloc (.cells #[.int .i64 0,.int .i64 0,.int .i64 0,.int .i64 0,.bool false,.slice none 0 0,.string ⟨#[]⟩,.slice none 0 0] 50)).drew (fun e bg=>(∃h',e=.returned (.tuple #[.agg #[.int .i64 J,.int .i64 O,.int .i64 Q,.int .i64 R,.bool T,.slice h'.aa V.length h'.ca,.string Y,.slice h'.ak Z.length h'.ck],eb])∧Ah (Ag bg.cell? (fun k=>k==F.heap.size||(fun k=>k==W.heap.size||k==W.heap.size+1||S k) k)) (.mk J O Q R T V Y Z) h')∧Below (F.alloc (.cells #[.int .i64 0,.int .i64 0,.int .i64 0,.int .i64 0,.bool false,.slice none 0 0,.string ⟨#[]⟩,.slice none 0 0] 50)).drew.heap.size (F.alloc (.cells #[.int .i64 0,.int .i64 0,.int .i64 0,.int .i64 0,.bool false,.slice none 0 0,.string ⟨#[]⟩,.slice none 0 0] 50)).drew bg)):=e3.out (F.alloc (.cells #[.int .i64 0,.int .i64 0,.int .i64 0,.int .i64 0,.bool false,.slice none 0 0,.string ⟨#[]⟩,.slice none 0 0] 50)).drew (fun k=>k==F.heap.size||(fun k=>k==W.heap.size||k==W.heap.size+1||S k) k) (fun q bo=>by
      rw[Bool.or_eq_true]at bo;rcases bo with e|e
      ·simp at e;omega
      ·have:=LQ da dm q e;omega) (e4.out.on e8) (e5.out.on e8) fU
     have fV:As (F.alloc (.cells #[.int .i64 0,.int .i64 0,.int .i64 0,.int .i64 0,.bool false,.slice none 0 0,.string ⟨#[]⟩,.slice none 0 0] 50)).drew F.heap.size zN zH:=As.zero F;have fa:Hid (∀(aa:World) (h':Hd),Below F.drew.heap.size F.drew aa→Ah (Ag aa.cell? (fun k=>k==W.heap.size||k==W.heap.size+1||S k)) (.mk J O Q R T V Y Z) h'→(aa.cell? ⟨W.heap.size,0,none⟩=some (.slice bl us.length uc)∧aa.cell? ⟨W.heap.size,1,none⟩=some (.slice bn gs.length gc))∧((aa.alloc (.cells #[.int .i64 0,.int .i64 0,.int .i64 0,.int .i64 0,.bool false,.slice none 0 0,.string ⟨#[]⟩,.slice none 0 0] 50)).cell? ⟨W.heap.size,0,none⟩=some (.slice bl us.length uc)∧(aa.alloc (.cells #[.int .i64 0,.int .i64 0,.int .i64 0,.int .i64 0,.bool false,.slice none 0 0,.string ⟨#[]⟩,.slice none 0 0] 50)).cell? ⟨W.heap.size,1,none⟩=some (.slice bn gs.length gc))∧((aa.alloc (.cells #[.int .i64 J,.int .i64 O,.int .i64 Q,.int .i64 R,.bool T,.slice h'.aa V.length h'.ca,.string Y,.slice h'.ak Z.length h'.ck] 50)).cell? ⟨W.heap.size,0,none⟩=some (.slice bl us.length uc)∧(aa.alloc (.cells #[.int .i64 J,.int .i64 O,.int .i64 Q,.int .i64 R,.bool T,.slice h'.aa V.length h'.ca,.string Y,.slice h'.ak Z.length h'.ck] 50)).cell? ⟨W.heap.size,1,none⟩=some (.slice bn gs.length gc))∧As (aa.alloc (.cells #[.int .i64 J,.int .i64 O,.int .i64 Q,.int .i64 R,.bool T,.slice h'.aa V.length h'.ca,.string Y,.slice h'.ak Z.length h'.ck] 50)) aa.heap.size (.mk J O Q R T V Y Z) h'∧Below W.heap.size W (aa.alloc (.cells #[.int .i64 J,.int .i64 O,.int .i64 Q,.int .i64 R,.bool T,.slice h'.aa V.length h'.ca,.string Y,.slice h'.ak Z.length h'.ck] 50))∧As (aa.alloc (.cells #[.int .i64 J,.int .i64 O,.int .i64 Q,.int .i64 R,.bool T,.slice h'.aa V.length h'.ca,.string Y,.slice h'.ak Z.length h'.ck] 50)) (W.heap.size+1) zN zH∧Ah (Ag (aa.alloc (.cells #[.int .i64 J,.int .i64 O,.int .i64 Q,.int .i64 R,.bool T,.slice h'.aa V.length h'.ca,.string Y,.slice h'.ak Z.length h'.ck] 50)).cell? (fun k=>k==W.heap.size||k==W.heap.size+1||S k)) (.mk J O Q R T V Y Z) h'∧W.heap.size+1<aa.heap.size):=by
      intro aa h' bG b4;have bH:Below F.heap.size F aa:=((nt _ F).drew).trans bG;have fb:∀w',Below aa.heap.size aa w'→w'.cell? ⟨W.heap.size,0,none⟩=some (.slice bl us.length uc)∧w'.cell? ⟨W.heap.size,1,none⟩=some (.slice bn gs.length gc):=fun w' hb=>⟨Aj hb _ _ (Aj bH _ _ b5),Aj hb _ _ (Aj bH _ _ b6)⟩;have fW:=bH.trans ((Bq aa (.cells #[.int .i64 J,.int .i64 O,.int .i64 Q,.int .i64 R,.bool T,.slice h'.aa V.length h'.ca,.string Y,.slice h'.ak Z.length h'.ck] 50)).mono bH.size)
      exact⟨fb aa (nt _ _),fb _ (Bq aa _),fb _ (Bq aa _),As.new aa J O Q R T V Y Z h',bv.trans (fW.mono bv.size),bs.below fW,b4.on (CQ (Bq aa (.cells #[.int .i64 J,.int .i64 O,.int .i64 Q,.int .i64 R,.bool T,.slice h'.aa V.length h'.ca,.string Y,.slice h'.ak Z.length h'.ck] 50))),nG (by omega) bH.size⟩
     have fc:Hid (∀(aa:World) (h':Hd),Below (F.alloc (.cells #[.int .i64 0,.int .i64 0,.int .i64 0,.int .i64 0,.bool false,.slice none 0 0,.string ⟨#[]⟩,.slice none 0 0] 50)).drew.heap.size (F.alloc (.cells #[.int .i64 0,.int .i64 0,.int .i64 0,.int .i64 0,.bool false,.slice none 0 0,.string ⟨#[]⟩,.slice none 0 0] 50)).drew aa→Ah (Ag aa.cell? (fun k=>k==F.heap.size||(fun k=>k==W.heap.size||k==W.heap.size+1||S k) k)) (.mk J O Q R T V Y Z) h'→(aa.cell? ⟨W.heap.size,0,none⟩=some (.slice bl us.length uc)∧aa.cell? ⟨W.heap.size,1,none⟩=some (.slice bn gs.length gc))∧(((((((((aa.setCell ⟨F.heap.size,0,none⟩ (.int .i64 J)).setCell ⟨F.heap.size,1,none⟩ (.int .i64 O)).setCell ⟨F.heap.size,2,none⟩ (.int .i64 Q)).setCell ⟨F.heap.size,3,none⟩ (.int .i64 R)).setCell ⟨F.heap.size,4,none⟩ (.bool T)).setCell ⟨F.heap.size,5,none⟩ (.slice h'.aa V.length h'.ca)).setCell ⟨F.heap.size,6,none⟩ (.string Y)).setCell ⟨F.heap.size,7,none⟩ (.slice h'.ak Z.length h'.ck)).cell? ⟨W.heap.size,0,none⟩=some (.slice bl us.length uc)∧((((((((aa.setCell ⟨F.heap.size,0,none⟩ (.int .i64 J)).setCell ⟨F.heap.size,1,none⟩ (.int .i64 O)).setCell ⟨F.heap.size,2,none⟩ (.int .i64 Q)).setCell ⟨F.heap.size,3,none⟩ (.int .i64 R)).setCell ⟨F.heap.size,4,none⟩ (.bool T)).setCell ⟨F.heap.size,5,none⟩ (.slice h'.aa V.length h'.ca)).setCell ⟨F.heap.size,6,none⟩ (.string Y)).setCell ⟨F.heap.size,7,none⟩ (.slice h'.ak Z.length h'.ck)).cell? ⟨W.heap.size,1,none⟩=some (.slice bn gs.length gc))∧As aa F.heap.size zN zH∧As (Ar aa F.heap.size (.mk J O Q R T V Y Z) h') F.heap.size (.mk J O Q R T V Y Z) h'∧Below W.heap.size W (Ar aa F.heap.size (.mk J O Q R T V Y Z) h')∧As (Ar aa F.heap.size (.mk J O Q R T V Y Z) h') (W.heap.size+1) zN zH∧Ah (Ag (Ar aa F.heap.size (.mk J O Q R T V Y Z) h').cell? (fun k=>k==W.heap.size||k==W.heap.size+1||S k)) (.mk J O Q R T V Y Z) h'):=by
      intro aa h' bG b4;have fX:=(Bq F (.cells #[.int .i64 0,.int .i64 0,.int .i64 0,.int .i64 0,.bool false,.slice none 0 0,.string ⟨#[]⟩,.slice none 0 0] 50)).drew;have bH:Below F.heap.size F aa:=fX.trans (bG.mono fX.size);have ed:=fV.below bG;have ee:Au F.heap.size aa (Ar aa F.heap.size (.mk J O Q R T V Y Z) h'):=Cf;have eN:Below F.heap.size F (Ar aa F.heap.size (.mk J O Q R T V Y Z) h'):=bH.trans (ee.below (nl _) bH.size)
      exact⟨⟨Aj bH _ _ b5,Aj bH _ _ b6⟩,⟨Aj eN _ _ b5,Aj eN _ _ b6⟩,ed,ed.store (.mk J O Q R T V Y Z) h',bv.trans (eN.mono bv.size),bs.below eN,b4.on (Cb fun q bo az=>by
       rw[Bool.or_eq_false_iff]at az;exact⟨az.2,ee.block q bo (by simpa using az.1)⟩)⟩
     have fY:Hid (W.heap.size+1<F.heap.size):=by show _<_;omega
     have g1:(0:Int)≤(H:Int)+1:=by omega
     have hq:(H:Int)+1≤(N:Int)+1:=by omega
     have g3:(H:Int)≤(N:Int):=by omega
     have g4:(N:Int)+1≤(cp:Int):=by omega
     have hr:(N:Int)≤(nj:Int):=by omega
     have hs:¬cp=H+1:=by omega
     have ht:¬nj=H:=by omega
     have hu:((H:Int)+1).toNat=H+1:=by omega
     have hv:IntKind.i64.wrap (H:Int)=(H:Int):=Ez (by omega) (by omega);clear bi e3 e4 e5 fU e8 gK fV fB fy fQ fR d4 c8 d8 eZ bB eY fN dn e0 fx;rw[show((H+1:Nat):Int)=(H:Int)+1 by omega];clear fJ gz fK gA hb;go_region_held3 (fun w'=>w'.cell? ⟨W.heap.size,0,none⟩=some (.slice bl us.length uc)∧w'.cell? ⟨W.heap.size,1,none⟩=some (.slice bn gs.length gc)) (first|with_reducible exact du|with_reducible exact bf|with_reducible exact fZ|with_reducible exact c9|with_reducible exact e6) (first|(go_at_call 164;(with_reducible refine nn e7.out ?_);rintro e aa ⟨⟨h',rfl,b4⟩,bG⟩;obtain⟨bf,fZ,c9,bY,bA,bu,ef,fd⟩:=fa.out aa h' bG b4)|(go_at_call 164;(with_reducible refine nn e9.out ?_);rintro e aa ⟨⟨h',rfl,b4⟩,bG⟩;obtain⟨bf,c9,ed,bY,bA,bu,ef⟩:=fc.out aa h' bG b4;obtain⟨⟨z0,dd,de,z3,z4,z5,dg,dj⟩,fe⟩:=id ed;clear ed))
     all_goals
      first
      |(clear z0 dd de z3 z4 z5 dg dj fe
        have ch:Hid (Ah (Ag (Ar aa F.heap.size (.mk J O Q R T V Y Z) h').cell? (fun k=>k==W.heap.size||k==W.heap.size+1||S k)) (.mk J O Q R T V Y Z) h'):=ef;have fd:W.heap.size+1<F.heap.size:=fY.out;clear du e6 bf c9 e7 e9 fa fc b4 bG ef ds bs bv b5 b6 dx;have bA:Below W.heap.size W ((((((((aa.setCell ⟨F.heap.size,0,none⟩ (.int .i64 J)).setCell ⟨F.heap.size,1,none⟩ (.int .i64 O)).setCell ⟨F.heap.size,2,none⟩ (.int .i64 Q)).setCell ⟨F.heap.size,3,none⟩ (.int .i64 R)).setCell ⟨F.heap.size,4,none⟩ (.bool T)).setCell ⟨F.heap.size,5,none⟩ (.slice h'.aa V.length h'.ca)).setCell ⟨F.heap.size,6,none⟩ (.string Y)).setCell ⟨F.heap.size,7,none⟩ (.slice h'.ak Z.length h'.ck)):=bA;have bu:As ((((((((aa.setCell ⟨F.heap.size,0,none⟩ (.int .i64 J)).setCell ⟨F.heap.size,1,none⟩ (.int .i64 O)).setCell ⟨F.heap.size,2,none⟩ (.int .i64 Q)).setCell ⟨F.heap.size,3,none⟩ (.int .i64 R)).setCell ⟨F.heap.size,4,none⟩ (.bool T)).setCell ⟨F.heap.size,5,none⟩ (.slice h'.aa V.length h'.ca)).setCell ⟨F.heap.size,6,none⟩ (.string Y)).setCell ⟨F.heap.size,7,none⟩ (.slice h'.ak Z.length h'.ck)) (W.heap.size+1) zN zH:=bu;have bY:As ((((((((aa.setCell ⟨F.heap.size,0,none⟩ (.int .i64 J)).setCell ⟨F.heap.size,1,none⟩ (.int .i64 O)).setCell ⟨F.heap.size,2,none⟩ (.int .i64 Q)).setCell ⟨F.heap.size,3,none⟩ (.int .i64 R)).setCell ⟨F.heap.size,4,none⟩ (.bool T)).setCell ⟨F.heap.size,5,none⟩ (.slice h'.aa V.length h'.ca)).setCell ⟨F.heap.size,6,none⟩ (.string Y)).setCell ⟨F.heap.size,7,none⟩ (.slice h'.ak Z.length h'.ck)) F.heap.size (.mk J O Q R T V Y Z) h':=bY;have ch:Hid (Ah (Ag ((((((((aa.setCell ⟨F.heap.size,0,none⟩ (.int .i64 J)).setCell ⟨F.heap.size,1,none⟩ (.int .i64 O)).setCell ⟨F.heap.size,2,none⟩ (.int .i64 Q)).setCell ⟨F.heap.size,3,none⟩ (.int .i64 R)).setCell ⟨F.heap.size,4,none⟩ (.bool T)).setCell ⟨F.heap.size,5,none⟩ (.slice h'.aa V.length h'.ca)).setCell ⟨F.heap.size,6,none⟩ (.string Y)).setCell ⟨F.heap.size,7,none⟩ (.slice h'.ak Z.length h'.ck)).cell? (fun k=>k==W.heap.size||k==W.heap.size+1||S k)) (.mk J O Q R T V Y Z) h'):=ch;generalize((((((((aa.setCell ⟨F.heap.size,0,none⟩ (.int .i64 J)).setCell ⟨F.heap.size,1,none⟩ (.int .i64 O)).setCell ⟨F.heap.size,2,none⟩ (.int .i64 Q)).setCell ⟨F.heap.size,3,none⟩ (.int .i64 R)).setCell ⟨F.heap.size,4,none⟩ (.bool T)).setCell ⟨F.heap.size,5,none⟩ (.slice h'.aa V.length h'.ca)).setCell ⟨F.heap.size,6,none⟩ (.string Y)).setCell ⟨F.heap.size,7,none⟩ (.slice h'.ak Z.length h'.ck))=ad at ch bY bA bu⊢;have gL:=dm;clear dm gL fY;generalize F.heap.size=ak at bY fd⊢)
      |(have ch:Hid (Ah (Ag (aa.alloc (.cells #[.int .i64 J,.int .i64 O,.int .i64 Q,.int .i64 R,.bool T,.slice h'.aa V.length h'.ca,.string Y,.slice h'.ak Z.length h'.ck] 50)).cell? (fun k=>k==W.heap.size||k==W.heap.size+1||S k)) (.mk J O Q R T V Y Z) h'):=ef
        clear du e6 bf fZ c9 e7 e9 fa fc b4 bG ef ds bs bv b5 b6;generalize aa.alloc (.cells #[.int .i64 J,.int .i64 O,.int .i64 Q,.int .i64 R,.bool T,.slice h'.aa V.length h'.ca,.string Y,.slice h'.ak Z.length h'.ck] 50)=ad at ch bY bA bu⊢;generalize aa.heap.size=ak at bY fd⊢)
      have eg:AR (Ag W.cell? S) (Ag ad.cell? (fun k=>k==W.heap.size||k==W.heap.size+1||S k)):=Cb fun k b1 az=>⟨by simp[az];omega,bA.block k b1⟩;cases cg with
      |error f=>
       have ff:eb=.iface 74 (.int .i64 f):=ec.out.symm;subst ff;have fg:Hid (DL us gs xs nf U=.error f):=eK.out;have gM:Hid (f≠0):=Uh dp.out;clear eK dp eM ec e1 ch bY eg dk d7 c5;have dy:=As.store bu zN zH;have dz:Below W.heap.size W (Ar ad (W.heap.size+1) zN zH):=bA.trans (Cf.below (by omega) bA.size);have z0:=bu.2 0;have dd:=bu.2 1;have de:=bu.2 2;have z3:=bu.2 3;have z4:=bu.2 4;have z5:=bu.2 5;have dg:=bu.2 6;have dj:=bu.2 7;obtain⟨es,eu,ev,eB,eE,eF,f6,eG⟩:=bu.1;go_wp2;obtain⟨d0,d1⟩:∃d0,Hid (Ar ad (W.heap.size+1) zN zH=d0):=⟨_,rfl⟩;rw[d1.out]at dy dz;have cq:=d1.out;simp only[Ar,zN,zH]at cq;simp only[nQ]at cq;rw[cq];obtain⟨b7,cr,cu,cx,cA,cB,c3,c4⟩:=dy.1;refine nF (v:=.tuple #[Ao zN zH,.iface 74 (.int .i64 f)]) (by simp[results,results136,go_sem,Ao,zN,zH,b7,cr,cu,cx,cA,cB,c3,c4]) rfl (S1 fg.out gM.out dz)
      |ok bF=>
       have ff:eb=.nilIface:=ec.out.symm;subst ff;have fh:Hid (BN bF=(.mk J O Q R T V Y Z)):=eM.out;obtain⟨fi,f0⟩:=e1.out bF rfl;rw[fh.out]at fi f0;have gN:Hid (DL us gs xs nf U=AG (some (.mk J O Q R T V Y Z)) (nf.take (H+1)) U):=by rw[eK.out,←fh.out];rfl
       obtain⟨eO,f1⟩:∃eO,Hid (AG (some (.mk J O Q R T V Y Z)) (nf.take (H+1)) U=eO):=⟨_,rfl⟩;obtain⟨X,fj⟩:∃X,Hid (DM eO=X):=⟨_,rfl⟩;obtain⟨fl,f2⟩:∃E,Hid (Am (EG eO)=E):=⟨_,rfl⟩;obtain⟨a1,a6,a7,a8,ba,bb,bd,be⟩:=X;have gO:W.heap.size+1+1≤ad.heap.size:=by have:=bu.1.lt;omega
       have f3:=(dk.out.on eg).on (Ci _ _);have hw:ab<W.heap.size:=ny _ _ (Ci _ _ _ _ ((Fe.1 dk.out) 0 _ (cT U ap)));have eP:Hid (Calls prog 138 #[Ao U ap,.slice (some ⟨b2,b3,none⟩) (H+1) nj,.agg #[.int .i64 J,.int .i64 O,.int .i64 Q,.int .i64 R,.bool T,.slice h'.aa V.length h'.ca,.string Y,.slice h'.ak Z.length h'.ck]] ad.drew (fun e bg=>(∃G,e=.returned (.tuple #[.agg #[.int .i64 a1,.int .i64 a6,.int .i64 a7,.int .i64 a8,.bool ba,.slice G.aa bb.length G.ca,.string bd,.slice G.ak be.length G.ck],fl])∧Ah (Ag bg.cell? (fun k=>k==W.heap.size||k==W.heap.size+1||S k)) (.mk a1 a6 a7 a8 ba bb bd be) G)∧Below ad.drew.heap.size ad.drew bg)):=by
        have e:=XJ (W:=ad.drew) (S:=(fun k=>k==W.heap.size||k==W.heap.size+1||S k)) (x0:=U) (h:=ap) (LQ da (w':=ad.drew) gO) (d7.out.on eg) (some ⟨b2,b3,none⟩) nj (nf.take (H+1)) ((A0.take (.inr ⟨b2,b3,rfl,fP⟩) _).on (eg.trans (Ci _ _))) (by rw[rF,bp.out];omega) (by rw[rF,bp.out];omega) (by omega) (.mk J O Q R T V Y Z) h' ch.out (fun r cf=>by
         have c:=Jr cf;have c2:GF (some (.mk J O Q R T V Y Z))=cnt (.mk J O Q R T V Y Z):=rfl;have f4:cnt r≤1000:=by omega
         exact⟨Ur r (bI cf (fun y e=>by cases e;exact fi) eV.out) f4,f4⟩)
        rw[show(nf.take (H+1)).length=H+1 by rw[rF,bp.out];omega,f1.out]at e;unfold FT at e;rw[fj.out,f2.out]at e;exact e
       clear eK dp eM ec e1 ch eg d7 c5 dk fh fi f0 eV;obtain⟨k,m,u,g,o,nh,d,ks⟩:=U;have eP:Hid (Calls prog 138 #[.agg #[.int .i64 k,.int .i64 m,.int .i64 u,.int .i64 g,.bool o,.slice ap.aa nh.length ap.ca,.string d,.slice ap.ak ks.length ap.ck],.slice (some ⟨b2,b3,none⟩) (H+1) nj,.agg #[.int .i64 J,.int .i64 O,.int .i64 Q,.int .i64 R,.bool T,.slice h'.aa V.length h'.ca,.string Y,.slice h'.ak Z.length h'.ck]] ad.drew (fun e bg=>(∃G,e=.returned (.tuple #[.agg #[.int .i64 a1,.int .i64 a6,.int .i64 a7,.int .i64 a8,.bool ba,.slice G.aa bb.length G.ca,.string bd,.slice G.ak be.length G.ck],fl])∧Ah (Ag bg.cell? (fun k=>k==W.heap.size||k==W.heap.size+1||S k)) (.mk a1 a6 a7 a8 ba bb bd be) G)∧Below ad.drew.heap.size ad.drew bg)):=eP;have hy:(H:Int)+1≤(nj:Int):=by omega
       have hz:0<xs.length:=gw.out;have gv:(0:Int)<(xs.length:Int):=by omega
       have bi:ad.cell? ⟨ab,ao,none⟩=some (.int .i64 k)∧ad.cell? ⟨ab,ao+1,none⟩=some (.int .i64 m)∧ad.cell? ⟨ab,ao+2,none⟩=some (.int .i64 u)∧ad.cell? ⟨ab,ao+3,none⟩=some (.int .i64 g)∧ad.cell? ⟨ab,ao+4,none⟩=some (.bool o)∧ad.cell? ⟨ab,ao+5,none⟩=some (.slice ap.aa nh.length ap.ca)∧ad.cell? ⟨ab,ao+6,none⟩=some (.string d)∧ad.cell? ⟨ab,ao+7,none⟩=some (.slice ap.ak ks.length ap.ck)∧ad.cell? ⟨ak,0,none⟩=some (.int .i64 J)∧ad.cell? ⟨ak,1,none⟩=some (.int .i64 O)∧ad.cell? ⟨ak,2,none⟩=some (.int .i64 Q)∧ad.cell? ⟨ak,3,none⟩=some (.int .i64 R)∧ad.cell? ⟨ak,4,none⟩=some (.bool T)∧ad.cell? ⟨ak,5,none⟩=some (.slice h'.aa V.length h'.ca)∧ad.cell? ⟨ak,6,none⟩=some (.string Y)∧ad.cell? ⟨ak,7,none⟩=some (.slice h'.ak Z.length h'.ck):=by
        obtain⟨eL,d3,cb,gP,gQ,gR,gS,gT⟩:=f3;obtain⟨gU,gV,gW,gX,gY,gZ,g0,g2⟩:=bY.1;exact⟨eL,d3,cb,gP,gQ,gR,gS,gT,gU,gV,gW,gX,gY,gZ,g0,g2⟩
       have cl:ab≠(W.heap.size+1):=by omega
       have co:ak≠(W.heap.size+1):=by omega
       have du:ad.drew.cell? ⟨ab,ao,none⟩=some (.int .i64 k)∧ad.drew.cell? ⟨ab,ao+1,none⟩=some (.int .i64 m)∧ad.drew.cell? ⟨ab,ao+2,none⟩=some (.int .i64 u)∧ad.drew.cell? ⟨ab,ao+3,none⟩=some (.int .i64 g)∧ad.drew.cell? ⟨ab,ao+4,none⟩=some (.bool o)∧ad.drew.cell? ⟨ab,ao+5,none⟩=some (.slice ap.aa nh.length ap.ca)∧ad.drew.cell? ⟨ab,ao+6,none⟩=some (.string d)∧ad.drew.cell? ⟨ab,ao+7,none⟩=some (.slice ap.ak ks.length ap.ck)∧ad.drew.cell? ⟨ak,0,none⟩=some (.int .i64 J)∧ad.drew.cell? ⟨ak,1,none⟩=some (.int .i64 O)∧ad.drew.cell? ⟨ak,2,none⟩=some (.int .i64 Q)∧ad.drew.cell? ⟨ak,3,none⟩=some (.int .i64 R)∧ad.drew.cell? ⟨ak,4,none⟩=some (.bool T)∧ad.drew.cell? ⟨ak,5,none⟩=some (.slice h'.aa V.length h'.ca)∧ad.drew.cell? ⟨ak,6,none⟩=some (.string Y)∧ad.drew.cell? ⟨ak,7,none⟩=some (.slice h'.ak Z.length h'.ck):=bi
       have f5:Hid (∀(I:World) (G:Hd),Below ad.drew.heap.size ad.drew I→Ah (Ag I.cell? (fun k=>k==W.heap.size||k==W.heap.size+1||S k)) (.mk a1 a6 a7 a8 ba bb bd be) G→(I.cell? ⟨ab,ao,none⟩=some (.int .i64 k)∧I.cell? ⟨ab,ao+1,none⟩=some (.int .i64 m)∧I.cell? ⟨ab,ao+2,none⟩=some (.int .i64 u)∧I.cell? ⟨ab,ao+3,none⟩=some (.int .i64 g)∧I.cell? ⟨ab,ao+4,none⟩=some (.bool o)∧I.cell? ⟨ab,ao+5,none⟩=some (.slice ap.aa nh.length ap.ca)∧I.cell? ⟨ab,ao+6,none⟩=some (.string d)∧I.cell? ⟨ab,ao+7,none⟩=some (.slice ap.ak ks.length ap.ck)∧I.cell? ⟨ak,0,none⟩=some (.int .i64 J)∧I.cell? ⟨ak,1,none⟩=some (.int .i64 O)∧I.cell? ⟨ak,2,none⟩=some (.int .i64 Q)∧I.cell? ⟨ak,3,none⟩=some (.int .i64 R)∧I.cell? ⟨ak,4,none⟩=some (.bool T)∧I.cell? ⟨ak,5,none⟩=some (.slice h'.aa V.length h'.ca)∧I.cell? ⟨ak,6,none⟩=some (.string Y)∧I.cell? ⟨ak,7,none⟩=some (.slice h'.ak Z.length h'.ck))∧(((((((((I.setCell ⟨(W.heap.size+1),0,none⟩ (.int .i64 a1)).setCell ⟨(W.heap.size+1),1,none⟩ (.int .i64 a6)).setCell ⟨(W.heap.size+1),2,none⟩ (.int .i64 a7)).setCell ⟨(W.heap.size+1),3,none⟩ (.int .i64 a8)).setCell ⟨(W.heap.size+1),4,none⟩ (.bool ba)).setCell ⟨(W.heap.size+1),5,none⟩ (.slice G.aa bb.length G.ca)).setCell ⟨(W.heap.size+1),6,none⟩ (.string bd)).setCell ⟨(W.heap.size+1),7,none⟩ (.slice G.ak be.length G.ck)).cell? ⟨ab,ao,none⟩=some (.int .i64 k)∧((((((((I.setCell ⟨(W.heap.size+1),0,none⟩ (.int .i64 a1)).setCell ⟨(W.heap.size+1),1,none⟩ (.int .i64 a6)).setCell ⟨(W.heap.size+1),2,none⟩ (.int .i64 a7)).setCell ⟨(W.heap.size+1),3,none⟩ (.int .i64 a8)).setCell ⟨(W.heap.size+1),4,none⟩ (.bool ba)).setCell ⟨(W.heap.size+1),5,none⟩ (.slice G.aa bb.length G.ca)).setCell ⟨(W.heap.size+1),6,none⟩ (.string bd)).setCell ⟨(W.heap.size+1),7,none⟩ (.slice G.ak be.length G.ck)).cell? ⟨ab,ao+1,none⟩=some (.int .i64 m)∧((((((((I.setCell ⟨(W.heap.size+1),0,none⟩ (.int .i64 a1)).setCell ⟨(W.heap.size+1),1,none⟩ (.int .i64 a6)).setCell ⟨(W.heap.size+1),2,none⟩ (.int .i64 a7)).setCell ⟨(W.heap.size+1),3,none⟩ (.int .i64 a8)).setCell ⟨(W.heap.size+1),4,none⟩ (.bool ba)).setCell ⟨(W.heap.size+1),5,none⟩ (.slice G.aa bb.length G.ca)).setCell ⟨(W.heap.size+1),6,none⟩ (.string bd)).setCell ⟨(W.heap.size+1),7,none⟩ (.slice G.ak be.length G.ck)).cell? ⟨ab,ao+2,none⟩=some (.int .i64 u)∧((((((((I.setCell ⟨(W.heap.size+1),0,none⟩ (.int .i64 a1)).setCell ⟨(W.heap.size+1),1,none⟩ (.int .i64 a6)).setCell ⟨(W.heap.size+1),2,none⟩ (.int .i64 a7)).setCell ⟨(W.heap.size+1),3,none⟩ (.int .i64 a8)).setCell ⟨(W.heap.size+1),4,none⟩ (.bool ba)).setCell ⟨(W.heap.size+1),5,none⟩ (.slice G.aa bb.length G.ca)).setCell ⟨(W.heap.size+1),6,none⟩ (.string bd)).setCell ⟨(W.heap.size+1),7,none⟩ (.slice G.ak be.length G.ck)).cell? ⟨ab,ao+3,none⟩=some (.int .i64 g)∧((((((((I.setCell ⟨(W.heap.size+1),0,none⟩ (.int .i64 a1)).setCell ⟨(W.heap.size+1),1,none⟩ (.int .i64 a6)).setCell ⟨(W.heap.size+1),2,none⟩ (.int .i64 a7)).setCell ⟨(W.heap.size+1),3,none⟩ (.int .i64 a8)).setCell ⟨(W.heap.size+1),4,none⟩ (.bool ba)).setCell ⟨(W.heap.size+1),5,none⟩ (.slice G.aa bb.length G.ca)).setCell ⟨(W.heap.size+1),6,none⟩ (.string bd)).setCell ⟨(W.heap.size+1),7,none⟩ (.slice G.ak be.length G.ck)).cell? ⟨ab,ao+4,none⟩=some (.bool o)∧((((((((I.setCell ⟨(W.heap.size+1),0,none⟩ (.int .i64 a1)).setCell ⟨(W.heap.size+1),1,none⟩ (.int .i64 a6)).setCell ⟨(W.heap.size+1),2,none⟩ (.int .i64 a7)).setCell ⟨(W.heap.size+1),3,none⟩ (.int .i64 a8)).setCell ⟨(W.heap.size+1),4,none⟩ (.bool ba)).setCell ⟨(W.heap.size+1),5,none⟩ (.slice G.aa bb.length G.ca)).setCell ⟨(W.heap.size+1),6,none⟩ (.string bd)).setCell ⟨(W.heap.size+1),7,none⟩ (.slice G.ak be.length G.ck)).cell? ⟨ab,ao+5,none⟩=some (.slice ap.aa nh.length ap.ca)∧((((((((I.setCell ⟨(W.heap.size+1),0,none⟩ (.int .i64 a1)).setCell ⟨(W.heap.size+1),1,none⟩ (.int .i64 a6)).setCell ⟨(W.heap.size+1),2,none⟩ (.int .i64 a7)).setCell ⟨(W.heap.size+1),3,none⟩ (.int .i64 a8)).setCell ⟨(W.heap.size+1),4,none⟩ (.bool ba)).setCell ⟨(W.heap.size+1),5,none⟩ (.slice G.aa bb.length G.ca)).setCell ⟨(W.heap.size+1),6,none⟩ (.string bd)).setCell ⟨(W.heap.size+1),7,none⟩ (.slice G.ak be.length G.ck)).cell? ⟨ab,ao+6,none⟩=some (.string d)∧((((((((I.setCell ⟨(W.heap.size+1),0,none⟩ (.int .i64 a1)).setCell ⟨(W.heap.size+1),1,none⟩ (.int .i64 a6)).setCell ⟨(W.heap.size+1),2,none⟩ (.int .i64 a7)).setCell ⟨(W.heap.size+1),3,none⟩ (.int .i64 a8)).setCell ⟨(W.heap.size+1),4,none⟩ (.bool ba)).setCell ⟨(W.heap.size+1),5,none⟩ (.slice G.aa bb.length G.ca)).setCell ⟨(W.heap.size+1),6,none⟩ (.string bd)).setCell ⟨(W.heap.size+1),7,none⟩ (.slice G.ak be.length G.ck)).cell? ⟨ab,ao+7,none⟩=some (.slice ap.ak ks.length ap.ck)∧((((((((I.setCell ⟨(W.heap.size+1),0,none⟩ (.int .i64 a1)).setCell ⟨(W.heap.size+1),1,none⟩ (.int .i64 a6)).setCell ⟨(W.heap.size+1),2,none⟩ (.int .i64 a7)).setCell ⟨(W.heap.size+1),3,none⟩ (.int .i64 a8)).setCell ⟨(W.heap.size+1),4,none⟩ (.bool ba)).setCell ⟨(W.heap.size+1),5,none⟩ (.slice G.aa bb.length G.ca)).setCell ⟨(W.heap.size+1),6,none⟩ (.string bd)).setCell ⟨(W.heap.size+1),7,none⟩ (.slice G.ak be.length G.ck)).cell? ⟨ak,0,none⟩=some (.int .i64 J)∧((((((((I.setCell ⟨(W.heap.size+1),0,none⟩ (.int .i64 a1)).setCell ⟨(W.heap.size+1),1,none⟩ (.int .i64 a6)).setCell ⟨(W.heap.size+1),2,none⟩ (.int .i64 a7)).setCell ⟨(W.heap.size+1),3,none⟩ (.int .i64 a8)).setCell ⟨(W.heap.size+1),4,none⟩ (.bool ba)).setCell ⟨(W.heap.size+1),5,none⟩ (.slice G.aa bb.length G.ca)).setCell ⟨(W.heap.size+1),6,none⟩ (.string bd)).setCell ⟨(W.heap.size+1),7,none⟩ (.slice G.ak be.length G.ck)).cell? ⟨ak,1,none⟩=some (.int .i64 O)∧((((((((I.setCell ⟨(W.heap.size+1),0,none⟩ (.int .i64 a1)).setCell ⟨(W.heap.size+1),1,none⟩ (.int .i64 a6)).setCell ⟨(W.heap.size+1),2,none⟩ (.int .i64 a7)).setCell ⟨(W.heap.size+1),3,none⟩ (.int .i64 a8)).setCell ⟨(W.heap.size+1),4,none⟩ (.bool ba)).setCell ⟨(W.heap.size+1),5,none⟩ (.slice G.aa bb.length G.ca)).setCell ⟨(W.heap.size+1),6,none⟩ (.string bd)).setCell ⟨(W.heap.size+1),7,none⟩ (.slice G.ak be.length G.ck)).cell? ⟨ak,2,none⟩=some (.int .i64 Q)∧((((((((I.setCell ⟨(W.heap.size+1),0,none⟩ (.int .i64 a1)).setCell ⟨(W.heap.size+1),1,none⟩ (.int .i64 a6)).setCell ⟨(W.heap.size+1),2,none⟩ (.int .i64 a7)).setCell ⟨(W.heap.size+1),3,none⟩ (.int .i64 a8)).setCell ⟨(W.heap.size+1),4,none⟩ (.bool ba)).setCell ⟨(W.heap.size+1),5,none⟩ (.slice G.aa bb.length G.ca)).setCell ⟨(W.heap.size+1),6,none⟩ (.string bd)).setCell ⟨(W.heap.size+1),7,none⟩ (.slice G.ak be.length G.ck)).cell? ⟨ak,3,none⟩=some (.int .i64 R)∧((((((((I.setCell ⟨(W.heap.size+1),0,none⟩ (.int .i64 a1)).setCell ⟨(W.heap.size+1),1,none⟩ (.int .i64 a6)).setCell ⟨(W.heap.size+1),2,none⟩ (.int .i64 a7)).setCell ⟨(W.heap.size+1),3,none⟩ (.int .i64 a8)).setCell ⟨(W.heap.size+1),4,none⟩ (.bool ba)).setCell ⟨(W.heap.size+1),5,none⟩ (.slice G.aa bb.length G.ca)).setCell ⟨(W.heap.size+1),6,none⟩ (.string bd)).setCell ⟨(W.heap.size+1),7,none⟩ (.slice G.ak be.length G.ck)).cell? ⟨ak,4,none⟩=some (.bool T)∧((((((((I.setCell ⟨(W.heap.size+1),0,none⟩ (.int .i64 a1)).setCell ⟨(W.heap.size+1),1,none⟩ (.int .i64 a6)).setCell ⟨(W.heap.size+1),2,none⟩ (.int .i64 a7)).setCell ⟨(W.heap.size+1),3,none⟩ (.int .i64 a8)).setCell ⟨(W.heap.size+1),4,none⟩ (.bool ba)).setCell ⟨(W.heap.size+1),5,none⟩ (.slice G.aa bb.length G.ca)).setCell ⟨(W.heap.size+1),6,none⟩ (.string bd)).setCell ⟨(W.heap.size+1),7,none⟩ (.slice G.ak be.length G.ck)).cell? ⟨ak,5,none⟩=some (.slice h'.aa V.length h'.ca)∧((((((((I.setCell ⟨(W.heap.size+1),0,none⟩ (.int .i64 a1)).setCell ⟨(W.heap.size+1),1,none⟩ (.int .i64 a6)).setCell ⟨(W.heap.size+1),2,none⟩ (.int .i64 a7)).setCell ⟨(W.heap.size+1),3,none⟩ (.int .i64 a8)).setCell ⟨(W.heap.size+1),4,none⟩ (.bool ba)).setCell ⟨(W.heap.size+1),5,none⟩ (.slice G.aa bb.length G.ca)).setCell ⟨(W.heap.size+1),6,none⟩ (.string bd)).setCell ⟨(W.heap.size+1),7,none⟩ (.slice G.ak be.length G.ck)).cell? ⟨ak,6,none⟩=some (.string Y)∧((((((((I.setCell ⟨(W.heap.size+1),0,none⟩ (.int .i64 a1)).setCell ⟨(W.heap.size+1),1,none⟩ (.int .i64 a6)).setCell ⟨(W.heap.size+1),2,none⟩ (.int .i64 a7)).setCell ⟨(W.heap.size+1),3,none⟩ (.int .i64 a8)).setCell ⟨(W.heap.size+1),4,none⟩ (.bool ba)).setCell ⟨(W.heap.size+1),5,none⟩ (.slice G.aa bb.length G.ca)).setCell ⟨(W.heap.size+1),6,none⟩ (.string bd)).setCell ⟨(W.heap.size+1),7,none⟩ (.slice G.ak be.length G.ck)).cell? ⟨ak,7,none⟩=some (.slice h'.ak Z.length h'.ck))∧As I (W.heap.size+1) zN zH∧As (Ar I (W.heap.size+1) (.mk a1 a6 a7 a8 ba bb bd be) G) (W.heap.size+1) (.mk a1 a6 a7 a8 ba bb bd be) G∧Below W.heap.size W (Ar I (W.heap.size+1) (.mk a1 a6 a7 a8 ba bb bd be) G)∧Ah (Ag (Ar I (W.heap.size+1) (.mk a1 a6 a7 a8 ba bb bd be) G).cell? S) (.mk a1 a6 a7 a8 ba bb bd be) G):=by
        intro I G g5 eQ;have bk:Below ad.heap.size ad I:=((nt _ ad).drew).trans g5;have bf:I.cell? ⟨ab,ao,none⟩=some (.int .i64 k)∧I.cell? ⟨ab,ao+1,none⟩=some (.int .i64 m)∧I.cell? ⟨ab,ao+2,none⟩=some (.int .i64 u)∧I.cell? ⟨ab,ao+3,none⟩=some (.int .i64 g)∧I.cell? ⟨ab,ao+4,none⟩=some (.bool o)∧I.cell? ⟨ab,ao+5,none⟩=some (.slice ap.aa nh.length ap.ca)∧I.cell? ⟨ab,ao+6,none⟩=some (.string d)∧I.cell? ⟨ab,ao+7,none⟩=some (.slice ap.ak ks.length ap.ck)∧I.cell? ⟨ak,0,none⟩=some (.int .i64 J)∧I.cell? ⟨ak,1,none⟩=some (.int .i64 O)∧I.cell? ⟨ak,2,none⟩=some (.int .i64 Q)∧I.cell? ⟨ak,3,none⟩=some (.int .i64 R)∧I.cell? ⟨ak,4,none⟩=some (.bool T)∧I.cell? ⟨ak,5,none⟩=some (.slice h'.aa V.length h'.ca)∧I.cell? ⟨ak,6,none⟩=some (.string Y)∧I.cell? ⟨ak,7,none⟩=some (.slice h'.ak Z.length h'.ck):=⟨Aj bk _ _ bi.1,Aj bk _ _ bi.2.1,Aj bk _ _ bi.2.2.1,Aj bk _ _ bi.2.2.2.1,Aj bk _ _ bi.2.2.2.2.1,Aj bk _ _ bi.2.2.2.2.2.1,Aj bk _ _ bi.2.2.2.2.2.2.1,Aj bk _ _ bi.2.2.2.2.2.2.2.1,Aj bk _ _ bi.2.2.2.2.2.2.2.2.1,Aj bk _ _ bi.2.2.2.2.2.2.2.2.2.1,Aj bk _ _ bi.2.2.2.2.2.2.2.2.2.2.1,Aj bk _ _ bi.2.2.2.2.2.2.2.2.2.2.2.1,Aj bk _ _ bi.2.2.2.2.2.2.2.2.2.2.2.2.1,Aj bk _ _ bi.2.2.2.2.2.2.2.2.2.2.2.2.2.1,Aj bk _ _ bi.2.2.2.2.2.2.2.2.2.2.2.2.2.2.1,Aj bk _ _ bi.2.2.2.2.2.2.2.2.2.2.2.2.2.2.2⟩;have ej:=bu.below bk;have ek:=bA.trans (bk.mono bA.size);have ee:Au (W.heap.size+1) I (Ar I (W.heap.size+1) (.mk a1 a6 a7 a8 ba bb bd be) G):=Cf
        exact⟨bf,⟨(EC cl _ _ _ _ _ _ _ _).trans bf.1,(EC cl _ _ _ _ _ _ _ _).trans bf.2.1,(EC cl _ _ _ _ _ _ _ _).trans bf.2.2.1,(EC cl _ _ _ _ _ _ _ _).trans bf.2.2.2.1,(EC cl _ _ _ _ _ _ _ _).trans bf.2.2.2.2.1,(EC cl _ _ _ _ _ _ _ _).trans bf.2.2.2.2.2.1,(EC cl _ _ _ _ _ _ _ _).trans bf.2.2.2.2.2.2.1,(EC cl _ _ _ _ _ _ _ _).trans bf.2.2.2.2.2.2.2.1,(EC co _ _ _ _ _ _ _ _).trans bf.2.2.2.2.2.2.2.2.1,(EC co _ _ _ _ _ _ _ _).trans bf.2.2.2.2.2.2.2.2.2.1,(EC co _ _ _ _ _ _ _ _).trans bf.2.2.2.2.2.2.2.2.2.2.1,(EC co _ _ _ _ _ _ _ _).trans bf.2.2.2.2.2.2.2.2.2.2.2.1,(EC co _ _ _ _ _ _ _ _).trans bf.2.2.2.2.2.2.2.2.2.2.2.2.1,(EC co _ _ _ _ _ _ _ _).trans bf.2.2.2.2.2.2.2.2.2.2.2.2.2.1,(EC co _ _ _ _ _ _ _ _).trans bf.2.2.2.2.2.2.2.2.2.2.2.2.2.2.1,(EC co _ _ _ _ _ _ _ _).trans bf.2.2.2.2.2.2.2.2.2.2.2.2.2.2.2⟩,ej,ej.store (.mk a1 a6 a7 a8 ba bb bd be) G,ek.trans (ee.below (by omega) ek.size),eQ.on (Cb fun q bo az=>by
         simp at az;exact⟨az.2,ee.block q bo az.1.2⟩)⟩
       clear bi f3 bY;go_upto_region 12 with fail
       go_region_held3 (fun w'=>w'.cell? ⟨ab,ao,none⟩=some (.int .i64 k)∧w'.cell? ⟨ab,ao+1,none⟩=some (.int .i64 m)∧w'.cell? ⟨ab,ao+2,none⟩=some (.int .i64 u)∧w'.cell? ⟨ab,ao+3,none⟩=some (.int .i64 g)∧w'.cell? ⟨ab,ao+4,none⟩=some (.bool o)∧w'.cell? ⟨ab,ao+5,none⟩=some (.slice ap.aa nh.length ap.ca)∧w'.cell? ⟨ab,ao+6,none⟩=some (.string d)∧w'.cell? ⟨ab,ao+7,none⟩=some (.slice ap.ak ks.length ap.ck)∧w'.cell? ⟨ak,0,none⟩=some (.int .i64 J)∧w'.cell? ⟨ak,1,none⟩=some (.int .i64 O)∧w'.cell? ⟨ak,2,none⟩=some (.int .i64 Q)∧w'.cell? ⟨ak,3,none⟩=some (.int .i64 R)∧w'.cell? ⟨ak,4,none⟩=some (.bool T)∧w'.cell? ⟨ak,5,none⟩=some (.slice h'.aa V.length h'.ca)∧w'.cell? ⟨ak,6,none⟩=some (.string Y)∧w'.cell? ⟨ak,7,none⟩=some (.slice h'.ak Z.length h'.ck)) (first|with_reducible exact du|with_reducible exact bf|with_reducible exact c9) (first|(go_at_call 138;(with_reducible refine nn eP.out ?_);rintro e I ⟨⟨G,rfl,eQ⟩,bk⟩;obtain⟨bf,c9,ej,f7,ek,f8⟩:=f5.out I G bk eQ;obtain⟨⟨z0,dd,de,z3,z4,z5,dg,dj⟩,fe⟩:=id ej))
       have f9:Hid _:=f8;clear du bf c9 eP f5 eQ bk f8 ej z0 dd de z3 z4 z5 dg dj fe;go_wp2;obtain⟨el,em⟩:∃el,Hid (Ar I (W.heap.size+1) (.mk a1 a6 a7 a8 ba bb bd be) G=el):=⟨_,rfl⟩;rw[em.out]at f7 ek f9;have en:=em.out;simp only[Ar]at en;rw[en];obtain⟨b7,cr,cu,cx,cA,cB,c3,c4⟩:=f7.1;refine nF (v:=.tuple #[Ao (.mk a1 a6 a7 a8 ba bb bd be) G,fl]) (by simp[results,results136,go_sem,Ao,b7,cr,cu,cx,cA,cB,c3,c4]) rfl ?_;rw[gN.out,f1.out];refine⟨⟨G,by rw[fj.out,f2.out],?_⟩,ek⟩;rw[fj.out];exact f9.out
   ·obtain rfl:t=N+1:=by omega
    have fJ:decide (((N+1:Nat):Int)<((N+1:Nat):Int))=false:=nA (by omega);have fg:Hid (E5 us gs xs nf U nf.length=.ok U):=Lo c5.out _ (nl _) (fun s az=>d8.out s (by rw[bp.out]at az;omega));obtain⟨k,m,u,g,o,nh,d,ks⟩:=U;have ds:AR (Ag W.cell? S) (Ag F.cell? (fun k=>k==W.heap.size||k==W.heap.size+1||S k)):=Cb fun k b1 az=>⟨by simp[az];omega,bv.block k b1⟩;have dm:W.heap.size+1+1≤F.heap.size:=by have:=bs.1.lt;omega
    have ga:Hid (Calls prog 15 #[.agg #[.int .i64 k,.int .i64 m,.int .i64 u,.int .i64 g,.bool o,.slice ap.aa nh.length ap.ca,.string d,.slice ap.ak ks.length ap.ck]] F fun e bg=>(∃h',e=.returned (.agg #[.int .i64 k,.int .i64 m,.int .i64 u,.int .i64 g,.bool o,.slice h'.aa nh.length h'.ca,.string d,.slice h'.ak ks.length h'.ck])∧Ah (Ag bg.cell? (fun k=>k==W.heap.size||k==W.heap.size+1||S k)) (.mk k m u g o nh d ks) h')∧Below F.heap.size F bg):=Hv (x:=(.mk k m u g o nh d ks)) (h:=ap) (LQ da dm) (d7.out.on ds) fG.out fH.out;obtain⟨es,eu,ev,eB,eE,eF,f6,eG⟩:=(dk.out.on ds).on (Ci _ _);clear dk d7 fG fH ep fA c8 d4 d8 c5 eV b5 b6 eX;go_wp2_with fail
    with_reducible refine nn ga.out ?_
    rintro e fm ⟨⟨hx,rfl,gb⟩,fo⟩;have b0:=bs.below fo;have gd:=bv.trans (fo.mono bv.size);have gg:=b0.store (.mk k m u g o nh d ks) hx;have bA:Below W.heap.size W (Ar fm (W.heap.size+1) (.mk k m u g o nh d ks) hx):=gd.trans (Cf.below (by omega) gd.size)
    have gh:Hid (Ah (Ag (Ar fm (W.heap.size+1) (.mk k m u g o nh d ks) hx).cell? S) (.mk k m u g o nh d ks) hx):=gb.on (Cb fun q bo az=>by
     simp at az;exact⟨az.2,Cf.block q bo az.1.2⟩)
    clear es eu ev eB eE eF f6 eG ga gb fo bs;have z0:=b0.2 0;have dd:=b0.2 1;have de:=b0.2 2;have z3:=b0.2 3;have z4:=b0.2 4;have z5:=b0.2 5;have dg:=b0.2 6;have dj:=b0.2 7;obtain⟨es,eu,ev,eB,eE,eF,f6,eG⟩:=b0.1;go_wp2;obtain⟨el,em⟩:∃el,Hid (Ar fm (W.heap.size+1) (.mk k m u g o nh d ks) hx=el):=⟨_,rfl⟩;rw[em.out]at gg bA gh;have en:=em.out;simp only[Ar]at en;rw[en];obtain⟨b7,cr,cu,cx,cA,cB,c3,c4⟩:=gg.1;refine nF (v:=.tuple #[Ao (.mk k m u g o nh d ks) hx,.nilIface]) (by simp[results,results136,go_sem,Ao,b7,cr,cu,cx,cA,cB,c3,c4]) rfl ?_;rw[er.out,fg.out];exact⟨⟨hx,rfl,gh.out⟩,bA⟩
def Bx.wk(B:Bx):Fd→Nat→List Fl→Except Int Fd
 |f,0,_=>.ok f
 |f,n+1,L=>if B.passE f.t≠0 then .error (B.passE f.t)else match L with
  |q::L=>B.wk {B.fd q.x q.h q.ly with dir:=f.t} n L
  |[]=>if n≠0 then .error 5 else .ok {Dg with dir:=f.t}
theorem Ok{B:Bx}{f:Fd}{n:Nat}{L:List Fl}{E:Int}(e:B.passE f.t=E)(h:E≠0):B.wk f (n+1) L=.error E:=by
 subst e;cases L<;>(unfold Bx.wk;rw[nC h])
theorem NV{B:Bx}{f:Fd}{n:Nat}{q:Fl}{L:List Fl}(h:B.passE f.t=0):B.wk f (n+1) (q::L)=B.wk {B.fd q.x q.h q.ly with dir:=f.t} n L:=by
 rw[Bx.wk];rw[nB (by simp[h])]
theorem UG{B:Bx}{f:Fd}{n:Nat}(h:B.passE f.t=0):B.wk f (n+1) []=if n≠0 then .error 5 else .ok {Dg with dir:=f.t}:=by
 unfold Bx.wk;rw[nB (by simp[h])]
structure JF (w:World) (vn vf:Value) (L:List Fl) (g g2 cn cf:Nat):Prop where
 en:vn=.slice (some ⟨g,0,none⟩) L.length cn
 ef:vf=.slice (some ⟨g2,0,none⟩) L.length cf
 hn:L.length≤cn
 hf:L.length≤cf
 nd:∀(i:Nat) f,L[i]? =some f→Bj w.cell? g (i*8) f.x f.h
 ly:∀(i:Nat) f,L[i]? =some f→w.cell? ⟨g2,i,none⟩=some (.int .i64 f.ly)
theorem JF.of{S:Nat→Bool}{n₀:Nat}{A:World}{vn vf:Value}{L:List Fl}(h:Fy S n₀ A vn vf L L)(G:L≠[]):∃g F cn H,JF A vn vf L g F cn H∧n₀≤g∧n₀≤F:=by
 rcases Uf h.rn with e|⟨g,cap,rfl,Z,I,J,_⟩
 ·exact absurd e G
 ·rcases h.rf.2 with⟨rfl,O⟩|⟨F,Q,aa,rfl,hb,R,T,ab,ad,V⟩
  ·exact absurd (rp.1 O) G
  ·exact⟨g,F,cap,Q,⟨rfl,rfl,I,T,J,fun i f Y=>Fq R V (NI L i f Y)⟩,by omega,by omega⟩
theorem Uc{w:World}{b:Nat}{A M M' C:List Value}(h:A6 w b 0 (A++M++C))(G:M'.length=M.length){n:Nat}(I:n=A.length):A6 (w.setCells b n M') b 0 (A++M'++C):=by
 subst I;have J:A6 w b A.length M:=fun i v F=>by
  have O:i<M.length:=(nw.1 F).1;have:=h (A.length+i) v (by rw[n8,rm (by omega),show A.length+i-A.length=i by omega,rH O];exact F);rwa [nT]at this
 intro i v F;rw[nT];by_cases H:i<A.length
 ·rw[←Hz,IA _ _ _ (fun j Q e=>by injection e with _ e2;omega)]
  rw[n8,rH H]at F;have:=h i v (by rw[n8,rH H];exact F);rwa [nT]at this
 ·by_cases R:i<A.length+M.length
  ·rw[n8,rm (by omega),rH (by omega)]at F
   have:=C5 M' J G.symm (i-A.length) v F;rwa [show A.length+(i-A.length)=i by omega]at this
  ·rw[←Hz,IA _ _ _ (fun j Q e=>by injection e with _ e2;omega)]
   rw[n8,rm (by omega),rm (by omega)]at F;have:=h i v (by rw[n8,rm (by omega),rm (by omega),←G];exact F);rwa [nT]at this
theorem TG{w:World}{b:Nat}{f:Fd}(t:Th)(h:A6 w b 0 f.l):A6 (w.setCells b 5 t.l) b 0 (Fd.l {f with dir:=t}):=by
 have F:f.l=f.t.l++f.dir.l++([.slice f.na f.nf.length f.nc,.bool f.there]++Bi f.x f.h++[iN f.ly]):=by unfold Fd.l;simp only[n8]
 have G:Fd.l {f with dir:=t}=f.t.l++t.l++([.slice f.na f.nf.length f.nc,.bool f.there]++Bi f.x f.h++[iN f.ly]):=by unfold Fd.l;simp only[n8]
 have H:=F▸h;have I:=Uc (A:=f.t.l) (M:=f.dir.l) (M':=t.l) (C:=[.slice f.na f.nf.length f.nc,.bool f.there]++Bi f.x f.h++[iN f.ly]) (n:=5) H rfl rfl;exact G▸I
theorem Xi{w:World}{b:Nat}{f:Fd}(an:Option Addr)(nj:Nat)(nf:List BA)(h:A6 w b 0 f.l):A6 (w.setCells b 10 [.slice an nf.length nj]) b 0 (Fd.l {f with na:=an,nc:=nj,nf:=nf}):=by
 have F:f.l=(f.t.l++f.dir.l)++[.slice f.na f.nf.length f.nc]++([.bool f.there]++Bi f.x f.h++[iN f.ly]):=by unfold Fd.l;simp only[n9,ru]
 have G:Fd.l {f with na:=an,nc:=nj,nf:=nf}=(f.t.l++f.dir.l)++[.slice an nf.length nj]++([.bool f.there]++Bi f.x f.h++[iN f.ly]):=by unfold Fd.l;simp only[n9,ru]
 have H:=F▸h;have I:=Uc (A:=f.t.l++f.dir.l) (M:=[.slice f.na f.nf.length f.nc]) (M':=[.slice an nf.length nj]) (C:=[.bool f.there]++Bi f.x f.h++[iN f.ly]) (n:=10) H rfl rfl;exact G▸I
theorem Lh{c:AJ}{b:Nat}(h:∀o,c ⟨b,o,none⟩=([.bool false,.int .i64 0,.int .i64 0,.int .i64 0,.bool false,.bool false,.int .i64 0,.int .i64 0,.int .i64 0,.bool false,.slice none 0 0,.bool false,.int .i64 0,.int .i64 0,.int .i64 0,.int .i64 0,.bool false,.slice none 0 0,.string ⟨#[]⟩,.slice none 0 0,.int .i64 0]:List Value)[o]?):DE c b:=fun o s v F G H=>by
 rw[h]at F G;exact match o,F,G with
 |0,F,G=>by simp at F
 |1,F,G=>by simp at F
 |2,F,G=>by simp at F
 |3,F,G=>by simp at F
 |4,F,G=>by simp at F
 |5,F,G=>by simp at F
 |6,F,G=>by simp at F
 |7,F,G=>by simp at F
 |8,F,G=>by simp at F
 |9,F,G=>by simp at F
 |10,F,G=>by simp at F
 |11,F,G=>by simp at F
 |12,F,G=>by simp at F
 |13,F,G=>by simp at F
 |14,F,G=>by simp at F
 |15,F,G=>by simp at F
 |16,F,G=>by simp at F
 |17,F,G=>by simp at F
 |18,F,G=>by
  have e:Value.slice none 0 0=v:=by simpa using G
  subst e;exact H
 |19,F,G=>by simp at F
 |20,F,G=>by simp at F
 |n+21,F,G=>by simp at F
theorem JF.below{w w':World}{vn vf:Value}{L:List Fl}{g G cn H:Nat}(h:JF w vn vf L g G cn H)(hb:Bw w w'):JF w' vn vf L g G cn H:=
 ⟨h.en,h.ef,h.hn,h.hf,fun i f F=>(h.nd i f F).on (Aj hb),fun i f F=>Ad hb (h.ly i f F)⟩
end Go.Proofs.YtgppjbhaimmlpaaGreatDoor
