/-
  TopQuota: Uo Xi.
-/
import Derived.Test.YtofhphibahcniaaGreatDoorApX
import Derived.Test.YtofhphibahcniaaGreatDoorUnX
import Derived.Test.YtofhphibahcniaaGreatDoorUbX
import Derived.Test.YtofhphibahcniaaGreatDoorEaX
set_option maxRecDepth 100000
set_option maxHeartbeats 16000000
namespace Go.Proofs.YtofhphibahcniaaGreatDoor
open Go.RowKit Go.Proofs.Tryz
abbrev uS(W:World)(S:Nat→Bool):Nat→Bool:=fun k=>k==W.heap.size||k==W.heap.size+1||S k
abbrev F2(w W:World)(F G:Option Addr)(us gs:List Rg)(uc gc:Nat):Prop:=w.cell? ⟨W.heap.size,0,none⟩=some (.slice F us.length uc)∧w.cell? ⟨W.heap.size,1,none⟩=some (.slice G gs.length gc)
abbrev Iq(w:World)(F G H:Nat)(k m u g:Int)(o:Bool)(nh:List Kv)(d:BA)(ks:Ar)(I:Hd)(J O Q R:Int)(T:Bool)(V:List Kv)(Y:BA)(Z:Ar)(h':Hd):Prop:=w.cell? ⟨F,G,none⟩=some (.int .i64 k)∧w.cell? ⟨F,G+1,none⟩=some (.int .i64 m)∧w.cell? ⟨F,G+2,none⟩=some (.int .i64 u)∧w.cell? ⟨F,G+3,none⟩=some (.int .i64 g)∧w.cell? ⟨F,G+4,none⟩=some (.bool o)∧w.cell? ⟨F,G+5,none⟩=some (.slice I.aa nh.length I.ca)∧w.cell? ⟨F,G+6,none⟩=some (.string d)∧w.cell? ⟨F,G+7,none⟩=some (.slice I.ak ks.length I.ck)∧w.cell? ⟨H,0,none⟩=some (.int .i64 J)∧w.cell? ⟨H,1,none⟩=some (.int .i64 O)∧w.cell? ⟨H,2,none⟩=some (.int .i64 Q)∧w.cell? ⟨H,3,none⟩=some (.int .i64 R)∧w.cell? ⟨H,4,none⟩=some (.bool T)∧w.cell? ⟨H,5,none⟩=some (.slice h'.aa V.length h'.ca)∧w.cell? ⟨H,6,none⟩=some (.string Y)∧w.cell? ⟨H,7,none⟩=some (.slice h'.ak Z.length h'.ck)
theorem Iq.on{w w':World}{G I H:Nat}{k m u g:Int}{o:Bool}{nh:List Kv}{d:BA}{ks:Ar}{J:Hd}{O Q R T:Int}{V:Bool}{Y:List Kv}{Z:BA}{aa:Ar}{h':Hd}(ab:Iq w G I H k m u g o nh d ks J O Q R T V Y Z aa h')(f:∀o v,w.cell? ⟨G,o,none⟩=some v→w'.cell? ⟨G,o,none⟩=some v)(F:∀o v,w.cell? ⟨H,o,none⟩=some v→w'.cell? ⟨H,o,none⟩=some v):Iq w' G I H k m u g o nh d ks J O Q R T V Y Z aa h':=by
 obtain⟨t0,ad,ak,t3,t4,t5,ao,ap,ar,t9,u0,u1,u2,u3,u4,u5⟩:=ab;exact⟨f _ _ t0,f _ _ ad,f _ _ ak,f _ _ t3,f _ _ t4,f _ _ t5,f _ _ ao,f _ _ ap,F _ _ ar,F _ _ t9,F _ _ u0,F _ _ u1,F _ _ u2,F _ _ u3,F _ _ u4,F _ _ u5⟩
theorem TN{W F:World}{S:Nat→Bool}{f:Int}{G:Except Int Nd}(H:G=.error f)(I:f≠0)(hb:Below W.heap.size W F):FY W F S (.returned (.tuple #[Al zN zH,.iface 78 (.int .i64 f)])) G:=by
 subst H;refine⟨⟨zH,?_,nZ _⟩,hb⟩;show _=Ending.returned (.tuple #[Al zN zH,Am f]);rw[AG rfl I]
theorem Ul{w:World}{base:Nat}{t:TypeId}{z n:Nat}{v:Value}{xs:List Value}(h:w.ownsRow base t z v n xs):∃a cap,v=.slice a n cap∧n≤cap∧cap≤9223372036854775807:=by
 rcases h.2 with⟨rfl,F⟩|⟨g,cap,I,rfl,hb,J,G,H,O,Q⟩
 ·rw[F];exact⟨none,0,rfl,nn _,by omega⟩
 ·exact⟨_,cap,rfl,G,by simpa [maxLen]using H⟩
theorem dT{w:World}{base:Nat}{v:Value}{L:List Fl}(h:w.ownsRow base 3 1 v L.length (Fk L)){t:Nat}{f:Fl}(F:L[t]? =some f):∃g cap,v=.slice (some ⟨g,0,none⟩) L.length cap∧w.cell? ⟨g,t,none⟩=some (.int .i64 f.ly):=by
 rcases h.2 with⟨rfl,G⟩|⟨g,cap,J,rfl,hb,H,O,Q,R,I⟩
 ·rw[rq.1 G]at F;simp at F
 ·exact⟨g,cap,rfl,F7 H I (Ok L t f F)⟩
theorem YT(x:Nd):CP (x.with [])=CP x:=by obtain⟨k,m,u,g,o,nh,d,ks⟩:=x;rfl
theorem bX{F:Nat→Nd×Nat}{nf:List BA}{L:List Fl}{k:Nat}(O:k<nf.length)(Q:L.length=nf.length+1)(H:∀(j:Nat) f,L[j]? =some f→f.x=(F j).1.with []):DQ ((L.drop (k+1)).map Fl.x) (nf.drop k)=D9 F nf k (nf.length-k):=by
 refine List.ext_getElem? fun i=>?_;unfold DQ D9
 rw[n4,n4];by_cases G:i<nf.length-k
 ·have I:((L.drop (k+1)).map Fl.x)[i]? =some ((F (k+1+i)).1.with []):=by
   rw[n4,rM];have e:L[k+1+i]? =some L[k+1+i]:=nt (by omega);rw[e,←H _ _ e];rfl
  have J:(nf.drop k)[i]? =some nf[k+i]:=by rw[rM];exact nt (by omega)
  rw[(List.getElem?_zip_eq_some (z:=((F (k+1+i)).1.with [],nf[k+i]))).2 ⟨I,J⟩,nt (by simpa using G)];simp only[r0,List.getElem_range',YT,nV,Prod.mk.injEq];rw[Nat.one_mul,show k+1+i-1=k+i by omega];exact⟨rfl,by simp[show k+i<nf.length by omega]⟩
 ·rw[List.getElem?_eq_none (by simp;omega),List.getElem?_eq_none (by simpa using G)];rfl
theorem dt{w:World}{base:Nat}{v:Value}{L:List Fl}{S S':Nat→Bool}(h:w.ownsRow base 54 8 v L.length (Bj L))(H:∀f∈L,Ah (Ag w.cell? S') f.x f.h)(I:∀k,S' k=false→S k=false)(J:∀g,v.ownBlock=some g→S g=false){t:Nat}(Y:t<L.length):∃g cap,v=.slice (some ⟨g,0,none⟩) L.length cap∧L.length≤cap∧cap≤9223372036854775807∧Cn (Ag w.cell? S) (some ⟨g,t*8,none⟩) ((L.drop t).map Fl.x):=by
 rcases h.2 with⟨rfl,Z⟩|⟨g,cap,aa,rfl,hb,O,Q,R,ab,T⟩
 ·omega
 ·refine⟨g,cap,rfl,Q,by simpa [maxLen]using R,.inr ⟨g,t*8,rfl,fun i=>(L.getD (t+i) ⟨zN,zH,0⟩).h,fun i x G=>?_⟩⟩
  rw[n4,rM]at G;obtain⟨f,F,rfl⟩:=n0.1 G;have e:(L.getD (t+i) ⟨zN,zH,0⟩)=f:=by rw[List.getD_eq_getElem?_getD,F];rfl
  dsimp only;rw[e];refine⟨Ec.2 fun q u V=>?_,(H f (nE F)).on (Tf I)⟩;rw[Ck (J g rfl),show t*8+i*8+q=(t+i)*8+q by omega];exact F7 O T (JD L (t+i) f F q u V)
theorem AW.drop{c:AH}{b F:Nat}{l:List BA}(h:∀i s,l[i]? =some s→c ⟨b,F+i,none⟩=some (.string s))(n:Nat):AW c (some ⟨b,F+n,none⟩) (l.drop n):=by
 refine .inr ⟨b,F+n,rfl,fun i s G=>?_⟩;rw[rM]at G;have:=h _ _ G;rwa [←Nat.add_assoc]at this
theorem eJ{G:Bool}{us gs:List Rg}{x y:Nd}(h:Bm G us gs x=some y)(F:Cu x):Cu y:=by
 obtain⟨k,m,u,g,o,nh,d,ks⟩:=x;rw[Bm]at h;split at h
 ·cases h;rw[Cu]at F⊢;exact F
 ·cases h
theorem br{x:Nd}(h:Be x):Cu (CP x):=by
 obtain⟨k,m,u,g,o,nh,d,ks⟩:=x;rw[Be]at h;show Cu (.mk k m u g false nh d []);rw[Cu];exact⟨h.1,by rw[CG];trivial⟩
theorem Un{us gs:List Rg}:∀{A L:List (Nd×BA)},Cb us gs A=.ok L→(∀p∈A,Cu p.1)→(∀p∈L,Cu p.1)∧L.length=A.length
 |[],L,h,_=>by cases h;exact⟨fun p F=>(by cases F),rfl⟩
 |(x,m)::r,L,h,ha=>by
  rw[Cb]at h;cases hm:Bm true us gs x with
  |none=>rw[hm]at h;cases h
  |some y=>
   rw[hm]at h;dsimp only at h;by_cases G:AY m=false
   ·rw[nD G]at h;cases h
   rw[nC G]at h;cases hb:Cb us gs r with
   |error f=>rw[hb]at h;cases h
   |ok K=>
    rw[hb]at h;cases h;obtain⟨H,I⟩:=Un hb (fun p F=>ha p (n2 _ F));refine⟨fun p F=>?_,by simp[I]⟩;rcases nY.1 F with rfl|F
    ·exact eJ hm (ha (x,m) (nK ..))
    ·exact H p F
theorem Q0:∀L:List (Nd×BA),(∀p∈L,Cu p.1∧p.1.kids=[])→Cu (Ct L)∧cnt (Ct L)≤L.length+1
 |[],_=>⟨by show Cu zN;unfold zN;rw[Cu];exact⟨nN _,by rw[CG];trivial⟩,by show cnt zN≤_;unfold zN;rw[cnt,cntL];omega⟩
 |[p],h=>by
  obtain⟨F,G⟩:=h p (nK ..);refine⟨F,?_⟩;show cnt p.1≤_;rw[IV,G,cntL];simp
 |p::q::r,h=>by
  obtain⟨F,G⟩:=h p (nK ..);obtain⟨H,I⟩:=Q0 (q::r) (fun x hx=>h x (n2 _ hx));constructor
  ·show Cu (p.1.with [(q.2,Ct (q::r))])
   rw[Ju];refine⟨?_,by rw[CG];exact⟨H,by rw[CG];trivial⟩⟩;have e:=GD p.1;rw[G]at e;rw[e];exact F
  ·show cnt (p.1.with [(q.2,Ct (q::r))])≤_
   rw[NN,cntL,cntL];simp at I⊢;omega
theorem Mm{W:World}{S:Nat→Bool}(G:∀k,S k=true→k<W.heap.size){w':World}(h:W.heap.size+1+1≤w'.heap.size):∀q,(uS W S) q=true→q<w'.heap.size:=fun q F=>by
 simp at F;rcases F with(e|e)|e
 ·omega
 ·omega
 ·have:=G q e;omega
theorem fy(x:Nd)(h:Hd):(Bl x h)[0]? =some (.int .i64 x.kind):=by obtain⟨k,m,u,g,o,nh,d,ks⟩:=x;rfl
theorem UY{us gs:List Rg}{f:Int}:∀{A:List (Nd×BA)},Cb us gs A=.error f→f≠0
 |[],h=>by cases h
 |(x,m)::r,h=>by
  rw[Cb]at h;cases hm:Bm true us gs x with
  |none=>rw[hm]at h;cases h;decide
  |some y=>
   rw[hm]at h;dsimp only at h;by_cases F:AY m=false
   ·rw[nD F]at h;cases h;decide
   rw[nC F]at h;cases hb:Cb us gs r with
   |error G=>rw[hb]at h;cases h;exact UY hb
   |ok K=>rw[hb]at h;cases h
theorem Sl{us gs:List Rg}:∀{A L:List (Nd×BA)},Cb us gs A=.ok L→(∀p∈A,p.1.kids=[])→∀p∈L,p.1.kids=[]
 |[],L,h,_=>by cases h;intro p F;cases F
 |(x,m)::r,L,h,ha=>by
  rw[Cb]at h;cases hm:Bm true us gs x with
  |none=>rw[hm]at h;cases h
  |some y=>
   rw[hm]at h;dsimp only at h;by_cases G:AY m=false
   ·rw[nD G]at h;cases h
   rw[nC G]at h;cases hb:Cb us gs r with
   |error f=>rw[hb]at h;cases h
   |ok K=>
    rw[hb]at h;cases h;have H:=Sl hb (fun p F=>ha p (n2 _ F));intro p F;rcases nY.1 F with rfl|F
    ·exact(L3 hm).2.trans (ha (x,m) (nK ..))
    ·exact H p F
theorem Ym{x:Nd}(h:Be x):Be (x.with []):=by
 obtain⟨k,m,u,g,o,nh,d,ks⟩:=x;rw[Be]at h;show Be (.mk k m u g o nh d []);rw[Be];exact⟨h.1,by simp,by rw[DI];trivial⟩
theorem bP{x:Nd}(h:Ez x):Ez (x.with []):=by obtain⟨k,m,u,g,o,nh,d,ks⟩:=x;exact h
def PF:Except Int (List (Nd×BA))→Nd
 |.error _=>zN
 |.ok L=>Ct L
def fV(nf:List BA)(k:Nat)(U:Nd):Except Int (List (Nd×BA))→Except Int Nd
 |.error f=>.error f
 |.ok F=>AV (some (Ct F)) (nf.take (k+1)) U
def Wi:Except Int (List (Nd×BA))→Value
 |.error f=>.iface 78 (.int .i64 f)
 |.ok _=>.nilIface
theorem ce{W G:World}{S:Nat→Bool}{e:Ending}{F:Except Int (List (Nd×BA))}(h:MK W G S e F):(∃h',e=.returned (.tuple #[Al (PF F) h',Wi F])∧Ah (Ag G.cell? S) (PF F) h')∧Below W.heap.size W G:=by
 cases F with
 |error f=>exact⟨⟨zH,h.1,nZ _⟩,h.2⟩
 |ok L=>exact h
theorem eO{W:World}{S:Nat→Bool}(c4:∀k,S k=true→k<W.heap.size){a:Option Addr}{cap:Nat}{xs:List Nd}{an:Option Addr}{nj:Nat}{nf:List BA}(hx:Cn (Ag W.cell? S) a xs)(aa:AW (Ag W.cell? S) an nf)(hr:xs.length≤1000)(gw:nf.length≤500)(hs:nf.length≤nj∧nj≤9223372036854775807)(fa:DL (BJ xs))(fb:E0 (BJ xs))(gx:EQ (BJ xs)){M:CO}(gy:Ek W M){U:Nd}(gz:∀x,xs[0]? =some x→x=U)(ib:cnt U≤400)(gC:Cu U):
 Calls prog 144 #[.slice a xs.length cap,M.v,.slice an nf.length nj] W fun e ab=>FY W ab S e (EC M.us M.gs xs nf U):=by
 obtain⟨ak,ao,uc,gc,us,gs⟩:=M;obtain⟨c0,c1,RB,em,fc⟩:=Vs W _ _ ak ao us.length gs.length uc gc rfl rfl;have fd:AR (Ag W.cell? S) (Ag ((W.alloc (.cells #[.slice ak us.length uc,.slice ao gs.length gc] 24)).alloc (.cells #[.int .i64 0,.int .i64 0,.int .i64 0,.int .i64 0,.bool false,.slice none 0 0,.string ⟨#[]⟩,.slice none 0 0] 54)).cell? (uS W S)):=BN fun k bA aa=>⟨by simp[aa];omega,em.block k bA⟩
 have gD:Hid _:=Re (w:=((W.alloc (.cells #[.slice ak us.length uc,.slice ao gs.length gc] 24)).alloc (.cells #[.int .i64 0,.int .i64 0,.int .i64 0,.int .i64 0,.bool false,.slice none 0 0,.string ⟨#[]⟩,.slice none 0 0] 54))) (cap:=cap) (nj:=nj) (S:=(uS W S)) (fun q ap=>by
  rw[fc];simp at ap;rcases ap with(e|e)|e
  ·omega
  ·omega
  ·have:=c4 q e;omega) (hx.on fd) (aa.on fd) hr (by omega) fa fb
 have gE:Hid (Cn (Ag W.cell? S) a xs):=hx;have gG:Hid (AW (Ag W.cell? S) an nf):=aa;have en:Hid (E0 (BJ xs)):=fb;have gH:Hid (EQ (BJ xs)):=gx;have gI:Hid (Ek W ⟨ak,ao,uc,gc,us,gs⟩):=gy;have gJ:Hid _:=gz;have fe:Hid (Cu U):=gC;have ic:Hid (DL (BJ xs)):=fa;show Calls prog 144 #[.slice a xs.length cap,.agg #[.slice ak us.length uc,.slice ao gs.length gc],.slice an nf.length nj] W fun e ab=>FY W ab S e (EC us gs xs nf U);obtain⟨N,ay⟩:∃N,Hid (nf.length=N):=⟨_,rfl⟩
 clear fd hx aa fb gx gy gz gC fa;have ie:Hid (nf.length≤500):=gw;go_enter func144,ntmps144;go_wp2_with fail
 refine np gD.out ?_;rintro e G ⟨⟨vn,vf,L,rfl,ds,gK,c5⟩,du⟩;obtain⟨ht,b6,rfl,hu,ig⟩:=Ul ds.rn;obtain⟨hv,hw,rfl,hy,ih⟩:=Ul ds.rf;have a6:=em.trans (du.mono em.size);have az:=RB.below du;have bG:=Aj du _ _ c0;have bH:=Aj du _ _ c1;have eo:Hid (∀(j:Nat) f,L[j]? =some f→∃q r,AI xs (nf.take j)=q::r∧f.x=q.1.with []∧f.ly=q.2):=gK;have ii:L.length≤1000:=by rcases c5 with e|e<;>omega
 clear gD RB em c0 c1 gK;rw[ay.out]at hs c5 gw⊢;cases hst:AI xs nf with
 |nil=>
  have ep:Hid (EC us gs xs nf U=.error 5):=nD hst;have ij:L.length≤N:=by
   rcases c5 with e|e
   ·exfalso
    obtain⟨f,bl⟩:∃f,L[N]? =some f:=⟨_,nt (by omega)⟩;obtain⟨q,r,ap,_⟩:=eo.out N f bl;rw[n1 (by rw[ay.out];omega),hst]at ap;cases ap
   ·exact e.1
  have hb:decide ((L.length:Int)≤(N:Int))=true:=nF (by omega);clear hst eo ds c5;go_upto_region 3 with fail
  have dw:=Av.store az zN zH;have dx:Below W.heap.size W (Au G (W.heap.size+1) zN zH):=a6.trans (Cz.below (by omega) a6.size);have z0:=az.2 0;have c6:=az.2 1;have c8:=az.2 2;have z3:=az.2 3;have z4:=az.2 4;have z5:=az.2 5;have c9:=az.2 6;have da:=az.2 7;obtain⟨eq,er,es,eu,ev,eB,f6,eE⟩:=az.1;go_wp2;obtain⟨dy,dz⟩:∃dy,Hid (Au G (W.heap.size+1) zN zH=dy):=⟨_,rfl⟩;rw[dz.out]at dw dx;have b7:=dz.out;simp only[Au,zN,zH]at b7;simp only[nR]at b7;rw[b7];obtain⟨bY,b9,cb,cd,cf,cg,ch,cl⟩:=dw.1;refine nG (v:=.tuple #[Al zN zH,.iface 78 (.int .i64 5)]) (by simp[results,results144,go_sem,Al,zN,zH,bY,b9,cb,cd,cf,cg,ch,cl]) rfl (TN ep.out (by decide) dx)
 |cons ik bY=>
  have ff:AI xs nf≠[]:=by rw[hst];simp
  have ep:Hid (EC us gs xs nf U=E5 us gs xs nf U nf.length):=nC ff;obtain⟨a7,d0⟩:=dH ff;have co:Hid (FT xs nf a7):=d0;obtain⟨gL,b0⟩:=QT d0;have eL:=gJ.out _ b0;have e0:L.length=N+1:=by
   rcases c5 with e|⟨d1,b1⟩
   ·exact e
   ·obtain⟨r,b2⟩:=d0 L.length (by rw[ay.out];exact d1)
    rw[b2]at b1;cases b1
  have d2:Hid (∀(j:Nat) f,L[j]? =some f→f.x=(a7 j).1.with []∧f.ly=(a7 j).2):=fun j f bl=>by
   obtain⟨q,r,ap,d1,b1⟩:=eo.out j f bl;have cp:=(ny.1 bl).1;obtain⟨il,hz⟩:=d0 j (by rw[ay.out];omega);rw[hz]at ap;cases ap;exact⟨d1,b1⟩
  obtain⟨b3,db,rfl,hA,gM⟩:∃b d3,a=some ⟨b,d3,none⟩∧∃f:Nat→Hd,∀i x,xs[i]? =some x→Bi (Ag W.cell? S) b (d3+i*8) x (f i)∧Ah (Ag W.cell? S) x (f i):=by
   rcases gE.out with e|e
   ·rw[e]at b0;cases b0
   ·exact e
  obtain⟨d4,e1⟩:=gM 0 _ b0;rw[eL]at d4 e1;rw[r3,rT]at d4;generalize hA 0=ar at d4 e1;have hB:(0:Int)<(xs.length:Int):=by have:=(ny.1 b0).1;omega
  have hC:Hid (0<xs.length):=by have:=(ny.1 b0).1;exact this
  have gN:Hid (Be U):=by rw[←eL];exact en.out ((a7 0).1,0) (List.mem_zipIdx_iff_getElem?.2 b0)
  have gO:Hid (cnt U≤1000):=by show _≤_;omega
  have fg:Hid ((a7 0).2=0∧(a7 0).1=U):=⟨gL,eL⟩;have dd:Hid (Bi (Ag W.cell? S) b3 db U ar):=d4;have d5:Hid (Ah (Ag W.cell? S) U ar):=e1;have bo:Hid (L.length=N+1):=e0;have cr:Hid (FC (uS W S) ((W.alloc (.cells #[.slice ak us.length uc,.slice ao gs.length gc] 24)).alloc (.cells #[.int .i64 0,.int .i64 0,.int .i64 0,.int .i64 0,.bool false,.slice none 0 0,.string ⟨#[]⟩,.slice none 0 0] 54)).heap.size G (.slice ht (N+1) b6) (.slice hv (N+1) hw) L L):=by rw[←e0];exact ds
  rw[e0]at hu hy⊢;rw[fc]at cr;have hb:decide (((N+1:Nat):Int)≤(N:Int))=false:=nB (by omega);clear hst ff c5 ds eo d0 gL b0 eL gM d4 e1 gJ e0 fc;go_upto_region 4 with fail
  go_wp2;go_loop [10] (fun i=>∃t:Nat,t≤N+1∧i=.int .i64 t∧Hid (∀s,s<t→(a7 s).2=0)) (fun i=>N+1-(intOf i).toNat)
  case atStart=>exact⟨0,nN _,rfl,fun s aa=>by omega⟩
  case round=>
   obtain⟨t,im,rfl,d6⟩:=hrel;by_cases hD:t<N+1
   ·obtain⟨f,bl⟩:∃f,L[t]? =some f:=⟨_,nt (by rw[bo.out];exact hD)⟩
    have fh:=(d2.out t f bl).2;obtain⟨io,ip,gP,fl⟩:=dT (by have:=cr.out.rf;rw[←bo.out]at this;exact this) bl;simp only[rp,bo.out,true_and]at gP;obtain⟨rfl,rfl⟩:=gP;rw[fh]at fl;have gQ:decide ((t:Int)<((N+1:Nat):Int))=true:=nF (by omega);by_cases d7:(a7 t).2=0
    ·rw[d7]at fl
     have hE:Hid (∀s,s<t+1→(a7 s).2=0):=fun s aa=>by
      rcases Nat.lt_succ_iff_lt_or_eq.1 aa with e|e
      ·exact d6.out s e
      ·rw[e];exact d7
     clear fh bl;go_wp2;go_round
     case rel=>exact⟨t+1,by omega,by go_num,hE.out⟩
     case measure=>(simp[intOf];try omega)
    ·have hG:(((a7 t).2:Int)==0)=false:=by rw[beq_eq_false_iff_ne];omega
     have gR:(t:Int)≠((N+1:Nat):Int):=by omega
     have hH:((t:Int)==((N+1:Nat):Int))=false:=by rw[beq_eq_false_iff_ne];exact gR
     go_upto_region 9 with fail
     have iq:0<t:=by
      rcases Nat.eq_zero_or_pos t with e|e
      ·rw[e]at d7;exact absurd fg.out.1 d7
      ·exact e
     obtain⟨F,rfl⟩:∃F,t=F+1:=⟨t-1,by omega⟩;have gS:F<N:=by omega
     have de:W.heap.size+1+1≤G.heap.size:=by have:=az.1.lt;omega
     obtain⟨d8,ir,gT,iu,iv,gU⟩:=dt (S:=(uS W S)) (t:=F+1) (by have:=cr.out.rn;rw[←bo.out]at this;exact this) cr.out.nd (fun k bA=>(Bool.or_eq_false_iff.1 bA).2) (fun g gV=>by
      have e:=(cr.out.rn.lt g (by rw[bo.out]at gV;exact gV)).1;have b1:S g=false:=by
       cases hh:S g with
       |false=>rfl
       |true=>have:=c4 g hh;omega
      simp[b1];omega) (by rw[bo.out];omega)
     simp only[rp,bo.out,true_and]at gT;obtain⟨rfl,rfl⟩:=gT;obtain⟨bB,bC,rfl,gW⟩:∃b d3,an=some ⟨b,d3,none⟩∧∀i s,nf[i]? =some s→Ag W.cell? S ⟨b,d3+i,none⟩=some (.string s):=by
      rcases gG.out with e|e
      ·have:=ay.out;rw[e]at this;simp at this;omega
      ·exact e
     have dg:((L.drop (F+1)).map Fl.x).length=N-F:=by rw[rk,List.length_drop,bo.out];omega
     have fr:(nf.drop F).length=N-F:=by rw[List.length_drop,ay.out]
     have gX:Hid (DQ ((L.drop (F+1)).map Fl.x) (nf.drop F)=D9 a7 nf F (N-F)):=by
      show _=_;rw[←ay.out];exact bX (by rw[ay.out];exact gS) (by rw[ay.out];exact bo.out) (fun j f bl=>(d2.out j f bl).1)
     obtain⟨b4,dj⟩:∃b4,Hid (Cb us gs (D9 a7 nf F (N-F))=b4):=⟨_,rfl⟩;have e2:Hid (EC us gs xs nf U=fV nf F U b4):=by
      show _=_;have e:=VA (us:=us) (gs:=gs) co.out (k:=F) (by rw[ay.out];exact gS) (fun j cp=>d6.out j (by omega)) d7 (N-F-1) (by rw[ay.out];omega);rw[show F+(N-F-1)+1=N by omega,show N-F-1+1=N-F by omega,dj.out,fg.out.2]at e;rw[ep.out,ay.out];refine e.trans ?_;cases b4<;>rfl
     have gY:Hid (∀y∈(L.drop (F+1)).map Fl.x,y.kids=[]∧Be y∧Ez y):=fun y hI=>by
      obtain⟨hJ,hK,rfl⟩:=rx.1 hI;obtain⟨j,cp⟩:=List.mem_iff_getElem?.1 (List.mem_of_mem_drop hK);have iw:=(ny.1 cp).1;obtain⟨r,b2⟩:=co.out j (by rw[ay.out];have:=bo.out;omega);have gZ:a7 j∈AI xs (nf.take j):=by rw[b2];exact nK ..
      rw[(d2.out j hJ cp).1];exact⟨K1 _ _,Ym (Nf en.out _ _ gZ),bP (eV (Zf gH.out _ _ gZ))⟩
     have fs:Hid (∀bp,b4=.ok bp→Cu (Ct bp)∧cnt (Ct bp)≤501):=fun bp e=>by
      have e3:Cb us gs (D9 a7 nf F (N-F))=.ok bp:=dj.out.trans e;have hb:∀p∈D9 a7 nf F (N-F),Cu p.1:=fun p dk=>by
       obtain⟨j,cp,rfl⟩:=rx.1 dk;rw[List.mem_range'_1]at cp;obtain⟨r,b2⟩:=co.out j (by rw[ay.out];omega);exact br (Nf en.out (nf.take j) _ (by rw[b2];exact nK ..))
      obtain⟨q1,q2⟩:=Un e3 hb
      have hL:∀p∈bp,p.1.kids=[]:=Sl e3 (fun p dk=>by
       obtain⟨j,cp,rfl⟩:=rx.1 dk;exact Nt _)
      obtain⟨q4,q5⟩:=Q0 bp (fun p dk=>⟨q1 p dk,hL p dk⟩);refine⟨q4,?_⟩;rw[q2]at q5;simp[D9]at q5;omega
     obtain⟨fv,e4⟩:∃fv,Hid (PF b4=fv):=⟨_,rfl⟩;obtain⟨d9,ea⟩:∃E,Hid (Wi b4=E):=⟨_,rfl⟩;obtain⟨H,I,J,O,Q,R,T,V⟩:=fv;have fx:Hid (∀(w':World) (S':Nat→Bool),(∀q,S' q=true→q<w'.heap.size)→Cn (Ag w'.cell? S') (some ⟨d8,(F+1)*8,none⟩) ((L.drop (F+1)).map Fl.x)→AW (Ag w'.cell? S') (some ⟨bB,bC+F,none⟩) (nf.drop F)→Below W.heap.size W w'→Calls prog 173 #[.agg #[.slice ak us.length uc,.slice ao gs.length gc],.slice (some ⟨d8,(F+1)*8,none⟩) (N-F) (b6-(F+1)),.slice (some ⟨bB,bC+F,none⟩) (N-F) (nj-F)] w' fun e ab=>(∃h',e=.returned (.tuple #[.agg #[.int .i64 H,.int .i64 I,.int .i64 J,.int .i64 O,.bool Q,.slice h'.aa R.length h'.ca,.string T,.slice h'.ak V.length h'.ck],d9])∧Ah (Ag ab.cell? S') (.mk H I J O Q R T V) h')∧Below w'.heap.size w' ab):=by
      intro w' S' hM hN Z hb;have e:=Xw (cn:=b6-(F+1)) (cs:=nj-F) hM hN Z (fun e=>by rw[e]at dg;simp at dg;omega) (by rw[dg];omega) (by rw[dg,fr];omega) gY.out (gI.out.below hb);rw[dg,fr]at e;refine np e fun e ab hO=>?_;have g0:=ce hO
      rw[gX.out,dj.out,e4.out,ea.out]at g0;exact g0
     have fY:Hid (Cn (Ag G.cell? (uS W S)) (some ⟨d8,(F+1)*8,none⟩) ((L.drop (F+1)).map Fl.x)):=gU;have dm:AR (Ag W.cell? S) (Ag G.cell? (uS W S)):=BN fun k bA aa=>⟨by simp[aa];omega,a6.block k bA⟩;have f0:Hid (AW (Ag G.cell? (uS W S)) (some ⟨bB,bC+F,none⟩) (nf.drop F)):=AW.drop (fun i s hP=>dm _ _ (gW i s hP)) F
     have dn:G.cell? ⟨W.heap.size,0,none⟩=some (.slice ak us.length uc)∧G.cell? ⟨W.heap.size,1,none⟩=some (.slice ao gs.length gc):=⟨bG,bH⟩;have dp:G.drew.cell? ⟨W.heap.size,0,none⟩=some (.slice ak us.length uc)∧G.drew.cell? ⟨W.heap.size,1,none⟩=some (.slice ao gs.length gc):=dn;have f1:(G.alloc (.cells #[.int .i64 0,.int .i64 0,.int .i64 0,.int .i64 0,.bool false,.slice none 0 0,.string ⟨#[]⟩,.slice none 0 0] 54)).drew.cell? ⟨W.heap.size,0,none⟩=some (.slice ak us.length uc)∧(G.alloc (.cells #[.int .i64 0,.int .i64 0,.int .i64 0,.int .i64 0,.bool false,.slice none 0 0,.string ⟨#[]⟩,.slice none 0 0] 54)).drew.cell? ⟨W.heap.size,1,none⟩=some (.slice ao gs.length gc):=⟨Aj (Cs G _) _ _ bG,Aj (Cs G _) _ _ bH⟩;have f2:Hid (Calls prog 173 #[.agg #[.slice ak us.length uc,.slice ao gs.length gc],.slice (some ⟨d8,(F+1)*8,none⟩) (N-F) (b6-(F+1)),.slice (some ⟨bB,bC+F,none⟩) (N-F) (nj-F)] G.drew (fun e ab=>(∃h',e=.returned (.tuple #[.agg #[.int .i64 H,.int .i64 I,.int .i64 J,.int .i64 O,.bool Q,.slice h'.aa R.length h'.ca,.string T,.slice h'.ak V.length h'.ck],d9])∧Ah (Ag ab.cell? (uS W S)) (.mk H I J O Q R T V) h')∧Below G.drew.heap.size G.drew ab)):=fx.out G.drew (uS W S) (Mm c4 de) fY.out f0.out a6.drew;have g2:Below W.heap.size W (G.alloc (.cells #[.int .i64 0,.int .i64 0,.int .i64 0,.int .i64 0,.bool false,.slice none 0 0,.string ⟨#[]⟩,.slice none 0 0] 54)).drew:=(a6.trans ((Cs G (.cells #[.int .i64 0,.int .i64 0,.int .i64 0,.int .i64 0,.bool false,.slice none 0 0,.string ⟨#[]⟩,.slice none 0 0] 54)).mono a6.size)).drew;have f3:AR (Ag G.cell? (uS W S)) (Ag (G.alloc (.cells #[.int .i64 0,.int .i64 0,.int .i64 0,.int .i64 0,.bool false,.slice none 0 0,.string ⟨#[]⟩,.slice none 0 0] 54)).drew.cell? (fun k=>k==G.heap.size||(uS W S) k)):=BN fun q ap aa=>⟨Bool.or_eq_false_iff.2 ⟨by simp;omega,aa⟩,(Cs G (.cells #[.int .i64 0,.int .i64 0,.int .i64 0,.int .i64 0,.bool false,.slice none 0 0,.string ⟨#[]⟩,.slice none 0 0] 54)).drew.block q ap⟩;have hQ:(G.alloc (.cells #[.int .i64 0,.int .i64 0,.int .i64 0,.int .i64 0,.bool false,.slice none 0 0,.string ⟨#[]⟩,.slice none 0 0] 54)).drew.heap.size=G.heap.size+1:=nw _ _
     have f4:Hid (Calls prog 173 #[.agg #[.slice ak us.length uc,.slice ao gs.length gc],.slice (some ⟨d8,(F+1)*8,none⟩) (N-F) (b6-(F+1)),.slice (some ⟨bB,bC+F,none⟩) (N-F) (nj-F)] (G.alloc (.cells #[.int .i64 0,.int .i64 0,.int .i64 0,.int .i64 0,.bool false,.slice none 0 0,.string ⟨#[]⟩,.slice none 0 0] 54)).drew (fun e ab=>(∃h',e=.returned (.tuple #[.agg #[.int .i64 H,.int .i64 I,.int .i64 J,.int .i64 O,.bool Q,.slice h'.aa R.length h'.ca,.string T,.slice h'.ak V.length h'.ck],d9])∧Ah (Ag ab.cell? (fun k=>k==G.heap.size||(uS W S) k)) (.mk H I J O Q R T V) h')∧Below (G.alloc (.cells #[.int .i64 0,.int .i64 0,.int .i64 0,.int .i64 0,.bool false,.slice none 0 0,.string ⟨#[]⟩,.slice none 0 0] 54)).drew.heap.size (G.alloc (.cells #[.int .i64 0,.int .i64 0,.int .i64 0,.int .i64 0,.bool false,.slice none 0 0,.string ⟨#[]⟩,.slice none 0 0] 54)).drew ab)):=fx.out (G.alloc (.cells #[.int .i64 0,.int .i64 0,.int .i64 0,.int .i64 0,.bool false,.slice none 0 0,.string ⟨#[]⟩,.slice none 0 0] 54)).drew (fun k=>k==G.heap.size||(uS W S) k) (fun q ap=>by
      rw[Bool.or_eq_true]at ap;rcases ap with e|e
      ·simp at e;omega
      ·have:=Mm c4 de q e;omega) (fY.out.on f3) (f0.out.on f3) g2
     have g5:Av (G.alloc (.cells #[.int .i64 0,.int .i64 0,.int .i64 0,.int .i64 0,.bool false,.slice none 0 0,.string ⟨#[]⟩,.slice none 0 0] 54)).drew G.heap.size zN zH:=Av.zero G;have f5:Hid (∀(Y:World) (h':Hd),Below G.drew.heap.size G.drew Y→Ah (Ag Y.cell? (uS W S)) (.mk H I J O Q R T V) h'→(F2 Y W ak ao us gs uc gc)∧(F2 (Y.alloc AJ) W ak ao us gs uc gc)∧(F2 (Y.alloc (As H I J O Q R T V h')) W ak ao us gs uc gc)∧Av (Y.alloc (As H I J O Q R T V h')) Y.heap.size (.mk H I J O Q R T V) h'∧Below W.heap.size W (Y.alloc (As H I J O Q R T V h'))∧Av (Y.alloc (As H I J O Q R T V h')) (W.heap.size+1) zN zH∧Ah (Ag (Y.alloc (As H I J O Q R T V h')).cell? (uS W S)) (.mk H I J O Q R T V) h'∧W.heap.size+1<Y.heap.size):=by
      intro Y h' bs bF;have bu:Below G.heap.size G Y:=((nv _ G).drew).trans bs;have f7:∀w',Below Y.heap.size Y w'→F2 w' W ak ao us gs uc gc:=fun w' hb=>⟨Aj hb _ _ (Aj bu _ _ bG),Aj hb _ _ (Aj bu _ _ bH)⟩;have g6:=bu.trans ((Cs Y (As H I J O Q R T V h')).mono bu.size)
      exact⟨f7 Y (nv _ _),f7 _ (Cs Y _),f7 _ (Cs Y _),Av.new Y H I J O Q R T V h',a6.trans (g6.mono a6.size),az.below g6,bF.on (CN (Cs Y (As H I J O Q R T V h'))),nH (by omega) bu.size⟩
     have f8:Hid (∀(Y:World) (h':Hd),Below (G.alloc AJ).drew.heap.size (G.alloc AJ).drew Y→Ah (Ag Y.cell? (fun k=>k==G.heap.size||(uS W S) k)) (.mk H I J O Q R T V) h'→(F2 Y W ak ao us gs uc gc)∧(F2 (sB Y G.heap.size (.int .i64 H) (.int .i64 I) (.int .i64 J) (.int .i64 O) (.bool Q) (.slice h'.aa R.length h'.ca) (.string T) (.slice h'.ak V.length h'.ck)) W ak ao us gs uc gc)∧Av Y G.heap.size zN zH∧Av (Au Y G.heap.size (.mk H I J O Q R T V) h') G.heap.size (.mk H I J O Q R T V) h'∧Below W.heap.size W (Au Y G.heap.size (.mk H I J O Q R T V) h')∧Av (Au Y G.heap.size (.mk H I J O Q R T V) h') (W.heap.size+1) zN zH∧Ah (Ag (Au Y G.heap.size (.mk H I J O Q R T V) h').cell? (uS W S)) (.mk H I J O Q R T V) h'):=by
      intro Y h' bs bF;have g7:=(Cs G AJ).drew;have bu:Below G.heap.size G Y:=g7.trans (bs.mono g7.size);have eb:=g5.below bs;have ec:Ao G.heap.size Y (Au Y G.heap.size (.mk H I J O Q R T V) h'):=Cz;have e5:Below G.heap.size G (Au Y G.heap.size (.mk H I J O Q R T V) h'):=bu.trans (ec.below (nn _) bu.size)
      exact⟨⟨Aj bu _ _ bG,Aj bu _ _ bH⟩,⟨Aj e5 _ _ bG,Aj e5 _ _ bH⟩,eb,eb.store (.mk H I J O Q R T V) h',a6.trans (e5.mono a6.size),az.below e5,bF.on (BN fun q ap aa=>by
       rw[Bool.or_eq_false_iff]at aa;exact⟨aa.2,ec.block q ap (by simpa using aa.1)⟩)⟩
     have g8:Hid (W.heap.size+1<G.heap.size):=by show _<_;omega
     have g1:(0:Int)≤(F:Int)+1:=by omega
     have ix:(F:Int)+1≤(N:Int)+1:=by omega
     have g3:(F:Int)≤(N:Int):=by omega
     have g4:(N:Int)+1≤(b6:Int):=by omega
     have iy:(N:Int)≤(nj:Int):=by omega
     have iz:¬b6=F+1:=by omega
     have iA:¬nj=F:=by omega
     have iB:((F:Int)+1).toNat=F+1:=by omega
     have iC:IntKind.i64.wrap (F:Int)=(F:Int):=EG (by omega) (by omega);clear dn fx fY f0 g2 f3 hQ g5 gI gG gX gY d2 cr d6 fl bl fh gU dg fr gE;rw[show((F+1:Nat):Int)=(F:Int)+1 by omega];clear gQ hG gR hH hb;go_region_held3 (fun w'=>w'.cell? ⟨W.heap.size,0,none⟩=some (.slice ak us.length uc)∧w'.cell? ⟨W.heap.size,1,none⟩=some (.slice ao gs.length gc)) (first|with_reducible exact dp|with_reducible exact bv|with_reducible exact g9|with_reducible exact cu|with_reducible exact f1) (first|(go_at_call 173;(with_reducible refine np f2.out ?_);rintro e Y ⟨⟨h',rfl,bF⟩,bs⟩;obtain⟨bv,g9,cu,b5,bn,a8,ed,f9⟩:=f5.out Y h' bs bF)|(go_at_call 173;(with_reducible refine np f4.out ?_);rintro e Y ⟨⟨h',rfl,bF⟩,bs⟩;obtain⟨bv,cu,eb,b5,bn,a8,ed⟩:=f8.out Y h' bs bF;obtain⟨⟨z0,c6,c8,z3,z4,z5,c9,da⟩,ga⟩:=id eb;clear eb))
     all_goals
      first
      |(clear z0 c6 c8 z3 z4 z5 c9 da ga
        have dr:Hid (Ah (Ag (Au Y G.heap.size (.mk H I J O Q R T V) h').cell? (uS W S)) (.mk H I J O Q R T V) h'):=ed;have f9:W.heap.size+1<G.heap.size:=g8.out;clear dp f1 bv cu f2 f4 f5 f8 bF bs ed dm az a6 bG bH du;obtain⟨ad,e6⟩:∃ad,Au Y G.heap.size (.mk H I J O Q R T V) h'=ad:=⟨_,rfl⟩;rw[e6]at dr b5 bn a8;simp only[Au]at e6;rw[e6];clear e6;have hR:=de;clear de hR g8;generalize G.heap.size=cx at b5 f9⊢)
      |(have dr:Hid (Ah (Ag (Y.alloc (.cells #[.int .i64 H,.int .i64 I,.int .i64 J,.int .i64 O,.bool Q,.slice h'.aa R.length h'.ca,.string T,.slice h'.ak V.length h'.ck] 54)).cell? (uS W S)) (.mk H I J O Q R T V) h'):=ed
        clear dp f1 bv g9 cu f2 f4 f5 f8 bF bs ed dm az a6 bG bH;generalize Y.alloc (.cells #[.int .i64 H,.int .i64 I,.int .i64 J,.int .i64 O,.bool Q,.slice h'.aa R.length h'.ca,.string T,.slice h'.ak V.length h'.ck] 54)=ad at dr b5 bn a8⊢;generalize Y.heap.size=cx at b5 f9⊢)
      have ee:AR (Ag W.cell? S) (Ag ad.cell? (uS W S)):=BN fun k bA aa=>⟨by simp[aa];omega,bn.block k bA⟩;cases b4 with
      |error f=>
       have gb:d9=.iface 78 (.int .i64 f):=ea.out.symm;subst gb;have gg:Hid (EC us gs xs nf U=.error f):=e2.out;have hS:Hid (f≠0):=UY dj.out;clear e2 dj e4 ea fs dr b5 ee dd d5 co;have dw:=Av.store a8 zN zH;have dx:Below W.heap.size W (Au ad (W.heap.size+1) zN zH):=bn.trans (Cz.below (by omega) bn.size);have z0:=a8.2 0;have c6:=a8.2 1;have c8:=a8.2 2;have z3:=a8.2 3;have z4:=a8.2 4;have z5:=a8.2 5;have c9:=a8.2 6;have da:=a8.2 7;obtain⟨eq,er,es,eu,ev,eB,f6,eE⟩:=a8.1;go_wp2;obtain⟨dy,dz⟩:∃dy,Hid (Au ad (W.heap.size+1) zN zH=dy):=⟨_,rfl⟩;rw[dz.out]at dw dx;have b7:=dz.out;simp only[Au,zN,zH]at b7;simp only[nR]at b7;rw[b7];obtain⟨bY,b9,cb,cd,cf,cg,ch,cl⟩:=dw.1;refine nG (v:=.tuple #[Al zN zH,.iface 78 (.int .i64 f)]) (by simp[results,results144,go_sem,Al,zN,zH,bY,b9,cb,cd,cf,cg,ch,cl]) rfl (TN gg.out hS.out dx)
      |ok bp=>
       have gb:d9=.nilIface:=ea.out.symm;subst gb;have gl:Hid (Ct bp=(.mk H I J O Q R T V)):=e4.out;obtain⟨go,ha⟩:=fs.out bp rfl;rw[gl.out]at go ha;have hT:Hid (EC us gs xs nf U=AV (some (.mk H I J O Q R T V)) (nf.take (F+1)) U):=by rw[e2.out,←gl.out];rfl
       obtain⟨e7,hc⟩:∃e7,Hid (AV (some (.mk H I J O Q R T V)) (nf.take (F+1)) U=e7):=⟨_,rfl⟩;obtain⟨X,gq⟩:∃X,Hid (DV e7=X):=⟨_,rfl⟩;obtain⟨gr,he⟩:∃E,Hid (Am (EK e7)=E):=⟨_,rfl⟩;obtain⟨ba,bb,bd,be,bf,bg,bi,bk⟩:=X;have hU:W.heap.size+1+1≤ad.heap.size:=by have:=a8.1.lt;omega
       have hf:=(dd.out.on ee).on (Ci _ _);have iD:b3<W.heap.size:=nz _ _ (Ci _ _ _ _ ((Ec.1 dd.out) 0 _ (fy U ar)));have e8:Hid (Calls prog 147 #[Al U ar,.slice (some ⟨bB,bC,none⟩) (F+1) nj,.agg #[.int .i64 H,.int .i64 I,.int .i64 J,.int .i64 O,.bool Q,.slice h'.aa R.length h'.ca,.string T,.slice h'.ak V.length h'.ck]] ad.drew (fun e ab=>(∃Z,e=.returned (.tuple #[.agg #[.int .i64 ba,.int .i64 bb,.int .i64 bd,.int .i64 be,.bool bf,.slice Z.aa bg.length Z.ca,.string bi,.slice Z.ak bk.length Z.ck],gr])∧Ah (Ag ab.cell? (uS W S)) (.mk ba bb bd be bf bg bi bk) Z)∧Below ad.drew.heap.size ad.drew ab)):=by
        have e:=YI (W:=ad.drew) (S:=(uS W S)) (x0:=U) (h:=ar) (Mm c4 (w':=ad.drew) hU) (d5.out.on ee) (some ⟨bB,bC,none⟩) nj (nf.take (F+1)) ((AW.take (.inr ⟨bB,bC,rfl,gW⟩) _).on (ee.trans (Ci _ _))) (by rw[rF,ay.out];omega) (by rw[rF,ay.out];omega) (by omega) (.mk H I J O Q R T V) h' dr.out (fun r b2=>by
         have c:=Kj b2;have c2:Hi (some (.mk H I J O Q R T V))=cnt (.mk H I J O Q R T V):=rfl;have hg:cnt r≤1000:=by omega
         exact⟨Vc r (dW b2 (fun y e=>by cases e;exact go) fe.out) hg,hg⟩)
        rw[show(nf.take (F+1)).length=F+1 by rw[rF,ay.out];omega,hc.out]at e;unfold FY at e;rw[gq.out,he.out]at e;exact e
       clear e2 dj e4 ea fs dr ee d5 co dd gl go ha fe;obtain⟨k,m,u,g,o,nh,d,ks⟩:=U;have e8:Hid (Calls prog 147 #[.agg #[.int .i64 k,.int .i64 m,.int .i64 u,.int .i64 g,.bool o,.slice ar.aa nh.length ar.ca,.string d,.slice ar.ak ks.length ar.ck],.slice (some ⟨bB,bC,none⟩) (F+1) nj,.agg #[.int .i64 H,.int .i64 I,.int .i64 J,.int .i64 O,.bool Q,.slice h'.aa R.length h'.ca,.string T,.slice h'.ak V.length h'.ck]] ad.drew (fun e ab=>(∃Z,e=.returned (.tuple #[.agg #[.int .i64 ba,.int .i64 bb,.int .i64 bd,.int .i64 be,.bool bf,.slice Z.aa bg.length Z.ca,.string bi,.slice Z.ak bk.length Z.ck],gr])∧Ah (Ag ab.cell? (uS W S)) (.mk ba bb bd be bf bg bi bk) Z)∧Below ad.drew.heap.size ad.drew ab)):=e8;have iE:(F:Int)+1≤(nj:Int):=by omega
       have iF:0<xs.length:=hC.out;have hB:(0:Int)<(xs.length:Int):=by omega
       have dn:Iq ad b3 db cx k m u g o nh d ks ar H I J O Q R T V h':=by
        obtain⟨e3,d1,b1,hV,hW,hX,hY,hZ⟩:=hf;obtain⟨h0,h1,h2,h3,h4,h5,h6,h7⟩:=b5.1;exact⟨e3,d1,b1,hV,hW,hX,hY,hZ,h0,h1,h2,h3,h4,h5,h6,h7⟩
       have h8:b3≠(W.heap.size+1):=by omega
       have h9:cx≠(W.heap.size+1):=by omega
       have dp:Iq ad.drew b3 db cx k m u g o nh d ks ar H I J O Q R T V h':=dn;have hi:Hid (∀(a1:World) (Z:Hd),Below ad.drew.heap.size ad.drew a1→Ah (Ag a1.cell? (uS W S)) (.mk ba bb bd be bf bg bi bk) Z→(Iq a1 b3 db cx k m u g o nh d ks ar H I J O Q R T V h')∧(Iq (sB a1 (W.heap.size+1) (.int .i64 ba) (.int .i64 bb) (.int .i64 bd) (.int .i64 be) (.bool bf) (.slice Z.aa bg.length Z.ca) (.string bi) (.slice Z.ak bk.length Z.ck)) b3 db cx k m u g o nh d ks ar H I J O Q R T V h')∧Av a1 (W.heap.size+1) zN zH∧Av (Au a1 (W.heap.size+1) (.mk ba bb bd be bf bg bi bk) Z) (W.heap.size+1) (.mk ba bb bd be bf bg bi bk) Z∧Below W.heap.size W (Au a1 (W.heap.size+1) (.mk ba bb bd be bf bg bi bk) Z)∧Ah (Ag (Au a1 (W.heap.size+1) (.mk ba bb bd be bf bg bi bk) Z).cell? S) (.mk ba bb bd be bf bg bi bk) Z):=by
        intro a1 Z ia e9;have c3:Below ad.heap.size ad a1:=((nv _ ad).drew).trans ia;have bv:=dn.on (w':=a1) (fun o v=>Aj c3 _ _) (fun o v=>Aj c3 _ _);have ef:=a8.below c3;have eg:=bn.trans (c3.mono bn.size);have ec:Ao (W.heap.size+1) a1 (Au a1 (W.heap.size+1) (.mk ba bb bd be bf bg bi bk) Z):=Cz
        exact⟨bv,bv.on (fun o v=>(QY h8 _ _ _ _ _ _ _ _).trans) (fun o v=>(QY h9 _ _ _ _ _ _ _ _).trans),ef,ef.store (.mk ba bb bd be bf bg bi bk) Z,eg.trans (ec.below (by omega) eg.size),e9.on (BN fun q ap aa=>by
         simp at aa;exact⟨aa.2,ec.block q ap aa.1.2⟩)⟩
       clear dn hf b5;go_upto_region 12 with fail
       go_region_held3 (fun w'=>Iq w' b3 db cx k m u g o nh d ks ar H I J O Q R T V h') (first|with_reducible exact dp|with_reducible exact bv|with_reducible exact cu) (first|(go_at_call 147;(with_reducible refine np e8.out ?_);rintro e a1 ⟨⟨Z,rfl,e9⟩,c3⟩;obtain⟨bv,cu,ef,hj,eg,hk⟩:=hi.out a1 Z c3 e9;obtain⟨⟨z0,c6,c8,z3,z4,z5,c9,da⟩,ga⟩:=id ef))
       have hl:Hid _:=hk;clear dp bv cu e8 hi e9 c3 hk ef z0 c6 c8 z3 z4 z5 c9 da ga;go_wp2;obtain⟨ej,ek⟩:∃ej,Hid (Au a1 (W.heap.size+1) (.mk ba bb bd be bf bg bi bk) Z=ej):=⟨_,rfl⟩;rw[ek.out]at hj eg hl;have el:=ek.out;simp only[Au]at el;rw[el];obtain⟨bY,b9,cb,cd,cf,cg,ch,cl⟩:=hj.1;refine nG (v:=.tuple #[Al (.mk ba bb bd be bf bg bi bk) Z,gr]) (by simp[results,results144,go_sem,Al,bY,b9,cb,cd,cf,cg,ch,cl]) rfl ?_;rw[hT.out,hc.out];refine⟨⟨Z,by rw[gq.out,he.out],?_⟩,eg⟩;rw[gq.out];exact hl.out
   ·obtain rfl:t=N+1:=by omega
    have gQ:decide (((N+1:Nat):Int)<((N+1:Nat):Int))=false:=nB (by omega);have gg:Hid (E5 us gs xs nf U nf.length=.ok U):=LQ co.out _ (nn _) (fun s aa=>d6.out s (by rw[ay.out]at aa;omega));obtain⟨k,m,u,g,o,nh,d,ks⟩:=U;have dm:AR (Ag W.cell? S) (Ag G.cell? (uS W S)):=BN fun k bA aa=>⟨by simp[aa];omega,a6.block k bA⟩;have de:W.heap.size+1+1≤G.heap.size:=by have:=az.1.lt;omega
    have hm:Hid (Calls prog 18 #[.agg #[.int .i64 k,.int .i64 m,.int .i64 u,.int .i64 g,.bool o,.slice ar.aa nh.length ar.ca,.string d,.slice ar.ak ks.length ar.ck]] G fun e ab=>(∃h',e=.returned (.agg #[.int .i64 k,.int .i64 m,.int .i64 u,.int .i64 g,.bool o,.slice h'.aa nh.length h'.ca,.string d,.slice h'.ak ks.length h'.ck])∧Ah (Ag ab.cell? (uS W S)) (.mk k m u g o nh d ks) h')∧Below G.heap.size G ab):=ka (x:=(.mk k m u g o nh d ks)) (h:=ar) (Mm c4 de) (d5.out.on dm) gN.out gO.out;obtain⟨eq,er,es,eu,ev,eB,f6,eE⟩:=(dd.out.on dm).on (Ci _ _);clear dd d5 gN gO en gH cr d2 d6 co fe bG bH fg;go_wp2_with fail
    with_reducible refine np hm.out ?_
    rintro e gu ⟨⟨hx,rfl,hn⟩,gv⟩;have bx:=az.below gv;have ho:=a6.trans (gv.mono a6.size);have hp:=bx.store (.mk k m u g o nh d ks) hx;have bn:Below W.heap.size W (Au gu (W.heap.size+1) (.mk k m u g o nh d ks) hx):=ho.trans (Cz.below (by omega) ho.size)
    have hq:Hid (Ah (Ag (Au gu (W.heap.size+1) (.mk k m u g o nh d ks) hx).cell? S) (.mk k m u g o nh d ks) hx):=hn.on (BN fun q ap aa=>by
     simp at aa;exact⟨aa.2,Cz.block q ap aa.1.2⟩)
    clear eq er es eu ev eB f6 eE hm hn gv az;have z0:=bx.2 0;have c6:=bx.2 1;have c8:=bx.2 2;have z3:=bx.2 3;have z4:=bx.2 4;have z5:=bx.2 5;have c9:=bx.2 6;have da:=bx.2 7;obtain⟨eq,er,es,eu,ev,eB,f6,eE⟩:=bx.1;go_wp2;obtain⟨ej,ek⟩:∃ej,Hid (Au gu (W.heap.size+1) (.mk k m u g o nh d ks) hx=ej):=⟨_,rfl⟩;rw[ek.out]at hp bn hq;have el:=ek.out;simp only[Au]at el;rw[el];obtain⟨bY,b9,cb,cd,cf,cg,ch,cl⟩:=hp.1;refine nG (v:=.tuple #[Al (.mk k m u g o nh d ks) hx,.nilIface]) (by simp[results,results144,go_sem,Al,bY,b9,cb,cd,cf,cg,ch,cl]) rfl ?_;rw[ep.out,gg.out];exact⟨⟨hx,rfl,hq.out⟩,bn⟩
def Bx.wk(B:Bx):Fd→Nat→List Fl→Except Int Fd
 |f,0,_=>.ok f
 |f,n+1,L=>if B.passE f.t≠0 then .error (B.passE f.t)else match L with
  |q::L=>B.wk {B.fd q.x q.h q.ly with dir:=f.t} n L
  |[]=>if n≠0 then .error 5 else .ok {Ds with dir:=f.t}
theorem Kl{B:Bx}{f:Fd}{n:Nat}{L:List Fl}{E:Int}(e:B.passE f.t=E)(h:E≠0):B.wk f (n+1) L=.error E:=by
 subst e;cases L<;>(unfold Bx.wk;rw[nD h])
theorem Kg{B:Bx}{f:Fd}{n:Nat}{q:Fl}{L:List Fl}(h:B.passE f.t=0):B.wk f (n+1) (q::L)=B.wk {B.fd q.x q.h q.ly with dir:=f.t} n L:=by
 rw[Bx.wk];rw[nC (by simp[h])]
theorem Mn{B:Bx}{f:Fd}{n:Nat}(h:B.passE f.t=0):B.wk f (n+1) []=if n≠0 then .error 5 else .ok {Ds with dir:=f.t}:=by
 unfold Bx.wk;rw[nC (by simp[h])]
structure JT (w:World) (vn vf:Value) (L:List Fl) (g g2 cn cf:Nat):Prop where
 en:vn=.slice (some ⟨g,0,none⟩) L.length cn
 ef:vf=.slice (some ⟨g2,0,none⟩) L.length cf
 hn:L.length≤cn
 hf:L.length≤cf
 nd:∀(i:Nat) f,L[i]? =some f→Bi w.cell? g (i*8) f.x f.h
 ly:∀(i:Nat) f,L[i]? =some f→w.cell? ⟨g2,i,none⟩=some (.int .i64 f.ly)
theorem JT.of{S:Nat→Bool}{n₀:Nat}{A:World}{vn vf:Value}{L:List Fl}(h:FC S n₀ A vn vf L L)(G:L≠[]):∃g F cn H,JT A vn vf L g F cn H∧n₀≤g∧n₀≤F:=by
 rcases UV h.rn with e|⟨g,cap,rfl,Z,I,J,_⟩
 ·exact absurd e G
 ·rcases h.rf.2 with⟨rfl,O⟩|⟨F,Q,aa,rfl,hb,R,T,ab,ad,V⟩
  ·exact absurd (rq.1 O) G
  ·exact⟨g,F,cap,Q,⟨rfl,rfl,I,T,J,fun i f Y=>F7 R V (Ok L i f Y)⟩,by omega,by omega⟩
theorem US{w:World}{b:Nat}{A M M' C:List Value}(h:A7 w b 0 (A++M++C))(G:M'.length=M.length){n:Nat}(I:n=A.length):A7 (w.setCells b n M') b 0 (A++M'++C):=by
 subst I;have J:A7 w b A.length M:=fun i v F=>by
  have O:i<M.length:=(ny.1 F).1;have:=h (A.length+i) v (by rw[n8,ro (by omega),show A.length+i-A.length=i by omega,rH O];exact F);rwa [nU]at this
 intro i v F;rw[nU];by_cases H:i<A.length
 ·rw[←Id,IM _ _ _ (fun j Q e=>by injection e with _ e2;omega)]
  rw[n8,rH H]at F;have:=h i v (by rw[n8,rH H];exact F);rwa [nU]at this
 ·by_cases R:i<A.length+M.length
  ·rw[n8,ro (by omega),rH (by omega)]at F
   have:=Dh M' J G.symm (i-A.length) v F;rwa [show A.length+(i-A.length)=i by omega]at this
  ·rw[←Id,IM _ _ _ (fun j Q e=>by injection e with _ e2;omega)]
   rw[n8,ro (by omega),ro (by omega)]at F;have:=h i v (by rw[n8,ro (by omega),ro (by omega),←G];exact F);rwa [nU]at this
theorem Uv{w:World}{b:Nat}{f:Fd}(t:Th)(h:A7 w b 0 f.l):A7 (w.setCells b 5 t.l) b 0 (Fd.l {f with dir:=t}):=by
 have F:f.l=f.t.l++f.dir.l++([.slice f.na f.nf.length f.nc,.bool f.there]++Bl f.x f.h++[iN f.ly]):=by unfold Fd.l;simp only[n8]
 have G:Fd.l {f with dir:=t}=f.t.l++t.l++([.slice f.na f.nf.length f.nc,.bool f.there]++Bl f.x f.h++[iN f.ly]):=by unfold Fd.l;simp only[n8]
 have H:=F▸h;have I:=US (A:=f.t.l) (M:=f.dir.l) (M':=t.l) (C:=[.slice f.na f.nf.length f.nc,.bool f.there]++Bl f.x f.h++[iN f.ly]) (n:=5) H rfl rfl;exact G▸I
theorem Yj{w:World}{b:Nat}{f:Fd}(an:Option Addr)(nj:Nat)(nf:List BA)(h:A7 w b 0 f.l):A7 (w.setCells b 10 [.slice an nf.length nj]) b 0 (Fd.l {f with na:=an,nc:=nj,nf:=nf}):=by
 have F:f.l=(f.t.l++f.dir.l)++[.slice f.na f.nf.length f.nc]++([.bool f.there]++Bl f.x f.h++[iN f.ly]):=by unfold Fd.l;simp only[n9,ru]
 have G:Fd.l {f with na:=an,nc:=nj,nf:=nf}=(f.t.l++f.dir.l)++[.slice an nf.length nj]++([.bool f.there]++Bl f.x f.h++[iN f.ly]):=by unfold Fd.l;simp only[n9,ru]
 have H:=F▸h;have I:=US (A:=f.t.l++f.dir.l) (M:=[.slice f.na f.nf.length f.nc]) (M':=[.slice an nf.length nj]) (C:=[.bool f.there]++Bl f.x f.h++[iN f.ly]) (n:=10) H rfl rfl;exact G▸I
theorem LG{c:AH}{b:Nat}(h:∀o,c ⟨b,o,none⟩=([.bool false,.int .i64 0,.int .i64 0,.int .i64 0,.bool false,.bool false,.int .i64 0,.int .i64 0,.int .i64 0,.bool false,.slice none 0 0,.bool false,.int .i64 0,.int .i64 0,.int .i64 0,.int .i64 0,.bool false,.slice none 0 0,.string ⟨#[]⟩,.slice none 0 0,.int .i64 0]:List Value)[o]?):DM c b:=fun o s v F G H=>by
 rw[h]at F G;exact match o,F,G with
 |0,F,G=>by simp at F
 |1,F,G=>by simp at F
 |2,F,G=>by simp at F
 |3,F,G=>by simp at F
 |4,F,G=>by simp at F
 |5,F,G=>by simp at F
 |6,F,G=>by simp at F
 |7,F,G=>by simp at F
 |8,F,G=>by simp at F
 |9,F,G=>by simp at F
 |10,F,G=>by simp at F
 |11,F,G=>by simp at F
 |12,F,G=>by simp at F
 |13,F,G=>by simp at F
 |14,F,G=>by simp at F
 |15,F,G=>by simp at F
 |16,F,G=>by simp at F
 |17,F,G=>by simp at F
 |18,F,G=>by
  have e:Value.slice none 0 0=v:=by simpa using G
  subst e;exact H
 |19,F,G=>by simp at F
 |20,F,G=>by simp at F
 |n+21,F,G=>by simp at F
theorem JT.below{w w':World}{vn vf:Value}{L:List Fl}{g G cn H:Nat}(h:JT w vn vf L g G cn H)(hb:Bw w w'):JT w' vn vf L g G cn H:=
 ⟨h.en,h.ef,h.hn,h.hf,fun i f F=>(h.nd i f F).on (Aj hb),fun i f F=>Af hb (h.ly i f F)⟩
end Go.Proofs.YtofhphibahcniaaGreatDoor
