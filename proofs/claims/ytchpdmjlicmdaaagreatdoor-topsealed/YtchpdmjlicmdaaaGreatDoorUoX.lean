/- Part: Uo Xi Xj Jc. -/
import Derived.Test.YtchpdmjlicmdaaaGreatDoorUlX
set_option maxRecDepth 100000
set_option maxHeartbeats 16000000
namespace Go.Proofs.YtchpdmjlicmdaaaGreatDoor
open Go.RowKit Go.Proofs.Tryz
variable {W w w':World}{G b base k n:Nat}{S:Nat->Bool}{v:Value}{L:List Fl}{l ry:List BA}{gs us:List Rg}{x:Nd}{B:Bx}{f:Fd}
abbrev uS(W:World)(S:Nat->Bool):Nat->Bool:=λk=>k==W.heap.size||k==W.heap.size+1||S k
abbrev F2(w W:World)(ua ga:Option Addr)(us gs:List Rg)(uc gc:Nat):Prop:=Ce w W.heap.size 0 (.slice ua us.length uc)/\Ce w W.heap.size 1 (.slice ga gs.length gc)
abbrev Kc(w:World)(G H I:Nat)(k m u g:Int)(o:Bool)(rL:List Kv)(d:BA)(ks:Ay)(J:Hd)(O Z ab ad:Int)(zo:Bool)(ak:List Kv)(al:BA)(zs:Ay)(h':Hd):Prop:=Ce w G H (iN k)/\Ce w G (H+1) (iN m)/\Ce w G (H+2) (iN u)/\Ce w G (H+3) (iN g)/\Ce w G (H+4) (.bool o)/\Ce w G (H+5) (.slice J.aa rL.length J.ca)/\Ce w G (H+6) (.string d)/\Ce w G (H+7) (.slice J.ak ks.length J.ck)/\Ce w I 0 (iN O)/\Ce w I 1 (iN Z)/\Ce w I 2 (iN ab)/\Ce w I 3 (iN ad)/\Ce w I 4 (.bool zo)/\Ce w I 5 (.slice h'.aa ak.length h'.ca)/\Ce w I 6 (.string al)/\Ce w I 7 (.slice h'.ak zs.length h'.ck)
theorem Kc.on{I H:Nat}{k m u g:Int}{o:Bool}{rL:List Kv}{d:BA}{ks:Ay}{J:Hd}{O Z ab ad:Int}{zo:Bool}{ak:List Kv}{al:BA}{zs:Ay}{h':Hd}(T:Kc w G I H k m u g o rL d ks J O Z ab ad zo ak al zs h')(f:∀o v,Ce w G o v->Ce w' G o v)(f2:∀o v,Ce w H o v->Ce w' H o v):Kc w' G I H k m u g o rL d ks J O Z ab ad zo ak al zs h':=by grind
theorem XG{G:World}{f:Int}{R:Except Int Nd}(H:R=.error f)(I:f≠0)(hb:Below W.heap.size W G):Iq W G S (.returned<|.tuple #[At zN zH,.iface 101<|iN f]) R:=by
 subst H;refine⟨⟨zH,?_,nZ _⟩,hb⟩;show _=Ending.returned (.tuple #[At zN zH,Ao f]);rw[AP rfl I]
theorem X8{t:TypeId}{z:Nat}{xs:List Value}(h:w.ownsRow base t z v n xs):∃a cap,v=.slice a n cap/\n<=cap/\cap<=9223372036854775807:=by
 rcases h.2 with⟨rfl,I⟩|⟨g,cap,J,rfl,hb,O,G,H,Z,ab⟩
 .grind
 .exact⟨_,cap,rfl,G,by simpa [maxLen]using H⟩
theorem oE(h:w.ownsRow base 3 1 v L.length<|G8 L){t:Nat}{f:Fl}(G:L[t]? =some f):∃g cap,v=sL g 0 L.length cap/\Ce w g t (iN f.ly):=by
 rcases h.2 with⟨rfl,J⟩|⟨g,cap,O,rfl,hb,H,Z,ab,ad,I⟩
 .grind
 .exact⟨g,cap,rfl,Iu H I<|Xx L t f G⟩
theorem gE(x:Nd):Dv (x.with [])=Dv x:=by obtain⟨k,m,u,g,o,rL,d,ks⟩:=x;rfl
theorem lQ{G:Nat->Nd×Nat}(Z:k<ry.length)(ab:L.length=ry.length+1)(I:∀(j:Nat) f,L[j]? =some f->f.x=(G j).1.with []):EY ((L.drop<|k+1).map Fl.x) (ry.drop k)=Fi G ry k (ry.length-k):=by
 refine List.ext_getElem? λi=>?_;unfold EY Fi
 rw[R6,R6];by_cases H:i<ry.length-k
 .have J:((L.drop<|k+1).map Fl.x)[i]? =some ((G<|k+1+i).1.with []):=by
   rw[R6,Kq];have e:L[k+1+i]? =some L[k+1+i]:=NA oM;rw[e,<-I _ _ e];rfl
  have O:(ry.drop k)[i]? =some ry[k+i]:=by rw[Kq];exact NA oM
  rw[(List.getElem?_zip_eq_some (z:=((G<|k+1+i).1.with [],ry[k+i]))).2 ⟨J,O⟩,NA<|by simpa using H];simp only[tx,List.getElem_range',gE,RV,Prod.mk.injEq];rw[Nat.one_mul,show k+1+i-1=k+i by omega];exact⟨rfl,by simp[show k+i<ry.length by omega]⟩
 .rw[tP (by simp;omega),tP<|by simpa using H];rfl
theorem nv{S':Nat->Bool}(h:w.ownsRow base 31 8 v L.length<|BK L)(I:∀f∈L,Am (Ag w.cell? S') f.x f.h)(J:∀k,S' k=false->S k=false)(O:∀g,v.ownBlock=some g->S g=false){t:Nat}(ao:t<L.length):∃g cap,v=sL g 0 L.length cap/\L.length<=cap/\cap<=9223372036854775807/\CP (Ag w.cell? S) (some<|aD g<|t*8) ((L.drop t).map Fl.x):=by
 rcases h.2 with⟨rfl,ap⟩|⟨g,cap,ar,rfl,hb,Z,ab,ad,aw,ak⟩
 .omega
 .refine⟨g,cap,rfl,ab,by simpa [maxLen]using ad,.inr ⟨g,t*8,rfl,λi=>(L.getD (t+i) ⟨zN,zH,0⟩).h,λi x H=>?_⟩⟩
  rw[R6,Kq]at H;obtain⟨f,G,rfl⟩:=R2.1 H;have e:(L.getD (t+i) ⟨zN,zH,0⟩)=f:=by rw[List.getD_eq_getElem?_getD,G];rfl
  dsimp only;rw[e];refine⟨GR.2 λq u al=>?_,(I f<|NW G).on<|Xb J⟩;rw[CV<|O g rfl,show t*8+i*8+q=(t+i)*8+q by omega];exact Iu Z ak<|Ni L (t+i) f G q u al
theorem Bi.drop{c:AR}(h:∀i s,l[i]? =some s->c (aD b<|G+i)=some (.string s))(n:Nat):Bi c (some<|aD b<|G+n)<|l.drop n:=by
 refine .inr ⟨b,G+n,rfl,λi s H=>?_⟩;rw[Kq]at H;have:=h _ _ H;rwa [<-Nat.add_assoc]at this
theorem pF{G:Bool}{y:Nd}(h:BH G us gs x=some y)(H:Db x):Db y:=by
 obtain⟨k,m,u,g,o,rL,d,ks⟩:=x;grind [BH,Db]
theorem lg(h:A7 x):Db<|Dv x:=by
 obtain⟨k,m,u,g,o,rL,d,ks⟩:=x;rw[A7]at h;show Db (.mk k m u g false rL d []);grind [Db,Ei]
theorem nE:∀{A L:List (Nd×BA)},Dl us gs A=.ok L->(∀p∈A,Db p.1)->(∀p∈L,Db p.1)/\L.length=A.length:=by intro A L;induction A generalizing L<;>grind [Dl,pF]
theorem Vv:∀L:List<|Nd×BA,(∀p∈L,Db p.1/\p.1.kids=[])->Db (CW L)/\cnt (CW L)<=L.length+1
 |[],_=>⟨by show Db zN;unfold zN;rw[Db];exact⟨N7 _,by rw[Ei];trivial⟩,by show cnt zN<=_;unfold zN;rw[cnt,cntL];omega⟩
 |[p],h=>by
  obtain⟨G,H⟩:=h p<|N4 ..;refine⟨G,?_⟩;show cnt p.1<=_;rw[KG,H,cntL];simp
 |p::q::r,h=>by
  obtain⟨G,H⟩:=h p<|N4 ..;obtain⟨I,J⟩:=Vv (q::r) λx hx=>h x<|R4 _ hx;constructor
  .show Db (p.1.with [(q.2,CW (q::r))])
   rw[LD];refine⟨?_,by rw[Ei];exact⟨I,by rw[Ei];trivial⟩⟩;have e:=IR p.1;rw[H]at e;rw[e];exact G
  .show cnt (p.1.with [(q.2,CW (q::r))])<=_
   rw[Ry,cntL,cntL];simp at J⊢;omega
theorem PN(G:∀k,S k=true->k<W.heap.size)(h:W.heap.size+1+1<=w'.heap.size):∀q,(uS W S) q=true->q<w'.heap.size:=by grind
theorem PY(x:Nd)(h:Hd):(Bq x h)[0]? =some (iN x.kind):=by obtain⟨k,m,u,g,o,rL,d,ks⟩:=x;rfl
theorem oO{f:Int}:∀{A:List (Nd×BA)},Dl us gs A=.error f->f≠0:=by intro A;induction A<;>grind [Dl]
theorem Wu{us gs:List Rg}:∀{A L:List (Nd×BA)},Dl us gs A=.ok L->(∀p∈A,p.1.kids=[])->∀p∈L,p.1.kids=[]
 |[],L,h,_=>by cases h;intro p G;cases G
 |(x,m)::r,L,h,ha=>by
  rw[Dl]at h;cases hm:BH true us gs x with
  |none=>rw[hm]at h;cases h
  |some y=>
   rw[hm]at h;dsimp only at h;by_cases H:Bf m=false
   .rw[NS H]at h;cases h
   rw[NO H]at h;cases hb:Dl us gs r with
   |error f=>rw[hb]at h;cases h
   |ok K=>
    rw[hb]at h;cases h;have I:=Wu hb λp G=>ha p<|R4 _ G;intro p G;rcases R1.1 G with rfl|G
    .exact(LT hm).2.trans (ha (x,m)<|N4 ..)
    .exact I p G
theorem fj(h:A7 x):A7<|x.with []:=by
 obtain⟨k,m,u,g,o,rL,d,ks⟩:=x;rw[A7]at h;show A7 (.mk k m u g o rL d []);grind [A7,EO]
theorem lH(h:FL x):FL<|x.with []:=by obtain⟨k,m,u,g,o,rL,d,ks⟩:=x;exact h
def TU:Except Int (List<|Nd×BA)->Nd
 |.error _=>zN
 |.ok L=>CW L
def rB(ry:List BA)(k:Nat)(U:Nd):Except Int (List<|Nd×BA)->Except Int Nd
 |.error f=>.error f
 |.ok G=>A3 (some<|CW G) (ry.take<|k+1) U
def aq:Except Int (List<|Nd×BA)->Value
 |.error f=>.iface 101<|iN f
 |.ok _=>.nilIface
theorem lV{G:World}{e:Ending}{R:Except Int (List<|Nd×BA)}(h:Qu W G S e R):(∃h',e=.returned (.tuple #[At (TU R) h',aq R])/\Am (Ag G.cell? S) (TU R) h')/\Below W.heap.size W G:=by
 cases R with
 |error f=>exact⟨⟨zH,h.1,nZ _⟩,h.2⟩
 |ok L=>exact h
abbrev Qe:=λG ua (us:List Rg) uc ga (gs:List Rg) gc (X:World)=>(Ce X G 0 (.slice ua us.length uc)/\Ce X G 1 (.slice ga gs.length gc):Prop)
theorem pQ(co:∀k,S k=true->k<W.heap.size){a:Option Addr}{cap:Nat}{xs:List Nd}{an:Option Addr}{rN:Nat}(hx:CP (Ag W.cell? S) a xs)(al:Bi (Ag W.cell? S) an ry)(ha:xs.length<=1000)(e3:ry.length<=500)(hc:ry.length<=rN/\rN<=9223372036854775807)(e4:EM<|A5 xs)(e5:GH<|A5 xs)(he:Gx<|A5 xs){M:Df}(hf:EN W M){U:Nd}(hg:∀x,xs[0]? =some x->x=U)(kx:cnt U<=400)(hi:Db U):
 Calls prog 227 #[.slice a xs.length cap,M.v,.slice an ry.length rN] W λe ap=>Iq W ap S e<|Gb M.us M.gs xs ry U:=by
 obtain⟨ua,ga,uc,gc,us,gs⟩:=M;obtain⟨c0,c1,hj,eg,e6⟩:=Zb W _ _ ua ga us.length gs.length uc gc rfl rfl;have e7:AW (Ag W.cell? S)<|Ag ((W.alloc<|Er ua us.length uc ga gs.length gc).alloc<|AO).cell?<|uS W S:=Bv λk bo al=>⟨by simp[al];omega,eg.block k bo⟩
 have hk:Hid _:=VD (w:=((W.alloc<|Er ua us.length uc ga gs.length gc).alloc<|AO)) (cap:=cap) (rN:=rN) (S:=(uS W S)) (λq aw=>by
  rw[e6];simp at aw;rcases aw with(e|e)|e
  .omega
  .omega
  .have:=co q e;omega) (hx.on e7) (al.on e7) ha oM e4 e5
 have hl:Hid<|CP (Ag W.cell? S) a xs:=hx;have hm:Hid<|Bi (Ag W.cell? S) an ry:=al;have ej:Hid<|GH<|A5 xs:=e5;have hn:Hid<|Gx<|A5 xs:=he;have ho:Hid<|EN W ⟨ua,ga,uc,gc,us,gs⟩:=hf;have hp:Hid _:=hg;have hq:Hid<|Db U:=hi;have ky:Hid<|EM<|A5 xs:=e4;show Calls prog 227 #[.slice a xs.length cap,G7 ua us.length uc ga gs.length gc,.slice an ry.length rN] W λe ap=>Iq W ap S e<|Gb us gs xs ry U;obtain⟨N,az⟩:=Aq<|ry.length
 have k0:Hid<|ry.length<=500:=e3;go_enter func227,ntmps227;go_wp2_with fail
 refine rQ hk ?_;rintro e H ⟨⟨vn,vf,L,rfl,ek,hr,dT⟩,d0⟩;obtain⟨hs,bG,rfl,ht,k1⟩:=X8 ek.rn;obtain⟨hu,hv,rfl,hw,k2⟩:=X8 ek.rf;have bf:=eg.trans<|d0.mono eg.size;have bu:=hj.below d0;have c4:=Ai d0 _ _ c0;have c5:=Ai d0 _ _ c1;have e8:Hid (∀(j:Nat) f,L[j]? =some f->∃q r,AX xs (ry.take j)=q::r/\f.x=q.1.with []/\f.ly=q.2):=hr;have k3:L.length<=1000:=by rcases dT with e|e<;>omega
 rw[az.out]at hc dT e3⊢;cases hst:AX xs ry with
 |nil=>
  have d1:Hid<|Gb us gs xs ry U=.error 5:=NS hst;have k4:L.length<=N:=by
   rcases dT with e|e
   .exfalso
    obtain⟨f,bp⟩:∃f,L[N]? =some f:=⟨_,NA oM⟩;obtain⟨q,r,aw,_⟩:=e8 N f bp;rw[R3 (by rw[az.out];omega),hst]at aw;cases aw
   .exact e.1
  have hb:decide ((L.length:Int)<=(N:Int))=true:=NY oM;go_upto_region 3 with fail
  have c6:=AC.store bu zN zH;have c8:Below W.heap.size W<|As H (W.heap.size+1) zN zH:=bf.trans<|Cb.below oM bf.size;obtain⟨z0,c9,da,z3,z4,z5,dd,de⟩:=f8 bu.2;obtain⟨f0,f1,f2,f3,f4,f5,f6,f7⟩:=bu.1;go_wp2;obtain⟨hy,dg⟩:=Aq<|As H (W.heap.size+1) zN zH;rw[dg.out]at c6 c8;have bH:=dg.out;simp only[As,zN,zH]at bH;simp only[RC]at bH;rw[bH];obtain⟨bx,bY,b0,b1,b2,b4,b6,b7⟩:=c6.1;refine NZ (v:=.tuple #[At zN zH,.iface 101<|iN 5]) (by simp[results,results227,go_sem,At,zN,zH,bx,bY,b0,b1,b2,b4,b6,b7]) rfl (XG d1 oD c8)
 |cons k5 bx=>
  have e9:AX xs ry≠[]:=by rw[hst];simp
  have d1:Hid<|Gb us gs xs ry U=GM us gs xs ry U ry.length:=NO e9;obtain⟨a1,d2⟩:=nU e9;have d3:Hid<|Im xs ry a1:=d2;obtain⟨hz,b9⟩:=Vp d2;have em:=hp.out _ b9;have en:L.length=N+1:=by
   rcases dT with e|⟨dj,bA⟩
   .exact e
   .obtain⟨r,bB⟩:=d2 L.length (by rw[az.out];exact dj)
    rw[bB]at bA;cases bA
  have eo:Hid (∀(j:Nat) f,L[j]? =some f->f.x=(a1 j).1.with []/\f.ly=(a1 j).2):=λj f bp=>by
   obtain⟨q,r,aw,dj,bA⟩:=e8 j f bp;have ce:=(NE.1 bp).1;obtain⟨k6,hA⟩:=d2 j (by rw[az.out];omega);rw[hA]at aw;cases aw;exact⟨dj,bA⟩
  obtain⟨bC,cr,rfl,hB,hC⟩:∃b dk,a=some ⟨b,dk,none⟩/\∃f:Nat->Hd,∀i x,xs[i]? =some x->A9 (Ag W.cell? S) b (dk+i*8) x (f i)/\Am (Ag W.cell? S) x (f i):=by
   rcases hl.out with e|e
   .rw[e]at b9;cases b9
   .exact e
  obtain⟨d4,ep⟩:=hC 0 _ b9;rw[em]at d4 ep;rw[tB,tl]at d4;generalize hB 0=bg at d4 ep;have hD:(0:Int)<(xs.length:Int):=by have:=(NE.1 b9).1;omega
  have hE:Hid<|0<xs.length:=by have:=(NE.1 b9).1;exact this
  have hG:Hid<|A7 U:=by rw[<-em];exact ej ((a1 0).1,0)<|List.mem_zipIdx_iff_getElem?.2 b9
  have hH:Hid<|cnt U<=1000:=by show _<=_;omega
  have fa:Hid<|(a1 0).2=0/\(a1 0).1=U:=⟨hz,em⟩;have eq:Hid<|A9 (Ag W.cell? S) bC cr U bg:=d4;have fb:Hid<|Am (Ag W.cell? S) U bg:=ep;have bk:Hid<|L.length=N+1:=en;have dm:Hid<|Hp (uS W S) ((W.alloc<|Er ua us.length uc ga gs.length gc).alloc<|AO).heap.size H (.slice hs (N+1) bG) (.slice hu (N+1) hv) L L:=by rw[<-en];exact ek
  rw[en]at ht hw⊢;rw[e6]at dm;have hb:decide (((N+1:Nat):Int)<=(N:Int))=false:=NM oM;go_upto_region 4 with fail
  go_wp2;go_loop [10] (λi=>∃t:Nat,t<=N+1/\i=iN t/\Hid (∀s,s<t->(a1 s).2=0)) (λi=>N+1-(intOf i).toNat)
  case atStart=>exact⟨0,N7 _,rfl,λs al=>by omega⟩
  case round=>
   obtain⟨t,k7,rfl,er⟩:=hrel;by_cases hI:t<N+1
   .obtain⟨f,bp⟩:∃f,L[t]? =some f:=⟨_,NA (by rw[bk.out];exact hI)⟩
    have hJ:=(eo t f bp).2;obtain⟨k8,k9,fc,fd⟩:=oE (by have:=dm.out.rf;rw[<-bk.out]at this;exact this) bp;simp only[CH,bk.out,true_and]at fc;obtain⟨rfl,rfl⟩:=fc;rw[hJ]at fd;have hK:decide ((t:Int)<((N+1:Nat):Int))=true:=NY oM;by_cases dn:(a1 t).2=0
    .rw[dn]at fd
     have hL:Hid (∀s,s<t+1->(a1 s).2=0):=λs al=>by
      rcases Nat.lt_succ_iff_lt_or_eq.1 al with e|e
      .exact er s e
      .rw[e];exact dn
     go_wp2;go_round
     case rel=>exact⟨t+1,by omega,by go_num,hL⟩
     case measure=>(simp[intOf];try omega)
    .have ld:(((a1 t).2:Int)==0)=false:=by rw[beq_eq_false_iff_ne];omega
     have hM:(t:Int)≠((N+1:Nat):Int):=by omega
     have lf:((t:Int)==((N+1:Nat):Int))=false:=by rw[beq_eq_false_iff_ne];exact hM
     go_upto_region 9 with fail
     have lk:0<t:=by
      rcases Nat.eq_zero_or_pos t with e|e
      .rw[e]at dn;exact absurd fa.1 dn
      .exact e
     obtain⟨G,rfl⟩:∃G,t=G+1:=⟨t-1,by omega⟩;have fe:G<N:=by omega
     have dp:W.heap.size+1+1<=H.heap.size:=by have:=bu.1.lt;omega
     obtain⟨dr,ln,ff,lo,lp,hN⟩:=nv (S:=(uS W S)) (t:=G+1) (by have:=dm.out.rn;rw[<-bk.out]at this;exact this) dm.nd (λk bo=>(Bool.or_eq_false_iff.1 bo).2) (λg fg=>by
      have e:=(dm.rn.lt g (by rw[bk.out]at fg;exact fg)).1;have bA:S g=false:=by
       cases hh:S g with
       |false=>rfl
       |true=>have:=co g hh;omega
      simp[bA];omega) (by rw[bk.out];omega)
     simp only[CH,bk.out,true_and]at ff;obtain⟨rfl,rfl⟩:=ff;obtain⟨bq,bs,rfl,fh⟩:∃b dk,an=some ⟨b,dk,none⟩/\∀i s,ry[i]? =some s->Ag W.cell? S ⟨b,dk+i,none⟩=some (.string s):=by
      rcases hm.out with e|e
      .have:=az.out;rw[e]at this;simp at this;omega
      .exact e
     have ds:((L.drop<|G+1).map Fl.x).length=N-G:=by rw[CE,List.length_drop,bk.out];omega
     have fo:(ry.drop G).length=N-G:=by rw[List.length_drop,az.out]
     have hO:Hid<|EY ((L.drop<|G+1).map Fl.x) (ry.drop G)=Fi a1 ry G (N-G):=by
      show _=_;rw[<-az.out];exact lQ (by rw[az.out];exact fe) (by rw[az.out];exact bk) λj f bp=>(eo j f bp).1
     obtain⟨cx,d5⟩:=Aq<|Dl us gs<|Fi a1 ry G<|N-G;have fp:Hid<|Gb us gs xs ry U=rB ry G U cx:=by
      show _=_;have e:=Zl (us:=us) (gs:=gs) d3 (k:=G) (by rw[az.out];exact fe) (λj ce=>er j oM) dn (N-G-1) (by rw[az.out];omega);rw[show G+(N-G-1)+1=N by omega,show N-G-1+1=N-G by omega,d5.out,fa.out.2]at e;rw[d1.out,az.out];refine e.trans ?_;cases cx<;>rfl
     have hP:Hid (∀y∈(L.drop<|G+1).map Fl.x,y.kids=[]/\A7 y/\FL y):=λy hQ=>by
      obtain⟨hR,hS,rfl⟩:=CQ.1 hQ;obtain⟨j,ce⟩:=List.mem_iff_getElem?.1<|List.mem_of_mem_drop hS;have ls:=(NE.1 ce).1;obtain⟨r,bB⟩:=d3 j (by rw[az.out];have:=bk.out;omega);have fs:a1 j∈AX xs (ry.take j):=by rw[bB];exact N4 ..
      rw[(eo.out j hR ce).1];exact⟨OB _ _,fj<|Rc ej _ _ fs,lH<|qe<|iq hn _ _ fs⟩
     have hT:Hid (∀bl,cx=.ok bl->Db (CW bl)/\cnt (CW bl)<=501):=λbl e=>by
      have d6:Dl us gs (Fi a1 ry G<|N-G)=.ok bl:=d5.trans e;have hb:∀p∈Fi a1 ry G (N-G),Db p.1:=λp cD=>by
       obtain⟨j,ce,rfl⟩:=CQ.1 cD;rw[List.mem_range'_1]at ce;obtain⟨r,bB⟩:=d3 j (by rw[az.out];omega);exact lg<|Rc ej (ry.take j) _ (by rw[bB];exact N4 ..)
      obtain⟨q1,q2⟩:=nE d6 hb
      have hU:∀p∈bl,p.1.kids=[]:=Wu d6 (λp cD=>by
       obtain⟨j,ce,rfl⟩:=CQ.1 cD;exact Rn _)
      obtain⟨q4,q5⟩:=Vv bl λp cD=>⟨q1 p cD,hU p cD⟩;refine⟨q4,?_⟩;rw[q2]at q5;simp[Fi]at q5;omega
     obtain⟨hV,ft⟩:=Aq<|TU cx;obtain⟨du,es⟩:∃E,Hid<|aq cx=E:=⟨_,rfl⟩;obtain⟨I,J,O,Z,zo,ab,ad,zs⟩:=hV;have fx:Hid (∀(w':World) (S':Nat->Bool),(∀q,S' q=true->q<w'.heap.size)->CP (Ag w'.cell? S') (some ⟨dr,(G+1)*8,none⟩) ((L.drop<|G+1).map Fl.x)->Bi (Ag w'.cell? S') (some ⟨bq,bs+G,none⟩) (ry.drop G)->Below W.heap.size W w'->Calls prog 258 #[G7 ua us.length uc ga gs.length gc,sL dr ((G+1)*8) (N-G)<|bG-(G+1),sL bq (bs+G) (N-G)<|rN-G] w' λe ap=>(∃h',e=.returned (.tuple #[Ba I J O Z zo ab ad zs h',du])/\Am (Ag ap.cell? S') (.mk I J O Z zo ab ad zs) h')/\Below w'.heap.size w' ap):=by
      intro w' S' hW hX ao hb;have e:=df (cn:=bG-(G+1)) (cs:=rN-G) hW hX ao (λe=>by rw[e]at ds;simp at ds;omega) (by rw[ds];omega) (by rw[ds,fo];omega) hP<|ho.out.below hb;rw[ds,fo]at e;refine rQ e λe ap hY=>?_;have gb:=lV hY
      rw[hO.out,d5.out,ft.out,es.out]at gb;exact gb
     have gg:Hid<|CP (Ag H.cell?<|uS W S) (some ⟨dr,(G+1)*8,none⟩)<|(L.drop<|G+1).map Fl.x:=hN;have d7:AW (Ag W.cell? S)<|Ag H.cell?<|uS W S:=Bv λk bo al=>⟨by simp[al];omega,bf.block k bo⟩;have gl:Hid<|Bi (Ag H.cell?<|uS W S) (some ⟨bq,bs+G,none⟩)<|ry.drop G:=Bi.drop (λi s hZ=>d7 _ _<|fh i s hZ) G
     have d8:(Qe W.heap.size ua us uc ga gs gc H):=⟨c4,c5⟩;have eu:(Qe W.heap.size ua us uc ga gs gc H.drew):=d8;have h0:(Qe W.heap.size ua us uc ga gs gc (H.alloc<|AO).drew):=⟨Ai (CU H _) _ _ c4,Ai (CU H _) _ _ c5⟩;have h1:Hid (Calls prog 258 #[G7 ua us.length uc ga gs.length gc,sL dr ((G+1)*8) (N-G)<|bG-(G+1),sL bq (bs+G) (N-G)<|rN-G] H.drew (λe ap=>(∃h',e=.returned (.tuple #[Ba I J O Z zo ab ad zs h',du])/\Am (Ag ap.cell?<|uS W S) (.mk I J O Z zo ab ad zs) h')/\Below H.drew.heap.size H.drew ap)):=fx H.drew (uS W S) (PN co dp) gg gl bf.drew;have h2:Below W.heap.size W (H.alloc<|AO).drew:=(bf.trans<|(CU H<|AO).mono bf.size).drew;have go:AW (Ag H.cell?<|uS W S) (Ag (H.alloc<|AO).drew.cell? (λk=>k==H.heap.size||(uS W S) k)):=Bv λq aw al=>⟨Bool.or_eq_false_iff.2 ⟨by simp;omega,al⟩,(CU H<|AO).drew.block q aw⟩;have lx:(H.alloc<|AO).drew.heap.size=H.heap.size+1:=ND _ _
     have h3:Hid (Calls prog 258 #[G7 ua us.length uc ga gs.length gc,sL dr ((G+1)*8) (N-G)<|bG-(G+1),sL bq (bs+G) (N-G)<|rN-G] (H.alloc<|AO).drew (λe ap=>(∃h',e=.returned (.tuple #[Ba I J O Z zo ab ad zs h',du])/\Am (Ag ap.cell? (λk=>k==H.heap.size||(uS W S) k)) (.mk I J O Z zo ab ad zs) h')/\Below (H.alloc<|AO).drew.heap.size (H.alloc<|AO).drew ap)):=fx (H.alloc<|AO).drew (λk=>k==H.heap.size||(uS W S) k) (λq aw=>by
      rw[Bool.or_eq_true]at aw;rcases aw with e|e
      .simp at e;omega
      .have:=PN co dp q e;omega) (gg.on go) (gl.on go) h2
     have h4:AC (H.alloc<|AO).drew H.heap.size zN zH:=AC.zero H;have h5:Hid (∀(ak:World) (h':Hd),Below H.drew.heap.size H.drew ak->Am (Ag ak.cell?<|uS W S) (.mk I J O Z zo ab ad zs) h'->(F2 ak W ua ga us gs uc gc)/\(F2 (ak.alloc AO) W ua ga us gs uc gc)/\(F2 (ak.alloc<|Aw I J O Z zo ab ad zs h') W ua ga us gs uc gc)/\AC (ak.alloc<|Aw I J O Z zo ab ad zs h') ak.heap.size (.mk I J O Z zo ab ad zs) h'/\Below W.heap.size W (ak.alloc<|Aw I J O Z zo ab ad zs h')/\AC (ak.alloc<|Aw I J O Z zo ab ad zs h') (W.heap.size+1) zN zH/\Am (Ag (ak.alloc<|Aw I J O Z zo ab ad zs h').cell?<|uS W S) (.mk I J O Z zo ab ad zs) h'/\W.heap.size+1<ak.heap.size):=by
      intro ak h' b5 cf;have bn:Below H.heap.size H ak:=((NB _ H).drew).trans b5;have ev:∀w',Below ak.heap.size ak w'->F2 w' W ua ga us gs uc gc:=λw' hb=>⟨Ai hb _ _<|Ai bn _ _ c4,Ai hb _ _<|Ai bn _ _ c5⟩;have gq:=bn.trans<|(CU ak<|Aw I J O Z zo ab ad zs h').mono bn.size
      exact⟨ev ak<|NB _ _,ev _<|CU ak _,ev _<|CU ak _,AC.new ak I J O Z zo ab ad zs h',bf.trans<|gq.mono bf.size,bu.below gq,cf.on<|Du<|CU ak<|Aw I J O Z zo ab ad zs h',N1 oM bn.size⟩
     have h6:Hid (∀(ak:World) (h':Hd),Below (H.alloc AO).drew.heap.size (H.alloc AO).drew ak->Am (Ag ak.cell? (λk=>k==H.heap.size||(uS W S) k)) (.mk I J O Z zo ab ad zs) h'->(F2 ak W ua ga us gs uc gc)/\(F2 (sB ak H.heap.size (iN I) (iN J) (iN O) (iN Z) (.bool zo) (.slice h'.aa ab.length h'.ca) (.string ad)<|.slice h'.ak zs.length h'.ck) W ua ga us gs uc gc)/\AC ak H.heap.size zN zH/\AC (As ak H.heap.size (.mk I J O Z zo ab ad zs) h') H.heap.size (.mk I J O Z zo ab ad zs) h'/\Below W.heap.size W (As ak H.heap.size (.mk I J O Z zo ab ad zs) h')/\AC (As ak H.heap.size (.mk I J O Z zo ab ad zs) h') (W.heap.size+1) zN zH/\Am (Ag (As ak H.heap.size (.mk I J O Z zo ab ad zs) h').cell?<|uS W S) (.mk I J O Z zo ab ad zs) h'):=by
      intro ak h' b5 cf;have gr:=(CU H AO).drew;have bn:Below H.heap.size H ak:=gr.trans<|b5.mono gr.size;have d9:=h4.below b5;have dw:Az H.heap.size ak<|As ak H.heap.size (.mk I J O Z zo ab ad zs) h':=Cb;have eb:Below H.heap.size H<|As ak H.heap.size (.mk I J O Z zo ab ad zs) h':=bn.trans<|dw.below (rP _) bn.size
      exact⟨⟨Ai bn _ _ c4,Ai bn _ _ c5⟩,⟨Ai eb _ _ c4,Ai eb _ _ c5⟩,d9,d9.store (.mk I J O Z zo ab ad zs) h',bf.trans<|eb.mono bf.size,bu.below eb,cf.on (Bv λq aw al=>by
       rw[Bool.or_eq_false_iff]at al;exact⟨al.2,dw.block q aw<|by simpa using al.1⟩)⟩
     have h7:Hid<|W.heap.size+1<H.heap.size:=by show _<_;omega
     have g1:(0:Int)<=(G:Int)+1:=by omega
     have lz:(G:Int)+1<=(N:Int)+1:=by omega
     have g3:(G:Int)<=(N:Int):=by omega
     have g4:(N:Int)+1<=(bG:Int):=by omega
     have lD:(N:Int)<=(rN:Int):=by omega
     have l0:¬bG=G+1:=by omega
     have l1:¬rN=G:=by omega
     have l2:((G:Int)+1).toNat=G+1:=by omega
     have l3:IntKind.i64.wrap (G:Int)=(G:Int):=DQ oM oM;rw[show((G+1:Nat):Int)=(G:Int)+1 by omega];go_region_held3 (λw'=>(Qe W.heap.size ua us uc ga gs gc w')) (first|with_reducible exact eu|with_reducible exact ch|with_reducible exact h8|with_reducible exact ed|with_reducible exact h0) (first|(go_at_call 258;(with_reducible refine rQ h1.out ?_);rintro e ak ⟨⟨h',rfl,cf⟩,b5⟩;obtain⟨ch,h8,ed,cF,bi,bF,ew,ey⟩:=h5.out ak h' b5 cf)|(go_at_call 258;(with_reducible refine rQ h3.out ?_);rintro e ak ⟨⟨h',rfl,cf⟩,b5⟩;obtain⟨ch,ed,d9,cF,bi,bF,ew⟩:=h6.out ak h' b5 cf;obtain⟨⟨z0,c9,da,z3,z4,z5,dd,de⟩,gu⟩:=id d9))
     all_goals
      first
      |(clear z0 c9 da z3 z4 z5 dd de gu
        have ee:Hid<|Am (Ag (As ak H.heap.size (.mk I J O Z zo ab ad zs) h').cell?<|uS W S) (.mk I J O Z zo ab ad zs) h':=ew;have ey:W.heap.size+1<H.heap.size:=h7.out;obtain⟨ar,ez⟩:∃ar,As ak H.heap.size (.mk I J O Z zo ab ad zs) h'=ar:=⟨_,rfl⟩;rw[ez]at ee cF bi bF;simp only[As]at ez;rw[ez];have l4:=dp;generalize H.heap.size=cl at cF ey⊢)
      |(have ee:Hid<|Am (Ag (ak.alloc<|Aw I J O Z zo ab ad zs h').cell?<|uS W S) (.mk I J O Z zo ab ad zs) h':=ew
        generalize ak.alloc (Aw I J O Z zo ab ad zs h')=ar at ee cF bi bF⊢;generalize ak.heap.size=cl at cF ey⊢)
      have eB:AW (Ag W.cell? S)<|Ag ar.cell?<|uS W S:=Bv λk bo al=>⟨by simp[al];omega,bi.block k bo⟩;cases cx with
      |error f=>
       have eD:du=.iface 101 (iN f):=es.symm;subst eD;have eE:Hid<|Gb us gs xs ry U=.error f:=fp.out;have h9:Hid<|f≠0:=oO d5;have c6:=AC.store bF zN zH;have c8:Below W.heap.size W<|As ar (W.heap.size+1) zN zH:=bi.trans<|Cb.below oM bi.size;obtain⟨z0,c9,da,z3,z4,z5,dd,de⟩:=f8 bF.2;obtain⟨f0,f1,f2,f3,f4,f5,f6,f7⟩:=bF.1;go_wp2;obtain⟨hy,dg⟩:=Aq<|As ar (W.heap.size+1) zN zH;rw[dg.out]at c6 c8;have bH:=dg.out;simp only[As,zN,zH]at bH;simp only[RC]at bH;rw[bH];obtain⟨bx,bY,b0,b1,b2,b4,b6,b7⟩:=c6.1;refine NZ (v:=.tuple #[At zN zH,.iface 101<|iN f]) (by simp[results,results227,go_sem,At,zN,zH,bx,bY,b0,b1,b2,b4,b6,b7]) rfl (XG eE h9 c8)
      |ok bl=>
       have eD:du=.nilIface:=es.symm;subst eD;have gv:Hid<|CW bl=(.mk I J O Z zo ab ad zs):=ft.out;obtain⟨gw,ih⟩:=hT bl rfl;rw[gv.out]at gw ih;have iw:Hid<|Gb us gs xs ry U=A3 (some<|.mk I J O Z zo ab ad zs) (ry.take<|G+1) U:=by rw[fp.out,<-gv.out];rfl
       obtain⟨gx,gy⟩:=Aq<|A3 (some<|.mk I J O Z zo ab ad zs) (ry.take<|G+1) U;obtain⟨X,eF⟩:=Aq<|E5 gx;obtain⟨eL,gz⟩:∃E,Hid<|Ao (Gl gx)=E:=⟨_,rfl⟩;obtain⟨a6,a7,a8,ba,bb,ea,bd,be⟩:=X;have iz:W.heap.size+1+1<=ar.heap.size:=by have:=bF.1.lt;omega
       have i0:=(eq.on eB).on<|BW _ _;have l5:bC<W.heap.size:=NF _ _<|BW _ _ _ _<|(GR.1 eq) 0 _<|PY U bg;have eX:Hid (Calls prog 229 #[At U bg,sL bq bs (G+1) rN,Ba I J O Z zo ab ad zs h'] ar.drew (λe ap=>(∃ao,e=.returned (.tuple #[Ba a6 a7 a8 ba bb ea bd be ao,eL])/\Am (Ag ap.cell?<|uS W S) (.mk a6 a7 a8 ba bb ea bd be) ao)/\Below ar.drew.heap.size ar.drew ap)):=by
        have e:=fS (W:=ar.drew) (S:=(uS W S)) (x0:=U) (h:=bg) (PN co (w':=ar.drew) iz) (fb.on eB) (some ⟨bq,bs,none⟩) rN (ry.take<|G+1) ((Bi.take (.inr ⟨bq,bs,rfl,fh⟩) _).on<|eB.trans<|BW _ _) (by rw[C3,az.out];omega) (by rw[C3,az.out];omega) oM (.mk I J O Z zo ab ad zs) h' ee (λr bB=>by
         have c:=Nk bB;have c2:Jz (some<|.mk I J O Z zo ab ad zs)=cnt (.mk I J O Z zo ab ad zs):=rfl;have g0:cnt r<=1000:=by omega
         exact⟨YS r (oJ bB (λy e=>by cases e;exact gw) hq) g0,g0⟩)
        rw[show(ry.take<|G+1).length=G+1 by rw[C3,az.out];omega,gy]at e;unfold Iq at e;rw[eF.out,gz.out]at e;exact e
       obtain⟨k,m,u,g,o,rL,d,ks⟩:=U;have eX:Hid (Calls prog 229 #[Ba k m u g o rL d ks bg,sL bq bs (G+1) rN,Ba I J O Z zo ab ad zs h'] ar.drew (λe ap=>(∃ao,e=.returned (.tuple #[Ba a6 a7 a8 ba bb ea bd be ao,eL])/\Am (Ag ap.cell?<|uS W S) (.mk a6 a7 a8 ba bb ea bd be) ao)/\Below ar.drew.heap.size ar.drew ap)):=eX;have l8:(G:Int)+1<=(rN:Int):=by omega
       have l9:0<xs.length:=hE.out;have hD:(0:Int)<(xs.length:Int):=by omega
       have d8:Kc ar bC cr cl k m u g o rL d ks bg I J O Z zo ab ad zs h':=by
        obtain⟨d6,dj,bA,i1,i2,i4,i5,i8⟩:=i0;obtain⟨ja,jc,ji,jj,j0,j1,j2,j3⟩:=cF.1;exact⟨d6,dj,bA,i1,i2,i4,i5,i8,ja,jc,ji,jj,j0,j1,j2,j3⟩
       have j4:bC≠(W.heap.size+1):=by omega
       have ka:cl≠(W.heap.size+1):=by omega
       have eu:Kc ar.drew bC cr cl k m u g o rL d ks bg I J O Z zo ab ad zs h':=d8;have kb:Hid (∀(aA:World) (ao:Hd),Below ar.drew.heap.size ar.drew aA->Am (Ag aA.cell?<|uS W S) (.mk a6 a7 a8 ba bb ea bd be) ao->(Kc aA bC cr cl k m u g o rL d ks bg I J O Z zo ab ad zs h')/\(Kc (sB aA (W.heap.size+1) (iN a6) (iN a7) (iN a8) (iN ba) (.bool bb) (.slice ao.aa ea.length ao.ca) (.string bd)<|.slice ao.ak be.length ao.ck) bC cr cl k m u g o rL d ks bg I J O Z zo ab ad zs h')/\AC aA (W.heap.size+1) zN zH/\AC (As aA (W.heap.size+1) (.mk a6 a7 a8 ba bb ea bd be) ao) (W.heap.size+1) (.mk a6 a7 a8 ba bb ea bd be) ao/\Below W.heap.size W (As aA (W.heap.size+1) (.mk a6 a7 a8 ba bb ea bd be) ao)/\Am (Ag (As aA (W.heap.size+1) (.mk a6 a7 a8 ba bb ea bd be) ao).cell? S) (.mk a6 a7 a8 ba bb ea bd be) ao):=by
        intro aA ao kf e0;have c3:Below ar.heap.size ar aA:=((NB _ ar).drew).trans kf;have ch:=d8.on (w':=aA) (λo v=>Ai c3 _ _) λo v=>Ai c3 _ _;have ef:=bF.below c3;have dx:=bi.trans<|c3.mono bi.size;have dw:Az (W.heap.size+1) aA<|As aA (W.heap.size+1) (.mk a6 a7 a8 ba bb ea bd be) ao:=Cb
        exact⟨ch,ch.on (λo v=>(Vs j4 _ _ _ _ _ _ _ _).trans) λo v=>(Vs ka _ _ _ _ _ _ _ _).trans,ef,ef.store (.mk a6 a7 a8 ba bb ea bd be) ao,dx.trans<|dw.below oM dx.size,e0.on (Bv λq aw al=>by
         simp at al;exact⟨al.2,dw.block q aw al.1.2⟩)⟩
       go_upto_region 12 with fail
       go_region_held3 (λw'=>Kc w' bC cr cl k m u g o rL d ks bg I J O Z zo ab ad zs h') (first|with_reducible exact eu|with_reducible exact ch|with_reducible exact ed) (first|(go_at_call 229;(with_reducible refine rQ eX.out ?_);rintro e aA ⟨⟨ao,rfl,e0⟩,c3⟩;obtain⟨ch,ed,ef,g2,dx,kk⟩:=kb.out aA ao c3 e0;obtain⟨⟨z0,c9,da,z3,z4,z5,dd,de⟩,gu⟩:=id ef))
       have g5:Hid _:=kk;go_wp2;obtain⟨ko,dy⟩:=Aq<|As aA (W.heap.size+1) (.mk a6 a7 a8 ba bb ea bd be) ao;rw[dy.out]at g2 dx g5;have dz:=dy.out;simp only[As]at dz;rw[dz];obtain⟨bx,bY,b0,b1,b2,b4,b6,b7⟩:=g2.1;refine NZ (v:=.tuple #[At (.mk a6 a7 a8 ba bb ea bd be) ao,eL]) (by simp[results,results227,go_sem,At,bx,bY,b0,b1,b2,b4,b6,b7]) rfl ?_;rw[iw.out,gy.out];refine⟨⟨ao,by rw[eF.out,gz.out],?_⟩,dx⟩;rw[eF.out];exact g5
   .obtain rfl:t=N+1:=by omega
    have hK:decide (((N+1:Nat):Int)<((N+1:Nat):Int))=false:=NM oM;have eE:Hid<|GM us gs xs ry U ry.length=.ok U:=Pd d3 _ (rP _) (λs al=>er s (by rw[az.out]at al;omega));obtain⟨k,m,u,g,o,rL,d,ks⟩:=U;have d7:AW (Ag W.cell? S)<|Ag H.cell?<|uS W S:=Bv λk bo al=>⟨by simp[al];omega,bf.block k bo⟩;have dp:W.heap.size+1+1<=H.heap.size:=by have:=bu.1.lt;omega
    have kq:Hid (Calls prog 28 #[Ba k m u g o rL d ks bg] H λe ap=>(∃h',e=.returned (Ba k m u g o rL d ks h')/\Am (Ag ap.cell?<|uS W S) (.mk k m u g o rL d ks) h')/\Below H.heap.size H ap):=J0 (x:=(.mk k m u g o rL d ks)) (h:=bg) (PN co dp) (fb.on d7) hG hH;obtain⟨f0,f1,f2,f3,f4,f5,f6,f7⟩:=(eq.on d7).on<|BW _ _;go_wp2_with fail
    with_reducible refine rQ kq.out ?_
    rintro e e1 ⟨⟨hx,rfl,kv⟩,g6⟩;have e2:=bu.below g6;have g7:=bf.trans<|g6.mono bf.size;have g8:=e2.store (.mk k m u g o rL d ks) hx;have bi:Below W.heap.size W<|As e1 (W.heap.size+1) (.mk k m u g o rL d ks) hx:=g7.trans<|Cb.below oM g7.size
    have g9:Hid<|Am (Ag (As e1 (W.heap.size+1) (.mk k m u g o rL d ks) hx).cell? S) (.mk k m u g o rL d ks) hx:=kv.on (Bv λq aw al=>by
     simp at al;exact⟨al.2,Cb.block q aw al.1.2⟩)
    obtain⟨z0,c9,da,z3,z4,z5,dd,de⟩:=f8 e2.2;obtain⟨f0,f1,f2,f3,f4,f5,f6,f7⟩:=e2.1;go_wp2;obtain⟨ko,dy⟩:=Aq<|As e1 (W.heap.size+1) (.mk k m u g o rL d ks) hx;rw[dy.out]at g8 bi g9;have dz:=dy.out;simp only[As]at dz;rw[dz];obtain⟨bx,bY,b0,b1,b2,b4,b6,b7⟩:=g8.1;refine NZ (v:=.tuple #[At (.mk k m u g o rL d ks) hx,.nilIface]) (by simp[results,results227,go_sem,At,bx,bY,b0,b1,b2,b4,b6,b7]) rfl ?_;rw[d1.out,eE.out];exact⟨⟨hx,rfl,g9⟩,bi⟩
def Bx.wk(B:Bx):Fd->Nat->List Fl->Except Int Fd
 |f,0,_=>.ok f
 |f,n+1,L=>if B.passE f.t≠0 then .error (B.passE f.t)else match L with
  |q::L=>B.wk {B.fd q.x q.h q.ly with dir:=f.t} n L
  |[]=>if n≠0 then .error 5 else .ok {FP with dir:=f.t}
theorem Nn{E:Int}(e:B.passE f.t=E)(h:E≠0):B.wk f (n+1) L=.error E:=by simp_all [Bx.wk]
theorem Ng{q:Fl}(h:B.passE f.t=0):B.wk f (n+1) (q::L)=B.wk {B.fd q.x q.h q.ly with dir:=f.t} n L:=by
 rw[Bx.wk];rw[NO<|by simp[h]]
theorem PO(h:B.passE f.t=0):B.wk f (n+1) []=if n≠0 then .error 5 else .ok {FP with dir:=f.t}:=by grind [Bx.wk]
structure Mp (w:World) (vn vf:Value) (L:List Fl) (g g2 cn cf:Nat):Prop where
 en:vn=sL g 0 L.length cn
 ef:vf=sL g2 0 L.length cf
 hn:L.length<=cn
 hf:L.length<=cf
 nd:∀(i:Nat) f,L[i]? =some f->A9 w.cell? g (i*8) f.x f.h
 ly:∀(i:Nat) f,L[i]? =some f->w.cell? ⟨g2,i,none⟩=some (iN f.ly)
theorem Mp.of{n₀:Nat}{A:World}{vn vf:Value}(h:Hp S n₀ A vn vf L L)(al:L≠[]):∃g G cn H,Mp A vn vf L g G cn H/\n₀<=g/\n₀<=G:=by
 rcases YC h.rn with e|⟨g,cap,rfl,ao,I,J,_⟩
 .grind
 .rcases h.rf.2 with⟨rfl,ap⟩|⟨G,O,ar,rfl,hb,Z,ab,aw,az,ad⟩
  .grind
  .exact⟨g,G,cap,O,⟨rfl,rfl,I,ab,J,λi f ak=>Iu Z ad<|Xx L i f ak⟩,by omega,by omega⟩
theorem Yz{A M M' C:List Value}(h:Bj w b 0<|A++M++C)(H:M'.length=M.length)(J:n=A.length):Bj (w.setCells b n M') b 0<|A++M'++C:=by
 subst J;have O:Bj w b A.length M:=λi v G=>by
  have Z:i<M.length:=(NE.1 G).1;have:=h (A.length+i) v (by rw[R9,CG oM,show A.length+i-A.length=i by omega,C5 Z];exact G);grind
 intro i v G;rw[RT];by_cases I:i<A.length
 .rw[<-J1,KC _ _ _ (λj ab e=>by injection e with _ e2;omega)]
  rw[R9,C5 I]at G;have:=h i v (by rw[R9,C5 I];exact G);grind
 .by_cases ad:i<A.length+M.length
  .rw[R9,CG oM,C5 oM]at G
   have:=FC M' O H.symm (i-A.length) v G;grind
  .rw[<-J1,KC _ _ _ (λj ab e=>by injection e with _ e2;omega)]
   rw[R9,CG oM,CG oM]at G;have:=h i v (by rw[R9,CG oM,CG oM,<-H];exact G);grind
theorem nS(t:Th)(h:Bj w b 0 f.l):Bj (w.setCells b 5 t.l) b 0<|Fd.l {f with dir:=t}:=by
 have G:f.l=f.t.l++f.dir.l++([.slice f.na f.ry.length f.nc,.bool f.there]++Bq f.x f.h++[iN f.ly]):=by unfold Fd.l;simp only[R9]
 have I:Fd.l {f with dir:=t}=f.t.l++t.l++([.slice f.na f.ry.length f.nc,.bool f.there]++Bq f.x f.h++[iN f.ly]):=by unfold Fd.l;simp only[R9]
 have H:=G▸h;have J:=Yz (A:=f.t.l) (M:=f.dir.l) (M':=t.l) (C:=[.slice f.na f.ry.length f.nc,.bool f.there]++Bq f.x f.h++[iN f.ly]) (n:=5) H rfl rfl;grind
theorem eY(an:Option Addr)(rN:Nat)(ry:List BA)(h:Bj w b 0 f.l):Bj (w.setCells b 10 [.slice an ry.length rN]) b 0<|Fd.l {f with na:=an,nc:=rN,ry:=ry}:=by
 have G:f.l=(f.t.l++f.dir.l)++[.slice f.na f.ry.length f.nc]++([.bool f.there]++Bq f.x f.h++[iN f.ly]):=by unfold Fd.l;simp only[Cd,CN]
 have I:Fd.l {f with na:=an,nc:=rN,ry:=ry}=(f.t.l++f.dir.l)++[.slice an ry.length rN]++([.bool f.there]++Bq f.x f.h++[iN f.ly]):=by unfold Fd.l;simp only[Cd,CN]
 have H:=G▸h;have J:=Yz (A:=f.t.l++f.dir.l) (M:=[.slice f.na f.ry.length f.nc]) (M':=[.slice an ry.length rN]) (C:=[.bool f.there]++Bq f.x f.h++[iN f.ly]) (n:=10) H rfl rfl;grind
theorem O9{c:AR}(h:∀o,c ⟨b,o,none⟩=([.bool false,iN 0,iN 0,iN 0,.bool false,.bool false,iN 0,iN 0,iN 0,.bool false,nL,.bool false,iN 0,iN 0,iN 0,iN 0,.bool false,nL,.string ⟨#[]⟩,nL,iN 0]:List Value)[o]?):Dn c b:=λo s v G H I=>by
 rw[h]at G H;exact match o,G,H with
 |0,G,H=>by simp at G
 |1,G,H=>by simp at G
 |2,G,H=>by simp at G
 |3,G,H=>by simp at G
 |4,G,H=>by simp at G
 |5,G,H=>by simp at G
 |6,G,H=>by simp at G
 |7,G,H=>by simp at G
 |8,G,H=>by simp at G
 |9,G,H=>by simp at G
 |10,G,H=>by simp at G
 |11,G,H=>by simp at G
 |12,G,H=>by simp at G
 |13,G,H=>by simp at G
 |14,G,H=>by simp at G
 |15,G,H=>by simp at G
 |16,G,H=>by simp at G
 |17,G,H=>by simp at G
 |18,G,H=>by
  have e:nL=v:=by simpa using H
  subst e;exact I
 |19,G,H=>by simp at G
 |20,G,H=>by simp at G
 |n+21,G,H=>by simp at G
theorem Mp.below{vn vf:Value}{g H cn I:Nat}(h:Mp w vn vf L g H cn I)(hb:Bw w w'):Mp w' vn vf L g H cn I:=
 ⟨h.en,h.ef,h.hn,h.hf,λi f G=>(h.nd i f G).on<|Ai hb,λi f G=>Aj hb<|h.ly i f G⟩
abbrev F9(w:World)(b:Nat)(k m u g:Int)(o:Bool)(rL:List Kv)(d:BA)(ks:Ay)(h:Hd)(G i:Nat)(v:Value):Prop:=Ce w b 0 (iN k)/\Ce w b 1 (iN m)/\Ce w b 2 (iN u)/\Ce w b 3 (iN g)/\Ce w b 4 (.bool o)/\Ce w b 5 (.slice h.aa rL.length h.ca)/\Ce w b 6 (.string d)/\Ce w b 7 (.slice h.ak ks.length h.ck)/\Ce w G i v
theorem F9.on{k m u g:Int}{o:Bool}{rL:List Kv}{d:BA}{ks:Ay}{h:Hd}{i:Nat}(T:F9 w b k m u g o rL d ks h G i v)(q:Bw w w'):F9 w' b k m u g o rL d ks h G i v:=by grind [Aj]
abbrev N8(w:World)(b:Nat)(k m u g:Int)(o:Bool)(rL:List Kv)(d:BA)(ks:Ay)(h:Hd):Prop:=Ce w b 0 (iN k)/\Ce w b 1 (iN m)/\Ce w b 2 (iN u)/\Ce w b 3 (iN g)/\Ce w b 4 (.bool o)/\Ce w b 5 (.slice h.aa rL.length h.ca)/\Ce w b 6 (.string d)/\Ce w b 7 (.slice h.ak ks.length h.ck)
def Mn(R:Except Int Fd)(an:Option Addr)(rN:Nat)(ry:List BA):Value:=match R with
 |.ok f=>.tuple #[Fd.v {f with na:=an,nc:=rN,ry:=ry},Ao 0]
 |.error E=>.tuple #[FP.v,Ao E]
theorem LG{H I:World}{p:Nat}{cs:List Value}(hb:Bw H I):AW (Ag H.cell? λk=>k==n) (I.setCells n p cs).cell?:=λq v G=>by
 have J:q.block≠n:=λe=>by
  unfold Ag at G;rw[NS<|by simp[e]]at G;cases G
 rw[Ck J];exact Ai hb q v<|BW _ _ q v G
abbrev Qk:=λg G I J O Z ab (H:Hd) (ad:List Kv) qd (ak:Ay) g2 ql (X:World)=>(Ce X g ((G+1)*8) (iN I)/\Ce X g ((G+1)*8+1) (iN J)/\Ce X g ((G+1)*8+2) (iN O)/\Ce X g ((G+1)*8+3) (iN Z)/\Ce X g ((G+1)*8+4) (.bool ab)/\Ce X g ((G+1)*8+5) (.slice H.aa ad.length H.ca)/\Ce X g ((G+1)*8+6) (.string qd)/\Ce X g ((G+1)*8+7) (.slice H.ak ak.length H.ck)/\Ce X g2 (G+1) (iN ql):Prop)
theorem z21:∃c:List Value,c.length=21/\(∀v∈c,v.oneCell'=true)/\Hid (Value.agg #[.bool false,iN 0,iN 0,iN 0,.bool false,.bool false,iN 0,iN 0,iN 0,.bool false,nL,.bool false,iN 0,iN 0,iN 0,iN 0,.bool false,nL,.string ⟨#[]⟩,nL,iN 0]=Cg c):=⟨DB,rfl,by simp[Value.oneCell'],rfl⟩
theorem Le{w0 G:World}(RR:Bj G n 0 DB)(O:∀q,G.frozen? (aD n q)=false)(Z:w0.heap.size<=n)(B:Bw w0 G):∃c0 H,Hid (c0.length=21)/\Hid (∀v∈c0,v.oneCell'=true)/\Value.agg #[.bool false,iN 0,iN 0,iN 0,.bool false,.bool false,iN 0,iN 0,iN 0,.bool false,nL,.bool false,iN 0,iN 0,iN 0,iN 0,.bool false,nL,.string ⟨#[]⟩,nL,iN 0]=Cg c0/\(storeCells (aD n 0) c0 0).run prog G=.ok () H/\Hid (Bj H n 0 c0)/\Hid (Bw w0 H)/\Hid (H=G.setCells n 0 c0):=by
 obtain⟨c0,I,J,ab⟩:=z21;exact⟨c0,_,I,J,ab,En RR O I.symm J,FC c0 RR I.symm,Fc c0 Z B,rfl⟩
theorem fq(h:A6 w b B){an:Option Addr}{rN:Nat}(g8:Bi w.cell? an ry)(g9:B.xs.length<=1000)(ha:ry.length<=1000)(hc:EM<|A5 B.xs)(he:GH<|A5 B.xs)(hf:AX B.xs []≠[])(hg:∀j q r,AX B.xs (ry.take j)=q::r->FL q.1)(fd:∀j q r,AX B.xs (ry.take j)=q::r->0<=(B.th true q.1).m/\(B.th true q.1).m<=4095):
 Calls prog 211 #[pO b 0,.slice an ry.length rN] w λe w'=>(∃L:List Fl,(∃f0,L[0]? =some f0/\e=.returned (Mn (B.wk (B.fd f0.x f0.h f0.ly) ry.length<|L.drop 1) an rN ry))/\(∀(j:Nat) f,L[j]? =some f->∃q r,AX B.xs (ry.take j)=q::r/\f.x=q.1.with []/\f.ly=q.2)/\(L.length=ry.length+1\/L.length<=ry.length/\AX B.xs (ry.take L.length)=[])/\∀f∈L,Am w'.cell? f.x f.h)/\Bw w w':=by
 have fe:=Bj.new w _ rfl DB 216;have em:Bw w<|w.alloc A2:=(NB _ _).alloc (rP _) _;have hh:∀q,(w.alloc A2).frozen? ⟨w.heap.size,q,none⟩=false:=λq=>RB _ _ _ _ rfl;have hi:∀o,(w.alloc A2).cell? ⟨w.heap.size,o,none⟩=DB[o]?:=λo=>by rw[rO _ _ _ _ rfl];simp
 have en:=h.below em;have hj:Hid _:=VD (w:=(w.alloc A2)) (S:=λ_=>false) (cap:=B.lc) (rN:=rN) (λ_ hk=>by cases hk) (by rw[Fe];exact en.lay) (by rw[Fe];exact g8.on<|Ai em) g9 ha hc he;have c2:=en.cells.2.2.1;have ff:Hid _:=em;have hl:Hid _:=en;go_enter func211,ntmps211;go_upto_region 1 with fail
 generalize(w.alloc A2)=hm at*;go_wp2_with fail
 refine rQ hj ?_;rintro e I ⟨⟨vn,vf,L,rfl,fg,ch,dn⟩,cl⟩;have eo:L≠[]:=λe=>by
  subst e;rcases dn with q|q
  .simp at q
  .exact hf q.2
 obtain⟨g,bb,cn,hS,b2,hT,hU⟩:=Mp.of fg eo;obtain⟨f0,bB⟩:∃f0,L[0]? =some f0:=⟨_,NA (by cases L;exact absurd rfl eo;simp)⟩;have fh:∀f∈L,FL f.x:=λf bC=>by
  obtain⟨j,hn⟩:=R7 bC;obtain⟨q,r,c8,c9,_⟩:=ch j f hn;rw[c9];have:=hg j q r c8;generalize q.1=x at this⊢;obtain⟨k,m,u,g,o,rL,d,ks⟩:=x;exact this
 have bd:=b2.nd 0 f0 bB;have LA:=b2.ly 0 f0 bB;obtain rfl:=b2.en;obtain rfl:=b2.ef;have ep:=fh f0<|NW bB;obtain⟨co,hx,fl⟩:=f0;dsimp only at bd LA ep;obtain⟨k,m,u,a7,o,rL,d,ks⟩:=co;obtain⟨n0,eq,er,es,eu,ev,ew,ey⟩:=bd;rw[tB]at n0 eq er es eu ev ew ey;rw[RT]at eq er es eu ev ew ey;have az:g≠I.heap.size:=λe=>by have:=NF _ _ n0;simp only at this;omega
 have ez:bb≠I.heap.size:=λe=>by have:=NF _ _ LA;simp only at this;omega
 have hV:0<L.length:=CC.2 eo;have hW:(0:Int)<(L.length:Int):=by omega
 obtain⟨ar,dp⟩:∃ar:List Value,JH (Fd.l<|B.fd (.mk k m u a7 o rL d ks) hx fl) ar:=⟨_,rfl⟩;have be:ar.length=21:=by rw[<-(show _=_ from dp)];rfl
 have bf:Hid<|ar.length=21:=be;have dr:Hid (∀v∈ar,v.oneCell'=true):=by
  show∀v∈ar,_;rw[<-(show _=_ from dp)];simp[Value.oneCell',Fd.l,Bx.fd,Bq,Lf]
 have b7:=Cn ar;unfold Value.cells at b7;have bF:Hid<|(B.fd (.mk k m u a7 o rL d ks) hx fl).v=Cg ar:=by show _=_;unfold Fd.v Cg;rw[show _=_ from dp]
 have ds:=hl.out.below cl;have fo:Hid _:=Sq (x:=.mk k m u a7 o rL d ks) (hx:=hx) (ds.below (NB _ _).drew) ep fl;have fp:Hid _:=Sq (x:=.mk k m u a7 o rL d ks) (hx:=hx) ((ds.below<|CU I A2).below (NB _ _).drew) ep fl;rw[bF.out]at fp fo;have cr:Hid _:=ff.trans<|cl.mono ff.size;have eB:=fe.below cl;have eD:w.heap.size<hm.heap.size:=NF _ _<|fe 0 _ rfl;have ho:=cl;have eE:w.heap.size<I.heap.size:=N1 eD cl.size;have eF:∀q,I.frozen? ⟨w.heap.size,q,none⟩=false:=λq=>(cl.frozen (p:=⟨w.heap.size,q,none⟩) eD).trans<|hh q
 have eL:Hid (∀f∈L,Am (Ag I.cell? λk=>k==w.heap.size) f.x f.h):=λf bC=>Ie (λhp hq=>by
  have e:hp=w.heap.size:=by simpa using hq
  subst e;exact O9 λq=>(ho.cell (p:=⟨w.heap.size,q,none⟩) eD).trans<|hi q)<|(fg.nd f bC).on<|BW _ _
 have a6:F9 I.drew g k m u a7 o rL d ks hx bb 0<|iN fl:=⟨n0,eq,er,es,eu,ev,ew,ey,LA⟩;have a8:F9 (I.alloc A2).drew g k m u a7 o rL d ks hx bb 0<|iN fl:=F9.on (w:=I) a6<|(CU I _).drew;have da:=Bj.new I _ rfl DB 216;have da:Bj (I.alloc A2).drew I.heap.size 0 _:=λi v eX=>da i v eX;have fs:∀q,(I.alloc A2).drew.frozen? ⟨I.heap.size,q,none⟩=false:=λq=>RB _ _ _ _ rfl
 have ft:I.heap.size<(I.alloc A2).drew.heap.size:=NF _ _<|da 0 _ rfl;go_upto_region 2 with fail
 go_region_held3 (λw'=>F9 w' g k m u a7 o rL d ks hx bb 0<|iN fl) (first|with_reducible exact a6|with_reducible exact a8|with_reducible exact aA|with_reducible exact bg|with_reducible exact hr)
  (first|(go_at_call 248;refine rQ fp ?_;rintro e O ⟨rfl,Z⟩;have aA:=a8.on Z;have bg:F9 (O.setCells I.heap.size 0 ar) g k m u a7 o rL d ks hx bb 0<|iN fl:=⟨(Ck az).trans aA.1,(Ck az).trans aA.2.1,(Ck az).trans aA.2.2.1,(Ck az).trans aA.2.2.2.1,(Ck az).trans aA.2.2.2.2.1,(Ck az).trans aA.2.2.2.2.2.1,(Ck az).trans aA.2.2.2.2.2.2.1,(Ck az).trans aA.2.2.2.2.2.2.2.1,(Ck ez).trans aA.2.2.2.2.2.2.2.2⟩;have b4:=En (P:=prog) (da.below Z) (λq=>(Z.frozen (p:=⟨I.heap.size,q,none⟩) ft).trans<|fs q) bf.symm dr)|(go_at_call 248;refine rQ fo ?_;rintro e O ⟨rfl,Z⟩;have aA:=a6.on Z;have bg:=aA.on<|CU O A2;have b6:g≠O.heap.size:=λe=>(by have:=NF _ _ aA.1;simp only at this;omega);have hs:bb≠O.heap.size:=λe=>(by have:=NF _ _<|aA.2.2.2.2.2.2.2.2;simp only at this;omega);have hr:F9 ((O.alloc A2).setCells O.heap.size 0 ar) g k m u a7 o rL d ks hx bb 0<|iN fl:=⟨(Ck b6).trans bg.1,(Ck b6).trans bg.2.1,(Ck b6).trans bg.2.2.1,(Ck b6).trans bg.2.2.2.1,(Ck b6).trans bg.2.2.2.2.1,(Ck b6).trans bg.2.2.2.2.2.1,(Ck b6).trans bg.2.2.2.2.2.2.1,(Ck b6).trans bg.2.2.2.2.2.2.2.1,(Ck hs).trans bg.2.2.2.2.2.2.2.2⟩;have b4:=En (P:=prog) (Bj.new O _ rfl DB 216) (λq=>RB _ _ _ _ rfl) bf.symm dr))
 all_goals
  first
   |(have du:Hid _:=Fc (b:=I.heap.size) (p:=0) ar (rP _)<|((CU I A2).drew).trans<|Z.mono ((CU I A2).drew).size
     have cx:Hid _:=FC ar (da.below Z) bf.symm;have cD:∀q,(O.setCells I.heap.size 0 ar).frozen? ⟨I.heap.size,q,none⟩=false:=λq=>by rw[CF];exact(Z.frozen (p:=⟨I.heap.size,q,none⟩) ft).trans (fs q)
     generalize O.setCells I.heap.size 0 ar=fx at du cx cD⊢;obtain⟨H,dd⟩:∃H,H=I.heap.size:=⟨_,rfl⟩;have e0:I.heap.size<=H:=by omega
     rw[<-dd]at cx cD⊢;clear dd)
   |(have e1:I.heap.size<=O.heap.size:=Z.size
     have du:Hid _:=Fc (b:=O.heap.size) (p:=0) ar e1<|((NB _ I).drew.trans Z).alloc e1 A2;have cx:Hid _:=FC ar (Bj.new O _ rfl DB 216) bf.symm;have cD:∀q,((O.alloc A2).setCells O.heap.size 0 ar).frozen? ⟨O.heap.size,q,none⟩=false:=λq=>by rw[CF];exact RB _ _ _ _ rfl
     generalize(O.alloc A2).setCells O.heap.size 0 ar=fx at du cx cD⊢;obtain⟨H,dd⟩:∃H,H=O.heap.size:=⟨_,rfl⟩;have e0:I.heap.size<=H:=by omega
     rw[<-dd]at cx cD⊢;clear dd e1)
  obtain⟨e2,dw⟩:∃R,Hid<|B.wk (B.fd (.mk k m u a7 o rL d ks) hx fl) ry.length (L.drop 1)=R:=⟨_,rfl⟩;have ht:Hid<|Bj fx H 0 (B.fd (.mk k m u a7 o rL d ks) hx fl).l:=by rw[show _=_ from dp];exact cx
  have hu:Hid<|0<=(B.fd (.mk k m u a7 o rL d ks) hx fl).t.m/\(B.fd (.mk k m u a7 o rL d ks) hx fl).t.m<=4095:=by
   obtain⟨q,r,c8,c9,_⟩:=ch 0 _ bB;have:=fd 0 q r c8;obtain⟨⟨hv,hw,hy,hz,hA,hB,hC,hD⟩,hE⟩:=q;cases c9;exact this
  have hG:Hid _:=cD;go_wp2_with fail
  go_loopw [33] (λi wr=>∃(G:Nat) (f:Fd),G<=ry.length/\i=iN G/\Hid (B.wk f (ry.length-G) (L.drop<|G+1)=e2)/\Hid (Bj wr H 0 f.l)/\Hid (Bw I wr)/\Hid (∀q,wr.frozen? ⟨H,q,none⟩=false)/\Hid (0<=f.t.m/\f.t.m<=4095)) (λi _=>ry.length-(intOf i).toNat)
  case atStart=>exact⟨0,_,N7 _,rfl,dw,ht,du,hG,hu⟩
  case round=>
   obtain⟨G,f,hX,rfl,de,bG,dx,gb,hH⟩:=hrel;by_cases hY:G<ry.length
   .have hd:decide ((G:Int)<(ry.length:Int))=true:=NY oM
    obtain⟨⟨ad,ak,al,ao,ap⟩,dy,na,nc,dz,dT,co,d0,d1⟩:=f;have t0:Ce wr H 0<|.bool ad:=bG 0 _ rfl;have hI:Ce wr H 1<|iN ak:=bG 1 _ rfl;have hJ:Ce wr H 2<|iN al:=bG 2 _ rfl;have t3:Ce wr H 3<|iN ao:=bG 3 _ rfl;have t4:Ce wr H 4<|.bool ap:=bG 4 _ rfl;have gg:Hid _:=iE (w:=wr) (ds.below dx) ⟨ad,ak,al,ao,ap⟩ hH.out;obtain⟨E,dg⟩:=Aq<|B.passE ⟨ad,ak,al,ao,ap⟩;rw[dg.out]at gg;obtain⟨n,d2⟩:∃n,ry.length-G=n+1:=⟨ry.length-G-1,by omega⟩;go_wp2_with fail
    refine rQ gg ?_;rintro e a1 ⟨rfl,e3⟩;have ab:=dx.out.trans<|e3.mono dx.size;have b9:=bG.out.below e3;by_cases d3:E=0
    .subst d3
     rw[show Ao 0=Value.nilIface from rfl];have hK:H<a1.heap.size:=NF _ _<|b9 0 _ rfl;have hL:H<wr.heap.size:=NF _ _<|bG 0 _ rfl;have d4:=Bj.new a1 _ rfl DB 216;have cF:Bw a1<|a1.alloc A2:=CU a1 _;have d5:∀q,(a1.alloc A2).frozen? ⟨a1.heap.size,q,none⟩=false:=λq=>RB _ _ _ _ rfl;have d6:a1.heap.size<=a1.heap.size:=rP _
     have hZ:IntKind.i64.wrap ((G:Int)+1)=(G:Int)+1:=DQ oM oM;have h0:((G:Int)+1).toNat=G+1:=by omega
     go_upto_region 10 with fail
     generalize(a1.alloc A2)=d7 at d4 cF d5⊢;obtain⟨J,gl⟩:∃J,J=a1.heap.size:=⟨_,rfl⟩;rw[<-gl]at d4 d5 d6⊢;have d6:a1.heap.size<=J:=by omega
     clear gl;go_upto_if 49 with fail
     go_cut []from 46 to 65 (λe4=>∃F:Fd,Bj e4 J 0 F.l/\Bw a1 e4/\(∀q,e4.frozen? ⟨J,q,none⟩=false)/\(0<=F.t.m/\F.t.m<=4095)/\B.wk {F with dir:=⟨ad,ak,al,ao,ap⟩} (ry.length-(G+1)) (L.drop<|G+1+1)=e2)
     case first=>
      by_cases e5:G+1<L.length
      .have hM:decide ((G:Int)+1<(L.length:Int))=true:=NY oM
       obtain⟨ce,c3⟩:∃ce,L[G+1]? =some ce:=⟨_,NA e5⟩;have d8:L.drop (G+1)=ce::L.drop (G+1+1):=by
        rw[N9 e5];rw[NA e5]at c3;cases c3;rfl
       have e6:=ab.trans<|cF.mono ab.size;have bd:=(b2.below e6).nd (G+1) ce c3;have LA:=(b2.below e6).ly (G+1) ce c3;have go:=fh ce<|NW c3;obtain⟨hN,bi,bk⟩:=ce;dsimp only at bd LA go;obtain⟨bl,bn,bo,bp,bq,bs,bu,bx⟩:=hN;have dj:Hid<|0<=(B.fd (.mk bl bn bo bp bq bs bu bx) bi bk).t.m/\(B.fd (.mk bl bn bo bp bq bs bu bx) bi bk).t.m<=4095:=by
        obtain⟨q,r,c8,c9,_⟩:=ch _ _ c3;have:=fd _ q r c8;obtain⟨⟨hv,hw,hy,hz,hA,hB,hC,hD⟩,hE⟩:=q;cases c9;exact this
       have az:g≠J:=λe=>by have:=NF _ _ (b2.nd 0 _ bB).1;simp only at this;have:=ab.size;omega
       have ez:bb≠J:=λe=>by have:=NF _ _<|b2.ly 0 _ bB;simp only at this;have:=ab.size;omega
       have a6:(Qk g G bl bn bo bp bq bi bs bu bx bb bk d7.drew):=⟨bd.1,bd.2.1,bd.2.2.1,bd.2.2.2.1,bd.2.2.2.2.1,bd.2.2.2.2.2.1,bd.2.2.2.2.2.2.1,bd.2.2.2.2.2.2.2,LA⟩;obtain⟨f2,d9⟩:∃f2:List Value,JH (Fd.l<|B.fd (.mk bl bn bo bp bq bs bu bx) bi bk) f2:=⟨_,rfl⟩;have be:f2.length=21:=by rw[<-(show _=_ from d9)];exact FU _
       have bf:Hid<|f2.length=21:=be;have dr:Hid (∀v∈f2,v.oneCell'=true):=by show∀v∈f2,_;rw[<-(show _=_ from d9)];exact FT _
       have b7:=Cn f2;unfold Value.cells at b7;have bF:Hid<|(B.fd (.mk bl bn bo bp bq bs bu bx) bi bk).v=Cg f2:=by show _=_;unfold Fd.v Cg;rw[show _=_ from d9]
       have gq:Hid _:=Sq (x:=.mk bl bn bo bp bq bs bu bx) (hx:=bi) ((ds.below e6).below (NB _ _).drew) go bk;rw[bF.out]at gq;have e7:Bj d7.drew J 0 _:=λi v eX=>d4 i v eX;have gr:∀q,d7.drew.frozen? ⟨J,q,none⟩=false:=λq=>d5 q
       have gu:J<d7.drew.heap.size:=NF _ _<|e7 0 _ rfl;have h1:(G:Int)+1<(L.length:Int):=by omega
       have h2:(0:Int)<=(G:Int)+1:=by omega
       go_upto_region 12 with fail
       go_region_held3 (λw'=>(Qk g G bl bn bo bp bq bi bs bu bx bb bk w')) (first|with_reducible exact a6|with_reducible exact a8|with_reducible exact aA) (first|(go_at_call 248;refine rQ gq.out ?_;rintro e O ⟨rfl,Z⟩;have a8:(Qk g G bl bn bo bp bq bi bs bu bx bb bk O):=⟨Aj Z a6.1,Aj Z a6.2.1,Aj Z a6.2.2.1,Aj Z a6.2.2.2.1,Aj Z a6.2.2.2.2.1,Aj Z a6.2.2.2.2.2.1,Aj Z a6.2.2.2.2.2.2.1,Aj Z a6.2.2.2.2.2.2.2.1,Aj Z a6.2.2.2.2.2.2.2.2⟩;have aA:(Qk g G bl bn bo bp bq bi bs bu bx bb bk<|O.setCells J 0 f2):=⟨(Ck az).trans a8.1,(Ck az).trans a8.2.1,(Ck az).trans a8.2.2.1,(Ck az).trans a8.2.2.2.1,(Ck az).trans a8.2.2.2.2.1,(Ck az).trans a8.2.2.2.2.2.1,(Ck az).trans a8.2.2.2.2.2.2.1,(Ck az).trans a8.2.2.2.2.2.2.2.1,(Ck ez).trans a8.2.2.2.2.2.2.2.2⟩;have b4:=En (P:=prog) (e7.below Z) (λq=>(Z.frozen (p:=⟨J,q,none⟩) gu).trans<|gr q) bf.out.symm dr.out))
       have ba:Hid _:=FC f2 (e7.below Z) bf.symm;have bH:Bw a1<|O.setCells J 0 f2:=Fc f2 d6<|cF.drew.trans<|Z.mono cF.drew.size;have bA:Hid (∀q,(O.setCells J 0 f2).frozen? ⟨J,q,none⟩=false):=λq=>by rw[CF];exact(Z.frozen (p:=⟨J,q,none⟩) gu).trans (gr q)
       generalize O.setCells J 0 f2=aw at ba bH bA⊢;have ba:Hid<|Bj aw J 0 (B.fd (.mk bl bn bo bp bq bs bu bx) bi bk).l:=by rw[show _=_ from d9];exact ba
       have dk:Hid<|B.wk {(B.fd (.mk bl bn bo bp bq bs bu bx) bi bk)with dir:=⟨ad,ak,al,ao,ap⟩} (ry.length-(G+1)) (L.drop<|G+1+1)=e2:=by
        show _=_;rw[<-de.out,d2,d8,Ng (f:=⟨⟨ad,ak,al,ao,ap⟩,dy,na,nc,dz,dT,co,d0,d1⟩) dg.out,show ry.length-(G+1)=n by omega]
       go_wp2_with fail
       go_meet
       exact⟨_,ba,bH,bA,dj,dk⟩
      .have hM:decide ((G:Int)+1<(L.length:Int))=false:=NM oM
       have d8:L.drop (G+1)=[]:=List.drop_eq_nil_of_le oM;by_cases h3:G+1<ry.length
       .have hO:decide ((G:Int)+1<(ry.length:Int))=true:=NY oM
        have ab:=ab.trans<|cF.mono ab.size;have e8:=cr.out.trans<|ab.mono cr.out.size;have c4:=eB.below ab;obtain⟨c0,cf,bf,_,e9,b4,bY,b0,fa⟩:=Le c4 (λq=>(ab.frozen (p:=⟨w.heap.size,q,none⟩) eE).trans<|eF q) (rP _) e8;have c5:Hid<|AW (Ag I.cell? λk=>k==w.heap.size) cf.cell?:=by show AW _ _;rw[fa.out];exact LG ab
        have dm:=run_loadVar_mid (P:=prog) cf w.heap.size 0 216 c0 _ bY rfl rfl (by rw[bf.out];rfl);have b7:=Cn c0;unfold Value.cells at b7;have bF:Hid<|FP.v=.agg c0.toArray:=e9;go_wp2;refine NZ (v:=.tuple #[.agg c0.toArray,.iface 101<|iN 5]) ?_ rfl ⟨⟨L,⟨_,bB,?_⟩,ch,dn,λf bC=>(eL f bC).on c5.out⟩,b0⟩
        .simp[results,results211,asAddr,dm]
        .rw[dw.out,<-de.out,d2,d8,PO (f:=⟨⟨ad,ak,al,ao,ap⟩,dy,na,nc,dz,dT,co,d0,d1⟩) dg.out,NS oM,Mn,bF.out];rfl
       .have hO:decide ((G:Int)+1<(ry.length:Int))=false:=NM oM
        go_wp2_with fail
        go_meet
        exact⟨FP,d4,cF,d5,⟨by decide,by decide⟩,by rw[<-de.out,d2,d8,PO (f:=⟨⟨ad,ak,al,ao,ap⟩,dy,na,nc,dz,dT,co,d0,d1⟩) dg.out,NO oM,show ry.length-(G+1)=0 by omega,Bx.wk]⟩
     case rest=>
      obtain⟨F,ba,bH,bA,dj,dk⟩:=hcut;generalize wc=aw at*;have ba:=hid ba;have bA:=hid bA;have dj:=hid dj;have dk:=hid dk;obtain⟨t,⟨gv,gw,gx,gy,gz⟩,eb,ed,fn,ee,ef,eg,ej⟩:=F;obtain⟨t0,hI,hJ,t3,t4⟩:Ce aw H 0 (.bool ad)/\Ce aw H 1 (iN ak)/\Ce aw H 2 (iN al)/\Ce aw H 3 (iN ao)/\Ce aw H 4 (.bool ap):=⟨Aj bH<|b9 0 _ rfl,Aj bH<|b9 1 _ rfl,Aj bH<|b9 2 _ rfl,Aj bH<|b9 3 _ rfl,Aj bH<|b9 4 _ rfl⟩;obtain⟨z0,h4,h5,z3,z4⟩:Ce aw J 5 (.bool gv)/\Ce aw J 6 (iN gw)/\Ce aw J 7 (iN gx)/\Ce aw J 8 (iN gy)/\Ce aw J 9 (.bool gz):=⟨ba 5 _ rfl,ba 6 _ rfl,ba 7 _ rfl,ba 8 _ rfl,ba 9 _ rfl⟩;have h6:=bA.out 5;have h7:=bA.out 6;have h8:=bA.out 7;have h9:=bA.out 8;have ih:=bA.out 9;go_upto_region 16 with fail
      obtain⟨cs,b1⟩:∃cs:List Value,JH (Fd.l (⟨t,⟨ad,ak,al,ao,ap⟩,eb,ed,fn,ee,ef,eg,ej⟩:Fd)) cs:=⟨_,rfl⟩;have be:cs.length=21:=by rw[<-(show _=_ from b1)];exact FU _
      have fb:∀v∈cs,v.oneCell'=true:=by rw[<-(show _=_ from b1)];exact FT _
      have g0:Bj (aw.setCells J 5 [.bool ad,iN ak,iN al,iN ao,.bool ap]) J 0 cs:=by
       rw[<-(show _=_ from b1)];exact nS (f:=⟨t,⟨gv,gw,gx,gy,gz⟩,eb,ed,fn,ee,ef,eg,ej⟩) ⟨ad,ak,al,ao,ap⟩ ba
      have ek:Bw a1<|aw.setCells J 5 [.bool ad,iN ak,iN al,iN ao,.bool ap]:=Fc _ d6 bH;have hP:∀q,(aw.setCells J 5 [.bool ad,iN ak,iN al,iN ao,.bool ap]).frozen? ⟨J,q,none⟩=false:=λq=>by rw[CF];exact bA q
      have fc:(((((aw.setCell ⟨J,5,none⟩<|.bool ad).setCell ⟨J,6,none⟩<|iN ak).setCell ⟨J,7,none⟩<|iN al).setCell ⟨J,8,none⟩<|iN ao).setCell ⟨J,9,none⟩<|.bool ap)=aw.setCells J 5 [.bool ad,iN ak,iN al,iN ao,.bool ap]:=rfl;rw[fc];generalize aw.setCells J 5 [.bool ad,iN ak,iN al,iN ao,.bool ap]=c6 at g0 ek hP⊢;have g2:=b9.below ek;have g5:∀q,c6.frozen? ⟨H,q,none⟩=false:=λq=>(ek.frozen (p:=⟨H,q,none⟩) hK).trans<|(e3.frozen (p:=⟨H,q,none⟩) hL).trans<|gb q;refine tn ?_
      refine wpList_load_mid rfl _ _ rfl _ _ rfl cs _ g0 rfl rfl (by rw[be];rfl) ?_;simp only[tk];have b4:=En (P:=prog) g2 g5 (by rw[be];exact FU _) fb;have bY:Hid _:=FC cs g2 (by rw[be];exact FU _);have b0:Hid _:=Fc (b:=H) (p:=0) cs e0<|ab.trans<|ek.mono ab.size;have g6:Hid (∀q,(c6.setCells H 0 cs).frozen? ⟨H,q,none⟩=false):=λq=>by rw[CF];exact g5 q
      generalize c6.setCells H 0 cs=hQ at b4 bY b0 g6;have hR:Hid<|Bj hQ H 0<|Fd.l (⟨t,⟨ad,ak,al,ao,ap⟩,eb,ed,fn,ee,ef,eg,ej⟩:Fd):=by rw[show _=_ from b1];exact bY
      go_wp2;go_roundw
      case rel=>exact⟨G+1,(⟨t,⟨ad,ak,al,ao,ap⟩,eb,ed,fn,ee,ef,eg,ej⟩:Fd),by omega,by go_num,dk,hR,b0,g6,dj⟩
      case measure=>simp[intOf];omega
    .rw[AP rfl d3]
     have e8:=cr.out.trans<|ab.mono cr.out.size;have c4:=eB.below ab;obtain⟨c0,cf,bf,_,e9,b4,bY,b0,fa⟩:=Le c4 (λq=>(ab.frozen (p:=⟨w.heap.size,q,none⟩) eE).trans<|eF q) (rP _) e8;have c5:Hid<|AW (Ag I.cell? λk=>k==w.heap.size) cf.cell?:=by show AW _ _;rw[fa.out];exact LG ab
     have dm:=run_loadVar_mid (P:=prog) cf w.heap.size 0 216 c0 _ bY rfl rfl (by rw[bf.out];rfl);have b7:=Cn c0;unfold Value.cells at b7;have bF:Hid<|FP.v=.agg c0.toArray:=e9;go_wp2;refine NZ (v:=.tuple #[.agg c0.toArray,.iface 101<|iN E]) ?_ rfl ⟨⟨L,⟨_,bB,?_⟩,ch,dn,λf bC=>(eL f bC).on c5.out⟩,b0⟩
     .simp[results,results211,asAddr,dm]
     .rw[dw.out,<-de.out,d2,Nn (f:=⟨⟨ad,ak,al,ao,ap⟩,dy,na,nc,dz,dT,co,d0,d1⟩) dg.out d3,Mn,bF.out,AP rfl d3]
   .have hd:decide ((G:Int)<(ry.length:Int))=false:=NM oM
    have iw:Ce wr H 10<|.slice f.na f.ry.length f.nc:=bG 10 _ rfl;have iz:=gb.out 10;go_upto_region 19 with fail
    obtain⟨cs,b1⟩:∃cs:List Value,JH (Fd.l {f with na:=an,nc:=rN,ry:=ry}) cs:=⟨_,rfl⟩;have be:cs.length=21:=by rw[<-(show _=_ from b1)];exact FU _
    have fb:∀v∈cs,v.oneCell'=true:=by rw[<-(show _=_ from b1)];exact FT _
    have g7:Bj (wr.setCells H 10 [.slice an ry.length rN]) H 0 cs:=by rw[<-(show _=_ from b1)];exact eY an rN ry bG
    have ab:Bw I<|wr.setCells H 10 [.slice an ry.length rN]:=Fc _ e0 dx;have fc:wr.setCell ⟨H,10,none⟩ (.slice an ry.length rN)=wr.setCells H 10 [.slice an ry.length rN]:=rfl;rw[fc];generalize wr.setCells H 10 [.slice an ry.length rN]=c6 at g7 ab⊢;refine tn ?_;refine wpList_load_mid rfl _ _ rfl _ _ rfl cs _ g7 rfl rfl (by rw[be];rfl) ?_;simp only[tk];have c4:=eB.below ab;have b4:=En (P:=prog) c4 (λq=>(ab.frozen (p:=⟨w.heap.size,q,none⟩) eE).trans<|eF q) (by rw[be];rfl) fb;have bY:Hid _:=FC cs c4 (by rw[be];rfl);have b0:Hid _:=Fc (b:=w.heap.size) (p:=0) cs (rP _)<|cr.trans<|ab.mono cr.size;have c5:Hid<|AW (Ag I.cell? λk=>k==w.heap.size) (c6.setCells w.heap.size 0 cs).cell?:=LG ab;generalize c6.setCells w.heap.size 0 cs=cf at b4 bY b0 c5;have dm:=run_loadVar_mid (P:=prog) cf w.heap.size 0 216 cs _ bY rfl rfl (by rw[be];rfl);have bF:Hid<|Fd.v {f with na:=an,nc:=rN,ry:=ry}=.agg cs.toArray:=RX (λl:List Value=>Value.agg l.toArray) (show _=cs from b1);go_wp2;refine NZ (v:=.tuple #[.agg cs.toArray,.nilIface]) ?_ rfl ⟨⟨L,⟨_,bB,?_⟩,ch,dn,λf bC=>(eL f bC).on c5.out⟩,b0⟩
    .simp[results,results211,asAddr,dm]
    .rw[dw.out,<-de.out,show ry.length-G=0 by omega,Bx.wk,Mn,bF.out]
     rfl
def PZ(w:World)(a:Option Addr)(xs:List BA):Prop:=
 xs=[]\/∃b G,a=some (aD b G)/\∀i x,xs[i]? =some x->w.cell? (aD b<|G+i)=some (.string x)
def If(xs:List BA):Int:=if xs.all Bf=true then(if 6<xs.length then 2 else 0)else 4
theorem fD{f:BA->Bool}{b:BA}(hb:l[k]? =some b)(h:(l.take k).all f=true)(G:f b=true):(l.take<|k+1).all f=true:=by grind [CO]
theorem kg{f:BA->Bool}{b:BA}(hb:l[k]? =some b)(G:f b=false):l.all f=false:=by grind
theorem bD(a:Option Addr)(cap:Nat)(xs:List BA)(w:World)(ao:xs.length<=4611686018427387904)(h:PZ w a xs):
 Calls prog 246 #[.slice a xs.length cap] w λe w'=>e=.returned (Ao<|If xs)/\w=w':=by
 go_enter func246,ntmps246;go_wp2;go_loop [7] (λi=>∃k:Nat,k<=xs.length/\i=iN k/\Hid ((xs.take k).all Bf=true)) (λi=>xs.length-(intOf i).toNat)
 case atStart=>exact⟨0,N7 _,rfl,rfl⟩
 case round=>
  obtain⟨k,ap,rfl,I⟩:=hrel;by_cases J:k<xs.length
  .rcases h with rfl|⟨b,ar,rfl,O⟩
   .simp at J
   .obtain⟨x,hx⟩:∃x,xs[k]? =some x:=⟨xs[k],by simp[J]⟩
    have Z:=hid hx;have aw:=O k x hx;clear hx O;obtain⟨t,ak⟩:∃t,Bf x=t:=⟨_,rfl⟩;have G:=hid ak;go_wp2_with fail
    go_call Iw _ _ as e w' ⟨rfl,rfl⟩
    rw[G.out];cases t
    .go_wp2
     go_ret;exact⟨CM (AP (by unfold If;rw[NO (by rw[kg Z.out G.out];decide)]) oD).symm,rfl⟩
    .go_wp2
     go_round
     case rel=>exact⟨k+1,by omega,by go_num,fD Z I G⟩
     case measure=>simp[intOf];omega
  .have ab:Hid<|xs.all Bf=true:=by
    show _=_;have:=I.out;rw[R3 oM]at this;exact this
   by_cases ad:6<xs.length
   .have al:decide (6<(xs.length:Int))=true:=NY oM
    have H:Hid<|If xs=2:=by show _=_;unfold If;rw[NS ab.out,NS ad]
    go_wp2;go_ret;exact⟨CM (AP H oD).symm,rfl⟩
   .have al:decide (6<(xs.length:Int))=false:=NM oM
    have H:Hid<|If xs=0:=by show _=_;unfold If;rw[NS ab.out,NO ad]
    go_wp2;go_ret;exact⟨CM (DE H).symm,rfl⟩
end Go.Proofs.YtchpdmjlicmdaaaGreatDoor
