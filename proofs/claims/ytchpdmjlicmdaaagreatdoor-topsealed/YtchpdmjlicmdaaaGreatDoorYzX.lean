/- Part: Yz Oa Wv Kd Pc Oc Oh Ol Qaa. -/
import Derived.Test.YtchpdmjlicmdaaaGreatDoorYmX
import Derived.ShutString
import Derived.Deep.Strs
set_option maxRecDepth 100000
set_option maxHeartbeats 16000000
namespace Go.Proofs.YtchpdmjlicmdaaaGreatDoor
open Go.RowKit Go.Proofs.Tryz
variable {w:World}{b:Nat}{gs us:List Rg}{cg cu:Int}
structure Ih (us gs:List Rg) (cs:List Int) (cu cg ck q:Int) (xs:List Nd) (y:Nd):Prop where
 mu:Eb us=0
 mg:Eb gs=0
 cr:DZ cu cg cs ck=0
 q1:1<=q
 q2:q<=64
 len:xs.length<=3
 low:∀x∈xs,Dj false x=0
 root:BH true us gs (.mk 2 493 cu cg false [] ⟨#[]⟩ [])=some y
abbrev Qc:=λcb ua (us:List Rg) uc ga (gs:List Rg) gc cu cg (X:World)=>(Ce X cb 0 (.slice ua us.length uc)/\Ce X cb 1 (.slice ga gs.length gc)/\Ce X cb 2 (iN cu)/\Ce X cb 3 (iN cg):Prop)
theorem Dg.ret{w0:World}{x:Nd}{hd:Hd}(h:Dg w b)(H:Bw w0 w)(hb:w0.heap.size<=b)(I:Am w.cell? x hd):∃G,As w b x hd=G/\AC G b x hd/\Hid (Am G.cell? x hd)/\Hid (Bw w0 G):=by
 obtain⟨a,c,d,_⟩:=h.store I;exact⟨_,rfl,a,c,H.trans<|d.below hb H.size⟩
theorem dF{ua ga ca lwa:Option Addr}{uc gc cc lwn lwc:Nat}{cs:List Int}{ck q:Int}(b2:Rgs w ua us)(b4:Rgs w ga gs)(b6:us.length<=100)(b7:gs.length<=100)(b9:us.length<=uc)(ce:gs.length<=gc)(cf:∀r∈us,r.ok)(ch:∀r∈gs,r.ok)(de:AV w ca cs)(dg:cs.length<=8)(hid:A4 cu/\A4 cg)
 {a:Option Addr} {cap:Nat} {xs:List Nd} (hx:CP w.cell? a xs) (d5:xs.length<=5) (dj:∀x∈xs,AI x/\cnt x<=1000):
 Calls prog 89 #[.agg #[.slice ua us.length uc,.slice ga gs.length gc,iN cu,iN cg,.slice ca cs.length cc,iN ck,iN q,.slice lwa lwn lwc],.slice a xs.length cap] w λe w'=>(∃E y h,e=.returned (.tuple #[At y h,Ao E])/\Am w'.cell? y h/\(E=0->Ih us gs cs cu cg ck q xs y)/\(E≠0->¬∃y,Ih us gs cs cu cg ck q xs y))/\Bw w w':=by
 have cl:Bw w<|w.alloc<|CY ua ga ca lwa uc gc cc lwn lwc us gs cs cu cg ck q:=(NB _ _).alloc (rP _) _;have a7:Bw w<|(w.alloc<|CY ua ga ca lwa uc gc cc lwn lwc us gs cs cu cg ck q).alloc AO:=cl.alloc cl.size _;have dk:(w.alloc<|CY ua ga ca lwa uc gc cc lwn lwc us gs cs cu cg ck q).heap.size=w.heap.size+1:=ND _ _;obtain⟨c0,c1,c2,I,d6,d7,d8,c7⟩:Ce ((w.alloc<|CY ua ga ca lwa uc gc cc lwn lwc us gs cs cu cg ck q).alloc AO) w.heap.size 0 (.slice ua us.length uc)/\Ce ((w.alloc<|CY ua ga ca lwa uc gc cc lwn lwc us gs cs cu cg ck q).alloc AO) w.heap.size 1 (.slice ga gs.length gc)/\Ce ((w.alloc<|CY ua ga ca lwa uc gc cc lwn lwc us gs cs cu cg ck q).alloc AO) w.heap.size 2 (iN cu)/\Ce ((w.alloc<|CY ua ga ca lwa uc gc cc lwn lwc us gs cs cu cg ck q).alloc AO) w.heap.size 3 (iN cg)/\Ce ((w.alloc<|CY ua ga ca lwa uc gc cc lwn lwc us gs cs cu cg ck q).alloc AO) w.heap.size 4 (.slice ca cs.length cc)/\Ce ((w.alloc<|CY ua ga ca lwa uc gc cc lwn lwc us gs cs cu cg ck q).alloc AO) w.heap.size 5 (iN ck)/\Ce ((w.alloc<|CY ua ga ca lwa uc gc cc lwn lwc us gs cs cu cg ck q).alloc AO) w.heap.size 6 (iN q)/\Ce ((w.alloc<|CY ua ga ca lwa uc gc cc lwn lwc us gs cs cu cg ck q).alloc AO) w.heap.size 7 (.slice lwa lwn lwc):=⟨Bz aC,Bz aC,Bz aC,Bz aC,Bz aC,Bz aC,Bz aC,Bz aC⟩;have dm:Hid<|Dg ((w.alloc<|CY ua ga ca lwa uc gc cc lwn lwc us gs cs cu cg ck q).alloc AO)<|w.heap.size+1:=by
  have e:=Dg.new<|w.alloc<|CY ua ga ca lwa uc gc cc lwn lwc us gs cs cu cg ck q;rw[dk]at e;exact e
 have dn:Hid (Calls prog 138 #[Mk ua ga ca lwa uc gc cc lwn lwc us gs cs cu cg ck q] ((w.alloc<|CY ua ga ca lwa uc gc cc lwn lwc us gs cs cu cg ck q).alloc AO) λe w'=>(∃E,e=.returned (Ao E)/\(E=0->Eb us=0/\Eb gs=0/\DZ cu cg cs ck=0/\1<=q/\q<=64)/\(E≠0->¬(Eb us=0/\Eb gs=0/\DZ cu cg cs ck=0/\1<=q/\q<=64)))/\Bw ((w.alloc<|CY ua ga ca lwa uc gc cc lwn lwc us gs cs cu cg ck q).alloc AO) w'):=kG (b2.below a7) (b4.below a7) b6 b7 b9 ce cf ch (de.below a7) dg;have d9:Hid<|EN w ⟨ua,ga,uc,gc,us,gs⟩:=⟨b2,b4,b6,b7,b9,ce,cf,ch⟩;have co:Hid<|Bw w<|(w.alloc<|CY ua ga ca lwa uc gc cc lwn lwc us gs cs cu cg ck q).alloc AO:=a7;have eb:Hid<|CP w.cell? a xs:=hx;have ed:Hid (∀x∈xs,AI x/\cnt x<=1000):=dj;have ee:Hid<|A4 cu/\A4 cg:=hid;obtain⟨N,a8⟩:=Aq<|xs.length;rw[a8.out]at d5⊢;clear b2 b4 b6 b7 b9 ce cf ch de dg hid hx dj cl a7 dk;go_enter func89,ntmps89;go_upto_region 1 with fail
 generalize((w.alloc<|CY ua ga ca lwa uc gc cc lwn lwc us gs cs cu cg ck q).alloc AO)=ey at*;obtain⟨cb,dp⟩:=Aq<|w.heap.size;go_wp2_with fail
 refine rQ dn ?_;rintro e cr ⟨⟨E,rfl,dr,ds⟩,q2⟩;have bk:=hid<|co.trans<|q2.mono co.size;have a1:=hid<|dm.below q2;replace c0:=Aj q2 c0;replace c1:=Aj q2 c1;replace c2:=Aj q2 c2;replace I:=Aj q2 I;clear dn q2 dm co d6 d7 d8 c7;by_cases bl:E=0
 case neg=>
  have ba:=AP (n:=E) rfl bl;have az:Hid (¬∃y,Ih us gs cs cu cg ck q xs y):=λ⟨_,h⟩=>ds bl ⟨h.mu,h.mg,h.cr,h.q1,h.q2⟩;rw[ba]
  clear c0 c1 c2 I;obtain⟨bn,G,J,O,Z⟩:=Dg.ret (x:=zN) (hd:=zH) a1 bk (tN _)<|nZ _;simp only[zN,zH,As,RC]at G;obtain⟨⟨⟨z0,bo,bp,z4,z5,bq,bs,bu⟩,H⟩,_⟩:=a1.out;obtain⟨bx,bA,bB,bC,bF,bG,bH,bY⟩:=f8 H;obtain⟨⟨ab,g1,ad,g3,g4,ak,al,ao⟩,_⟩:=J;have ap:Hid _:=G;clear G H;go_wp2;rw[ap.out];refine NZ (v:=.tuple #[GK,.iface 101<|iN E]) (by simp[results,results89,go_sem,zH,ab,g1,ad,g3,g4,ak,al,ao]) rfl ⟨⟨E,zN,zH,by rw[ba];rfl,O,λe=>absurd e (bl),λ_=>az⟩,Z⟩
 case pos=>
  subst bl;have bb:=hid<|dr rfl;clear ds;rw[show Ao 0=Value.nilIface from rfl];clear dr;by_cases ef:3<N
  .have du:decide ((3:Int)<(N:Int))=true:=NY oM
   have az:Hid (¬∃y,Ih us gs cs cu cg ck q xs y):=λ⟨_,h⟩=>by have:=h.len;rw[a8.out]at this;omega
   clear c0 c1 c2 I;obtain⟨bn,G,J,O,Z⟩:=Dg.ret (x:=zN) (hd:=zH) a1 bk (tN _)<|nZ _;simp only[zN,zH,As,RC]at G;obtain⟨⟨⟨z0,bo,bp,z4,z5,bq,bs,bu⟩,H⟩,_⟩:=a1.out;obtain⟨bx,bA,bB,bC,bF,bG,bH,bY⟩:=f8 H;obtain⟨⟨ab,g1,ad,g3,g4,ak,al,ao⟩,_⟩:=J;have ap:Hid _:=G;clear G H;go_wp2;rw[ap.out];refine NZ (v:=.tuple #[GK,.iface 101<|iN 2]) (by simp[results,results89,go_sem,zH,ab,g1,ad,g3,g4,ak,al,ao]) rfl ⟨⟨2,zN,zH,rfl,O,λe=>absurd e oD,λ_=>az⟩,Z⟩
  .have du:decide ((3:Int)<(N:Int))=false:=NM oM
   have eg:Hid<|N<=3:=by show _<=_;omega
   have dw:Hid<|Bw w cr/\Dg cr (w.heap.size+1)/\(Qc cb ua us uc ga gs gc cu cg cr):=by rw[<-dp.out];exact⟨bk,a1,c0,c1,c2,I⟩
   clear c0 c1 c2 I ef;go_upto_region 6 with fail
   clear du;go_wp2;go_loopw [23] (λi wr=>∃j:Nat,j<=N/\i=iN j/\Hid (Bw w wr/\Dg wr (w.heap.size+1)/\(Qc cb ua us uc ga gs gc cu cg wr))/\Hid (∀t y,t<j->xs[t]? =some y->Dj false y=0)) (λi _=>N-(intOf i).toNat)
   case atStart=>exact⟨0,N7 _,rfl,dw,λt y bd=>absurd bd (Nat.not_lt_zero _)⟩
   case round=>
    clear dw bk a1;obtain⟨j,ez,rfl,be,HK⟩:=hrel;by_cases dx:j<N
    .have cx:decide ((j:Int)<(N:Int))=true:=NY oM
     obtain⟨x,b0⟩:∃x,xs[j]? =some x:=⟨_,NA (by rw[a8.out];exact dx)⟩;obtain⟨eB,eD,h,rfl,ej,dy⟩:=ZC (eb.on<|Ai be.1) b0;obtain⟨dz,dT⟩:=ed x<|NW b0;obtain⟨F,cD⟩:=Aq<|Dj false x;have d0:=hid b0;obtain⟨k,m,u,g,o,rL,d,ks⟩:=x;obtain⟨ek,q1,q2,em,q4,q5,q6,q7⟩:=ej;have aw:=Hw wr<|Aw k m u g o rL d ks h;have en:=AC.new wr k m u g o rL d ks h;have d1:Hid (Calls prog 57 #[(Ba k m u g o rL d ks h),.bool false] (wr.alloc<|Aw k m u g o rL d ks h) λe cF=>e=.returned (Ao F)/\Bw (wr.alloc<|Aw k m u g o rL d ks h) cF):=by
      have e:=Oq false (dy.on<|Ai aw) dz dT;rw[cD.out]at e;exact e
     have d2:Hid<|Bw w (wr.alloc<|Aw k m u g o rL d ks h)/\Dg (wr.alloc<|Aw k m u g o rL d ks h) (w.heap.size+1)/\(Qc cb ua us uc ga gs gc cu cg<|wr.alloc<|Aw k m u g o rL d ks h):=by
      obtain⟨ar,a6,b3,c3,b5,c4⟩:=be.out;exact⟨ar.trans<|aw.mono ar.size,a6.below aw,Aj aw b3,Aj aw c3,Aj aw b5,Aj aw c4⟩
     obtain⟨⟨f0,f1,f2,f3,f4,f5,f6,f7⟩,_⟩:=en;clear b0 dz dT dy aw be;go_upto_region 9 with fail
     generalize wr.alloc (Aw k m u g o rL d ks h)=eE at*;go_wp2_with fail
     refine rQ d1 ?_;rintro e c5 ⟨rfl,aA⟩;have c6:Hid<|Bw w c5/\Dg c5 (w.heap.size+1)/\(Qc cb ua us uc ga gs gc cu cg c5):=by
      obtain⟨ar,a6,b3,c3,b5,c4⟩:=d2.out;exact⟨ar.trans<|aA.mono ar.size,a6.below aA,Aj aA b3,Aj aA c3,Aj aA b5,Aj aA c4⟩
     clear aA d1 d2 ek q1 q2 em q4 q5 q6 q7 f0 f1 f2 f3 f4 f5 f6 f7;by_cases hF:F=0
     .rw[DE hF]
      have eo:=hid hF;clear hF;go_wp2;go_roundw
      case rel=>
       refine⟨j+1,by omega,by go_num,c6,λt y bd c8=>?_⟩;by_cases e:t=j
       .subst e
        rw[d0.out]at c8;cases c8;rw[cD.out,eo.out]
       .exact HK t y oM c8
      case measure=>(simp[intOf];try omega)
     .have ba:=AP (n:=F) rfl hF
      rw[ba];have ep:=hid hF;have az:Hid (¬∃y,Ih us gs cs cu cg ck q xs y):=λ⟨_,h⟩=>hF<|cD.symm.trans<|h.low _<|NW d0;have d3:=hid c6.2.1
      clear cx;obtain⟨bn,G,J,O,Z⟩:=Dg.ret (x:=zN) (hd:=zH) d3 c6.1 (tN _)<|nZ _;simp only[zN,zH,As,RC]at G;obtain⟨⟨⟨z0,bo,bp,z4,z5,bq,bs,bu⟩,H⟩,_⟩:=d3.out;obtain⟨bx,bA,bB,bC,bF,bG,bH,bY⟩:=f8 H;obtain⟨⟨ab,g1,ad,g3,g4,ak,al,ao⟩,_⟩:=J;have ap:Hid _:=G;clear G H;go_wp2;rw[ap.out];refine NZ (v:=.tuple #[GK,.iface 101<|iN F]) (by simp[results,results89,go_sem,zH,ab,g1,ad,g3,g4,ak,al,ao]) rfl ⟨⟨F,zN,zH,by rw[ba];rfl,O,λe=>absurd e (ep),λ_=>az⟩,Z⟩
    .obtain rfl:j=N:=by omega
     have cx:=NM oM;have eq:Hid (∀x∈xs,Dj false x=0):=λx hx=>by
      obtain⟨t,bd⟩:=R7 hx;exact HK t x (by have:=(NE.1 bd).1;rw[a8.out]at this;exact this) bd
     obtain⟨ar,a6,c0,c1,c2,I⟩:=id be;rw[<-dp.out]at c0 c1 c2 I;have b1:=hid ar;have d4:=hid a6;have bf:Hid _:=Mz (W:=wr) (S:=λ_=>false) (λ_ er=>(by cases er)) (x:=(.mk 2 493 cu cg false [] ⟨#[]⟩ [])) (h:=zH) (by rw[Fe];exact Yo _ _ _ _ _ _ _) (Id _ (by rw[cnt,cntL];omega) (by rw[AI,Co];exact⟨⟨by decide,λr es=>(by cases es)⟩,by decide,trivial⟩)) (by rw[cnt,cntL];omega) ee (M:=⟨ua,ga,uc,gc,us,gs⟩)<|d9.out.below ar;obtain⟨R,c9⟩:=Aq<|BH true us gs<|.mk 2 493 cu cg false [] ⟨#[]⟩ [];have bf:Hid (Calls prog 139 #[G7 ua us.length uc ga gs.length gc,.agg #[iN 2,iN 493,iN cu,iN cg,.bool false,nL,.string ⟨#[]⟩,nL]] wr λe cF=>Kk wr cF (λ_=>false) e R):=by
      have e:=bf.out;rw[c9.out]at e;exact e
     clear ar a6 be HK dx;go_upto_region 13 with fail
     clear cx;go_wp2_with fail
     refine rQ bf ?_;cases R with
     |none=>
      have az:Hid (¬∃y,Ih us gs cs cu cg ck q xs y):=λ⟨_,h⟩=>by have e:=h.root;rw[c9.out]at e;cases e
      rintro e eu ⟨rfl,q5⟩;have da:=hid<|b1.trans<|q5.mono b1.size;have bg:=hid<|d4.below q5;clear q5 bf c0 c1 c2 I;rw[show At zN zH=GK from rfl];obtain⟨bn,G,J,O,Z⟩:=Dg.ret (x:=zN) (hd:=zH) bg da (tN _)<|nZ _;simp only[zN,zH,As,RC]at G;obtain⟨⟨⟨z0,bo,bp,z4,z5,bq,bs,bu⟩,H⟩,_⟩:=bg.out;obtain⟨bx,bA,bB,bC,bF,bG,bH,bY⟩:=f8 H;obtain⟨⟨ab,g1,ad,g3,g4,ak,al,ao⟩,_⟩:=J;have ap:Hid _:=G;clear G H;go_wp2;rw[ap.out];refine NZ (v:=.tuple #[GK,.iface 101<|iN 11]) (by simp[results,results89,go_sem,zH,ab,g1,ad,g3,g4,ak,al,ao]) rfl ⟨⟨11,zN,zH,rfl,O,λe=>absurd e oD,λ_=>az⟩,Z⟩
     |some y=>
      rintro e eu ⟨⟨bi,rfl,dd⟩,q5⟩;rw[Fe]at dd;have ev:=hid dd;have da:=hid<|b1.trans<|q5.mono b1.size;have bg:=hid<|d4.below q5;have ew:Hid<|Ih us gs cs cu cg ck q xs y:=⟨bb.1,bb.2.1,bb.2.2.1,bb.2.2.2.1,bb.2.2.2.2,by rw[a8.out];exact eg,eq,c9⟩;clear q5 bf c0 c1 c2 I dd;obtain⟨k,m,u,g,o,rL,d,ks⟩:=y;rw[show At (.mk k m u g o rL d ks) bi=(Ba k m u g o rL d ks bi)from rfl];obtain⟨bn,G,J,O,Z⟩:=Dg.ret (x:=(.mk k m u g o rL d ks)) (hd:=bi) bg da (tN _) ev;simp only[As]at G;obtain⟨⟨⟨z0,bo,bp,z4,z5,bq,bs,bu⟩,H⟩,_⟩:=bg.out;obtain⟨bx,bA,bB,bC,bF,bG,bH,bY⟩:=f8 H;obtain⟨⟨ab,g1,ad,g3,g4,ak,al,ao⟩,_⟩:=J;have ap:Hid _:=G;clear G H;go_wp2;rw[ap.out];refine NZ (v:=.tuple #[(Ba k m u g o rL d ks bi),.nilIface]) (by simp[results,results89,go_sem,ab,g1,ad,g3,g4,ak,al,ao]) rfl ⟨⟨0,(.mk k m u g o rL d ks),bi,rfl,O,λ_=>ew,λe=>absurd rfl e⟩,Z⟩
theorem pD{L:List Rg}{x y:Int}(h:Hc L x=some y):DT y=true/\A4 y:=by
 unfold Hc at h;by_cases G:Eb L=0
 .rw[NS G]at h
  obtain⟨r,H,I,J,rfl⟩:=O2 h;have hb:=Po G r H;grind [Rg.bd,DT,A4]
 all_goals grind
theorem mX{y:Nd}(h:BH true us gs (.mk 2 493 cu cg false [] ⟨#[]⟩ [])=some y):∃G H,y=.mk 2 493 G H false [] ⟨#[]⟩ []/\(DT G=true/\A4 G)/\(DT H=true/\A4 H):=by grind [BH,pD]
theorem ol{G H:Int}(I:DT G=true)(J:DT H=true):Dj true (.mk 2 493 G H false [] ⟨#[]⟩ [])=0:=by
 rw[KN];refine⟨rfl,?_,by rw[cnt,cntL];omega⟩;rw[Gy,GJ];refine⟨by omega,?_,trivial⟩;rw[EQ,I,J];rfl
theorem mY{G H:Int}(_I:DT G=true)(_J:DT H=true):EP (.mk 2 493 G H false [] ⟨#[]⟩ [])<=1:=by grind [EP,FM,DS,Cy,ByteArray.size,DC,Dd,EJ,BT]
def Jk(w:World)(b:Nat):Prop:=w.cell? (aD b 0)=some (nL)/\w.cell? (aD b 1)=some (nL)/\(∀q,w.frozen? (aD b q)=false)/\b<w.heap.size
theorem Jk.new(w:World):Jk (w.alloc<|Er none 0 0 none 0 0) w.heap.size:=⟨rO _ _ _ _ rfl,rO _ _ _ _ rfl,λq=>RB _ _ _ _ rfl,by rw[ND];omega⟩
theorem Jk.lt(h:Jk w b):b<w.heap.size:=h.2.2.2
theorem Jk.below{w':World}(h:Jk w b)(hb:Bw w w'):Jk w' b:=⟨Aj hb h.1,Aj hb h.2.1,λq=>(hb.frozen (p:=(aD b q)) h.lt).trans<|h.2.2.1 q,N1 h.lt hb.size⟩
theorem PA{a:Option Addr}{rs:List Rg}{i:Nat}{v:Value}(h:Rgs w a rs)(I:∀p,a=some p->rs≠[]->p.block≠b):Rgs (w.setCell (aD b i) v) a rs:=by
 rcases h with e|⟨G,J,rfl,O⟩
 .exact .inl e
 .by_cases H:rs=[]
  .exact .inl H
  .have Z:G≠b:=I _ rfl H
   refine .inr ⟨G,J,rfl,λk r ab=>?_⟩;grind [BO]
theorem Zr{v:Value}{L:List Fl}{wr:World}(h:FO w v L wr)(ad:L≠[]):∃g cap,v=sL g 0 L.length cap/\(L.length<=cap/\cap<=9223372036854775807)/\CP wr.cell? (some<|aD g 0) (L.map Fl.x):=by
 rcases h.row.2 with⟨rfl,ak⟩|⟨g,cap,al,rfl,hb,J,O,H,ao,Z⟩
 .grind
 .refine⟨g,cap,rfl,⟨O,by unfold maxLen at H;exact H⟩,.inr ⟨g,0,rfl,λi=>(L.getD i ⟨zN,zH,0⟩).h,λi x I=>?_⟩⟩
  rw[R6]at I;obtain⟨f,G,rfl⟩:=R2.1 I;have e:(L.getD i ⟨zN,zH,0⟩)=f:=by rw[List.getD_eq_getElem?_getD,G];rfl
  dsimp only;rw[e];refine⟨GR.2 λq u ab=>?_,(h.nd f<|NW G).on<|BW _ _⟩;rw[RT];exact Iu J Z<|Ni L i f G q u ab
def rp(w w':World)(b:Nat)(B:Bx):Prop:=∃G H L,B.la=some (aD G 0)/\G≠b/\w.heap.size<=H.heap.size/\FO H (sL G 0 B.xs.length B.lc) L w'/\L.map Fl.x=B.xs/\(B.M.us=[]\/Ix B.M.ua G)/\(B.M.gs=[]\/Ix B.M.ga G)
def af(w w':World)(us gs:List Rg)(cs:List Int)(cu cg ck q:Int)(xs:List Nd)(e:Ending):Prop:=(∃E,e=.returned (.tuple #[.pointer none,Ao E])/\E≠0/\¬∃y,Ih us gs cs cu cg ck q xs y)\/∃b B y,e=.returned (.tuple #[pO b 0,.nilIface])/\w.heap.size<=b/\A6 w' b B/\BN B y xs/\B.M.us=us/\B.M.gs=gs/\B.q=q/\B.crd=(cu,cg,cs,ck)/\Ih us gs cs cu cg ck q xs y/\rp w w' b B/\(B.cs=[]\/∀p,B.ca=some p->w.heap.size<=p.block)/\((∀p,B.M.ua=some p->p.block<w'.heap.size)/\∀p,B.M.ga=some p->p.block<w'.heap.size)/\(B.M.us=[]\/∀p,B.M.ua=some p->w.heap.size<=p.block)/\(B.M.gs=[]\/∀p,B.M.ga=some p->w.heap.size<=p.block)
abbrev Qy(a:Option Addr)(us:List Rg)(c:Nat)(W:World):Prop:=Calls prog 90 #[.slice a us.length c] W λe w'=>(∃G H,e=.returned (.slice G us.length H)/\Fs W.heap.size G us H w')/\Bw W w'
def Kd(H G:World)(us gs:List Rg)(s:Value):Prop:=∃I J O c1 c2,s=pO I 0/\Ce G I 0 (.slice J us.length c1)/\Ce G I 1 (.slice O gs.length c2)/\Bw H G/\Fs H.heap.size J us c1 G/\Fs H.heap.size O gs c2 G
theorem Kd.st{H I:World}{G:Nat}{J O:Option Addr}{c1 c2:Nat}(ab:Jk I G)(hb:Bw H I)(ad:H.heap.size<=G)(A:Fs H.heap.size J us c1 I)(B:Fs H.heap.size O gs c2 I)(ak:∀p,J=some p->us≠[]->p.block≠G)(al:∀p,O=some p->gs≠[]->p.block≠G):
 Kd H ((I.setCell (aD G 0)<|.slice J us.length c1).setCell (aD G 1)<|.slice O gs.length c2) us gs (pO G 0):=
 ⟨G,J,O,c1,c2,rfl,(Bt oM).trans<|N2 _ _ _ ab.1,N2 _ _ _<|(Bt oM).trans ab.2.1,(hb.setCell (p:=(aD G 0)) ad _).setCell (p:=(aD G 1)) ad _,⟨A.1,PA (PA A.2.1 ak) ak,λp Z=>by simpa using A.2.2.1 p Z,A.2.2.2⟩,B.1,PA (PA B.2.1 al) al,λp Z=>by simpa using B.2.2.1 p Z,B.2.2.2⟩
theorem Kd.al{H G:World}{I J:Option Addr}{c1 c2:Nat}(hb:Bw H G)(A:Fs H.heap.size I us c1 G)(B:Fs H.heap.size J gs c2 G):Kd H (G.alloc<|Er I us.length c1 J gs.length c2) us gs<|pO G.heap.size 0:=
 ⟨_,I,J,c1,c2,rfl,aC,aC,hb.alloc hb.size _,A.below bN,B.below bN⟩
abbrev qW:=λG ua (us:List Rg) uc ga (gs:List Rg) gc cu cg ca (cs:List Int) cc ck q lwa lwn lwc (X:World)=>(Ce X G 0 (.slice ua us.length uc)/\Ce X G 1 (.slice ga gs.length gc)/\Ce X G 2 (iN cu)/\Ce X G 3 (iN cg)/\Ce X G 4 (.slice ca cs.length cc)/\Ce X G 5 (iN ck)/\Ce X G 6 (iN q)/\Ce X G 7 (.slice lwa lwn lwc):Prop)
abbrev Nz:=λG ua (us:List Rg) uc ga (gs:List Rg) gc (X:World)=>(Ce X G 0 (.slice ua us.length uc)/\Ce X G 1 (.slice ga gs.length gc):Prop)
abbrev Ty:=λG H (us:List Rg) c1 bo (gs:List Rg) c2 zw cu cg ca (cs:List Int) cc ck q (X:World)=>(Ce X G 0 (.slice H us.length c1)/\Ce X G 1 (.slice bo gs.length c2)/\Ce X zw 2 (iN cu)/\Ce X zw 3 (iN cg)/\Ce X zw 4 (.slice ca cs.length cc)/\Ce X zw 5 (iN ck)/\Ce X zw 6 (iN q):Prop)
theorem jX{ua ga ca lwa:Option Addr}{uc gc cc lwn lwc:Nat}{cs:List Int}{ck q:Int}(ds:Rgs w ua us)(du:Rgs w ga gs)(c6:us.length<=100)(c8:gs.length<=100)(ew:us.length<=uc)(ey:gs.length<=gc)(dw:∀r∈us,r.ok)(dx:∀r∈gs,r.ok)(dy:AV w ca cs)(dz:cs.length<=8)(ez:A4 cu/\A4 cg)
 {a:Option Addr} {cap:Nat} {xs:List Nd} (hx:CP w.cell? a xs) (dT:xs.length<=5) (d0:∀x∈xs,AI x/\cnt x<=1000) (eB:∀x∈xs,A0 x):
 Calls prog 48 #[.agg #[.slice ua us.length uc,.slice ga gs.length gc,iN cu,iN cg,.slice ca cs.length cc,iN ck,iN q,.slice lwa lwn lwc],.slice a xs.length cap] w λe w'=>af w w' us gs cs cu cg ck q xs e/\Bw w w':=by
 have bb:Bw w<|w.alloc<|CY ua ga ca lwa uc gc cc lwn lwc us gs cs cu cg ck q:=(NB _ _).alloc (rP _) _;have d1:qW w.heap.size ua us uc ga gs gc cu cg ca cs cc ck q lwa lwn lwc<|w.alloc<|CY ua ga ca lwa uc gc cc lwn lwc us gs cs cu cg ck q:=⟨aC,aC,aC,aC,aC,aC,aC,aC⟩;have bs:=hid d1;obtain⟨c0,c1,c2,bu,hs,ht,hu,c7⟩:=d1;have d2:Hid (Calls prog 89 #[Mk ua ga ca lwa uc gc cc lwn lwc us gs cs cu cg ck q,.slice a xs.length cap] (w.alloc<|CY ua ga ca lwa uc gc cc lwn lwc us gs cs cu cg ck q) λe w'=>(∃E y h,e=.returned (.tuple #[At y h,Ao E])/\Am w'.cell? y h/\(E=0->Ih us gs cs cu cg ck q xs y)/\(E≠0->¬∃y,Ih us gs cs cu cg ck q xs y))/\Bw (w.alloc<|CY ua ga ca lwa uc gc cc lwn lwc us gs cs cu cg ck q) w'):=dF (ds.below bb) (du.below bb) c6 c8 ew ey dw dx (dy.below bb) dz ez (hx.on<|Ai bb) dT d0;have eD:Hid (∀W,Bw (w.alloc<|CY ua ga ca lwa uc gc cc lwn lwc us gs cs cu cg ck q) W->Qy ua us uc W):=λW hb=>Uk uc ((ds.below bb).below hb) c6;have eE:Hid (∀W,Bw (w.alloc<|CY ua ga ca lwa uc gc cc lwn lwc us gs cs cu cg ck q) W->Qy ga gs gc W):=λW hb=>Uk gc ((du.below bb).below hb) c8
 have eF:Hid (∀W,Bw (w.alloc<|CY ua ga ca lwa uc gc cc lwn lwc us gs cs cu cg ck q) W->Calls prog 91 #[Fj cu cg ca cs.length cc ck] W λe w'=>(∃I bx,e=.returned (Fj cu cg I cs.length bx ck)/\(cs.length<=bx/\bx<=9223372036854775807)/\AV w' I cs/\∀p,I=some p->p.block<w'.heap.size/\(cs=[]\/W.heap.size<=p.block))/\Bw W w'):=λW hb=>kV ((dy.below bb).below hb) oM;have a7:Hid<|Bw w<|w.alloc<|CY ua ga ca lwa uc gc cc lwn lwc us gs cs cu cg ck q:=bb
 have eL:Hid<|CP (w.alloc<|CY ua ga ca lwa uc gc cc lwn lwc us gs cs cu cg ck q).cell? a xs:=hx.on<|Ai bb;have d3:Hid (∀x∈xs,AI x/\cnt x<=1000):=d0;have eX:Hid (∀x∈xs,A0 x):=eB;have b4:Hid<|(us.length<=100/\gs.length<=100)/\(∀r∈us,r.ok)/\(∀r∈gs,r.ok)/\cs.length<=8:=⟨⟨c6,c8⟩,dw,dx,dz⟩;have hv:Hid<|w.heap.size<(w.alloc<|CY ua ga ca lwa uc gc cc lwn lwc us gs cs cu cg ck q).heap.size:=by show _<_;rw[ND];omega
 obtain⟨e0,e1,e2,e3,e4⟩:=EL Tryz.infoNd;have e5:Hid _:=e1;have e6:Hid _:=e2;have e7:Hid _:=e3;have e8:Hid _:=e4;obtain⟨N,bG⟩:∃N,Hid<|xs.length=N:=⟨_,rfl⟩;rw[bG.out]at dT d2⊢;go_enter func48,ntmps48;go_upto_region 1 with fail
 generalize(w.alloc<|CY ua ga ca lwa uc gc cc lwn lwc us gs cs cu cg ck q)=ar at*;go_wp2_with fail
 refine rQ d2 ?_;rintro e bd ⟨⟨E,y,H,rfl,e9,fa,fb⟩,q2⟩;have fc:=hid fb;have fd:Hid<|Am bd.cell? y H:=e9;have cl:Hid<|Bw ar bd:=q2;obtain⟨k,m,u,g,o,rL,d,ks⟩:=y;rw[show At (.mk k m u g o rL d ks) H=(Ba k m u g o rL d ks H)from rfl];by_cases co:E=0
 case neg=>
  have d4:=AP (n:=E) rfl co;rw[d4];have fe:Hid<|Bw w<|bd.alloc<|Aw k m u g o rL d ks H:=(a7.trans<|cl.mono a7.size).alloc (a7.trans<|cl.mono a7.size).size _;go_wp2;go_ret2;exact⟨.inl ⟨E,by rw[d4];rfl,co,fc co⟩,fe⟩
 case pos=>
  subst co;have ff:Hid<|Ih us gs cs cu cg ck q xs<|.mk k m u g o rL d ks:=fa rfl;rw[show Ao 0=Value.nilIface from rfl];have d5:=Hw bd<|Aw k m u g o rL d ks H;have c9:=AC.new bd k m u g o rL d ks H;have da:Hid<|Bw ar<|bd.alloc<|Aw k m u g o rL d ks H:=cl.trans<|d5.mono cl.size;have fg:Hid<|Am (bd.alloc<|Aw k m u g o rL d ks H).cell? (.mk k m u g o rL d ks) H:=fd.on<|Ai d5;obtain⟨⟨f0,f1,f2,f3,f4,f5,f6,f7⟩,_⟩:=c9;go_upto_region 4 with fail
  generalize bd.alloc (Aw k m u g o rL d ks H)=bH at*;generalize bd.heap.size=hw at*;have d6:=Hw bH<|Aw k m u g o rL d ks H;have d7:Hid<|FO ar (.slice (some ⟨bH.heap.size,0,none⟩) 1 1) [(⟨(.mk k m u g o rL d ks),H,0⟩:Fl)]<|bH.alloc<|Aw k m u g o rL d ks H:=by
   refine⟨da.trans<|d6.mono da.size,⟨rfl,.inr ⟨bH.heap.size,1,#[.int .i64 k,.int .i64 m,.int .i64 u,.int .i64 g,.bool o,.slice H.aa rL.length H.ca,.string d,.slice H.ak ks.length H.ck],rfl,da.size,by unfold World.alloc;simp,rP _,by unfold maxLen;omega,rfl,rfl⟩⟩,λf fh=>?_⟩;have e:f=⟨(.mk k m u g o rL d ks),H,0⟩:=by simpa using fh
   subst e;exact fg.on<|Se d6 (λk cr=>by simp[Value.ownBlock];omega)
  go_upto_region 5 with fail
  generalize hy:Value.slice (some ⟨bH.heap.size,0,none⟩) 1 1=v0 at d7⊢;generalize bH.alloc (Aw k m u g o rL d ks H)=hz at*;go_wp2;go_loopw [8,25] (λv i wr=>∃(j:Nat) (L:List Fl),j<=N/\i=.int .i64 j/\Hid (L.map Fl.x=(.mk k m u g o rL d ks)::xs.take j)/\Hid (L.length=j+1)/\Hid (FO ar v L wr)) (λ_ i _=>N-(intOf i).toNat)
  case atStart=>exact⟨0,[(⟨(.mk k m u g o rL d ks),H,0⟩:Fl)],N7 _,rfl,rfl,rfl,d7⟩
  case round=>
   obtain⟨j,L,hA,rfl,d8,b6,bi⟩:=hrel;by_cases fo:j<N
   .have fp:decide ((j:Int)<(N:Int))=true:=NY oM
    obtain⟨x,dd⟩:∃x,xs[j]? =some x:=⟨_,NA (by rw[bG.out];exact fo)⟩;obtain⟨hB,I,h,rfl,bA,hd⟩:=ZC eL dd;have fs:Hid<|xs.take (j+1)=xs.take j++[x]:=Ks dd;obtain⟨ft,fx⟩:=d3 x<|NW dd;have gb:=bA.below bi.low
    have gg:Am (Ag wr.cell? λk=>u8.ownBlock==some k) x h:=hd.on (Se bi.low (λk cr=>by
     simp;intro e;have:=(bi.row.lt k e).1;omega))
    obtain⟨J,O,Z,ab,ad,ak,al,ao⟩:=x;have d9:=Hw wr<|Aw J O Z ab ad ak al ao h;have c9:=AC.new wr J O Z ab ad ak al ao h;have eb:=bi.out.below d9;have gl:=gg.on<|Du d9;have go:Hid (Calls prog 28 #[(Ba J O Z ab ad ak al ao h)] (wr.alloc<|Aw J O Z ab ad ak al ao h) λe ed=>(∃h',e=.returned ((Ba J O Z ab ad ak al ao h'))/\Am (Ag ed.cell? λk=>u8.ownBlock==some k) (.mk J O Z ab ad ak al ao) h')/\Bw (wr.alloc<|Aw J O Z ab ad ak al ao h) ed):=J0 (x:=(.mk J O Z ab ad ak al ao)) (h:=h) (λk cr=>by simp at cr;exact(eb.row.lt k cr).2) gl (Id _ oM ft) fx;have gq:Hid<|FO ar u8 L<|wr.alloc<|Aw J O Z ab ad ak al ao h:=eb;obtain⟨f0,f1,f2,f3,f4,f5,f6,f7⟩:=gb;obtain⟨⟨hC,hD,hE,hG,hH,hI,hJ,hK⟩,_⟩:=c9;have hL:L.length<=1000:=by have:=b6.out;omega
    go_upto_region 8 with fail
    generalize wr.alloc (Aw J O Z ab ad ak al ao h)=hM at*;go_wp2_with fail
    with_reducible refine rQ go.out ?_
    rintro e bB ⟨⟨h',rfl,gr⟩,gu⟩;have de:Hid<|FO ar u8 L bB:=gq.below gu;have gv:Hid<|Am (Ag bB.cell? λk=>u8.ownBlock==some k) (.mk J O Z ab ad ak al ao) h':=gr;go_wp2_with (at_builtin;refine DP (bB.alloc<|Aw J O Z ab ad ak al ao h') rfl (.tmp 29) (.tmp 32) 115 rfl ar.heap.size 31 e0 (GK) 8 104 underlying115 e5 e6 e7 e8 rfl oD u8 L.length (BK L) rfl (de.row.alloc _) (some ⟨bB.heap.size,0,none⟩) 1 1 (Bq (.mk J O Z ab ad ak al ao) h') rfl rfl (.inr ⟨_,rfl,λq t gw=>by rw[Ef,RT];exact Ph bB _ h' _ q t gw⟩) (LL _ _) (by unfold maxLen;omega) oM (by have:=de.out.low.size;rw[ND];omega) ?_)
    intro gx bk gy gz g0;have g2:Hid<|FO ar gx (L++[(⟨(.mk J O Z ab ad ak al ao),h',0⟩:Fl)]) bk:=(de.below<|Hw bB _).app (f:=⟨(.mk J O Z ab ad ak al ao),h',0⟩) (Am.on gv<|Du<|Hw bB _) (by rw[Nh,N6];simpa [BK]using gy) gz (by rw[ND];exact g0);have g5:Hid ((L++[(⟨(.mk J O Z ab ad ak al ao),h',0⟩:Fl)]).map Fl.x=(.mk k m u g o rL d ks)::xs.take (j+1)):=by show _=_;rw[CT,d8.out,fs.out];rfl
    go_wp2;go_roundw
    case rel=>exact⟨j+1,_,by omega,by go_num,g5,(show _=_ from by rw[N6,b6.out];rfl),g2⟩
    case measure=>(simp[intOf];try omega)
   .obtain rfl:j=N:=by omega
    have fp:decide ((j:Int)<(j:Int))=false:=NM oM;have ee:Hid (L.map Fl.x=(.mk k m u g o rL d ks)::xs):=by show _=_;rw[d8.out,R3 (by rw[bG.out];omega)]
    obtain⟨aA,be,rfl,g6,ef⟩:=Zr bi (λe=>by have:=b6.out;rw[e]at this;simp at this);rw[ee.out]at ef;have g7:Hid<|CP wr.cell? (some ⟨aA,0,none⟩) ((.mk k m u g o rL d ks)::xs):=ef;have g8:Hid<|j+1<=be/\be<=9223372036854775807:=by rw[<-b6.out];exact g6
    have a1:Hid<|Bw ar wr:=bi.low;have eg:=b6.out;have b7:Hid (FO ar (.slice (some ⟨aA,0,none⟩) (j+1) be) L wr/\L.map Fl.x=(.mk k m u g o rL d ks)::xs/\aA<wr.heap.size):=⟨(by have q:=bi.out;rw[eg]at q;exact q),ee,(bi.row.lt aA rfl).2⟩;rw[eg];have ej:Hid (∀W,Bw wr W->Qy ua us uc W):=λW hb=>eD W<|a1.trans<|hb.mono a1.size;have ek:Hid (∀W,Bw wr W->Qy ga gs gc W):=λW hb=>eE W<|a1.trans<|hb.mono a1.size
    have c0:=Aj a1 bs.1;have cx:=Aj a1 bs.2.1;go_upto_region 10 with fail
    have b9:w.heap.size<wr.heap.size:=NF wr ⟨w.heap.size,0,none⟩ c0;have ce:Hid<|Bw wr wr.drew:=(NB _ _).drew;have cf:Hid<|Bw wr (wr.alloc<|Er none 0 0 none 0 0).drew:=((NB _ _).alloc (rP _) _).drew;have dg:(Nz w.heap.size ua us uc ga gs gc wr.drew):=⟨Aj ce c0,Aj ce cx⟩;have g9:(Nz w.heap.size ua us uc ga gs gc (wr.alloc<|Er none 0 0 none 0 0).drew):=⟨Aj cf c0,Aj cf cx⟩;go_cut [11]from 35 (λs ha=>Kd wr ha us gs s)
    case first=>
     go_region_held3 (λw'=>Nz w.heap.size ua us uc ga gs gc w') (first|with_reducible exact dg|with_reducible exact g9|with_reducible exact dj|with_reducible exact bC|(with_reducible exact⟨Bz dg.1,Bz dg.2⟩)|(with_reducible exact⟨Bz dj.1,Bz dj.2⟩)|(with_reducible exact⟨Bz bC.1,Bz bC.2⟩)|exact⟨(BO<|Nat.ne_of_lt ch).trans<|(BO<|Nat.ne_of_lt ch).trans bC.1,(BO<|Nat.ne_of_lt ch).trans<|(BO<|Nat.ne_of_lt ch).trans bC.2⟩|exact⟨(BO<|Nat.ne_of_lt b9).trans<|(BO<|Nat.ne_of_lt b9).trans bC.1,(BO<|Nat.ne_of_lt b9).trans<|(BO<|Nat.ne_of_lt b9).trans bC.2⟩) (first|(go_at_call 90;(first|((with_reducible refine rQ (ej.out _ cf.out) ?_);rintro e a6 ⟨⟨I,c1,rfl,bf⟩,q6⟩;have aw:=hid<|cf.out.trans<|q6.mono cf.out.size;have em:=hid<|((Jk.new wr).below (NB _ _).drew).below q6;have bl:Hid<|Fs (wr.alloc<|Er none 0 0 none 0 0).heap.size I us c1 a6:=bf)|((with_reducible refine rQ (ej.out _ ce.out) ?_);rintro e a6 ⟨⟨I,c1,rfl,bf⟩,q6⟩;have aw:=hid<|ce.out.trans<|q6.mono ce.out.size;have bl:Hid<|Fs wr.heap.size I us c1 a6:=bf));have dj:Nz w.heap.size ua us uc ga gs gc a6:=⟨Aj aw c0,Aj aw cx⟩)|(go_at_call 90;(first|((with_reducible refine rQ (ek.out _ aw.out) ?_);rintro e bk ⟨⟨az,c2,rfl,bf⟩,q7⟩;have bY:=hid<|aw.out.trans<|q7.mono aw.out.size;have cD:Hid<|Fs a6.heap.size az gs c2 bk:=bf;have bl:=hid<|bl.out.below q7;try have cF:=hid<|em.out.below q7)|((with_reducible refine rQ (ek.out _<|aw.out.alloc aw.out.size<|Er none 0 0 none 0 0) ?_);rintro e bk ⟨⟨az,c2,rfl,bf⟩,q7⟩;have bY:=hid<|(aw.out.alloc aw.out.size<|Er none 0 0 none 0 0).trans<|q7.mono (aw.out.alloc aw.out.size<|Er none 0 0 none 0 0).size;have cD:Hid<|Fs (a6.alloc<|Er none 0 0 none 0 0).heap.size az gs c2 bk:=bf;have hc:Hid (∀p,I=some p->us≠[]->p.block≠a6.heap.size):=(λp G _=>(by have:=bl.out.2.2.1 p G;omega));have en:=hid aw.out.size;have ch:w.heap.size<a6.heap.size:=N1 b9 en.out;have bl:=hid<|bl.out.below<|(Hw a6 _).trans<|q7.mono (Hw a6 _).size;have cF:=hid<|(Jk.new a6).below q7));have bC:Nz w.heap.size ua us uc ga gs gc bk:=⟨Aj bY c0,Aj bY cx⟩;try(obtain⟨z0,hN,eo,_⟩:=id cF.out;have hO:=eo 0;have hP:=eo 1)))
     all_goals
      go_wp2_with fail
      go_meet
      have dk:Fs wr.heap.size I us c1 bk:=bl.out.le (by simp);have dm:Fs wr.heap.size az gs c2 bk:=cD.out.le (by have:=aw.out.size;simp;omega);first
      |exact Kd.st cF bY en dk dm hc (λp G bA=>by have:=cD.out.2.2.2 p G bA;simp at this;omega)
      |exact Kd.st cF bY (rP _) dk dm (λp G bA=>by have:=bl.out.2.2.2 p G bA;simp at this;omega) (λp G bA=>by have:=cD.out.2.2.2 p G bA;have:=em.out.lt;omega)
      |exact Kd.al bY dk dm
    case' rest=>
     obtain⟨dn,I,az,c1,c2,rfl,he,hf,c3,RA,c4⟩:=hcut;generalize wc=ap at*
    have bn:Hid<|Bw ar ap:=a1.trans<|c3.mono a1.size;have bo:(Ty dn I us c1 az gs c2 w.heap.size cu cg ca cs cc ck q ap.drew):=⟨he,hf,Aj bn bs.2.2.1,Aj bn bs.2.2.2.1,Aj bn bs.2.2.2.2.1,Aj bn bs.2.2.2.2.2.1,Aj bn bs.2.2.2.2.2.2.1⟩;have b0:Hid ((Rgs ap I us/\Rgs ap az gs)/\(∀p,I=some p->p.block<ap.heap.size)/\∀p,az=some p->p.block<ap.heap.size):=⟨⟨RA.2.1,c4.2.1⟩,RA.2.2.1,c4.2.2.1⟩;have hg:Hid<|FO ar (.slice (some ⟨aA,0,none⟩) (j+1) be) L ap:=b7.1.below c3;have ep:Hid<|wr.heap.size<=ap.heap.size:=c3.size;have hh:Hid<|CP ap.cell? (some ⟨aA,0,none⟩) ((.mk k m u g o rL d ks)::xs):=g7.on<|Ai c3;have eq:Hid<|(us.length<=c1/\c1<=9223372036854775807)/\gs.length<=c2/\c2<=9223372036854775807:=⟨RA.1,c4.1⟩;have er:=hid RA.2.2.2;have es:=hid c4.2.2.2;have hi:Hid (Calls prog 91 #[Fj cu cg ca cs.length cc ck] ap.drew λe w'=>(∃I bx,e=.returned (Fj cu cg I cs.length bx ck)/\(cs.length<=bx/\bx<=9223372036854775807)/\AV w' I cs/\∀p,I=some p->p.block<w'.heap.size/\(cs=[]\/ap.drew.heap.size<=p.block))/\Bw ap.drew w'):=eF _<|bn.drew;go_upto_region 11 with fail
    go_region_held3 (λw'=>(Ty dn I us c1 az gs c2 w.heap.size cu cg ca cs cc ck q w')) (first|with_reducible exact bo|with_reducible exact bp|with_reducible exact⟨Bz bp.1,Bz bp.2.1,Bz bp.2.2.1,Bz bp.2.2.2.1,Bz bp.2.2.2.2.1,Bz bp.2.2.2.2.2.1,Bz bp.2.2.2.2.2.2⟩) (first|(go_at_call 91;(with_reducible refine rQ hi.out ?_);rintro e a8 ⟨⟨b1,bu,rfl,hj,hk,hl⟩,q8⟩;have bp:(Ty dn I us c1 az gs c2 w.heap.size cu cg ca cs cc ck q a8):=⟨Aj q8 bo.1,Aj q8 bo.2.1,Aj q8 bo.2.2.1,Aj q8 bo.2.2.2.1,Aj q8 bo.2.2.2.2.1,Aj q8 bo.2.2.2.2.2.1,Aj q8 bo.2.2.2.2.2.2⟩;have c5:Hid ((cs.length<=bu/\bu<=9223372036854775807)/\AV a8 b1 cs/\∀p,b1=some p->p.block<a8.heap.size/\(cs=[]\/ap.heap.size<=p.block)):=⟨hj,hk,hl⟩;have ba:Hid<|Bw ap a8:=((NB ap.heap.size ap).drew).trans q8))
    all_goals
     have hm:Hid<|af w (a8.alloc<|.cells #[.slice I us.length c1,.slice az gs.length c2,.slice (some ⟨aA,0,none⟩) (j+1) be,.int .i64 cu,.int .i64 cg,.slice b1 cs.length bu,.int .i64 ck,.int .i64 q] 119) us gs cs cu cg ck q xs (.returned<|.tuple #[.pointer<|some ⟨a8.heap.size,0,none⟩,.nilIface])/\Bw w (a8.alloc<|.cells #[.slice I us.length c1,.slice az gs.length c2,.slice (some ⟨aA,0,none⟩) (j+1) be,.int .i64 cu,.int .i64 cg,.slice b1 cs.length bu,.int .i64 ck,.int .i64 q] 119):=by
      have bF:=Hw a8<|.cells #[.slice I us.length c1,.slice az gs.length c2,.slice (some ⟨aA,0,none⟩) (j+1) be,.int .i64 cu,.int .i64 cg,.slice b1 cs.length bu,.int .i64 ck,.int .i64 q] 119;have dp:=a7.out.trans<|(bn.trans<|ba.mono bn.size).mono a7.size;have b2:=ff.out;obtain⟨hQ,ch,H,⟨eu,hn⟩,ev,ho⟩:=mX b2.root;refine⟨.inr ⟨a8.heap.size,⟨⟨I,az,c1,c2,us,gs⟩,some ⟨aA,0,none⟩,be,(.mk k m u g o rL d ks)::xs,cu,cg,b1,bu,cs,ck,q⟩,(.mk k m u g o rL d ks),rfl,dp.size,⟨?_,λhp hq=>?_,λhp=>RB _ _ _ _ rfl,⟨(b0.1.1.below ba).below bF,(b0.1.2.below ba).below bF,b4.out.1.1,b4.out.1.2,eq.1.1,eq.2.1,b4.out.2.1,b4.out.2.2.1⟩,(hh.on<|Ai ba).on<|Ai bF,?_,c5.2.1.below bF,c5.1,λp G=>?_,λp G=>?_,.inr λp G=>?_⟩,⟨rfl,⟨?_,?_,?_⟩,?_,λx hx=>⟨b2.low x hx,(d3 x hx).1,eX x hx⟩,?_,?_,⟨b2.cr,b4.out.2.2.2⟩⟩,rfl,rfl,rfl,rfl,b2,⟨aA,ar,L,rfl,?_,a7.size,?_,b7.2.1,?_,?_⟩,?_,⟨λp G=>?_,λp G=>?_⟩,?_,?_⟩,dp.alloc dp.size _⟩
      .have hr:((.mk k m u g o rL d ks:Nd)::xs).length=j+1:=by rw[R5,bG.out]
       refine⟨rO _ _ _ _ rfl,rO _ _ _ _ rfl,?_,rO _ _ _ _ rfl,rO _ _ _ _ rfl,rO _ _ _ _ rfl,rO _ _ _ _ rfl,rO _ _ _ _ rfl⟩;rw[hr];exact rO _ _ _ _ rfl
      .rw[rO _ _ _ _ rfl]
       exact C4 (by simpa using hq)
      .rw[R5,bG.out];exact g8
      .have bg:=b0.out.2.1 p G;have bq:=ba.out.size;omega
      .have bg:=b0.out.2.2 p G;have bq:=ba.out.size;omega
      .have bg:=(c5.2.2 p G).1;omega
      .rw[H,AI,Co];exact⟨⟨by decide,λr bf=>(by cases bf)⟩,by decide,trivial⟩
      .rw[H,A0,CJ];exact⟨hn,ho,trivial⟩
      .rw[H,cnt,cntL];omega
      .rw[H];exact ol eu ev
      .have:=b2.len;omega
      .have bg:=mY eu ev;have bq:=b2.q1;show EP (.mk k m u g o rL d ks)<=q;rw[H];omega
      .have bg:=b7.out.2.2;have bq:=ep.out;have dr:=ba.out.size;show aA≠a8.heap.size;omega
      .show FO ar (.slice (some ⟨aA,0,none⟩) ((.mk k m u g o rL d ks:Nd)::xs).length be) L _
       rw[R5,bG.out];exact(hg.below ba).below bF
      .rcases Classical.em (us=[])with e|e
       .exact .inl e
       .exact .inr λp G=>by have bg:=er.out p G e;have bq:=b7.out.2.2;omega
      .rcases Classical.em (gs=[])with e|e
       .exact .inl e
       .exact .inr λp G=>by have bg:=es.out p G e;have bq:=b7.out.2.2;omega
      .rcases Classical.em (cs=[])with e|e
       .exact .inl e
       .exact .inr λp G=>by have bg:=(c5.2.2 p G).2.resolve_left e;have bq:=a7.out.size;have dr:=a1.out.size;have hR:=ep.out;omega
      .exact N1 (b0.2.1 p G)<|Rz ba.size bF.size
      .exact N1 (b0.2.2 p G)<|Rz ba.size bF.size
      .exact(Classical.em<|us=[]).imp id λe p G=>by have bg:=er.out p G e;have bq:=a7.out.size;have dr:=a1.out.size;omega
      .exact(Classical.em<|gs=[]).imp id λe p G=>by have bg:=es.out p G e;have bq:=a7.out.size;have dr:=a1.out.size;omega
     go_wp2;go_ret2;exact hm
end Go.Proofs.YtchpdmjlicmdaaaGreatDoor
namespace Go.Proofs.YtchpdmjlicmdaaaGreatDoor
open Go.ChangeShapes Go.WideShapes Go.ChangeAt Go.RowKit Go.Deep Go.ChangeMaps Go.Proofs.Tryz
variable {α:Type}{l:List α}
namespace RowsIn
theorem own:ownKnob prog.godebug=none:=by kernel_rfl
theorem laidOut:laidOutB prog=true:=by kernel_rfl
theorem mz:prog.cellsOf 148=2:=by kernel_rfl
theorem KK:prog.cellsOf 9=1:=by kernel_rfl
theorem SO(h:l.length=2):∃a b,l=[a,b]:=by
 match l,h with
 |[a,b],_=>exact⟨a,b,rfl⟩
theorem bQ{ab:Type}{enc:TypeId×Value->ab}{W:World}{m:Nat}{v:Value}{y:DataW ab×List MemPlace}(h:DataW.trod enc prog W 0 (λ_=>true) true m 28 [v]=some y):
 ∃a n cap l,v=.slice a n cap/\l.length=n/\n<=cap/\cap<=9223372036854775807/\Bg W.cell? a l:=by
 rcases open_slice underlying28 h with⟨I,_⟩|⟨x,G,cap,a1,n,D,Pl,I,_,ad,a6,a7,_,hx⟩
 .obtain rfl:v=nL:=by simpa using I
  exact⟨none,0,0,[],rfl,rfl,by omega,by omega,.inl rfl⟩
 .obtain rfl:v=.slice (some x) G cap:=by simpa using I
  have bi:G<=a1:=by rw[a7];simp;exact ad
  have ak:∀i,i<G->∃r:Kv,W.cell? (x.add<|i*2)=some (.string r.n)/\W.cell? ((x.add<|i*2).add 1)=some (.string r.v):=by
   intro i J;obtain⟨bk,al,a8⟩:=hx i oM;rw[mz]at al;obtain⟨_,ba,ao⟩:=World.cells?_some al;obtain⟨c0,c1,rfl⟩:=SO ba;obtain⟨bl,bn,k,_,_,t0,ap⟩:=trod_struct2 underlying148 a8;rw[KK]at t0 ap;obtain⟨u0,ar,_,w0⟩:=tE underlying9 t0;obtain⟨u1,aw,_,bo⟩:=tE underlying9 ap;simp at ar aw;subst ar aw;have H:=ao 0 oM;have g1:=ao 1 oM;exact⟨⟨u0,u1⟩,by simpa [Addr.add]using H,by simpa using g1⟩
  obtain⟨f,az⟩:∃f:Nat->Kv,∀i,i<G->W.cell? (x.add<|i*2)=some (.string (f i).n)/\W.cell? ((x.add<|i*2).add 1)=some (.string (f i).v):=by
   refine⟨λi=>if h:i<G then Classical.choose (ak i h)else⟨ByteArray.empty,ByteArray.empty⟩,λi J=>?_⟩;simp only[J,dite_true];exact CA<|ak i J
  refine⟨some x,G,cap,(List.range G).map f,rfl,by simp,ad,by unfold maxLen at a6;omega,?_⟩;by_cases bb:G=0
  .subst bb;exact .inl rfl
  .obtain⟨b,O,bd⟩:=x
   have be:bd=none:=by
    have:=World.cell?_spot (az 0 oM).1;simpa [Addr.add]using this
   subst be;refine .inr ⟨b,O,rfl,λk r Z=>?_⟩;have aA:k<G:=by have:=(NE.1 Z).1;simpa using this
   have bf:r=f k:=by simp[aA]at Z;exact Z.symm
   subst bf;obtain⟨H,g1⟩:=az k aA;have e:((aD b O):Addr).add (k*2)=(aD b<|O+k*2):=by by_cases bg:k*2=0<;>simp[Addr.add,bg]
   rw[e]at H g1;exact⟨H,by simpa [Addr.add]using g1⟩
theorem Sw:prog.cellsOf 31=8:=by kernel_rfl
theorem XP:prog.cellsOf 92=9:=by kernel_rfl
theorem lj:prog.cellsOf 28=1:=by kernel_rfl
theorem kh:prog.cellsOf 29=1:=by kernel_rfl
theorem PF:prog.cellsOf 3=1:=by kernel_rfl
theorem pd:prog.cellsOf 4=1:=by kernel_rfl
theorem RO(h:l.length=8):∃a b c d e f g i,l=[a,b,c,d,e,f,g,i]:=by
 match l,h with
 |[a,b,c,d,e,f,g,i],_=>exact⟨a,b,c,d,e,f,g,i,rfl⟩
theorem mK(h:l.length=9):∃z G,l=z::G/\G.length=8:=by cases l<;>grind
end RowsIn
end Go.Proofs.YtchpdmjlicmdaaaGreatDoor
namespace Go.Proofs.YtchpdmjlicmdaaaGreatDoor
open Go.ChangeShapes Go.WideShapes Go.ChangeAt Go.RowKit Go.Deep Go.Proofs.Tryz
variable {α:Type}{W:World}
namespace RowsIn
theorem nt:prog.cellsOf 181=3:=by kernel_rfl
theorem Ib:prog.cellsOf 3=1:=by kernel_rfl
theorem Iv{x:Int}(h:(Lit.int .i64 x).wf=true):A4 x:=by
 simp[Lit.wf,IntKind.min,IntKind.max,IntKind.signed,IntKind.bits]at h;exact⟨by omega,by omega⟩
theorem j6{l:List α}(h:l.length=3):∃a b c,l=[a,b,c]:=by
 match l,h with
 |[a,b,c],_=>exact⟨a,b,c,rfl⟩
theorem UC{al:Type}{enc:TypeId×Value->al}{m:Nat}{v:Value}{y:DataW al×List MemPlace}(h:DataW.trod enc prog W 0 (λ_=>true) true m 36 [v]=some y):
 ∃a n cap rs,v=.slice a n cap/\n<=cap/\rs.length=n/\Rgs W a rs/\∀r∈rs,r.ok:=by
 rcases open_slice underlying36 h with⟨O,_⟩|⟨x,G,cap,a8,n,D,Pl,O,_,ao,_,ba,_,hx⟩
 .obtain rfl:v=nL:=by simpa using O
  exact⟨none,0,0,[],rfl,rP _,rfl,.inl rfl,by simp⟩
 .obtain rfl:v=.slice (some x) G cap:=by simpa using O
  have bp:G<=a8:=by rw[ba];simp;exact ao
  have ap:∀i,i<G->∃r:Rg,(W.cell? (x.add<|i*3)=some (iN r.i)/\W.cell? ((x.add<|i*3).add 1)=some (iN r.o)/\W.cell? ((x.add<|i*3).add 2)=some (iN r.n))/\r.ok:=by
   intro i H;obtain⟨bq,ar,bb⟩:=hx i oM;rw[nt]at ar;obtain⟨_,bd,Z⟩:=World.cells?_some ar;obtain⟨c0,c1,c2,rfl⟩:=j6 bd;obtain⟨bs,bu,bx,k,_,_,t0,aw,az⟩:=trod_struct3 underlying181 bb;rw[Ib]at t0 aw az;obtain⟨u0,aA,_,w0⟩:=C1 underlying3 t0;obtain⟨u1,a1,_,be⟩:=C1 underlying3 aw;obtain⟨u2,a6,_,bf⟩:=C1 underlying3 az;simp at aA a1 a6;subst aA a1 a6;have I:=Z 0 oM;have g1:=Z 1 oM;have J:=Z 2 oM;exact⟨⟨u0,u1,u2⟩,⟨by simpa [Addr.add]using I,by simpa using g1,by simpa using J⟩,Iv w0,Iv be,Iv bf⟩
  obtain⟨f,ab⟩:∃f:Nat->Rg,∀i,i<G->(W.cell? (x.add<|i*3)=some (iN (f i).i)/\W.cell? ((x.add<|i*3).add 1)=some (iN (f i).o)/\W.cell? ((x.add<|i*3).add 2)=some (iN (f i).n))/\(f i).ok:=by
   refine⟨λi=>if h:i<G then Classical.choose (ap i h)else⟨0,0,0⟩,λi H=>?_⟩;simp only[H,dite_true];exact CA<|ap i H
  refine⟨some x,G,cap,(List.range G).map f,rfl,ao,by simp,?_,?_⟩
  .by_cases bg:G=0
   .subst bg;exact .inl rfl
   .obtain⟨b,ad,bi⟩:=x
    have bk:bi=none:=by
     have:=World.cell?_spot (ab 0 oM).1.1;simpa [Addr.add]using this
    subst bk;refine .inr ⟨b,ad,rfl,λk r ak=>?_⟩;have a7:k<G:=by have:=(NE.1 ak).1;simpa using this
    have bl:r=f k:=by simp[a7]at ak;exact ak.symm
    subst bl;obtain⟨⟨I,g1,J⟩,_⟩:=ab k a7;have e:((aD b ad):Addr).add (k*3)=(aD b<|ad+k*3):=by by_cases bn:k*3=0<;>simp[Addr.add,bn]
    rw[e]at I g1 J;exact⟨I,by simpa [Addr.add]using g1,by simpa [Addr.add]using J⟩
  .intro r bo
   obtain⟨i,H,rfl⟩:=CQ.1 bo;exact(ab i (by simpa using H)).2
end RowsIn
theorem Zc:∀{ks:Ay},(∀(i:Nat) (n:BA) (x:Nd),ks[i]? =some (n,x)->A0 x)->CJ ks
 |[],_=>by rw[CJ];trivial
 |(n,x)::l,h=>by
  rw[CJ];exact⟨h 0 n x rfl,Zc λi G H I=>h (i+1) G H (by simpa using I)⟩
namespace RowsIn
theorem Px:prog.cellsOf 38=2:=by kernel_rfl
theorem XV:prog.cellsOf 36=1:=by kernel_rfl
theorem cm{ba:Type}{enc:TypeId×Value->ba}:∀(m:Nat) (cs:List Value) (y:DataW ba×List MemPlace),DataW.trod enc prog W 0 (λ_=>true) true m 31 cs=some y->
 ∃x h,cs=Bq x h/\Am W.cell? x h/\A0 x:=by
 intro m;induction m using Nat.strongRecOn with
 |ind m bq=>
  intro cs y bs;obtain⟨xs,n,dm,_,bu,bx,hx⟩:=DataW.trod_struct underlying31 bs;obtain⟨c0,c1,c2,bA,bB,bC,bF,c7,rfl⟩:=RO<|bu.trans Sw;obtain⟨bG,bH,bY,b0,b1,b2,b4,b6,rfl⟩:=RO (show xs.length=8 from bx);have t0:DataW.trod enc prog W 0 (λ_=>true) true n 3 [c0]=some bG:=by simpa [PF]using hx 0 _ rfl
  have b7:DataW.trod enc prog W 0 (λ_=>true) true n 3 [c1]=some bH:=by simpa [PF]using hx 1 _ rfl
  have b9:DataW.trod enc prog W 0 (λ_=>true) true n 3 [c2]=some bY:=by simpa [PF]using hx 2 _ rfl
  have t3:DataW.trod enc prog W 0 (λ_=>true) true n 3 [bA]=some b0:=by simpa [PF]using hx 3 _ rfl
  have t4:DataW.trod enc prog W 0 (λ_=>true) true n 4 [bB]=some b1:=by simpa [pd]using hx 4 _ rfl
  have t5:DataW.trod enc prog W 0 (λ_=>true) true n 28 [bC]=some b2:=by simpa [lj]using hx 5 _ rfl
  have ce:DataW.trod enc prog W 0 (λ_=>true) true n 9 [bF]=some b4:=by simpa [KK]using hx 6 _ rfl
  have cf:DataW.trod enc prog W 0 (λ_=>true) true n 29 [c7]=some b6:=by simpa [kh]using hx 7 _ rfl
  obtain⟨x0,bb,_⟩:=C1 underlying3 t0;obtain⟨ab,bd,_⟩:=C1 underlying3 b7;obtain⟨ad,be,_,ak⟩:=C1 underlying3 b9;obtain⟨al,bf,_,ao⟩:=C1 underlying3 t3;obtain⟨ap,bg,_⟩:=DataW.trod_bool underlying4 t4;obtain⟨ar,bi,_⟩:=tE underlying9 ce;simp at bb bd be bf bg bi;subst bb bd be bf bg bi;obtain⟨aa,na,ca,l,rfl,rfl,aw,az,aA⟩:=bQ t5;rcases DataW.trod_slice underlying29 cf with⟨a1,_⟩|⟨a,H,cap,dn,rM,dp,dr,a1,_,_,ch,bk,ds,cl,_,_⟩
  .obtain rfl:c7=nL:=by simpa using a1
   exact⟨.mk x0 ab ad al ap l ar [],⟨aa,ca,none,0⟩,rfl,.mk 0 0 (λ_=>⟨none,0,none,0⟩) aA ⟨aw,az⟩ ⟨by simp,by simp⟩ (.inl rfl) (λi n x G=>by simp at G) (λi n x G=>by simp at G),by rw[A0];exact⟨Iv ak,Iv ao,by rw[CJ];trivial⟩⟩
  .obtain rfl:c7=.slice (some a) H cap:=by simpa using a1
   have Z:∀i,i<H->∃(nm:BA) (x:Nd) (h:Hd),(∃z,W.cells? 0 (a.add<|i*9) 9=some z/\z=.string nm::Bq x h)/\Am W.cell? x h/\A0 x:=by
    intro i G;have bl:=cl i G;rw[XP,NA oM]at bl;obtain⟨du,a6,co⟩:=Option.bind_eq_some_iff.1 bl;obtain⟨cr,a7,dw,_,cx,cD,bn⟩:=DataW.trod_struct underlying92 co;obtain⟨z,a8,rfl,dx⟩:=mK<|cx.trans XP;obtain⟨cF,c3,rfl⟩:=SO (show cr.length=2 from cD);have c4:DataW.trod enc prog W 0 (λ_=>true) true a7 9 [z]=some cF:=by simpa [KK]using bn 0 _ rfl
    obtain⟨nm,c5,_⟩:=tE underlying9 c4;have c6:z=.string nm:=by simpa using c5
    have c8:DataW.trod enc prog W 0 (λ_=>true) true a7 31 a8=some c3:=by
     have e:List.take 8 a8=a8:=R3 oM;have:=bn 1 _ rfl;simpa [Sw,e]using this
    obtain⟨x,h,e,c9,da⟩:=bq a7 oM _ _ c8;exact⟨nm,x,h,⟨_,a6,by rw[c6,e]⟩,c9,da⟩
   obtain⟨F,hF⟩:∃F:Nat->BA×Nd×Hd,∀i,i<H->(∃z,W.cells? 0 (a.add<|i*9) 9=some z/\z=.string (F i).1::Bq (F i).2.1 (F i).2.2)/\Am W.cell? (F i).2.1 (F i).2.2/\A0 (F i).2.1:=by
    refine⟨λi=>if h:i<H then⟨Classical.choose<|Z i h,Classical.choose<|CA<|Z i h,Classical.choose<|CA<|CA<|Z i h⟩else⟨ByteArray.empty,.mk 0 0 0 0 false [] ByteArray.empty [],⟨none,0,none,0⟩⟩,λi G=>?_⟩;simp only[G,dite_true];exact CA<|CA<|CA<|Z i G
   by_cases dd:H=0
   .subst dd
    exact⟨.mk x0 ab ad al ap l ar [],⟨aa,ca,some a,cap⟩,rfl,.mk 0 0 (λ_=>⟨none,0,none,0⟩) aA ⟨aw,az⟩ ⟨by simp,by unfold maxLen at bk;show cap<=_;omega⟩ (.inl rfl) (λi n x G=>by simp at G) (λi n x G=>by simp at G),by rw[A0];exact⟨Iv ak,Iv ao,by rw[CJ];trivial⟩⟩
   .obtain⟨b,O,bo⟩:=a
    have bp:∀i,i<H->∀q v,(Value.string (F i).1::Bq (F i).2.1 (F i).2.2)[q]? =some v->W.cell? (((⟨b,O,bo⟩:Addr).add<|i*9).add q)=some v:=by
     intro i G q v J;obtain⟨⟨z,a6,rfl⟩,_⟩:=hF i G;obtain⟨_,dy,de⟩:=World.cells?_some a6;have dg:q<9:=by have:=(NE.1 J).1;omega
     rw[de q dg];exact J
    have dj:bo=none:=by
     have:=World.cell?_spot<|bp 0 oM 0 _ rfl;simpa [Addr.add]using this
    subst dj;have dk:∀i q,((((aD b O):Addr).add<|i*9).add q)=(aD b<|O+i*9+q):=by
     intro i q;by_cases G:i*9=0<;>by_cases J:q=0<;>simp[Addr.add,G,J]
    have get:∀i n x,((List.range H).map λi=>((F i).1,(F i).2.1))[i]? =some (n,x)->i<H/\n=(F i).1/\x=(F i).2.1:=by
     intro i n x G;have I:i<H:=by have:=(NE.1 G).1;simpa using this
     simp[I]at G;exact⟨I,G.1.symm,G.2.symm⟩
    refine⟨.mk x0 ab ad al ap l ar ((List.range H).map λi=>((F i).1,(F i).2.1)),⟨aa,ca,some<|aD b O,cap⟩,by simp[Bq],.mk b O (λi=>(F i).2.2) aA ⟨aw,az⟩ ⟨by simp;exact ch,by unfold maxLen at bk;show cap<=_;omega⟩ (.inr rfl) ?_ ?_,?_⟩
    .intro i n x G
     obtain⟨I,rfl,rfl⟩:=get i n x G;refine JY.2 λq v J=>?_;have:=bp i I q v J
     rwa [dk]at this
    .intro i n x G
     obtain⟨I,rfl,rfl⟩:=get i n x G;exact(hF i I).2.1
    .rw[A0]
     refine⟨Iv ak,Iv ao,Zc λi n x G=>?_⟩;obtain⟨I,rfl,rfl⟩:=get i n x G;exact(hF i I).2.2
end RowsIn
structure Cl where
 op:Int
 pa:BA
 ot:BA
 nm:BA
 da:BA
 a:Int
 b:Int
def Cl.l(c:Cl):List Value:=[iN c.op,.string c.pa,.string c.ot,.string c.nm,.string c.da,iN c.a,iN c.b]
def Z5(m:AR)(a:Option Addr)(l:List Cl):Prop:=l=[]\/∃b G,a=some (aD b G)/\∀i c,l[i]? =some c->∀q v,c.l[q]? =some v->m (aD b<|G+i*7+q)=some v
namespace RowsIn
theorem Yv:prog.cellsOf 35=7:=by kernel_rfl
theorem XE:prog.cellsOf 43=8:=by kernel_rfl
theorem Su:prog.cellsOf 41=4:=by kernel_rfl
theorem Nm:prog.cellsOf 39=1:=by kernel_rfl
theorem Wj{l:List α}(h:l.length=7):∃a b c d e f g,l=[a,b,c,d,e,f,g]:=by
 match l,h with
 |[a,b,c,d,e,f,g],_=>exact⟨a,b,c,d,e,f,g,rfl⟩
theorem WU{l:List α}(h:l.length=4):∃a b c d,l=[a,b,c,d]:=by
 match l,h with
 |[a,b,c,d],_=>exact⟨a,b,c,d,rfl⟩
theorem Ug{J:Type}{enc:TypeId×Value->J}{m:Nat}{v:Value}{y:DataW J×List MemPlace}(h:DataW.trod enc prog W 0 (λ_=>true) true m 39 [v]=some y):
 ∃a n cap zs,v=.slice a n cap/\n<=cap/\zs.length=n/\AV W a zs:=by
 rcases open_slice underlying39 h with⟨I,_⟩|⟨x,G,cap,ao,n,D,Pl,I,_,O,_,ap,_,hx⟩
 .obtain rfl:v=nL:=by simpa using I
  exact⟨none,0,0,[],rfl,rP _,rfl,.inl rfl⟩
 .obtain rfl:v=.slice (some x) G cap:=by simpa using I
  have bb:G<=ao:=by rw[ap];simp;exact O
  have Z:∀i,i<G->∃z:Int,W.cell? (x.add<|i*1)=some (iN z):=by
   intro i H;obtain⟨ar,ab,aw⟩:=hx i oM;rw[Ib]at ab;obtain⟨_,az,aA⟩:=World.cells?_some ab;obtain⟨c0,rfl⟩:∃c,ar=[c]:=List.length_eq_one_iff.1 az;obtain⟨u0,ad,_⟩:=C1 underlying3 aw;simp at ad;subst ad;have a1:=aA 0 oM;exact⟨u0,by simpa [Addr.add]using a1⟩
  obtain⟨f,ak⟩:∃f:Nat->Int,∀i,i<G->W.cell? (x.add<|i*1)=some (iN<|f i):=by
   refine⟨λi=>if h:i<G then Classical.choose (Z i h)else 0,λi H=>?_⟩;simp only[H,dite_true];exact CA<|Z i H
  refine⟨some x,G,cap,(List.range G).map f,rfl,O,by simp,?_⟩;by_cases a6:G=0
  .subst a6;exact .inl rfl
  .obtain⟨b,a7,a8⟩:=x
   have ba:a8=none:=by
    have:=World.cell?_spot<|ak 0 oM;simpa [Addr.add]using this
   subst ba;refine .inr ⟨b,a7,rfl,λi H=>?_⟩;have al:i<G:=by simpa using H
   have g:=ak i al;rw[Ef,Nat.mul_one]at g;rw[g];simp[List.getD,al]
end RowsIn
def ZM(P:Prop)(e:Ending):Prop:=∃r,e=.returned (.bool r)/\(r=true->P)
theorem aG{w:World}{ua ga ca lwa:Option Addr}{uc gc cc lwn lwc:Nat}{us gs:List Rg}{cs:List Int}{cu cg ck q:Int}:
 Calls prog 13 #[Mk ua ga ca lwa uc gc cc lwn lwc us gs cs cu cg ck q] w λe w'=>ZM (us.length<=6/\gs.length<=6/\cs.length<=8/\lwn<=6) e/\Bw w w':=by
 have O:=hid<|Hw w<|CY ua ga ca lwa uc gc cc lwn lwc us gs cs cu cg ck q;obtain⟨H,Z⟩:∃r,decide ((us.length:Int)<=6)=r:=⟨_,rfl⟩;obtain⟨I,ab⟩:∃r,decide ((gs.length:Int)<=6)=r:=⟨_,rfl⟩;obtain⟨J,ad⟩:∃r,decide ((cs.length:Int)<=8)=r:=⟨_,rfl⟩;obtain⟨ak,al⟩:∃r,decide ((lwn:Int)<=6)=r:=⟨_,rfl⟩;have G:Hid<|(H=true->us.length<=6)/\(I=true->gs.length<=6)/\(J=true->cs.length<=8)/\(ak=true->lwn<=6):=⟨λe=>by have:=C6<|Z.trans e;omega,λe=>by have:=C6<|ab.trans e;omega,λe=>by have:=C6<|ad.trans e;omega,λe=>by have:=C6<|al.trans e;omega⟩;cases H<;>cases I<;>cases J
 all_goals
  go_enter func13,ntmps13;go_wp2;go_ret;exact⟨⟨_,rfl,λe=>by first|exact Bool.noConfusion e|exact⟨G.1 oS,G.2.1 oS,G.2.2.1 oS,G.2.2.2 (by simpa using e)⟩⟩,O⟩
theorem aI{w:World}{a:Option Addr}{cap:Nat}{l:List Cl}(hx:Z5 w.cell? a l):
 Calls prog 14 #[.slice a l.length cap] w λe w'=>(∃r,e=.returned (.bool r)/\(r=true->l.length<=40/\∀c∈l,c.nm.size<=60))/\Bw w w':=by
 have ao:Hid<|Z5 w.cell? a l:=hx;obtain⟨N,J⟩:=Aq<|l.length;rw[J.out];clear hx;by_cases ap:40<N
 case pos=>
  have ad:decide ((40:Int)<(N:Int))=true:=NY oM;go_enter func14,ntmps14;go_wp2;go_ret;exact⟨⟨false,rfl,λe=>by cases e⟩,NB _ _⟩
 case neg=>
  have ad:decide ((40:Int)<(N:Int))=false:=NM oM;have ak:Hid<|N<=40:=by show _<=_;omega
  go_enter func14,ntmps14;go_upto_region 3 with fail
  clear ad ap;go_wp2;go_loopw [3] (λi wr=>∃j:Nat,j<=N/\i=iN j/\Hid (Bw w wr)/\Hid (∀t c,t<j->l[t]? =some c->c.nm.size<=60)) (λi _=>N-(intOf i).toNat)
  case atStart=>exact⟨0,N7 _,rfl,NB _ _,λt c I=>absurd I (Nat.not_lt_zero _)⟩
  case round=>
   obtain⟨j,be,rfl,H,HK⟩:=hrel;by_cases ar:j<N
   .have bf:(j:Int)<(N:Int):=by omega
    have bg:N<=40:=ak.out;obtain⟨c,G⟩:∃c,l[j]? =some c:=⟨_,NA (by rw[J.out];exact ar)⟩;rcases ao.out with e|⟨b,bi,rfl,al⟩
    .rw[e]at G;simp at G
    have hb:=al j c G;have f1:=Aj H<|hb 1 _ rfl;have f2:=Aj H<|hb 2 _ rfl;have f3:=Aj H<|hb 3 _ rfl;have f4:=Aj H<|hb 4 _ rfl;have aw:Hid<|l[j]? =some c:=G;obtain⟨op,O,Z,nm,ab,ca,cb⟩:=c;dsimp only at f1 f2 f3 f4;clear hb al G;by_cases az:200<O.size
    .have aA:decide ((200:Int)<(O.size:Int))=true:=NY oM
     go_wp2;go_ret;exact⟨⟨false,rfl,λe=>by cases e⟩,H⟩
    have aA:decide ((200:Int)<(O.size:Int))=false:=NM oM;by_cases a1:200<Z.size
    .have a6:decide ((200:Int)<(Z.size:Int))=true:=NY oM
     go_wp2;go_ret;exact⟨⟨false,rfl,λe=>by cases e⟩,H⟩
    have a6:decide ((200:Int)<(Z.size:Int))=false:=NM oM;by_cases a7:60<nm.size
    .have a8:decide ((60:Int)<(nm.size:Int))=true:=NY oM
     go_wp2;go_ret;exact⟨⟨false,rfl,λe=>by cases e⟩,H⟩
    have a8:decide ((60:Int)<(nm.size:Int))=false:=NM oM;have ba:Hid<|nm.size<=60:=by show _<=_;omega
    by_cases bb:300<ab.size
    .have bd:decide ((300:Int)<(ab.size:Int))=true:=NY oM
     go_wp2;go_ret;exact⟨⟨false,rfl,λe=>by cases e⟩,H⟩
    have bd:decide ((300:Int)<(ab.size:Int))=false:=NM oM;clear az a1 a7 bb;go_wp2;go_roundw
    case rel=>
     refine⟨j+1,by omega,by go_num,H,λt c I G=>?_⟩;by_cases e:t=j
     .subst e
      rw[aw.out]at G;cases G;exact ba
     .exact HK t c oM G
    case measure=>(simp[intOf];try omega)
   .obtain rfl:j=N:=by omega
    have bk:decide ((j:Int)<(j:Int))=false:=NM oM;go_wp2;go_ret;refine⟨⟨true,rfl,λ_=>⟨ak,λc G=>?_⟩⟩,H⟩;obtain⟨t,I⟩:=R7 G;exact HK t c (by have:=(NE.1 I).1;rw[J.out]at this;exact this) I
end Go.Proofs.YtchpdmjlicmdaaaGreatDoor
namespace Go.Proofs.YtchpdmjlicmdaaaGreatDoor
open Go.RowKit Go.Proofs.Tryz
variable {w w':World}{S:Nat->Prop}
theorem YX(w:World)(x y:Int)(t:TypeId):∀j u,(bc [b8 x,b8 y])[j]? =some u->(w.alloc<|.cells #[.int .u8<|x%256,.int .u8<|y%256] t).cell? (((aD w.heap.size 0):Addr).add j)=some u:=by grind [Ef,rO,bc,PE]
theorem Sn{base:Nat}{v:Value}{n:Nat}{L:List UInt8}(G:w.ownsRow base 5 1 v n<|bc L)(x:Int)(ao:n<=1000)(hb:base<=w.heap.size):
 Calls prog 92 #[v,iN x] w λe w'=>∃H,e=.returned H/\w'.ownsRow base 5 1 H (n+2) (bc<|L++[b8<|x / 256,b8 x])/\Below base w w':=by
 obtain⟨I,J,O,Z,ab⟩:=EL Tryz.infoB;go_enter func92,ntmps92;go_wp2_with (at_builtin;refine DP (w.alloc<|.cells #[.int .u8<|x / 256%256,.int .u8<|x%256] 5) rfl (.tmp 5) (.tmp 11) 102 rfl base 5 I (.int .u8 0) 1 1 underlying102 J O Z ab rfl oD _ n (bc L) rfl (tL G _) (some<|aD w.heap.size 0) 2 2 (bc [b8<|x / 256,b8 x]) rfl rfl (.inr ⟨_,rfl,YX _ _ _ _⟩) (IZ _) (by unfold maxLen;omega) oM (by rw[ND];omega) ?_)
 intro ad ap ak al ar;go_wp2;go_ret;exact⟨ad,rfl,by rw[MH];exact ak,((NB base w).alloc hb _).grown al (by rw[ND];omega) λg e=>((tK G) g e).1⟩
def Hb:List Int->List UInt8
 |[]=>[]
 |g::l=>Dd g++Hb l
def He(u g k:Int)(cs:List Int):List UInt8:=Dd u++Dd g++[b8 k,b8 cs.length]++Hb cs
theorem dE:∀(a b:List Int),Hb (a++b)=Hb a++Hb b:=by intro a b;induction a generalizing b<;>grind [Hb]
theorem YH:∀a:List Int,(Hb a).length=2*a.length
 |[]=>rfl
 |g::l=>by rw[Hb,N6,YH l,R5];simp only[Dd,R5,RC];omega
theorem kr{cs:List Int}{j:Nat}(G:j<cs.length):Hb (cs.take<|j+1)=Hb (cs.take j)++[b8<|cs.getD j 0 / 256,b8<|cs.getD j 0]:=by
 rw[CO,dE,List.getD_eq_getElem?_getD];rw[NA G];rfl
theorem Si(u g k:Int)(cs:List Int):(He u g k cs).length=6+2*cs.length:=by
 unfold He;rw[N6,YH];rfl
theorem QY{b:Nat}{B:Bx}{x:Nd}{rM:List Nd}(h:A6 w b B)(hx:B.xs=x::rM)(bb:B.cs.length<=100)(bY:AI x)(az:cnt x<=1000)(bd:(Cy x).length<=60000000)(be:Dj true x=0):
 Calls prog 52 #[pO b 0] w λe w'=>e=.returned (.string<|DS (He B.u B.g B.k B.cs)++DS (Cy x))/\Bw w w':=by
 obtain⟨b0,b1,b2,b4,b6⟩:=EL Tryz.infoB;have dj:=h.lt;obtain⟨c0,c1,c2,b7,aA,ak,bf,c7⟩:=h.cells;have bg:Hid<|CP w.cell? B.la (x::rM):=by have q:=h.lay;rw[hx]at q;exact q
 have bi:Hid<|AV w B.ca B.cs:=h.grp;have al:Hid<|(AI x/\cnt x<=1000)/\(Cy x).length<=60000000/\Dj true x=0:=⟨⟨bY,az⟩,bd,be⟩;rw[hx]at c2;obtain⟨la,bk⟩:∃la,B.la=la:=⟨_,rfl⟩;obtain⟨lc,b9⟩:∃lc,B.lc=lc:=⟨_,rfl⟩;obtain⟨ca,bl⟩:∃ca,B.ca=ca:=⟨_,rfl⟩;obtain⟨cc,ce⟩:∃cc,B.cc=cc:=⟨_,rfl⟩;obtain⟨cs,O⟩:∃cs,B.cs=cs:=⟨_,rfl⟩;obtain⟨H,bn⟩:∃H,B.u=H:=⟨_,rfl⟩;obtain⟨I,bo⟩:∃I,B.g=I:=⟨_,rfl⟩;obtain⟨G,bp⟩:∃G,B.k=G:=⟨_,rfl⟩;rw[bk,b9]at c2;rw[bl,ce,O]at ak;rw[bn]at b7;rw[bo]at aA;rw[bp]at bf;rw[bk]at bg;rw[bl,O]at bi;rw[O]at bb;rw[bn,bo,bp,O];obtain⟨N,Z⟩:∃N,cs.length=N:=⟨_,rfl⟩;rw[Z]at ak bb;have ab:Hid<|cs.length=N:=Z;obtain⟨ao,a1⟩:∃ao,DS (Cy x)=ao:=⟨_,rfl⟩;obtain⟨ap,a6⟩:∃ap,DS (He H I G cs)=ap:=⟨_,rfl⟩;have bq:Hid<|FM x=ao/\ao.size<=60000000:=⟨(NS be).trans a1,by rw[<-a1,Jo];exact bd⟩;have bs:Hid<|DS (He H I G cs)=ap/\ap.size=6+2*N:=⟨a6,by rw[<-a6,Jo,Si,Z]⟩;rw[a1,a6];have cf:Hid<|Ce w b 2<|.slice la (x::rM).length lc:=c2;have bu:Hid<|Ce w b 5<|.slice ca N cc:=ak;have ch:Hid<|Ce w b 6<|iN G:=bf;have cl:=Sn (w:=w) (base:=w.heap.size) (v:=nL) (n:=0) (L:=[]) (CZ _ _ _ _) H oM<|rP _;go_enter func52,ntmps52;go_wp2_with fail
 go_call cl as e w1 ⟨v1,rfl,r1,q1⟩
 replace aA:=Aj q1 aA;have co:=Sn r1 I oM q1.size;have cr:Hid<|Bw w w1:=q1;go_wp2_with fail
 go_call co as e w2 ⟨v2,rfl,r2,q2⟩
 have ar:Hid<|Bw w w2:=cr.trans q2;have bx:Hid<|w2.ownsRow w.heap.size 5 1 v2 4<|bc<|Dd H++Dd I:=r2;have T:Ce w2.drew b 5<|.slice ca N cc:=Aj ar bu;have dk:Ce w2.drew b 6<|iN G:=Aj ar ch;have a7:=ar.out.size;go_upto_region 3 with fail
 go_region_law (refine TY (w2.drew.alloc<|.cells #[.int .u8<|G%256,.int .u8<|(N:Int)%256] 5) (by rfl) (.tmp 21) (.tmp 35) 102 (by rfl) w.heap.size 5 b0 (.int .u8 0) 1 1 underlying102 b1 b2 b4 b6 rfl oD v2 4 (bc<|Dd H++Dd I) (by rfl) (tL (World.ownsRow.drew bx.out) _) (some<|aD w2.drew.heap.size 0) 2 2 (bc [b8 G,b8 N]) (by rfl) (by rfl) (.inr ⟨_,rfl,YX _ _ _ _⟩) (IZ _) (by unfold maxLen;omega) oM (by rw[ND];exact Rz a7<|tN _) ?_;intro v3 a8 cx cD dm)
 all_goals
  have cF:Hid<|a8.ownsRow w.heap.size 5 1 v3 6<|bc<|Dd H++Dd I++[b8 G,b8 N]:=by
   have q:=cx;rw[<-MH]at q;exact q
  have bA:Hid<|Bw w a8:=(ar.drew.alloc a7 _).grown cD (by rw[ND];exact Rz a7<|tN _) λg e=>((tK bx) g e).1;have ak:Ce a8 b 5<|.slice ca N cc:=Aj bA bu;go_wp2;go_loopw [3,43] (λv i wr=>∃j:Nat,i=iN j/\j<=N/\wr.ownsRow w.heap.size 5 1 v (6+2*j) (bc<|Dd H++Dd I++[b8 G,b8 N]++Hb (cs.take j))/\Bw w wr) (λ_ i _=>N-(intOf i).toNat)
  case atStart=>exact⟨0,rfl,N7 _,by rw[List.take_zero,Hb,te];exact cF,bA⟩
  case round=>
   obtain⟨j,rfl,dn,c3,q4⟩:=hrel;have bB:Hid<|wr.ownsRow w.heap.size 5 1 u3 (6+2*j)<|bc<|Dd H++Dd I++[b8 G,b8 N]++Hb (cs.take j):=c3;have J:Hid<|Bw w wr:=q4;by_cases c4:j<N
   .have c5:Hid<|AV wr ca cs:=bi.below J
    obtain⟨ad,dp,rfl,c6⟩:∃ad aw,ca=some (aD ad aw)/\Ce wr ad (aw+j) (iN<|cs.getD j 0):=by
     have Z:=ab.out;rcases c5.out with e|⟨ad,aw,e,az⟩
     .rw[e]at Z;simp at Z;omega
     .exact⟨ad,aw,e,az j oM⟩
    obtain⟨z,bC⟩:∃z,cs.getD j 0=z:=⟨_,rfl⟩;rw[bC]at c6;have c8:Hid<|cs.getD j 0=z:=bC;have ba:=Sn bB z oM J.size;go_wp2_with fail
    go_call ba as e w5 ⟨v5,rfl,r5,q5⟩
    have c9:Hid<|w5.ownsRow w.heap.size 5 1 v5 (6+2*(j+1))<|bc<|Dd H++Dd I++[b8 G,b8 N]++Hb (cs.take<|j+1):=by
     rw[kr (by rw[ab.out];exact c4),c8,<-R9];exact r5
    have da:Hid<|Bw w w5:=J.trans q5;go_wp2;go_roundw
    case rel=>exact⟨j+1,by go_num,by omega,c9,da⟩
    case measure=>simp[intOf];omega
   .have bF:j=N:=by omega
    have dd:Hid<|wr.ownsRow w.heap.size 5 1 u3 (6+2*N)<|bc<|He H I G cs:=by
     have q:=bB.out;rw[bF,<-ab.out,List.take_length,ab.out]at q;unfold He;rw[ab.out];exact q
    subst bF;have ba:=IU (b:=b) (la:=la) (lc:=lc) (x:=x) (rM:=rM) (Aj J cf)<|bg.on<|Ai J;go_wp2_with fail
    go_call ba as e w5 ⟨⟨h5,rfl,_,n5⟩,q5⟩
    have bG:=Rf n5 al.1.1 al.1.2 al.2.1;rw[bq.out.1,al.out.2.2]at bG;have dr:=bq.out.2;have bH:Hid<|Bw w w5:=J.trans<|q5.mono J.size;have de:Hid<|w5.ownsRow w.heap.size 5 1 u3 (6+2*j)<|bc<|He H I G cs:=Fy dd q5;go_wp2_with fail
    go_call bG as e w6 ⟨rfl,q6⟩
    have O:=Sb (Fy de q6) (by rw[Si,ab.out]) oM;have ds:=bs.out.2;rw[bs.out.1]at O;have dg:Hid<|Bw w w6:=bH.trans<|q6.mono bH.size;go_wp2;go_ret;exact⟨rfl,dg⟩
theorem PB{a:Option Addr}{zs:List Int}(h:AV w a zs):zs=[]\/∀p,a=some p->p.block<w.heap.size:=by
 rcases h with e|⟨I,J,rfl,H⟩
 .grind
 cases zs with
 |nil=>exact .inl rfl
 |cons z zs=>
  refine .inr λp G=>?_;injection G with G
  rw[<-G];exact NF _ _<|H 0 oS
theorem Mv.drew(h:Mv S w w'):Mv S w w'.drew:=⟨h.os,h.tape,h.output,h.size,h.block⟩
theorem Mv.alloc(h:Mv S w w')(o:Obj):Mv S w<|w'.alloc o:=h.trans<|Mv.of<|(NB _ _).alloc (rP _) o
theorem Mv.grown{a:World}{row:Option Nat}(h:Mv S a w)(G:w.grownBy w' row)(H:∀k,row=some k->S k):Mv S a w':=
 h.trans ⟨G.os,G.tape,G.output,G.size,λk I J=>G.block k I λe=>J<|H k e.symm⟩
theorem Mv.mono{T:Nat->Prop}(h:Mv S w w')(G:∀k,S k->T k):Mv T w w':=⟨h.os,h.tape,h.output,h.size,λk H I=>h.block k H λe=>I<|G k e⟩
end Go.Proofs.YtchpdmjlicmdaaaGreatDoor
