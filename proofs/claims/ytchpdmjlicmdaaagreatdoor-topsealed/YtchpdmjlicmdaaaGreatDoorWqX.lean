/- Part: Wq Ws Wt Ne Zh Zn Ug Ha Hb Fe Fb. -/
import Derived.Test.YtchpdmjlicmdaaaGreatDoorWlX
import Derived.Deep.CutRange
set_option maxRecDepth 100000
set_option maxHeartbeats 16000000
namespace Go.Proofs.YtchpdmjlicmdaaaGreatDoor
open Go.RowKit Go.Proofs.Tryz
variable {x x0 y:Nd}{W:World}{S:Nat->Bool}{h:Hd}{m nm:BA}{xs:List Nd}{gs us:List Rg}{ry:List BA}{s:Sp}{i:Nat}{L:List Sp}
def Iq(W G:World)(S:Nat->Bool)(e:Ending)(R:Except Int Nd):Prop:=(∃h',e=.returned (.tuple #[At (E5 R) h',Ao<|Gl R])/\Am (Ag G.cell? S) (E5 R) h')/\Below W.heap.size W G
theorem KU(c:AR):Am c zN zH:=Cs.2 ⟨.inl rfl,⟨rP _,by show(0:Nat)<=_;omega⟩,⟨rP _,by show(0:Nat)<=_;omega⟩,.inl rfl⟩
theorem X6{n:Nat}(h:cnt y<=n):y.kids.length<=n:=by grind [JV,Xa]
theorem cJ{f:Int}(h:f≠0):(.iface 101 (iN f):Value)=Ao f:=(AP rfl h).symm
abbrev Mi:=λH I (G:Hd) (J:Ay) b off j nm (X:World)=>(Ce X H (I+7) (.slice G.ak J.length G.ck)/\Ce X b (off+j) (.string nm):Prop)
theorem Xk(go:∀k,S k=true->k<W.heap.size)(gq:Am (Ag W.cell? S) x0 h)(a:Option Addr)(cF:Nat)(l:List BA)(eF:Bi W.cell? a l)(hC:l.length<=1000)(hD:l.length<=cF/\cF<=9223372036854775807)(gr:cnt x0<=800){c:Option (Nd×Hd)}{C:Option Nd}(eL:c.map (·.1)=C){fv:FuncId}{d5:Array Value}{d6:Value->Value->Array Value}(gu:(fv=256/\d5=#[]/\d6=λp q=>#[p,q])\/∃d7,fv=260/\d5=#[pO d7 0]/\d6=λp q=>#[p,q,pO d7 0])
 (eX:∀(bk:Option Addr) (ck:Nat) (L:Ch) (nm:BA) (w':World),Below W.heap.size W w'->L.length<=900->L.length<=ck->ck<=9223372036854775807->Dh w'.cell? bk L->Calls prog fv (d6 (.slice bk L.length ck)<|.string nm) w' λe gv=>NC c nm L w' gv e) (e0:∀nm L M,FZ c nm L=.ok M->(∀e∈L,Am (Ag W.cell? S) e.2.1 e.2.2)->∀e∈M,Am (Ag W.cell? S) e.2.1 e.2.2) (e1:∀r,A3 C l x0=.ok r->A7 r/\cnt r<=1000):
 Calls prog 255 #[At x0 h,.slice a l.length cF,.func (.func fv) #[] d5] W λe gw=>Iq W gw S e<|A3 C l x0:=by
 have e2:=hid eX;have gx:=hid e0;have gy:=hid eL;clear eX e0 eL;rcases gu with⟨rfl,rfl,rfl⟩|⟨d7,rfl,rfl,rfl⟩
 all_goals
  dsimp only at e2;obtain⟨RR,b9⟩:=Aq<|A3 C l x0;have gz:Hid (∀r,RR=.ok r->A7 r/\cnt r<=1000):=by rw[<-b9.out];exact e1
  clear e1;obtain⟨k,m,u,g,o,rL,d,ks⟩:=x0;have d8:=AC.new W k m u g o rL d ks h;have dw:Below W.heap.size W<|W.alloc<|Aw k m u g o rL d ks h:=(NB _ _).alloc (rP _) _;have ce:=AC.zero<|W.alloc<|Aw k m u g o rL d ks h;rw[ND]at ce;have d9:=d8.below<|(NB _ _).alloc (rP _) AO;have eb:Below W.heap.size W<|(W.alloc<|Aw k m u g o rL d ks h).alloc AO:=dw.alloc dw.size _;show Calls prog 255 #[(Ba k m u g o rL d ks h),.slice a l.length cF,_] _ _;rw[b9.out];by_cases dx:l=[]
  .subst dx
   have ak:Hid<|RR=.error 7:=by show _=_;rw[<-b9.out,A3]
   obtain⟨bn,a6,a7,a8,ba,bb,bd,be,bf⟩:(∀j,((W.alloc<|Aw k m u g o rL d ks h).alloc AO).frozen? ⟨W.heap.size+1,j,none⟩=false)/\Cm ((W.alloc<|Aw k m u g o rL d ks h).alloc AO) (W.heap.size+1) zN zH:=⟨ce.2,ce.1⟩;clear d8 dw d9 ce;go_enter func255,ntmps255;go_wp2;refine NZ (v:=.tuple #[At zN zH,Ao 7]) (by simp[results,results255,go_sem,At,zN,zH,Ao]) rfl ⟨⟨zH,by rw[ak.out];rfl,by rw[ak.out];exact KU _⟩,?_⟩;exact eb
  obtain⟨b,al,rfl,e3⟩:∃b al,a=some ⟨b,al,none⟩/\∀i s,l[i]? =some s->Ce W b (al+i) (.string s):=by
   rcases eF with e|e
   .exact absurd e dx
   .exact e
  have dy:=hid e3;obtain⟨n,e4⟩:∃n,l.length=n+1:=⟨l.length-1,by have:=CC.2 dx;omega⟩;have g0:=hid e4;have hE:n<l.length:=by omega
  have hG:n<=cF:=by omega
  have hH:n<=1000:=by omega
  have g2:IntKind.i64.wrap ((l.length:Int)-1)=(n:Int):=(DQ oM oM).trans oM;have g5:(l.length:Int)-1=(n:Int):=by omega
  have g6:((l.length:Int)==0)=false:=by simp;omega
  have ao:Iy W ((W.alloc<|Aw k m u g o rL d ks h).alloc AO) S W.heap.size (.mk k m u g o rL d ks) C l l W.heap.size 0 (.mk k m u g o rL d ks) h:=Iy.start eb rfl ce d9 go gq;clear e3 eF dx e4 d8 dw d9 ce eb;go_enter func255,ntmps255;go_wp2;generalize(W.alloc<|Aw k m u g o rL d ks h).alloc AO=hI at ao⊢;generalize hJ:W.heap.size=O at ao⊢;clear g2 g5 g6;go_loopw [27,8] (λi v wr=>∃(j H I:Nat) (y:Nd) (J:Hd),j<=n/\i=iN j/\v=pO H I/\Iy W wr S O (.mk k m u g o rL d ks) C l (l.drop j) H I y J/\cnt y<=800) (λi _ _=>n-(intOf i).toNat)
  case atStart=>exact⟨0,O,0,_,h,N7 _,rfl,rfl,ao,gr⟩
  case round=>
   obtain⟨j,H,I,y,J,hK,rfl,rfl,ao,e5⟩:=hrel;have e6:y.kids.length<=800:=X6 e5
   obtain⟨L,ed,ee⟩:=YA (show FQ (Ag W.cell? S) J.ak y.kids by
    have ef:=ao.tree;obtain⟨bs,eg,ej,ek,em,en,eo,G⟩:=y;exact(Cs.1 ef).2.2.2)
   have e7:y.kids.length=L.length:=by rw[<-ed,GP]
   have e8:y.kids.length<=J.ck/\J.ck<=9223372036854775807:=by
    have ef:=ao.tree;obtain⟨bs,eg,ej,ek,em,en,eo,G⟩:=y;exact(Cs.1 ef).2.2.1
   have dz:=hid ed;have cf:=hid e7;have ep:Dh wr.cell? J.ak L:=(ee.on<|BW _ _).on<|Ai ao.low;have eq:=ao.res;have bu:=eq.store zN zH;have e9:Az (O+1) wr<|As wr (O+1) zN zH:=Cb;have fa:=ao.low.trans<|e9.below (B:=W.heap.size) oM ao.low.size;obtain⟨⟨z0,bx,bA,z3,z4,z5,bB,bC⟩,bn⟩:=id eq;have fb:=ao.atc;have ch:=ao.fz;have aA:=hid ao;have bF:Hid (∀f,f≠0->RR=.error f->Iq W (As wr (O+1) zN zH) S (.returned<|.tuple #[At zN zH,Ao f]) RR):=by
    intro f _ g7;rw[g7];exact⟨⟨zH,rfl,KU _⟩,fa⟩
   generalize bg:As wr (O+1) zN zH=hL at bu bF;have cl:=hid bg;have a1:Below W.heap.size W wr:=ao.low;clear bg e9 fa eq ed e7 ao;by_cases hM:j<n;rotate_left
   .
    have g8:j=n:=by omega
    subst g8;have g9:decide ((j:Int)<(j:Int))=false:=NM oM;obtain⟨nm,ap⟩:∃s,l[j]? =some s:=⟨l[j]' oM,NA _⟩;have c3:Hid<|l.drop j=[nm]:=by
     show _=_;rw[N9 oM,R8 (by have:=g0.out;omega)];rw[NA oM]at ap;simp at ap;rw[ap]
    rw[c3.out]at aA;have c0:Ce wr b (al+j)<|.string nm:=(a1.cell (p:=⟨b,al+j,none⟩)<|NF _ _<|dy j nm ap).trans<|dy j nm ap;have c4:Hid (∃aw:Nd->Nd,RR=(A3 C [nm] y).map aw):=by
     obtain⟨aw,q,_⟩:=aA.wand;exact⟨aw,by rw[<-b9.out];exact q⟩
    clear ap c3;obtain⟨bs,eg,ej,ek,em,en,eo,G⟩:=y;obtain⟨c5,c6,c8,c9,da,dd,de,bo⟩:=fb;have hN:(j:Int)<(l.length:Int):=by omega
    by_cases bl:bs=2;rotate_left
    .have er:(bs !=2)=true:=bne_iff_ne.2 bl
     have ak:Hid<|RR=.error 7:=by
      obtain⟨aw,q⟩:=c4.out;show _=_;rw[q,A3,NS<|by exact bl];rfl
     clear bl;go_wp2;have bg:=cl.out;simp only[As,zN,zH]at bg;simp only[RC]at bg;rw[bg];obtain⟨a6,a7,a8,ba,bb,bd,be,bf⟩:=bu.1;refine NZ (v:=.tuple #[At zN zH,Ao 7]) (by simp[results,results255,go_sem,At,zN,zH,Ao,a6,a7,a8,ba,bb,bd,be,bf]) rfl (bF 7 oD ak)
    subst bl;have er:((2:Int)!=2)=false:=rfl;have co:Below wr.heap.size wr wr.drew:=CS (NB _ _) 1;have dg:=e2.out J.ak J.ck L nm wr.drew (a1.trans<|co.mono a1.size) (by have:=cf.out;omega) (by have:=cf.out;have:=e8.1;omega) e8.2<|ep.on<|Ai co;rw[<-cf.out]at dg;have dj:Hid (J2 C nm G=match FZ c nm L with|.error f=>.error f|.ok M=>.ok<|bare M):=by
     have q:=js c nm L;rw[dz.out,gy.out]at q;exact q
    cases hA:FZ c nm L with
    |error f=>
     rw[hA]at dj;have dk:=dg.mono λe w' (es:NC c nm L wr.drew w' e)=>show(f≠0/\e=.returned (.tuple #[nL,.iface 101<|iN f]))/\Below wr.drew.heap.size wr.drew w' from by
      rcases es with⟨q|⟨M,v,q,_⟩,hb⟩
      .obtain⟨hO,q1,q2,dm⟩:=q
       rw[hA]at q1;simp only[tj]at q1;subst q1;exact⟨⟨q2,dm⟩,hb⟩
      .rw[hA]at q;cases q
     have ak:Hid<|RR=.error f:=by
      obtain⟨aw,q⟩:=c4.out;show _=_;rw[q,A3,NO (by show¬(2:Int)≠2;simp)];show Except.map aw (Except.map _<|J2 C nm G)=_;rw[dj.out];rfl
     have ar:(Mi H I J G b al j nm wr.drew):=⟨bo,c0⟩;have dn:Hid _:=dk;clear hA dg dk dj;go_wp2;go_region_held3 (λw'=>(Mi H I J G b al j nm w')) (first|exact ar|exact cr) (first|((first|go_at_call 256|go_at_call 260);refine rQ dn.out ?_;rintro e ab ⟨⟨ha,rfl⟩,az⟩;have cr:(Mi H I J G b al j nm ab):=⟨(az.cell (p:=⟨H,I+7,none⟩)<|NF _ _ ar.1).trans ar.1,(az.cell (p:=⟨b,al+j,none⟩)<|NF _ _ ar.2).trans ar.2⟩))
     all_goals
      have Z:Below wr.heap.size wr ab:=co.trans az;have dp:=aA.out.res.below Z;have bG:=a1.trans<|Z.mono a1.size;have bp:=dp.store zN zH;have bi:Az (O+1) ab<|As ab (O+1) zN zH:=Cb;have bq:=bG.trans<|bi.below (B:=W.heap.size) oM bG.size;generalize ad:As ab (O+1) zN zH=fc at bp bq;have dr:=hid ad;clear ad bi c5 c6 c8 c9 da dd de bo z0 bx bA z3 z4 z5 bB bC bn c0 az ar cr a1 bG co Z bu cl bF dn ch;obtain⟨⟨z0,bx,bA,z3,z4,z5,bB,bC⟩,bn⟩:=id dp;go_wp2;have ad:=dr.out;simp only[As,zN,zH,RC]at ad;rw[ad];obtain⟨a6,a7,a8,ba,bb,bd,be,bf⟩:=bp.1;refine NZ (v:=.tuple #[At zN zH,.iface 101<|iN f]) (by simp[results,results255,go_sem,At,zN,zH,a6,a7,a8,ba,bb,bd,be,bf]) rfl ⟨⟨zH,by rw[ak.out,cJ ha];rfl,by rw[ak.out];exact KU _⟩,bq⟩
    |ok M=>
     rw[hA]at dj;have dk:=dg.mono λe w' (es:NC c nm L wr.drew w' e)=>show(∃bk ck,e=.returned (.tuple #[.slice bk M.length ck,.nilIface])/\w'.ownsRow wr.heap.size 92 9 (.slice bk M.length ck) M.length (Bd M))/\Below wr.drew.heap.size wr.drew w' from by
      rcases es with⟨⟨f,q,_⟩|⟨M',v,q,rfl,q2⟩,hb⟩
      .rw[hA]at q;cases q
      .rw[hA]at q
       simp only[C2]at q;subst q;obtain⟨bk,ck,dT,_⟩:=Ev q2;subst dT;exact⟨⟨bk,ck,rfl,q2⟩,hb⟩
     have hc:Hid (∀e∈M,Am (Ag W.cell? S) e.2.1 e.2.2):=gx.out nm L M hA ee.2;have ar:(Mi H I J G b al j nm wr.drew):=⟨bo,c0⟩;have dn:Hid _:=dk;clear hA dg dk;go_wp2;go_region_held3 (λw'=>(Mi H I J G b al j nm w')) (first|exact ar|exact cr) (first|((first|go_at_call 256|go_at_call 260);refine rQ dn.out ?_;rintro e ab ⟨⟨bk,ck,rfl,bH⟩,az⟩;have cr:(Mi H I J G b al j nm ab):=⟨(az.cell (p:=⟨H,I+7,none⟩)<|NF _ _ ar.1).trans ar.1,(az.cell (p:=⟨b,al+j,none⟩)<|NF _ _ ar.2).trans ar.2⟩))
     all_goals
      have Z:Below wr.heap.size wr ab:=co.trans az;obtain⟨r,hP,q1,q2,dm,q4,q5⟩:=aA.fin Z (rP _) hc.out rfl dj rfl bH;have he:ab.frozen? ⟨H,I+7,none⟩=false:=(Z.frozen (p:=⟨H,I+7,none⟩) aA.atc.lt).trans<|ch _;have ak:Hid<|RR=.ok r:=by show _=_;rw[<-b9.out];exact q1
      obtain⟨hf,hg⟩:=gz r ak;have ds:=cr.1;clear q1 c5 c6 c8 c9 da dd de bo z0 bx bA z3 z4 z5 bB bC bn c0 az ar cr a1 co Z bu cl bF dn ch bH
      have fd:=J0 (S:=Hs O S) (λk du=>by
       simp[Hs]at du;rcases du with du|du
       .have:=q5.1.lt;omega
       .have:=aA.out.hS k du;have:=q4.size;omega) dm hf hg
      have eu:Hid _:=fd;clear fd;generalize fe:ab.setCell ⟨H,I+7,none⟩ (.slice bk M.length ck)=cx at q2 dm q4 q5 eu;have hQ:=hid fe;obtain⟨bY,b0,u2,b1,b2,b4,b6,b7⟩:=r;obtain⟨x0,hh,hi,hj,hk,hl,hm,hn⟩:=id q2;go_wp2_with fail
      refine rQ eu ?_;rintro e cD ⟨⟨h',rfl,ho⟩,ev⟩;have ff:=q5.below ev;have az:=q4.trans<|ev.mono q4.size;have bp:=ff.store (.mk bY b0 u2 b1 b2 b4 b6 b7) h';have bi:Az (O+1) cD<|As cD (O+1) (.mk bY b0 u2 b1 b2 b4 b6 b7) h':=Cb;have bq:=az.trans<|bi.below (B:=W.heap.size) oM az.size;have step:AW (Ag cD.cell?<|Hs O S)<|Ag (As cD (O+1) (.mk bY b0 u2 b1 b2 b4 b6 b7) h').cell? S:=Bv λq hp fg=>⟨(PI.1 fg).2,bi.block q hp (PI.1 fg).1⟩;have hq:At (.mk bY b0 u2 b1 b2 b4 b6 b7) h'=(Ba bY b0 u2 b1 b2 b4 b6 b7 h'):=rfl
      rw[hq];generalize ad:As cD (O+1) (.mk bY b0 u2 b1 b2 b4 b6 b7) h'=fc at bp bi bq step;have dr:=hid ad;clear ad fe x0 hh hi hj hk hl hm hn eu q2 dm q4 q5 ev he ds bi;obtain⟨⟨z0,bx,bA,z3,z4,z5,bB,bC⟩,bn⟩:=id ff;go_wp2;have ad:=dr.out;simp only[As]at ad;rw[ad];obtain⟨a6,a7,a8,ba,bb,bd,be,bf⟩:=bp.1;refine NZ (v:=.tuple #[At (.mk bY b0 u2 b1 b2 b4 b6 b7) h',.nilIface]) (by simp[results,results255,go_sem,At,a6,a7,a8,ba,bb,bd,be,bf]) rfl ⟨⟨h',by rw[ak.out];rfl,?_⟩,bq⟩;rw[ak.out];exact ho.on step
   have g9:(j:Int)<(n:Int):=by omega
   obtain⟨nm,ap⟩:∃s,l[j]? =some s:=⟨l[j]' oM,NA _⟩;obtain⟨ew,d0⟩:∃s,l[j+1]? =some s:=⟨l[j+1]' oM,NA _⟩;have fh:Hid (l.drop (j+1)=ew::l.drop (j+2)):=by
    show _=_;rw[N9 oM];rw[NA oM]at d0;simp at d0;rw[d0]
   have c3:Hid (l.drop j=nm::ew::l.drop (j+2)):=by
    show _=_;rw[N9 oM,fh.out];rw[NA oM]at ap;simp at ap;rw[ap]
   rw[c3.out]at aA;have c0:Ce wr b (al+j)<|.string nm:=(a1.cell (p:=⟨b,al+j,none⟩)<|NF _ _<|dy j nm ap).trans<|dy j nm ap;have c4:Hid (∃aw:Nd->Nd,RR=(A3 C (nm::ew::l.drop (j+2)) y).map aw):=by
    obtain⟨aw,q,_⟩:=aA.wand;exact⟨aw,by rw[<-b9.out];exact q⟩
   clear ap d0 c3;have fo:H<wr.heap.size:=aA.atc.lt;obtain⟨bs,eg,ej,ek,em,en,eo,G⟩:=y;obtain⟨c5,c6,c8,c9,da,dd,de,bo⟩:=fb;by_cases bl:bs=2;rotate_left
   .have er:(bs !=2)=true:=bne_iff_ne.2 bl
    have ak:Hid<|RR=.error 7:=by
     obtain⟨aw,q⟩:=c4.out;show _=_;rw[q,A3,NS<|by exact bl];rfl
    clear bl;go_wp2;have bg:=cl.out;simp only[As,zN,zH]at bg;simp only[RC]at bg;rw[bg];obtain⟨a6,a7,a8,ba,bb,bd,be,bf⟩:=bu.1;refine NZ (v:=.tuple #[At zN zH,Ao 7]) (by simp[results,results255,go_sem,At,zN,zH,Ao,a6,a7,a8,ba,bb,bd,be,bf]) rfl (bF 7 oD ak)
   subst bl;have er:((2:Int)!=2)=false:=rfl
   have fp:Calls prog 228 #[.slice J.ak G.length J.ck,.string nm] wr λe w'=>e=.returned (iN<|BV nm G 0)/\Below wr.heap.size wr w':=OL J.ak J.ck G nm wr (by exact Rz e6 oD) (by
    have q:=LO ep;rw[dz.out]at q;exact q)
   have d1:Hid _:=fp;clear fp;rcases KE nm G 0 with⟨ey,_⟩|⟨p,z,ez,hx,_⟩
   .have d2:Hid<|BV nm G 0=-1:=ey
    have ak:Hid<|RR=.error 5:=by
     obtain⟨aw,q⟩:=c4.out;show _=_;rw[q,A3,NO (by show¬(2:Int)≠2;simp),NS (by show BV nm G 0<0;rw[ey];decide)];rfl
    clear ey;go_wp2_with fail
    refine rQ d1 ?_;rintro e ab ⟨rfl,Z⟩;rw[d2.out];have dp:=aA.out.res.below Z;have bG:=a1.trans<|Z.mono a1.size;have bp:=dp.store zN zH;have bi:Az (O+1) ab<|As ab (O+1) zN zH:=Cb;have bq:=bG.trans<|bi.below (B:=W.heap.size) oM bG.size;generalize ad:As ab (O+1) zN zH=fc at bp bq;have dr:=hid ad;clear ad bi c5 c6 c8 c9 da dd de bo z0 bx bA z3 z4 z5 bB bC bn c0 a1 bG Z bu cl bF ch d1;obtain⟨⟨z0,bx,bA,z3,z4,z5,bB,bC⟩,bn⟩:=id dp;go_wp2;have ad:=dr.out;simp only[As,zN,zH,RC]at ad;rw[ad];obtain⟨a6,a7,a8,ba,bb,bd,be,bf⟩:=bp.1;refine NZ (v:=.tuple #[At zN zH,.iface 101<|iN 5]) (by simp[results,results255,go_sem,At,zN,zH,a6,a7,a8,ba,bb,bd,be,bf]) rfl ⟨⟨zH,by rw[ak.out];rfl,by rw[ak.out];exact KU _⟩,bq⟩
   rw[RT]at ez;have d2:=hid ez;have hR:p<G.length:=(NE.1 hx).1;have hr:cnt z<=800:=by
    have q1:=MS hx;rw[cnt]at e5;omega
   obtain⟨⟨hs,fs,ht⟩,eB⟩:∃e,L[p]? =some e:=⟨L[p]'(by have:=cf.out;simp only[Nd.kids]at this;omega),NA _⟩;have hu:hs=nm/\fs=z:=by
    have q:=dz.out;have q2:(bare L)[p]? =some (nm,z):=by rw[q];exact hx
    unfold bare at q2;rw[R6,eB]at q2;simpa using q2
   obtain⟨rfl,rfl⟩:=hu;have hv:=hid eB;have hw:L.length<=1000:=by rw[<-cf.out];exact Rz e6 oD
   clear ez hx eB;have hS:decide ((p:Int)<0)=false:=NM oM;have hT:(p:Int)<(G.length:Int):=by omega
   go_wp2_with fail
   refine rQ d1 ?_;rintro e ab ⟨rfl,Z⟩;rw[d2.out];have ds:Ce ab H (I+7)<|.slice J.ak G.length J.ck:=(Z.cell (p:=⟨H,I+7,none⟩) fo).trans bo;have ft:=ep.on<|Ai Z;have eD:=UW J.ak J.ck L ab hw ft;have fx:L.length=G.length:=cf.symm;rw[fx]at eD;have gb:Hid _:=eD;clear eD fx c5 c6 c8 c9 da dd de bo z0 bx bA z3 z4 z5 bB bC bn c0 bu cl bF d1 ft;go_wp2_with fail
   refine rQ gb ?_;rintro e cx ⟨⟨v,rfl,bH⟩,b3⟩;obtain⟨a3,d3,dT,_,_,hy⟩:=Ev bH;rcases hy with⟨_,q,_⟩|⟨g3,rfl,hU,_,_,_⟩
   .omega
   rw[dT]at bH⊢;clear dT;have eE:=Z.trans<|b3.mono Z.size;have gg:Ce cx H (I+7)<|.slice J.ak G.length J.ck:=(b3.cell (p:=⟨H,I+7,none⟩)<|NF _ _ ds).trans ds;have hz:cx.frozen? ⟨H,I+7,none⟩=false:=(eE.frozen (p:=⟨H,I+7,none⟩) fo).trans<|ch _;have d4:=aA.out.step eE Z.size dz ee.2 rfl d2 hv bH;have gl:Ce (cx.setCell ⟨H,I+7,none⟩<|sL g3 0 G.length d3) H (I+7)<|sL g3 0 G.length d3:=N2 _ _ _ gg;rw[<-fh.out]at d4;change Iy W (cx.setCell ⟨H,I+7,none⟩<|sL g3 0 G.length d3) S O _ _ _ _ _ _ _ _ at d4;generalize hB:cx.setCell ⟨H,I+7,none⟩ (sL g3 0 G.length d3)=cD at d4 gl;clear bH Z b3 eE ds gb ch;go_wp2;clear hB gg gl hz;go_roundw
   case rel=>exact⟨j+1,g3,p*9+1,fs,ht,by omega,by go_num,by first|rfl|simp,d4,hr⟩
   case measure=>simp[intOf];omega
theorem aP(I:∀k,S k=true->k<W.heap.size)(J:Am (Ag W.cell? S) x0 h)(a:Option Addr)(H:Nat)(l:List BA)(O:Bi W.cell? a l)(Z:l.length<=1000)(ab:l.length<=H/\H<=9223372036854775807)(ad:cnt x0<=800)(ak:∀r,A3 none l x0=.ok r->A7 r/\cnt r<=1000):
 Calls prog 255 #[At x0 h,.slice a l.length H,.func (.func 256) #[] #[]] W λe al=>Iq W al S e<|A3 none l x0:=by
 refine Xk I J a H l O Z ab ad (c:=none) rfl (.inl ⟨rfl,rfl,rfl⟩) (λao ck L nm w' _ a1 ap ar aw=>iQ ao ck L nm w' oM ap ar aw) (λnm L M G az e aA=>?_) ak;simp only[FZ]at G;split at G
 .cases G
 .simp only[C2]at G
  subst G;exact az e<|nD aA
theorem Ub(ad:∀k,S k=true->k<W.heap.size)(ak:Am (Ag W.cell? S) x0 h)(a:Option Addr)(I:Nat)(l:List BA)(al:Bi W.cell? a l)(ao:l.length<=1000)(ap:l.length<=I/\I<=9223372036854775807)(ar:cnt x0<=800)(J:Nat)(G:Nd)(O:Hd)(aw:Cm W J G O)(Z:Am (Ag W.cell? S) G O)(az:∀r,A3 (some G) l x0=.ok r->A7 r/\cnt r<=1000):
 Calls prog 255 #[At x0 h,.slice a l.length I,.func (.func 260) #[] #[pO J 0]] W λe aA=>Iq W aA S e<|A3 (some G) l x0:=by
 refine Xk ad ak a I l al ao ap ar (c:=some (G,O)) rfl (.inr ⟨J,rfl,rfl,rfl⟩) (λa1 ck L nm w' ab a6 a7 a8 ba=>jg a1 ck J G O L nm w' a6 a7 a8 ba (aw.below ab)<|(Z.on<|BW _ _).ab ab) (λnm L M H bb e bd=>?_) az;simp only[FZ]at H;split at H
 .cases H
 .simp only[C2]at H
  subst H;rcases mh bd with q|q
  .rw[q];exact Z
  .exact bb e q
def QC(W G:World)(e:Ending)(R:Except Int Nd):Prop:=(∃h',e=.returned (.tuple #[At (E5 R) h',Ao<|Gl R])/\Am G.cell? (E5 R) h')/\Below W.heap.size W G
theorem jv(bf:Am W.cell? x0 h)(a:Option Addr)(ad:Nat)(l:List BA)(bg:Bi W.cell? a l)(bi:l.length<=1000)(bk:l.length<=ad/\ad<=9223372036854775807)(bl:cnt x0<=800)(bn:∀r,A3 none l x0=.ok r->A7 r/\cnt r<=1000):
 Calls prog 223 #[At x0 h,.slice a l.length ad] W λe ar=>QC W ar e<|A3 none l x0:=by
 obtain⟨RR,a1⟩:=Aq<|A3 none l x0;obtain⟨k,m,u,g,o,rL,d,ks⟩:=x0;have bo:=AC.new W k m u g o rL d ks h;have a6:Below W.heap.size W<|W.alloc<|Aw k m u g o rL d ks h:=bN;have aw:=AC.zero<|W.alloc<|Aw k m u g o rL d ks h;rw[ND]at aw;have q2:=(NB _<|W.alloc<|Aw k m u g o rL d ks h).alloc (rP _) AO;have bp:=bo.below q2;have ao:Below W.heap.size W<|(W.alloc<|Aw k m u g o rL d ks h).alloc AO:=a6.alloc a6.size _;have bq:AW W.cell? (Ag ((W.alloc<|Aw k m u g o rL d ks h).alloc AO).cell? λq=>q==(W.heap.size+1)):=MO ao (λq ak=>by simp;omega);have bs:cL 255 #[At (.mk k m u g o rL d ks) h,.slice a l.length ad,.func (.func 256) #[] #[]] ((W.alloc<|Aw k m u g o rL d ks h).alloc AO) λe ar=>Iq ((W.alloc<|Aw k m u g o rL d ks h).alloc AO) ar (λq=>q==(W.heap.size+1)) e RR:=by
  rw[<-a1.out];exact aP (S:=λq=>q==(W.heap.size+1)) (λq ak=>by simp at ak;rw[ak];exact aw.1.lt) (bf.on bq) a ad l (bg.on<|Ai ao) bi bk bl bn
 have bu:Hid _:=bs;rw[a1.out];show cL 223 #[(Ba k m u g o rL d ks h),.slice a l.length ad] _ _;obtain⟨⟨b9,ce,cf,ch,cl,co,cr,cx⟩,cD⟩:=id bp;go_enter func223,ntmps223;go_wp2_with fail
 go_call bu as e w2 ⟨⟨h',rfl,hN2⟩,b2⟩
 have az:=aw.below b2;have a7:=ao.trans<|b2.mono ao.size;generalize cF:(W.heap.size+1)=al at az hN2⊢;generalize bx:E5 RR=r at hN2⊢;have a8:=hid bx;obtain⟨G,H,u2,I,J,O,Z,ab⟩:=r;have ba:=az.store (.mk G H u2 I J O Z ab) h';have bb:Az al w2<|As w2 al (.mk G H u2 I J O Z ab) h':=Cb;have bd:=a7.trans<|bb.below (B:=W.heap.size) oM a7.size;have step:AW (Ag w2.cell? λq=>q==al) (As w2 al (.mk G H u2 I J O Z ab) h').cell?:=(Bv (S':=λ_=>false) λq ak bA=>⟨rfl,bb.block q ak<|by simpa using bA⟩).trans<|BW _ _;have be:=hN2.on step;generalize ap:As w2 al (.mk G H u2 I J O Z ab) h'=c3 at ba bd be;have bB:=hid ap;have aA:At (.mk G H u2 I J O Z ab) h'=(Ba G H u2 I J O Z ab h'):=rfl;rw[aA];obtain⟨⟨z0,c4,c5,z3,z4,z5,c6,c8⟩,c9⟩:=id az;generalize bC:Ao (Gl RR)=aA;have bF:=hid bC;go_wp2;have ap:=bB.out;simp only[As]at ap;rw[ap];obtain⟨bG,bH,bY,b0,b1,b4,b6,b7⟩:=ba.1;refine NZ (v:=.tuple #[At (.mk G H u2 I J O Z ab) h',aA]) (by simp[results,results223,go_sem,At,bG,bH,bY,b0,b1,b4,b6,b7]) rfl ⟨⟨h',by rw[a8.out,bF.out],by rw[a8.out];exact be⟩,bd⟩
theorem ll(bA:Am W.cell? x0 h)(a:Option Addr)(aA:Nat)(l:List BA)(bB:Bi W.cell? a l)(bC:l.length<=1000)(bF:l.length<=aA/\aA<=9223372036854775807)(bG:cnt x0<=800)(a1:Nd)(hx:Hd)(bH:Am W.cell? a1 hx)(bY:∀r,A3 (some a1) l x0=.ok r->A7 r/\cnt r<=1000):
 Calls prog 229 #[At x0 h,.slice a l.length aA,At a1 hx] W λe bb=>QC W bb e<|A3 (some a1) l x0:=by
 obtain⟨RR,bg⟩:=Aq<|A3 (some a1) l x0;obtain⟨G,H,I,J,O,Z,ab,ad⟩:=a1;obtain⟨k,m,u,g,o,rL,d,ks⟩:=x0;have b0:=AC.new W k m u g o rL d ks h;have bi:Below W.heap.size W<|W.alloc<|Aw k m u g o rL d ks h:=bN;have bk:=AC.new (W.alloc<|Aw k m u g o rL d ks h) G H I J O Z ab ad hx;rw[ND]at bk;have bl:Below W.heap.size W<|(W.alloc<|Aw k m u g o rL d ks h).alloc<|Aw G H I J O Z ab ad hx:=bi.alloc bi.size _;have bd:=AC.zero<|(W.alloc<|Aw k m u g o rL d ks h).alloc<|Aw G H I J O Z ab ad hx;rw[ND,ND]at bd;have q1:=(NB _<|W.alloc<|Aw k m u g o rL d ks h).alloc (rP _)<|Aw G H I J O Z ab ad hx;have q2:=(NB _<|(W.alloc<|Aw k m u g o rL d ks h).alloc<|Aw G H I J O Z ab ad hx).alloc (rP _) AO;have b1:=(b0.below q1).below q2;have b4:=bk.below q2;have a8:Below W.heap.size W<|((W.alloc<|Aw k m u g o rL d ks h).alloc<|Aw G H I J O Z ab ad hx).alloc AO:=bl.alloc bl.size _;have bn:AW W.cell? (Ag (((W.alloc<|Aw k m u g o rL d ks h).alloc<|Aw G H I J O Z ab ad hx).alloc AO).cell? λq=>q==(W.heap.size+1+1)):=MO a8 (λq a6=>by simp;omega);have b6:cL 255 #[At (.mk k m u g o rL d ks) h,.slice a l.length aA,.func (.func 260) #[] #[pO (W.heap.size+1) 0]] (((W.alloc<|Aw k m u g o rL d ks h).alloc<|Aw G H I J O Z ab ad hx).alloc AO) λe bb=>Iq (((W.alloc<|Aw k m u g o rL d ks h).alloc<|Aw G H I J O Z ab ad hx).alloc AO) bb (λq=>q==(W.heap.size+1+1)) e RR:=by
  rw[<-bg.out];exact Ub (S:=λq=>q==(W.heap.size+1+1)) (λq a6=>by simp at a6;rw[a6];exact bd.1.lt) (bA.on bn) a aA l (bB.on<|Ai a8) bC bF bG (W.heap.size+1) (.mk G H I J O Z ab ad) hx b4.1 (bH.on bn) bY
 have b7:Hid _:=b6;rw[bg.out];show cL 229 #[(Ba k m u g o rL d ks h),.slice a l.length aA,(Ba G H I J O Z ab ad hx)] _ _;obtain⟨⟨c6,c8,c9,da,dd,de,dg,dj⟩,dk⟩:=id b1;go_enter func229,ntmps229;go_wp2_with fail
 go_call b7 as e w2 ⟨⟨h',rfl,hN2⟩,b2⟩
 have be:=bd.below b2;have bo:=a8.trans<|b2.mono a8.size;generalize dm:(W.heap.size+1+1)=a7 at be hN2⊢;generalize b9:E5 RR=r at hN2⊢;have bp:=hid b9;obtain⟨ak,al,u2,ao,ap,ar,aw,az⟩:=r;have bq:=be.store (.mk ak al u2 ao ap ar aw az) h';have bs:Az a7 w2<|As w2 a7 (.mk ak al u2 ao ap ar aw az) h':=Cb;have bu:=bo.trans<|bs.below (B:=W.heap.size) oM bo.size;have step:AW (Ag w2.cell? λq=>q==a7) (As w2 a7 (.mk ak al u2 ao ap ar aw az) h').cell?:=(Bv (S':=λ_=>false) λq a6 ce=>⟨rfl,bs.block q a6<|by simpa using ce⟩).trans<|BW _ _;have bx:=hN2.on step;generalize ba:As w2 a7 (.mk ak al u2 ao ap ar aw az) h'=dn at bq bu bx;have cf:=hid ba;have bf:At (.mk ak al u2 ao ap ar aw az) h'=(Ba ak al u2 ao ap ar aw az h'):=rfl;rw[bf];obtain⟨⟨z0,dp,dr,z3,z4,z5,ds,du⟩,dw⟩:=id be;generalize ch:Ao (Gl RR)=bf;have cl:=hid ch;go_wp2;have ba:=cf.out;simp only[As]at ba;rw[ba];obtain⟨co,cr,cx,cD,cF,c3,c4,c5⟩:=bq.1;refine NZ (v:=.tuple #[At (.mk ak al u2 ao ap ar aw az) h',bf]) (by simp[results,results229,go_sem,At,co,cr,cx,cD,cF,c3,c4,c5]) rfl ⟨⟨h',by rw[bp.out,cl.out],by rw[bp.out];exact bx⟩,bu⟩
theorem OJ(em:Am W.cell? x0 h)(a:Option Addr)(cF:Nat)(l:List BA)(en:Bi W.cell? a l)(fa:l.length<=1000)(eo:cnt x0<=800)(ep:A7 x0):
 Calls prog 176 #[At x0 h,.slice a l.length cF] W λe c3=>(∃h',e=.returned (.tuple #[At ((Ct l x0).getD zN) h',.bool (Ct l x0).isSome])/\Am c3.cell? ((Ct l x0).getD zN) h')/\Below W.heap.size W c3:=by
 obtain⟨RR,c4⟩:=Aq<|Ct l x0;rw[c4.out];have c5:Hid (∀i s,l[i]? =some s->∃b ab,a=some (aD b ab)/\Ce W b (ab+i) (.string s)):=by
  intro i s b7;rcases en with e|⟨b,ab,e,eq⟩
  .rw[e]at b7;simp at b7
  .exact⟨b,ab,e,eq i s b7⟩
 have er:=hid em;obtain⟨k,m,u,g,o,rL,d,ks⟩:=x0;have es:=AC.new W k m u g o rL d ks h;have c6:Below W.heap.size W<|W.alloc<|Aw k m u g o rL d ks h:=bN;have bA:=AC.zero<|W.alloc<|Aw k m u g o rL d ks h;rw[ND]at bA;have q2:=(NB _<|W.alloc<|Aw k m u g o rL d ks h).alloc (rP _) AO;have b9:=es.below q2;have c8:Below W.heap.size W<|(W.alloc<|Aw k m u g o rL d ks h).alloc AO:=c6.alloc c6.size _;show cL 176 #[(Ba k m u g o rL d ks h),.slice a l.length cF] _ _;have eu:a=none->l=[]:=by
  intro e;cases hl:l with
  |nil=>rfl
  |cons s t=>
   obtain⟨b,ab,q,_⟩:=c5 0 s (by rw[hl];rfl);rw[e]at q;cases q
 have fb:=hid eu;go_enter func176,ntmps176;go_wp2;generalize(W.alloc<|Aw k m u g o rL d ks h).alloc AO=fc at b9 bA c8⊢;generalize fd:W.heap.size=G at b9 bA⊢;go_loopw [11] (λi wr=>∃(j:Nat) (y:Nd) (a8:Hd),j<=l.length/\i=iN j/\Hid (RR=Ct (l.drop j) y)/\AC wr G y a8/\AC wr (G+1) zN zH/\Am W.cell? y a8/\cnt y<=800/\A7 y/\Below W.heap.size W wr) (λi _=>l.length-(intOf i).toNat)
 case atStart=>exact⟨0,_,h,N7 _,rfl,c4.symm,b9,bA,er,eo,ep,c8⟩
 case round=>
  obtain⟨j,y,a8,fe,rfl,c9,ba,aA,da,dd,ce,Z⟩:=hrel;have ev:=X6 dd;by_cases de:j<l.length;rotate_left
  .have ew:decide ((j:Int)<(l.length:Int))=false:=NM oM
   have a1:Hid<|RR=some y:=by show _=_;rw[c9.out,R8 oM,Ct]
   have ey:=J0 (W:=wr) (S:=λq=>q==G+1) (λq bb=>by simp at bb;rw[bb];exact aA.1.lt) (da.on<|MO Z (λq bb=>by simp;omega)) ce oM;have ez:Hid _:=ey;obtain⟨ad,ak,u2,al,ao,ap,ar,aw⟩:=y;obtain⟨⟨bB,bC,bF,bG,bH,bY,b0,bd⟩,b1⟩:=id ba;go_wp2_with fail
   refine rQ ez ?_;rintro e be ⟨⟨h',rfl,eB⟩,dg⟩;have dj:=aA.below dg;have dk:=Z.trans<|dg.mono Z.size;have a6:=dj.store (.mk ad ak u2 al ao ap ar aw) h';have bf:Az (G+1) be<|As be (G+1) (.mk ad ak u2 al ao ap ar aw) h':=Cb;have dm:=dk.trans<|bf.below (B:=W.heap.size) oM dk.size;have step:AW (Ag be.cell? λq=>q==G+1) (As be (G+1) (.mk ad ak u2 al ao ap ar aw) h').cell?:=(Bv (S':=λ_=>false) λq bb eD=>⟨rfl,bf.block q bb<|by simpa using eD⟩).trans<|BW _ _;have dn:=eB.on step;have eE:At (.mk ad ak u2 al ao ap ar aw) h'=(Ba ad ak u2 al ao ap ar aw h'):=rfl;rw[eE];generalize H:As be (G+1) (.mk ad ak u2 al ao ap ar aw) h'=az at a6 bf dm step dn;have bg:=hid H;obtain⟨⟨z0,dp,dr,z3,z4,z5,ds,du⟩,dw⟩:=id dj;go_wp2;have H:=bg.out;simp only[As]at H;rw[H];obtain⟨bi,bk,bl,bn,bo,bp,bq,bs⟩:=a6.1;refine NZ (v:=.tuple #[At (.mk ad ak u2 al ao ap ar aw) h',.bool true]) (by simp[results,results176,go_sem,At,bi,bk,bl,bn,bo,bp,bq,bs]) rfl ⟨⟨h',by rw[a1.out];rfl,by rw[a1.out];exact dn⟩,dm⟩
  have ew:(j:Int)<(l.length:Int):=by omega
  obtain⟨nm,b2⟩:∃s,l[j]? =some s:=⟨l[j],NA _⟩;obtain⟨b,ab,rfl,dx⟩:=c5 j nm b2;have c0:Ce wr b (ab+j)<|.string nm:=(Z.cell (p:=(aD b<|ab+j))<|bL dx).trans dx;have cf:Hid (RR=if y.kind≠2\/BV nm y.kids 0<0 then none else Ct (l.drop<|j+1) (y.kid (BV nm y.kids 0).toNat)):=by
   show _=_;have e:l.drop j=nm::l.drop (j+1):=by
    rw[N9 de];rw[NA de]at b2;simp at b2;rw[b2]
   rw[c9.out,e,Ct]
  obtain⟨dy,dz,dT,d0,d1,d2,d3,O⟩:=y;have d4:=(Cs.1 da).2.2.2;have eF:=OL a8.ak a8.ck O nm wr (by exact Rz ev oD)<|d4.below Z;have ch:Hid _:=eF;have d5:Hid (∀J,Below wr.heap.size wr J->RR=none->∃az,As J (G+1) zN zH=az/\AC az (G+1) zN zH/\((∃h',(Ending.returned<|.tuple #[At zN zH,.bool false])=.returned (.tuple #[At (RR.getD zN) h',.bool RR.isSome])/\Am az.cell? (RR.getD zN) h')/\Below W.heap.size W az)):=by
   intro J I d6;have eL:=aA.below I;have d7:=Z.trans<|I.mono Z.size;have bf:Az (G+1) J<|As J (G+1) zN zH:=Cb;refine⟨_,rfl,eL.store zN zH,⟨zH,by rw[d6];rfl,by rw[d6];exact KU _⟩,d7.trans<|bf.below (B:=W.heap.size) oM d7.size⟩
  obtain⟨⟨bB,bC,bF,bG,bH,bY,b0,bd⟩,b1⟩:=id ba;by_cases cl:dy=2;rotate_left
  .have eX:(dy !=2)=true:=bne_iff_ne.2 cl
   have a1:Hid<|RR=none:=by show _=_;rw[cf.out,NS<|.inl<|by exact cl]
   obtain⟨R,e0⟩:=Aq<|BV nm O 0;go_wp2_with fail
   refine rQ ch ?_;rintro e J ⟨rfl,I⟩;rw[e0.out];obtain⟨az,H,a6,co⟩:=d5 J I a1;have bg:=hid H;have cr:Hid _:=co;have a7:=ba.below I;have bu:=aA.below I;obtain⟨⟨bB,bC,bF,bG,bH,bY,b0,bd⟩,b1⟩:=id a7;obtain⟨⟨z0,dp,dr,z3,z4,z5,ds,du⟩,dw⟩:=id bu;go_wp2;have H:=bg.out;simp only[As,zN,zH,RC]at H;rw[H];obtain⟨bi,bk,bl,bn,bo,bp,bq,bs⟩:=a6.1;refine NZ (v:=.tuple #[At zN zH,.bool false]) (by simp[results,results176,go_sem,At,zN,zH,bi,bk,bl,bn,bo,bp,bq,bs]) rfl cr
  subst cl;have eX:((2:Int)!=2)=false:=rfl;rcases KE nm O 0 with⟨d8,_⟩|⟨p,z,bx,hx,_⟩
  .have cx:Hid<|BV nm O 0=-1:=d8
   have a1:Hid<|RR=none:=by show _=_;rw[cf.out,NS<|.inr (by show BV nm O 0<0;rw[d8];decide)]
   go_wp2_with fail
   refine rQ ch ?_;rintro e J ⟨rfl,I⟩;rw[cx.out];obtain⟨az,H,a6,co⟩:=d5 J I a1;have bg:=hid H;have cr:Hid _:=co;have a7:=ba.below I;have bu:=aA.below I;obtain⟨⟨bB,bC,bF,bG,bH,bY,b0,bd⟩,b1⟩:=id a7;obtain⟨⟨z0,dp,dr,z3,z4,z5,ds,du⟩,dw⟩:=id bu;go_wp2;have H:=bg.out;simp only[As,zN,zH,RC]at H;rw[H];obtain⟨bi,bk,bl,bn,bo,bp,bq,bs⟩:=a6.1;refine NZ (v:=.tuple #[At zN zH,.bool false]) (by simp[results,results176,go_sem,At,zN,zH,bi,bk,bl,bn,bo,bp,bq,bs]) rfl cr
  rw[RT]at bx;have cx:=hid bx;have d9:p<O.length:=(NE.1 hx).1;have e1:Hid<|RR=Ct (l.drop<|j+1) z:=by
   show _=_
   rw[cf,NO (by
    intro q;rcases q with q|q
    .exact q rfl
    .have q2:BV nm O 0<0:=q
     rw[bx]at q2;omega)]
   have e2:(BV nm (Nd.mk 2 dz dT d0 d1 d2 d3 O).kids 0).toNat=p:=by
    show(BV nm O 0).toNat=p;rw[bx];rfl
   rw[e2];have e3:(Nd.mk 2 dz dT d0 d1 d2 d3 O).kid p=z:=by
    unfold Nd.kid;show(match O[p]? with|some q=>q.2|none=>_)=z;rw[hx]
   rw[e3]
  have e4:cnt z<=800:=by
   have q1:=MS hx;rw[cnt]at dd;omega
  have e5:A7 z:=by
   rw[A7]at ce;exact MZ ce.2.2 hx
  rcases d4 with e6|⟨ff,fg,eb,f,ed⟩
  .rw[e6]at d9;simp at d9
  obtain⟨ee,ef⟩:=ed p nm z hx;have e7:=hid eb;clear bx hx ed eb;generalize f p=b4 at ee ef;have fh:decide ((p:Int)<0)=false:=NM oM;have fo:(p:Int)<(O.length:Int):=by omega
  go_wp2_with fail
  refine rQ ch ?_;rintro e J ⟨rfl,I⟩;rw[cx.out];have cD:=Z.trans<|I.mono Z.size;have a7:=ba.below I;have bu:=aA.below I;have e8:=ee.below cD;obtain⟨⟨bB,bC,bF,bG,bH,bY,b0,bd⟩,b1⟩:=id a7;rw[e7.out]at bd;have eg:=a7.store z b4;have b3:Az G J<|As J G z b4:=Cb;have ej:=bu.but b3 oM;have ek:=cD.trans<|b3.below (B:=W.heap.size) oM cD.size;generalize b6:As J G z b4=fp at eg ej ek;have e9:=hid b6;obtain⟨fs,ft,u3,g3,fx,gb,gg,gl⟩:=z;obtain⟨p0,p1,p2,p3,go,gq,gr,gu,gv⟩:=e8.nine;go_wp2;have b6:=e9.out;simp only[As]at b6;rw[b6];go_roundw
  case rel=>exact⟨j+1,_,b4,by omega,by go_num,e1,eg,ej,ef,e4,e5,ek⟩
  case measure=>simp[intOf];omega
mutual
def Gy(up:Bool):Nat->Nd->Prop
 |deep,.mk k m u g o rL d ks=>deep<=6/\EQ up (decide (deep=0)) (.mk k m u g o rL d ks)=0/\GJ up (deep+1) none ks
def GJ(up:Bool):Nat->Option BA->Ay->Prop
 |_,_,[]=>True
 |deep,p,(n,x)::l=>Bf n=true/\Ll p n=true/\Gy up deep x/\GJ up deep (some n) l
end
mutual
theorem Yq(up:Bool):∀(x:Nd) (G H:Nat),((DA up x G H).1=0↔Gy up G x/\H+cnt x<=60)/\((DA up x G H).1=0->(DA up x G H).2=H+cnt x)
 |.mk k m u g o rL d ks,G,H=>by
  rw[DA,Gy,cnt];by_cases J:60<=H\/6<G
  .rw[NS J]
   refine⟨⟨λh=>by simp at h,λh=>by omega⟩,λh=>by simp at h⟩
  rw[NO J];by_cases I:EQ up (decide (G=0)) (.mk k m u g o rL d ks)=0
  .rw[NO<|by simpa using I]
   obtain⟨O,Z⟩:=Wi up none ks (G+1)<|H+1;refine⟨⟨λh=>?_,λh=>?_⟩,λh=>?_⟩
   .have:=O.1 h
    refine⟨⟨by omega,I,this.1⟩,?_⟩;rcases this.2 with q|q
    .subst q;rw[cntL];omega
    .omega
   .exact O.2 ⟨h.1.2.2,.inr oM⟩
   .rw[Z h];omega
  .rw[NS I]
   refine⟨⟨λh=>absurd h I,λh=>absurd h.1.2.1 I⟩,λh=>absurd h I⟩
theorem Wi(up:Bool):∀(p:Option BA) (l:Ay) (H G:Nat),((Dw up p l H G).1=0↔GJ up H p l/\(l=[]\/G+cntL l<=60))/\((Dw up p l H G).1=0->(Dw up p l H G).2=G+cntL l)
 |p,[],H,G=>by
  rw[Dw,GJ,cntL];exact⟨⟨λ_=>⟨trivial,.inl rfl⟩,λ_=>rfl⟩,λ_=>rfl⟩
 |p,(n,x)::l,H,G=>by
  rw[Dw,GJ,cntL];by_cases J:Bf n=false
  .rw[NS J]
   exact⟨⟨λh=>by simp at h,λh=>by rw[J]at h;simp at h⟩,λh=>by simp at h⟩
  rw[NO J];by_cases O:Ll p n=false
  .rw[NS O]
   exact⟨⟨λh=>by simp at h,λh=>by rw[O]at h;simp at h⟩,λh=>by simp at h⟩
  rw[NO O];obtain⟨ab,ad⟩:=Yq up x H G;by_cases I:(DA up x H G).1=0
  .rw[NO<|by simpa using I]
   have ak:=ab.1 I;rw[ad I];obtain⟨f1,f2⟩:=Wi up (some n) l H<|G+cnt x;refine⟨⟨λh=>?_,λh=>?_⟩,λh=>?_⟩
   .obtain⟨g1,Z⟩:=f1.1 h
    refine⟨⟨by simpa using J,by simpa using O,ak.1,g1⟩,.inr ?_⟩;rcases Z with Z|Z
    .subst Z;rw[cntL];omega
    .omega
   .refine f1.2 ⟨h.1.2.2.2,?_⟩
    rcases h.2 with q|q
    .cases q
    .exact .inr oM
   .rw[f2 h];omega
  .rw[NS I]
   refine⟨⟨λh=>absurd h I,λh=>?_⟩,λh=>absurd h I⟩;exfalso;refine I<|ab.2 ⟨h.1.2.2.1,?_⟩;rcases h.2 with q|q
   .cases q
   .omega
end
theorem KN(up:Bool)(x:Nd):Dj up x=0↔x.kind=2/\Gy up 0 x/\cnt x<=60:=by
 obtain⟨k,m,u,g,o,rL,d,ks⟩:=x;rw[Dj];have h:=(Yq up (.mk k m u g o rL d ks) 0 0).1;show _↔k=2/\_;grind
theorem jF{up:Bool}{G:Nat}(h:Gy up G x):GJ up (G+1) none x.kids:=by
 obtain⟨k,m,u,g,o,rL,d,H⟩:=x;rw[Gy]at h;exact h.2.2
theorem Sr:∀{ks:Ay},Co ks->fk m ks=some y->AI y:=by intro ks;induction ks<;>grind [Co,fk]
theorem RH{z:Nd}(G:AI z):∀{ks:Ay},Co ks->Co (C9 m z ks):=by intro ks;induction ks<;>grind [C9,Co]
theorem iP:∀{ks:Ay},Co ks->Co (Gn m ks):=by intro ks;induction ks<;>grind [Gn,Co]
theorem Jp{ks:Ay}:AI (x.with ks)↔AI (x.with [])/\Co ks:=by
 obtain⟨k,m,u,g,o,rL,d,G⟩:=x;show AI (.mk k m u g o rL d ks)↔AI (.mk k m u g o rL d [])/\Co ks;grind [AI,Co]
theorem YE{l:List BA}{n r:Nd}(h:A3 none l n=.ok r):AI n->AI r:=by
 refine LQ (c:=none) (λn r=>AI n->AI r) ?_ ?_ h
 .intro m n ks _ H G
  rw[<-IR n,Jp]at G;rw[Jp];refine⟨G.1,?_⟩;rcases Mx H with⟨x,q,_⟩|⟨_,_,rfl⟩
  .cases q
  .exact iP G.2
 .intro m n y z _ I J G
  rw[<-IR n,Jp]at G;rw[Jp];exact⟨G.1,RH (J<|Sr G.2 I) G.2⟩
theorem WJ:∀{l:List BA} {n y:Nd},Ct l n=some y->(Db n->Db y)/\cnt y<=cnt n
 |[],n,y,h=>by rw[Ct]at h;simp only[RV]at h;subst h;exact⟨id,rP _⟩
 |m::l,n,y,h=>by
  rw[Pr]at h;by_cases H:n.kind≠2
  .rw[NS H]at h;cases h
  rw[NO H]at h;cases hf:fk m n.kids with
  |none=>rw[hf]at h;cases h
  |some z=>
   rw[hf]at h;simp only at h;obtain⟨J,O⟩:=WJ h;have Z:cnt z<=cntL n.kids:=by
    rcases JU m n.kids 0 with⟨_,q⟩|⟨j,ab,_,q2,G,_⟩
    .rw[hf]at q;cases q
    .rw[hf]at G;simp only[RV]at G;subst G;exact MS q2
   refine⟨λI=>J ?_,by rw[KG n];omega⟩;rw[<-IR n,LD]at I;exact Yr I.2 hf
def Lo(S:Nat->Bool)(b:Nat):Nat->Bool:=λk=>k==b||S k
theorem fS(bB:∀k,S k=true->k<W.heap.size)(bC:Am (Ag W.cell? S) x0 h)(a:Option Addr)(a1:Nat)(l:List BA)(bF:Bi W.cell? a l)(bG:l.length<=1000)(bH:l.length<=a1/\a1<=9223372036854775807)(bY:cnt x0<=800)(a6:Nd)(hx:Hd)(b0:Am (Ag W.cell? S) a6 hx)(b1:∀r,A3 (some a6) l x0=.ok r->A7 r/\cnt r<=1000):
 Calls prog 229 #[At x0 h,.slice a l.length a1,At a6 hx] W λe bd=>Iq W bd S e<|A3 (some a6) l x0:=by
 obtain⟨RR,bi⟩:=Aq<|A3 (some a6) l x0;obtain⟨G,H,I,J,O,Z,ab,ad⟩:=a6;obtain⟨k,m,u,g,o,rL,d,ks⟩:=x0;have b4:=AC.new W k m u g o rL d ks h;have bk:Below W.heap.size W<|W.alloc<|Aw k m u g o rL d ks h:=bN;have bl:=AC.new (W.alloc<|Aw k m u g o rL d ks h) G H I J O Z ab ad hx;rw[ND]at bl;have bn:Below W.heap.size W<|(W.alloc<|Aw k m u g o rL d ks h).alloc<|Aw G H I J O Z ab ad hx:=bk.alloc bk.size _;have be:=AC.zero<|(W.alloc<|Aw k m u g o rL d ks h).alloc<|Aw G H I J O Z ab ad hx;rw[ND,ND]at be;have q1:=(NB _<|W.alloc<|Aw k m u g o rL d ks h).alloc (rP _)<|Aw G H I J O Z ab ad hx;have q2:=(NB _<|(W.alloc<|Aw k m u g o rL d ks h).alloc<|Aw G H I J O Z ab ad hx).alloc (rP _) AO;have b6:=(b4.below q1).below q2;have b7:=bl.below q2;have a7:Below W.heap.size W<|((W.alloc<|Aw k m u g o rL d ks h).alloc<|Aw G H I J O Z ab ad hx).alloc AO:=bn.alloc bn.size _;have bo:AW (Ag W.cell? S)<|Ag (((W.alloc<|Aw k m u g o rL d ks h).alloc<|Aw G H I J O Z ab ad hx).alloc AO).cell?<|Lo S<|W.heap.size+1+1:=Bv λk b9 a8=>⟨by simp[Lo,a8];omega,a7.block k b9⟩;have ce:cL 255 #[At (.mk k m u g o rL d ks) h,.slice a l.length a1,.func (.func 260) #[] #[pO (W.heap.size+1) 0]] (((W.alloc<|Aw k m u g o rL d ks h).alloc<|Aw G H I J O Z ab ad hx).alloc AO) λe bd=>Iq (((W.alloc<|Aw k m u g o rL d ks h).alloc<|Aw G H I J O Z ab ad hx).alloc AO) bd (Lo S<|W.heap.size+1+1) e RR:=by
  rw[<-bi.out];exact Ub (S:=Lo S<|W.heap.size+1+1) (λq ak=>by simp only[Lo,Bool.or_eq_true,beq_iff_eq]at ak;rcases ak with ak|ak;(rw[ak];exact be.1.lt);(have c9:=bB q ak;have da:=a7.size;omega)) (bC.on bo) a a1 l (bF.on<|Ai a7) bG bH bY (W.heap.size+1) (.mk G H I J O Z ab ad) hx b7.1 (b0.on bo) b1
 have cf:Hid _:=ce;rw[bi.out];show cL 229 #[(Ba k m u g o rL d ks h),.slice a l.length a1,(Ba G H I J O Z ab ad hx)] _ _;obtain⟨⟨dd,de,dg,dj,dk,dm,dn,dp⟩,dr⟩:=id b6;go_enter func229,ntmps229;go_wp2_with fail
 go_call cf as e w2 ⟨⟨h',rfl,hN2⟩,b2⟩
 have bf:=be.below b2;have bp:=a7.trans<|b2.mono a7.size;generalize ds:(W.heap.size+1+1)=ba at bf hN2⊢;generalize ch:E5 RR=r at hN2⊢;have bq:=hid ch;obtain⟨al,ao,u2,ap,ar,aw,az,aA⟩:=r;have bs:=bf.store (.mk al ao u2 ap ar aw az aA) h';have bu:Az ba w2<|As w2 ba (.mk al ao u2 ap ar aw az aA) h':=Cb;have bx:=bp.trans<|bu.below (B:=W.heap.size) oM bp.size;have step:AW (Ag w2.cell?<|Lo S ba)<|Ag (As w2 ba (.mk al ao u2 ap ar aw az aA) h').cell? S:=Bv λq ak a8=>by simp only[Lo,Bool.or_eq_false_iff,beq_eq_false_iff_ne]at a8;exact⟨a8.2,bu.block q ak a8.1⟩
 have bA:=hN2.on step;generalize bb:As w2 ba (.mk al ao u2 ap ar aw az aA) h'=du at bs bx bA;have cl:=hid bb;have bg:At (.mk al ao u2 ap ar aw az aA) h'=(Ba al ao u2 ap ar aw az aA h'):=rfl;rw[bg];obtain⟨⟨z0,dw,dx,z3,z4,z5,dy,dz⟩,dT⟩:=id bf;generalize co:Ao (Gl RR)=bg;have cr:=hid co;go_wp2;have bb:=cl.out;simp only[As]at bb;rw[bb];obtain⟨cx,cD,cF,c3,c4,c5,c6,c8⟩:=bs.1;refine NZ (v:=.tuple #[At (.mk al ao u2 ap ar aw az aA) h',bg]) (by simp[results,results229,go_sem,At,cx,cD,cF,c3,c4,c5,c6,c8]) rfl ⟨⟨h',by rw[bq.out,cr.out],by rw[bq.out];exact bA⟩,bx⟩
def Gb(us gs:List Rg)(xs:List Nd)(ry:List BA)(U:Nd):Except Int Nd:=if AX xs ry=[]then .error 5 else GM us gs xs ry U ry.length
theorem nZ(c:AR):Am c zN zH:=Cs.2 ⟨.inl rfl,⟨rP _,by decide⟩,⟨rP _,by decide⟩,.inl rfl⟩
theorem Zb(W A B:World)(ua ga:Option Addr)(H I uc gc:Nat)(G:A=W.alloc (Er ua H uc ga I gc))(J:B=A.alloc (AO)):
 B.cell? (aD W.heap.size 0)=some (.slice ua H uc)/\B.cell? (aD W.heap.size 1)=some (.slice ga I gc)/\AC B (W.heap.size+1) zN zH/\Below W.heap.size W B/\B.heap.size=W.heap.size+1+1:=by
 have Z:A.heap.size=W.heap.size+1:=by rw[G,ND]
 have ak:B.heap.size=W.heap.size+1+1:=by rw[J,ND,Z]
 have ab:Below W.heap.size W A:=by rw[G];exact bN
 have O:Below A.heap.size A B:=by rw[J];exact bN
 have c0:Ce A W.heap.size 0<|.slice ua H uc:=by rw[G];exact aC
 have c1:Ce A W.heap.size 1<|.slice ga I gc:=by rw[G];exact aC
 have ad:=AC.zero A;rw[<-J,Z]at ad;exact⟨Ai O _ _ c0,Ai O _ _ c1,ad,ab.trans<|O.mono ab.size,ak⟩
theorem CU(w:World)(o:Obj):Below w.heap.size w<|w.alloc o:=(NB _ _).alloc (rP _) _
theorem O2{fr G:Rg->Int}{x y:Int}:∀{L:List Rg},EU fr G L x=some y->∃r∈L,fr r<=x/\x-fr r<r.n/\y=G r+x-fr r
 |[],h=>by cases h
 |r::l,h=>by
  by_cases e:fr r<=x/\x-fr r<r.n
  .rw[ig e.1 e.2]at h;cases h;exact⟨r,by simp,e.1,e.2,rfl⟩
  .rw[cN e]at h
   obtain⟨q,H,I⟩:=O2 h;exact⟨q,by simp[H],I⟩
theorem Uu(nm:BA)(q:Nd×Nat)(l:Bc):BU nm (q::l)=(match Ek nm q.1 with|none=>BU nm l|some y=>(y,q.2)::BU nm l):=by grind [BU]
theorem WD(h:x.kind=2)(nm:BA):Ek nm x=fk nm x.kids:=by rw[Pi,NO<|by simp[h]]
def S0(us gs:List Rg):List BA->Bc->BA->List (Nd×BA)->Prop
 |[],s0,nm,L=>∃q r y,A8 s0=q::r/\BH true us gs (Dv q.1)=some y/\L=[(y,nm)]
 |n::ns,s0,nm,L=>∃q r y L',A8 s0=q::r/\BH true us gs (Dv q.1)=some y/\S0 us gs ns (BU n (q::r)) n L'/\L=(y,nm)::L'
def Mj(x:Nd)(t:Bc):Bc:=if x.opq=true then []else F5 t
def TL(us gs:List Rg)(G:List BA)(L:List<|Nd×BA):List BA->Nd->Bc->Prop
 |[],_,_=>False
 |[m],x,t=>x.kind=2/\fk m x.kids=none/\S0 us gs G (BU m<|Mj x t) m L
 |m::H::N,x,t=>x.kind=2/\∃y,fk m x.kids=some y/\(y.kind=1\/y.kind=2)/\TL us gs G L (H::N) y (BU m<|Mj x t)
theorem Sl(h:x.kind=2)(t:Bc):A8 ((x,0)::t)=(x,0)::Mj x t:=by grind [A8,F5,Mj]
def VV(x:Nd):Prop:=∃up G,Gy up G x
theorem jW{up:Bool}{G:Nat}:∀{p:Option BA} {ks:Ay},GJ up G p ks->fk m ks=some y->Bf m=true/\Gy up G y:=by intro p ks;induction ks generalizing p<;>grind [GJ,fk]
theorem VV.kid(h:VV x)(G:fk m x.kids=some y):Bf m=true/\VV y:=by
 obtain⟨up,H,I⟩:=h;obtain⟨J,O⟩:=jW (jF I) G;exact⟨J,up,H+1,O⟩
theorem nK{l:Bc}(h:∀q∈l,VV q.1)(nm:BA):∀q∈BU nm l,Bf nm=true/\VV q.1:=λq H=>by
 obtain⟨p,I,e⟩:=C0.1 H;obtain⟨z,G,rfl⟩:=R2.1 e;rw[Pi]at G;split at G
 .cases G
 .exact(h p I).kid G
theorem kn(h:∀x∈xs,VV x):∀ry:List BA,∀q∈AX xs ry,VV q.1:=by
 intro ry;unfold AX;have G:∀q∈A8 (A5 xs),VV q.1:=λq H=>by
  have:=(PJ _).subset H;obtain⟨i,I⟩:=R7 this;unfold A5 at I;rw[List.getElem?_zipIdx]at I;obtain⟨y,J,rfl⟩:=R2.1 I;exact h y<|NW J
 generalize A8 (A5 xs)=l at G;induction ry generalizing l with
 |nil=>exact G
 |cons nm ry O=>
  rw[Ko];exact O _ λq H=>(nK G nm q<|(PJ _).subset H).2
theorem nl:∀{A L:List (Nd×BA)},Dl us gs A=.ok L->(∀p∈A,∃y,BH true us gs p.1=some y)/\L=A.map λp=>((BH true us gs p.1).getD zN,p.2):=by intro A L;induction A generalizing L<;>grind [Dl]
theorem kQ{f:Int}:∀{A:List (Nd×BA)},(∀p∈A,Bf p.2=true)->Dl us gs A=.error f->f=11:=by intro A;induction A<;>grind [Dl]
def Lr(us gs:List Rg)(G:Nat->Nd×Nat)(ry:List BA)(j d:Nat):List<|Nd×BA:=(List.range' j d).map λi=>((BH true us gs<|Dv (G i).1).getD zN,ry.getD (i-1) ⟨#[]⟩)
theorem Vh{us gs:List Rg}{xs:List Nd}{ry:List BA}{G:Nat->Nd×Nat}(O:Im xs ry G):∀(d j:Nat) (I:Bc),1<=j->j+d=ry.length->A8 I=AX xs (ry.take j)->(∀i,j<=i->i<=ry.length->∃y,BH true us gs (Dv (G i).1)=some y)->
 S0 us gs (ry.drop j) I (ry.getD (j-1) ⟨#[]⟩) (Lr us gs G ry j<|d+1)
 |0,j,I,hj1,hj,he,hm=>by
  rw[List.drop_eq_nil_of_le oM];obtain⟨r,J⟩:=O j oM;obtain⟨y,H⟩:=hm j (rP _) oM;refine⟨G j,r,y,he.trans J,H,?_⟩;simp[Lr,H]
 |d+1,j,I,hj1,hj,he,hm=>by
  have Z:j<ry.length:=by omega
  have e:=NA Z;rw[N9 Z];obtain⟨r,J⟩:=O j oM;obtain⟨y,H⟩:=hm j (rP _) oM;have ab:=Vh (us:=us) (gs:=gs) O d (j+1) (BU ry[j] (G j::r)) oM oM (by rw[Lv e,J]) λi ak ad=>hm i oM ad;rw[show j+1-1=j by omega,show ry.getD j ⟨#[]⟩=ry[j] by simp[Z]]at ab;refine⟨G j,r,y,Lr us gs G ry (j+1)<|d+1,he.trans J,H,ab,?_⟩;unfold Lr;rw[show List.range' j (d+1+1)=j::List.range' (j+1) (d+1)from rfl,CB,H];rfl
theorem jK{G:Nat->Nd×Nat}(I:Im xs ry G){k:Nat}(Z:k<ry.length)(ab:∀j,j<=k->(G j).2=0)(ar:(G<|k+1).2≠0)(aw:∀i,k+1<=i->i<=ry.length->∃y,BH true us gs (Dv (G i).1)=some y):
 ∀(d i:Nat) (t:Bc),i+d=k->A8 ((((G i).1,0)::t):Bc)=AX xs (ry.take i)->TL us gs (ry.drop<|k+1) (Lr us gs G ry (k+1)<|ry.length-k) ((ry.take<|k+1).drop i) (G i).1 t:=by
 intro d;induction d with
 |zero=>
  intro i t az ad;have aA:i=k:=by omega
  subst aA;have e:=NA Z;obtain⟨H,_,J,_⟩:=JT I e;have ak:(ry.take<|i+1).drop i=[ry[i]]:=by
   rw[List.drop_take,show i+1-i=1 by omega,N9 Z];rfl
  rw[ak];have J:=J (ab i<|rP _) ar;refine⟨H,J,?_⟩
  have al:=Vh (us:=us) (gs:=gs) I (ry.length-i-1) (i+1) (BU ry[i]<|Mj (G i).1 t) oM oM (by
   rw[Lv e,<-ad,Sl H,Uu,WD H,J]) aw
  rw[show i+1-1=i by omega,show ry.getD i ⟨#[]⟩=ry[i] by simp[Z],show ry.length-i-1+1=ry.length-i by omega]at al;exact al
 |succ d a1=>
  intro i t az ad;have a6:i<ry.length:=by omega
  have e:=NA a6;obtain⟨H,_,_,O⟩:=JT I e;have O:=O (ab i oM)<|ab (i+1) oM;have a7:A8 ((((G<|i+1).1,0)::BU ry[i] (Mj (G i).1 t)):Bc)=AX xs (ry.take<|i+1):=by
   rw[Lv e,<-ad,Sl H,Uu,WD H,O]
  have ao:=a1 (i+1) _ oM a7;have ak:(ry.take<|k+1).drop i=ry[i]::(ry.take<|k+1).drop (i+1):=by
   grind [N9]
  have ap:(ry.take<|k+1).drop (i+1)=ry[i+1]' oM::(ry.take<|k+1).drop (i+1+1):=by
   rw[N9 (by rw[C3];omega)];simp
  rw[ak,ap];rw[ap]at ao;refine⟨H,(G<|i+1).1,O,?_,ao⟩;obtain⟨r,a8⟩:=I (i+1) oM;grind [OW]
theorem aM(h:AX xs ry≠[]):∃H,Im xs ry H:=by
 have I:∀i,i<=ry.length->AX xs (ry.take i)≠[]:=λi G e=>by
  apply h;have:AX xs ry=(ry.drop i).foldl (λl nm=>A8<|BU nm l) (AX xs<|ry.take i):=by
   unfold AX;rw[<-List.foldl_append,CR]
  rw[this,e];exact kI _
 refine⟨λi=>(AX xs<|ry.take i).headD (zN,0),λi G=>?_⟩;cases hc:AX xs (ry.take i)with
 |nil=>exact absurd hc (I i G)
 |cons q r=>exact⟨r,by simp[hc]⟩
theorem gh{rM:List Nd}(ab:∀G,Im (x0::rM) ry G->∀(i:Nat) (ad:i<ry.length),Bf ry[i]=true):
 (∀V,Gb us gs (x0::rM) ry x0=.ok V->(V=x0/\∃z r,AX (V::rM) ry=(z,0)::r/\Ct ry V=some z)\/∃N ak L,ry=N++ak/\TL us gs ak L N x0 (rM.zipIdx 1)/\A3 (some<|CW L) N x0=.ok V)/\
 (∀f,Gb us gs (x0::rM) ry x0=.error f->f=5\/f=11):=by
 unfold Gb;by_cases al:AX (x0::rM) ry=[]
 .grind
 rw[NO al];obtain⟨G,H⟩:=aM al;have aA:=Vp H;have I:(G 0).1=x0:=by
  grind
 by_cases a1:∀j,j<=ry.length->(G j).2=0
 .have e:=Pd (us:=us) (gs:=gs) (U:=x0) H ry.length (rP _) a1
  rw[e];refine⟨λV h=>?_,λf h=>(by cases h)⟩;injection h with h
  subst h;refine .inl ⟨rfl,?_⟩;obtain⟨r,bl⟩:=H ry.length<|rP _;grind [OM]
 .obtain⟨k,J,O,ao⟩:∃k,k<ry.length/\(∀j,j<=k->(G j).2=0)/\(G<|k+1).2≠0:=by
   have:∃n,n<=ry.length/\(G n).2≠0:=by
    grind
   obtain⟨n,bn,a6⟩:=this;induction n with
   |zero=>exact absurd aA.1 a6
   |succ n bo=>
    by_cases q:∀j,j<=n->(G j).2=0
    .grind
    .by_cases q2:(G n).2=0
     .have:∃j,j<=n/\(G j).2≠0:=by
       grind
      obtain⟨j,bp,a7⟩:=this;have up:∀i,j<=i->i<=n->(G i).2≠0:=by
       intro i ap;induction ap with
       |refl=>exact λ_=>a7
       |@step m ap a8=>
        intro bq;have e:ry[m]? =some (ry[m]' oM):=NA oM;exact(JT H e).2.1 (a8 oM)
      grind
     all_goals grind
  have e:=Zl (us:=us) (gs:=gs) H J O ao (ry.length-k-1) oM;rw[show k+(ry.length-k-1)+1=ry.length by omega,show ry.length-k-1+1=ry.length-k by omega,I]at e;rw[e];have ba:∀p∈Fi G ry k (ry.length-k),Bf p.2=true:=λp bb=>by
   obtain⟨i,ad,rfl⟩:=CQ.1 bb;rw[List.mem_range'_1]at ad;have ar:=ab G H (i-1) oM;show Bf (ry.getD (i-1) ⟨#[]⟩)=true;rw[show ry.getD (i-1) ⟨#[]⟩=ry[i-1] by rw[List.getD_eq_getElem?_getD,NA oM];rfl];exact ar
  cases hb:Dl us gs (Fi G ry k<|ry.length-k)with
  |error f=>
   refine⟨λV h=>(by cases h),λbs h=>?_⟩;injection h with h
   subst h;exact .inr<|kQ ba hb
  |ok L=>
   dsimp only;obtain⟨bd,be⟩:=nl hb;have bf:L=Lr us gs G ry (k+1) (ry.length-k):=by
    rw[be];unfold Fi Lr;rw[tC];rfl
   have bg:∀i,k+1<=i->i<=ry.length->∃y,BH true us gs (Dv (G i).1)=some y:=λi ar bu=>
    bd (Dv (G i).1,ry.getD (i-1) ⟨#[]⟩) (CQ.2 ⟨i,by rw[List.mem_range'_1];omega,rfl⟩)
   have aw:=jK (us:=us) (gs:=gs) H J O ao bg k 0 (rM.zipIdx 1) oM (by rw[I];rfl);rw[List.drop_zero,I,<-bf]at aw;have az:=NA J;have bi:=OM H k oM O;have bk:=(JT H az).1;obtain⟨bx,Z⟩:=(O4 (x:=CW L) bi bk).2 (by rw[ab G H k J];decide);rw[<-Ks az,I]at Z;rw[Z];refine⟨λV h=>?_,λf h=>(by cases h)⟩;injection h with h
   subst h;exact .inr ⟨_,_,L,(CR _ _).symm,aw,Z⟩
open Go.Shelf
attribute [local go_sem] Oper.semAt_some
theorem di(w:World)(a:Option Addr)(n cap:Nat):
 Calls prog 110 #[.slice a n cap] w λe w'=>e=.returned (.func (.func 148) #[] #[pO w.heap.size 0])/\w'=w.alloc (.cells #[.slice a n cap] 155):=by
 go_enter func110,ntmps110;go_wp2;go_ret;exact⟨rfl,rfl⟩
theorem cj(G n₀:Nat)(a:Option Addr)(cap:Nat)(D:List Sp)(w:World)(ap:n₀=w.heap.size)(hd:w.cell? (aD G 0)=some (.slice a D.length cap))(ar:D.length<=1000)(J:Eh w.cell? a D):
 QE 148 #[pO G 0] n₀ w D:=by
 subst ap;intro l aw bp W O az Z aA;have a1:G<w.heap.size:=bL hd;have a6:=(O.cell (p:=(aD G 0)) a1).trans hd;show CallsIn Fence.wide 0 prog 148 #[.func (.yield l) #[] #[],pO G 0] W _;refine callsIn_of_wp func148 rfl trivial ?_ rfl;simp only[ntmps148,List.size_toArray,R5,RC,Nat.reduceAdd,Nat.reduceSub,tH,tG,List.push_toArray,List.append_toArray,CN,Cd];have a7:Hid _:=Z;have a8:Hid _:=J;obtain⟨N,ab⟩:=Aq D.length;rw[ab.out]at a6 ar⊢;clear Z J hd;gi_wp2
 gi_loopw [4,7] (λ_ i wr=>∃j:Nat,j<=N/\i=iN j/\aw j wr/\Below w.heap.size w wr) (λ_ i _=>N-(intOf i).toNat)
 case atStart=>exact⟨0,N7 _,rfl,aA,O⟩
 case round=>
  obtain⟨j,bq,rfl,ad,H⟩:=hrel;by_cases ba:j<N;rotate_left
  .have bb:decide ((j:Int)<(N:Int))=false:=NM oM
   gi_wp2
   go_end0
   exact⟨⟨_,rfl⟩,.inl (by rw[show N=j by omega];exact ad)⟩
  .have bb:decide ((j:Int)<(N:Int))=true:=NY oM
   obtain⟨d,hd⟩:∃d,D[j]? =some d:=⟨_,NA (by rw[ab.out];exact ba)⟩;obtain⟨b,I,rfl,bd⟩:∃b I,a=some (aD b I)/\∀i d,D[i]? =some d->Ce w b (I+i*2) (pO d.b d.p)/\Ce w b (I+i*2+1) (iN d.ly):=by
    rcases a8.out with e|e
    .subst e;simp at hd
    .exact e
   obtain⟨ak,al⟩:=bd j d hd;have ak:=Ai H _ _ ak;have al:=Ai H _ _ al;have ao:Below wr.heap.size wr<|wr.alloc<|.cells #[pO d.b d.p,iN d.ly] 164:=bN;obtain⟨c0,c1⟩:=GS wr (pO d.b d.p) (iN d.ly) 164;have be:=H.trans<|ao.mono H.size;obtain⟨fn,tmps,assign,body,bf,bg⟩:=a7 j d _ hd<|az _ _ _ ad ao;rw[Sp.v]at bf;have bi:Hid _:=bg;gi_wp2
   refine⟨rfl,RoundIn.mono bi ?_⟩;rintro e bs (⟨rfl,bk,bl⟩|⟨rfl,bn⟩)
   .have bo:=be.trans bl
    gi_wp2
    go_roundw
    case rel=>exact⟨j+1,by omega,by go_num,bk,bo⟩
    case measure=>(simp[intOf];try omega)
   .gi_wp2
    refine NZ (results_none rfl _ _ _) rfl ?_;exact⟨⟨_,rfl⟩,.inr bn⟩
theorem mH(a:BA)(w:World):Calls prog 152 #[.string a] w λe w'=>e=.returned (.bool false)/\w'=w:=by
 have h:(a.toList==a.toList)=true:=by simp
 go_enter func152,ntmps152;go_wp2;go_ret;exact⟨rfl,rfl⟩
def Ik(a b:BA):Int:=if Br a b=true then-1 else if Br b a=true then 1 else 0
theorem kT(a b:BA)(w:World):Calls prog 115 #[.string a,.string b] w λe w'=>e=.returned (iN<|Ik a b)/\w'=w:=by
 have G:=hid mH;cases h1:Br a b with
 |true=>
  have e:Ik a b=-1:=by unfold Ik;rw[NS h1]
  rw[e];have H:Op.bytesLess a.toList b.toList=true:=h1;go_enter func115,ntmps115;go_wp2_with (go_at_call 152;go_call G _ _ as e w' ⟨rfl,rfl⟩)
  go_ret;exact⟨rfl,rfl⟩
 |false=>
  have H:Op.bytesLess a.toList b.toList=false:=h1;cases h2:Br b a with
  |true=>
   have e:Ik a b=1:=by unfold Ik;rw[NO (by rw[h1];simp),NS h2]
   rw[e];have I:(a.toList==b.toList)=false:=by
    rw[beq_eq_false_iff_ne];exact λq=>Np h2 (ME q).symm
   go_enter func115,ntmps115;go_wp2_with (go_at_call 152;go_call G _ _ as e w' ⟨rfl,rfl⟩)
   go_ret;exact⟨rfl,rfl⟩
  |false=>
   have e:Ik a b=0:=by unfold Ik;rw[NO (by rw[h1];simp),NO (by rw[h2];simp)]
   rw[e];have I:(a.toList==b.toList)=true:=by
    rw[beq_iff_eq];rcases Kt a b with q|q|q
    .rw[h1]at q;cases q
    .rw[q]
    .rw[h2]at q;cases q
   go_enter func115,ntmps115;go_wp2_with (go_at_call 152;go_call G _ _ as e w' ⟨rfl,rfl⟩)
   go_ret;exact⟨rfl,rfl⟩
theorem Wd(n:BA)(a:Option Addr)(G cap:Nat)(w:World)(H:G<=1000):Calls prog 112 #[.agg #[.string n,.slice a G cap]] w λe w'=>e=.returned (.bool<|decide (G=0))/\w'=w.alloc (Fv n a G cap):=by
 obtain⟨c0,c1⟩:=GS w (.string n) (.slice a G cap) 169;by_cases h:G=0
 .subst h
  go_enter func112,ntmps112;go_wp2;go_ret;exact⟨rfl,rfl⟩
 .have e:decide (G=0)=false:=NM h
  have I:((G:Int)==0)=false:=by rw[beq_eq_false_iff_ne];omega
  rw[e];go_enter func112,ntmps112;go_wp2;go_ret;exact⟨rfl,rfl⟩
theorem eK(n G:BA)(a H:Option Addr)(l c I J:Nat)(w:World):Calls prog 114 #[.agg #[.string n,.slice a l c],.agg #[.string G,.slice H I J]] w λe w'=>e=.returned (iN<|Ik n G)/\w'=(w.alloc<|Fv n a l c).alloc (Fv G H I J):=by
 have O:Hid (∀W:World,cL 115 #[.string n,.string G] W λe w'=>e=.returned (iN<|Ik n G)/\w'=W):=λW=>kT n G W;generalize Ik n G=r at O⊢
 go_enter func114,ntmps114;go_wp2_with (go_at_call 115;go_call O _ as e w' ⟨rfl,rfl⟩)
 go_ret;exact⟨rfl,rfl⟩
abbrev Di:=BA×Sp
abbrev Ho:=List<|BA×List Sp
def Ec(nm:BA):List Di->Option Sp
 |[]=>none
 |p::l=>if p.1=nm then some p.2 else Ec nm l
theorem RL(nm:BA):∀(c d:List Di),Ec nm (c++d)=(Ec nm c).or (Ec nm d):=by intro c d;induction c generalizing d<;>grind [Ec]
theorem RN:∀{c:List Di},Ec nm c=some s->(nm,s)∈c:=by intro c;induction c<;>grind [Ec]
def El(nm:BA)(P:List<|List Di)(c:List Di):List Sp:=P.filterMap (Ec nm)++(Ec nm c).toList
structure Es (A:Ho) (P:List<|List Di) (c:List Di):Prop where
 nd:(A.map (·.1)).Nodup
 eq:∀p∈A,p.2=El p.1 P c/\p.2≠[]
 all:∀nm,El nm P c≠[]->nm∈A.map (·.1)
theorem Es.start:Es [] [] []:=⟨List.nodup_nil,λp G=>(by cases G),λnm h=>absurd rfl h⟩
theorem Lx{G:BA}(h:nm≠G)(P:List<|List Di)(c:List Di)(s:Sp):El G P (c++[(nm,s)])=El G P c:=by grind [El,RL,Ec]
theorem XH{P:List (List Di)}{c:List Di}(h:Ec nm c=none)(s:Sp):El nm P (c++[(nm,s)])=El nm P c++[s]:=by grind [El,RL,Ec]
theorem oI{P:List (List Di)}{c:List Di}(h:Ec nm c≠none)(s:Sp):El nm P (c++[(nm,s)])=El nm P c:=by
 unfold El;rw[RL];cases e:Ec nm c with
 |none=>exact absurd e h
 |some t=>rfl
theorem Es.new{A:Ho}{P:List (List Di)}{c:List Di}(h:Es A P c)(H:nm∉A.map (·.1)):Es (A++[(nm,[s])]) P<|c++[(nm,s)]:=by
 have I:El nm P c=[]:=by
  cases e:El nm P c with
  |nil=>rfl
  |cons t r=>exact absurd (h.all nm (by rw[e];simp)) H
 have O:Ec nm c=none:=by
  unfold El at I;have:=(List.append_eq_nil_iff.1 I).2;cases e:Ec nm c with
  |none=>rfl
  |some t=>rw[e]at this;cases this
 refine⟨?_,?_,?_⟩
 .rw[CT,List.nodup_append]
  refine⟨h.nd,by simp,λa Z b hb=>?_⟩;simp only[CB,List.map_nil,CD]at hb;subst hb;intro e;subst e;exact H Z
 .intro p G
  rcases Cq.1 G with G|G
  .have ab:=h.eq p G
   have ad:nm≠p.1:=λe=>H (by rw[e];exact tr G);rw[Lx ad];exact ab
  .rw[CD]at G
   subst G;rw[XH O,I];exact⟨rfl,by simp⟩
 .intro J h'
  by_cases e:nm=J
  .subst e;simp
  .rw[Lx e]at h'
   rw[CT];exact Cq.2<|.inl<|h.all J h'
theorem VY{A:Ho}{L':List Sp}(G:A[i]? =some (nm,L)):(A.set i (nm,L')).map (·.1)=A.map (·.1):=by
 rw[List.map_set];obtain⟨H,e⟩:=NE.1 G;apply List.ext_getElem?;intro j;rw[gt];split
 .rename_i e2
  subst e2;simp[H,e]
 .rfl
theorem aL{A:Ho}{q p:BA×List Sp}(h:p∈A.set i q):p=q\/∃j,j≠i/\A[j]? =some p:=by grind [R7]
theorem io{A:Ho}(h:(A.map (·.1)).Nodup){j:Nat}{p q:BA×List Sp}(G:A[i]? =some p)(H:A[j]? =some q)(e:p.1=q.1):i=j:=by induction A generalizing i j<;>grind
theorem Es.add{A:Ho}{P:List (List Di)}{c:List Di}(h:Es A P c)(G:A[i]? =some (nm,L))(O:∀t,L.getLast? =some t->t.ly≠s.ly)(Z:∀q∈c,q.2.ly=s.ly):Es (A.set i (nm,L++[s])) P<|c++[(nm,s)]:=by
 have ab:=h.eq _<|NW G;have ao:Ec nm c=none:=by
  cases e:Ec nm c with
  |none=>rfl
  |some t=>
   have H:=ab.1;simp only at H;unfold El at H;rw[e]at H;exact absurd (Z _<|RN e) (O t (by rw[H];simp))
 have ap:=NW G;refine⟨by rw[VY G];exact h.nd,?_,?_⟩
 .intro p ad
  rcases aL ad with rfl|⟨j,ak,I⟩
  .simp_all [XH]
  .have al:nm≠p.1:=λe=>ak<|io h.nd I G e.symm
   rw[Lx al];exact h.eq p<|NW I
 .intro J h'
  rw[VY G];by_cases e:nm=J
  .grind
  .rw[Lx e]at h'
   exact h.all J h'
theorem Es.old{A:Ho}{P:List (List Di)}{c:List Di}(h:Es A P c){t:Sp}(J:A[i]? =some (nm,L))(O:L.getLast? =some t)(Z:t.ly=s.ly)(ab:∀d∈P,∀q∈d,q.2.ly≠s.ly):Es A P<|c++[(nm,s)]:=by
 have ad:=h.eq _<|NW J;have ak:Ec nm c≠none:=λe=>by
  have G:=ad.1;simp only at G;unfold El at G;rw[e]at G;simp only[Option.toList_none,te]at G;have:t∈L:=List.mem_of_getLast? O;rw[G]at this;obtain⟨d,hd,al⟩:=C0.1 this;exact ab d hd _ (RN al) Z
 refine⟨h.nd,λp H=>?_,λI h'=>?_⟩
 .by_cases e:nm=p.1
  .subst e;rw[oI ak];exact h.eq p H
  .rw[Lx e];exact h.eq p H
 .by_cases e:nm=I
  .grind
  .rw[Lx e]at h';exact h.all I h'
theorem XN(nm:BA)(P:List<|List Di)(c:List Di):El nm (P++[c]) []=El nm P c:=by grind [El,Ec]
theorem Es.dir{A:Ho}{P:List (List Di)}{c:List Di}(h:Es A P c):Es A (P++[c]) []:=⟨h.nd,λp G=>by rw[XN];exact h.eq p G,λnm h'=>h.all nm (by rw[XN]at h';exact h')⟩
def ZT(A:Ho):Ho:=(A.map λp=>(p.1,BM p.2)).filter λp=> !p.2.isEmpty
def Kl(p:BA×List Sp):BA×Bc:=(p.1,p.2.map Sp.pr)
theorem Ve{A PL:Ho}{K:List (List Di)}{l:Bc}(h:Es A K [])(ab:∀nm,(El nm K []).map Sp.pr=BU nm l)(ad:PL.Perm<|ZT A)(ar:PL.Pairwise λa b=>Br b.1 a.1=false):
 PL.map Kl=(C7 l).map λnm=>(nm,Ci l nm):=by
 have aw:((ZT A).map (·.1)).Nodup:=by
  have G:((A.map λp=>(p.1,BM p.2)).map (·.1)).Nodup:=by
   rw[tC];exact h.nd
  exact G.sublist<|List.Sublist.map _ List.filter_sublist
 have az:(PL.map (·.1)).Nodup:=(ad.map _).nodup_iff.2 aw;have aA:IB<|PL.map (·.1):=by
  unfold IB;rw[List.pairwise_map];have H:PL.Pairwise λa b=>a.1≠b.1:=by
   have:=az;unfold List.Nodup at this;rwa [List.pairwise_map]at this
  refine(List.Pairwise.and ar H).imp ?_;rintro a b ⟨J,I⟩;rcases Kt a.1 b.1 with e|e|e
  .exact e
  .exact absurd e I
  .rw[e]at J;cases J
 have ao:∀p∈PL,p.2.map Sp.pr=Ci l p.1/\Ci l p.1≠[]:=by
  intro p ak;have G:=ad.mem_iff.1 ak;obtain⟨H,J⟩:=List.mem_filter.1 G;obtain⟨q,O,rfl⟩:=CQ.1 H;have I:=(h.eq q O).1;have Z:(BM q.2).map Sp.pr=Ci l q.1:=by
   rw[SN,I,ab];rfl
  refine⟨Z,λe=>?_⟩;rw[<-Z]at e;have al:=List.map_eq_nil_iff.1 e;simp[al]at J
 have a1:∀nm,Ci l nm≠[]->nm∈PL.map (·.1):=by
  intro nm ap;have G:BU nm l≠[]:=λe=>ap (by unfold Ci;rw[e];rfl);have H:El nm K []≠[]:=λe=>G (by rw[<-ab,e];rfl)
  obtain⟨q,O,e⟩:=CQ.1<|h.all nm H;refine CQ.2 ⟨(q.1,BM q.2),ad.mem_iff.2<|List.mem_filter.2 ⟨CQ.2 ⟨q,O,rfl⟩,?_⟩,e⟩;have I:=(h.eq q O).1;have Z:(BM q.2).map Sp.pr=Ci l q.1:=by rw[SN,I,ab];rfl
  have a6:BM q.2≠[]:=λal=>ap (by rw[<-e];show Ci l q.1=[];rw[<-Z,al];rfl);simp only[Bool.not_eq_true']
  cases e3:(BM q.2)with
  |nil=>exact absurd e3 a6
  |cons a b=>rfl
 have a7:PL.map (·.1)=C7 l:=WE aA (Ov l) λnm=>by
  rw[MI];constructor
  .intro a8
   obtain⟨p,ba,rfl⟩:=CQ.1 a8;exact(ao p ba).2
  .exact a1 nm
 rw[<-a7,tC];refine List.map_congr_left λp ak=>?_;show(p.1,p.2.map Sp.pr)=(p.1,Ci l p.1)
 rw[(ao p ak).1]
end Go.Proofs.YtchpdmjlicmdaaaGreatDoor
