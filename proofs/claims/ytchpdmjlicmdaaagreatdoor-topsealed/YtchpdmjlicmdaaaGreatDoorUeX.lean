/- Part: Ue Xb Xc Xd Xe Xf Xg Uh Uj Um Uk. -/
import Derived.Test.YtchpdmjlicmdaaaGreatDoorFiX
set_option maxRecDepth 100000
set_option maxHeartbeats 16000000
namespace Go.Proofs.YtchpdmjlicmdaaaGreatDoor
open Go.RowKit Go.Proofs.Tryz
variable {A W w w' wr:World}{b gc i ly nbx p uc vb vo:Nat}{N x:Nd}{h h' hb:Hd}{c:AR}{S Sx:Nat->Bool}{q:Addr}{xs:List Nd}{G H a1 a6 a7 a8 aA ao ap ar aw az ba cn t25 t31 t35 vf vn:Value}{L:List Fl}{st:Loop}{I J O Z ab ad ak al c0 c1 c2 c7:Bool}{f:Fl}{ga ua:Option Addr}
def Fn(G:Bool)(rs:List Rg)(x:Int):Option Int:=if G=true then Ig rs x else(Hc rs x).map λ_=>x
def Zh(G:Bool)(us gs:List Rg):Nd->Value
 |.mk k m u g _ _ _ _=>Gc (k==2) m ((Fn G us u).getD 65534) ((Fn G gs g).getD 65534)<|(Fn G us u).isSome&&(Fn G gs g).isSome
def Ms(w:World)(b:Nat)(a:Bool)(m u g:Int)(c:Bool):Prop:=w.cell? (aD b 0)=some (.bool a)/\w.cell? (aD b 1)=some (iN m)/\w.cell? (aD b 2)=some (iN u)/\w.cell? (aD b 3)=some (iN g)/\w.cell? (aD b 4)=some (.bool c)/\∀j,w.frozen? (aD b j)=false
theorem Ms.new(w:World)(a:Bool)(m u g:Int)(c:Bool):Ms (w.alloc<|E6 a m u g c) w.heap.size a m u g c:=
 ⟨aC,aC,aC,aC,aC,λ_=>RB _ _ _ _ rfl⟩
theorem Ms.below{a:Bool}{m u g:Int}{c:Bool}(h:Ms w b a m u g c)(hb:Below w.heap.size w w'):Ms w' b a m u g c:=by
 have G:=bL h.1;obtain⟨H,I,J,O,Z,ab⟩:=h;exact⟨Ai hb _ _ H,Ai hb _ _ I,Ai hb _ _ J,Ai hb _ _ O,Ai hb _ _ Z,λj=>(hb.frozen (p:=(aD b j)) G).trans<|ab j⟩
theorem gA(W A B:World)(ua ga:Option Addr)(H I uc gc:Nat)(k m u g:Int)(o:Bool)(rL:List Kv)(d:BA)(ks:Ay)(h:Hd)
 (G:A=W.alloc (Er ua H uc ga I gc)) (J:B=A.alloc (Aw k m u g o rL d ks h)):
 B.cell? (aD W.heap.size 0)=some (.slice ua H uc)/\B.cell? (aD W.heap.size 1)=some (.slice ga I gc)/\AC B (W.heap.size+1) (.mk k m u g o rL d ks) h/\Below W.heap.size W B/\B.heap.size=W.heap.size+1+1:=by
 have Z:A.heap.size=W.heap.size+1:=by rw[G,ND]
 have ak:B.heap.size=W.heap.size+1+1:=by rw[J,ND,Z]
 have ab:Below W.heap.size W A:=by rw[G];exact bN
 have O:Below A.heap.size A B:=by rw[J];exact bN
 have c0:Ce A W.heap.size 0<|.slice ua H uc:=by rw[G];exact aC
 have c1:Ce A W.heap.size 1<|.slice ga I gc:=by rw[G];exact aC
 have ad:=AC.new A k m u g o rL d ks h;rw[<-J,Z]at ad;exact⟨Ai O _ _ c0,Ai O _ _ c1,ad,ab.trans<|O.mono ab.size,ak⟩
theorem UV(up:Bool)(a:Option Addr)(cap:Nat)(rs:List Rg)(x:Int)(w:World)(J:rs.length<=100)(O:rs.length<=cap)(Z:∀r∈rs,r.ok)(hx:A4 x)(h:Rgs w a rs):
 Calls prog 276 #[.slice a rs.length cap,iN x,.bool up] w λe w'=>e=.returned (.tuple #[iN<|(Fn up rs x).getD 65534,.bool (Fn up rs x).isSome])/\Below w.heap.size w w':=by
 cases up
 case' false=>
  obtain⟨G,H⟩:=Aq<|Hc rs x;rw[show Fn false rs x=G.map λ_=>x by rw[<-H.out];rfl];have I:Hid _:=UK a cap rs x w J O Z hx h
 case' true=>
  obtain⟨G,H⟩:=Aq<|Ig rs x;rw[show Fn true rs x=G by rw[<-H.out];rfl];have I:Hid _:=Uf a cap rs x w J O Z hx h
 all_goals
  rw[H.out]at I;go_enter func276,ntmps276;go_wp2_with fail
  go_call I.out as e w1 ⟨rfl,hB1⟩
  cases G
  all_goals
   first|rw[gI]|rw[fT]
   go_wp2;go_ret2;exact⟨rfl,hB1⟩
theorem jb(up:Bool)(hid:FL x){M:Df}(bd:EN W M):
 Calls prog 268 #[M.v,At x h,.bool up] W λe be=>e=.returned (Zh up M.us M.gs x)/\Below W.heap.size W be:=by
 obtain⟨k,m,u,g,o,rL,d,ks⟩:=x;obtain⟨ua,ga,uc,gc,us,gs⟩:=M;obtain⟨ak,Rgs,al,ao,cu,cg,ap,ar⟩:=bd;dsimp only at ak Rgs al ao cu cg ap ar;obtain⟨bf,bg⟩:=hid;unfold Zh;dsimp only;obtain⟨c0,c1,H,aw,bi⟩:=gA W _ _ ua ga us.length gs.length uc gc k m u g o rL d ks h rfl rfl;have I:=Ms.new ((W.alloc<|Er ua us.length uc ga gs.length gc).alloc<|Aw k m u g o rL d ks h) false 0 0 0 false;rw[bi]at I;have O:Below ((W.alloc<|Er ua us.length uc ga gs.length gc).alloc<|Aw k m u g o rL d ks h).heap.size ((W.alloc<|Er ua us.length uc ga gs.length gc).alloc<|Aw k m u g o rL d ks h)<|((W.alloc<|Er ua us.length uc ga gs.length gc).alloc<|Aw k m u g o rL d ks h).alloc<|E6 false 0 0 0 false:=bN;have Z:=aw.trans<|O.mono aw.size;have H:=H.below O;have c0:=Ai O _ _ c0;have c1:=Ai O _ _ c1;have ab:Hid _:=UV up ua uc us u (((W.alloc<|Er ua us.length uc ga gs.length gc).alloc<|Aw k m u g o rL d ks h).alloc<|E6 false 0 0 0 false) al cu ap bf<|ak.below Z;obtain⟨f0,f1,f2,f3,f4,f5,f6,f7⟩:=H.1;obtain⟨az,aA⟩:=Aq<|(Fn up gs g).getD 65534;obtain⟨bk,a1⟩:=Aq<|(Fn up gs g).isSome;rw[aA.out,a1.out];generalize(Fn up us u).getD 65534=a6 at ab⊢;generalize(Fn up us u).isSome=bl at ab⊢;show cL 268 #[G7 ua us.length uc ga gs.length gc,(Ba k m u g o rL d ks h),.bool up] W _;go_enter func268,ntmps268;go_wp2_with fail
 go_call ab as e w4 ⟨rfl,hB4⟩
 have ad:=Z.trans<|hB4.mono Z.size;have H:=H.below hB4;have I:=I.below hB4;have c1:=Ai hB4 _ _ c1;have a7:Hid _:=UV up ga gc gs g w4 ao cg ar bg<|Rgs.below ad;rw[aA.out,a1.out]at a7;obtain⟨f0,f1,f2,f3,f4,f5,f6,f7⟩:=H.1;go_wp2_with fail
 go_call a7 as e w5 ⟨rfl,hB5⟩
 have a8:=ad.trans<|hB5.mono ad.size;have H:=H.below hB5;have I:=I.below hB5;obtain⟨f0,f1,f2,f3,f4,f5,f6,f7⟩:=H.1;obtain⟨t0,ba,bb,t3,t4,J⟩:=I;have bn:=J 0;have bo:=J 1;have bp:=J 2;have bq:=J 3;have bs:=J 4;have G:W.heap.size<=W.heap.size+1+1:=by omega
 cases bl
 .go_wp2
  refine NZ (v:=Gc (k==2) m a6 az false) (by simp[results,results268,go_sem,t0,ba,bb,t3,t4]) rfl ⟨rfl,((((a8.setCell G _).setCell G _).setCell G _).setCell G _).setCell G _⟩
 .go_wp2
  refine NZ (v:=Gc (k==2) m a6 az bk) (by simp[results,results268,go_sem,t0,ba,bb,t3,t4]) rfl ⟨rfl,((((a8.setCell G _).setCell G _).setCell G _).setCell G _).setCell G _⟩
def IC:Value->Prop
 |.int _ _=>True
 |.string _=>True
 |_=>False
def Dn(c:AR)(b:Nat):Prop:=∀o s v,c (aD b o)=some (.string s)->c (aD b<|o+1)=some v->¬IC v
theorem IY{v:Value}(h:c q=some v)(G:S q.block=false):Ag c S q=some v:=by grind [Ag]
theorem YY(G:∀b,S b=true->Dn c b){o:Nat}{s:BA}{v:Value}(H:c (aD b o)=some (.string s))(I:c (aD b<|o+1)=some v)(J:IC v):S b=false:=by
 cases e:S b with
 |false=>rfl
 |true=>exact absurd J (G b e o s v H I)
theorem mO(I:∀b,S b=true->Dn c b){a:Option Addr}{l:List Kv}(h:Bg c a l):Bg (Ag c S) a l:=by
 rcases h with h|⟨b,J,O,G⟩
 .exact .inl h
 .refine .inr ⟨b,J,O,λk x H=>?_⟩
  have hb:=YY I (G k x H).1 (G k x H).2 trivial;grind [IY]
theorem XM(H:A9 c b p x h)(G:S b=false):A9 (Ag c S) b p x h:=by
 obtain⟨k,m,u,g,o,rL,d,ks⟩:=x;obtain⟨I,J,O,Z,ab,ad,ak,al⟩:=H;exact⟨IY I G,IY J G,IY O G,IY Z G,IY ab G,IY ad G,IY ak G,IY al G⟩
theorem Ie(H:∀b,S b=true->Dn c b)(I:Am c x h):Am (Ag c S) x h:=by
 induction I with
 |mk b J f O Z ab ad ak _ al=>
  refine .mk b J f (mO H O) Z ab ad (λi n x ao=>?_) al;have G:=ak i n x ao;have hb:S b=false:=by
   obtain⟨k,m,u,g,o,rL,d,ks⟩:=x;exact YY H G.1 G.2.1 trivial
  exact⟨IY G.1 hb,XM G.2 hb⟩
def L9(c:AR)(b:Nat):Prop:=∀o s,c (aD b o)≠some (.string s)
theorem L9.row(h:L9 c b):Dn c b:=λo s _ e _=>absurd e (h o s)
theorem Zf(G:∀b,S b=true->L9 c b){a:Option Addr}(h:CP c a xs):CP (Ag c S) a xs:=by
 rcases h with h|⟨b,I,J,f,O⟩
 .exact .inl h
 .refine .inr ⟨b,I,J,f,λi x Z=>?_⟩
  obtain⟨H,ab⟩:=O i x Z;refine⟨XM H ?_,Ie (λb hb=>(G b hb).row) ab⟩;obtain⟨k,m,u,g,o,rL,d,ks⟩:=x;cases e:S b with
  |false=>rfl
  |true=>exact absurd H.2.2.2.2.2.2.1 (G b e _ _)
structure Th where
 d:Bool
 m:Int
 u:Int
 g:Int
 p:Bool
abbrev Th.v(t:Th):Value:=.agg #[.bool t.d,iN t.m,iN t.u,iN t.g,.bool t.p]
def Lf:Th:=⟨false,0,0,0,false⟩
structure Bx where
 M:Df
 la:Option Addr
 lc:Nat
 xs:List Nd
 u:Int
 g:Int
 ca:Option Addr
 cc:Nat
 cs:List Int
 k:Int
 q:Int
def NP(c:AR)(b:Nat)(B:Bx):Prop:=
 c (aD b 0)=some (.slice B.M.ua B.M.us.length B.M.uc)/\c (aD b 1)=some (.slice B.M.ga B.M.gs.length B.M.gc)/\c (aD b 2)=some (.slice B.la B.xs.length B.lc)/\
 c (aD b 3)=some (iN B.u)/\c (aD b 4)=some (iN B.g)/\c (aD b 5)=some (.slice B.ca B.cs.length B.cc)/\c (aD b 6)=some (iN B.k)/\c (aD b 7)=some (iN B.q)
def Ix(a:Option Addr)(b:Nat):Prop:=∀p,a=some p->p.block≠b
structure A6 (w:World) (b:Nat) (B:Bx):Prop where
 cells:NP w.cell? b B
 end8:∀o,8<=o->w.cell? (aD b o)=none
 fz:∀o,w.frozen? (aD b o)=false
 maps:EN w B.M
 lay:CP w.cell? B.la B.xs
 lcap:B.xs.length<=B.lc/\B.lc<=9223372036854775807
 grp:AV w B.ca B.cs
 gcap:B.cs.length<=B.cc/\B.cc<=9223372036854775807
 au:Ix B.M.ua b
 ag:Ix B.M.ga b
 ac:B.cs=[]\/Ix B.ca b
theorem A6.lt{B:Bx}(h:A6 w b B):b<w.heap.size:=NF _ _ h.cells.1
theorem NP.on{G:AR}{B:Bx}(h:NP c b B)(hb:AW c G):NP G b B:=
 ⟨hb _ _ h.1,hb _ _ h.2.1,hb _ _ h.2.2.1,hb _ _ h.2.2.2.1,hb _ _ h.2.2.2.2.1,hb _ _ h.2.2.2.2.2.1,hb _ _ h.2.2.2.2.2.2.1,hb _ _ h.2.2.2.2.2.2.2⟩
theorem A6.below{B:Bx}(h:A6 w b B)(hb:Bw w w'):A6 w' b B where
 cells:=h.cells.on<|Ai hb
 end8:=λo G=>(hb.cell (p:=(aD b o)) h.lt).trans<|h.end8 o G
 fz:=λo=>(hb.frozen (p:=(aD b o)) h.lt).trans<|h.fz o
 maps:=h.maps.below hb
 lay:=h.lay.on<|Ai hb
 lcap:=h.lcap
 grp:=h.grp.below hb
 gcap:=h.gcap
 au:=h.au
 ag:=h.ag
 ac:=h.ac
theorem A6.noStr{B:Bx}(h:A6 w b B):L9 w.cell? b:=λo s e=>by
 obtain⟨H,I,J,O,Z,ab,ad,ak⟩:=h.cells;rcases Nat.lt_or_ge o 8 with G|G
 .rcases(by omega:o=0\/o=1\/o=2\/o=3\/o=4\/o=5\/o=6\/o=7)with q|q|q|q|q|q|q|q<;>subst q
  .rw[H]at e;cases e
  .rw[I]at e;cases e
  .rw[J]at e;cases e
  .rw[O]at e;cases e
  .rw[Z]at e;cases e
  .rw[ab]at e;cases e
  .rw[ad]at e;cases e
  .rw[ak]at e;cases e
 .rw[h.end8 o G]at e;cases e
theorem A6.hid{B:Bx}(h:A6 w b B):CP (Ag w.cell? λk=>k==b) B.la B.xs:=Zf (λk G=>by
 have:k=b:=by simpa using G
 rw[this];exact h.noStr) h.lay
def Bx.mayE(B:Bx)(t:Th)(G:Int):Int:=if KY B.u B.g B.cs B.k t.d t.m t.u t.g t.p G=true then 0 else 9
def Bx.ownE(B:Bx)(t:Th):Int:=if J7 B.u B.k t.u t.p=true then 0 else 10
def rz(w:World)(b:Nat)(B:Bx):Prop:=w.cell? (aD b 3)=some (iN B.u)/\w.cell? (aD b 4)=some (iN B.g)/\w.cell? (aD b 5)=some (.slice B.ca B.cs.length B.cc)/\w.cell? (aD b 6)=some (iN B.k)
theorem A6.who{B:Bx}(h:A6 w b B):rz w b B:=⟨h.cells.2.2.2.1,h.cells.2.2.2.2.1,h.cells.2.2.2.2.2.1,h.cells.2.2.2.2.2.2.1⟩
theorem Aj(hb:Bw w w'){v:Value}(h:w.cell? q=some v):w'.cell? q=some v:=Ai hb q v h
abbrev Tx:=λb u g ca (cs:List Int) cc k zw d m tu tg p (X:World)=>(Ce X b 3 (iN u)/\Ce X b 4 (iN g)/\Ce X b 5 (.slice ca cs.length cc)/\Ce X b 6 (iN k)/\Ce X zw 0 (.bool d)/\Ce X zw 1 (iN m)/\Ce X zw 2 (iN tu)/\Ce X zw 3 (iN tg)/\Ce X zw 4 (.bool p):Prop)
theorem KF{B:Bx}(h:A6 w b B)(t:Th)(J:Int)(Z:0<=t.m/\t.m<=4095):
 Calls prog 156 #[pO b 0,t.v,iN J] w λe w'=>e=.returned (Ao<|B.mayE t J)/\Bw w w':=by
 obtain⟨M,la,lc,xs,u,g,ca,cc,cs,k,q⟩:=B;obtain⟨d,m,G,H,p⟩:=t;show cL 156 #[pO b 0,Gc d m G H p,iN J] w _;have O:Bw w<|w.alloc<|E6 d m G H p:=bN;have ab:Hid _:=O;have al:=FG.new w _ rfl d m G H p;obtain⟨c0,c1,c2,ao⟩:=(h.below O).who;obtain⟨ap,ar,aw,az,aA⟩:=id al;have ad:Hid _:=kE u g k ca cc cs d m G H p J ((w.alloc<|E6 d m G H p).drew) (by have:=h.gcap;exact Rz this.1 this.2) ((h.grp.below O).below (NB _ _).drew) Z.1 Z.2;obtain⟨R,ak⟩:=Aq<|KY u g cs k d m G H p J;have a1:Hid (Bx.mayE ⟨M,la,lc,xs,u,g,ca,cc,cs,k,q⟩ ⟨d,m,G,H,p⟩ J=if R=true then 0 else 9):=by
  show _=_;unfold Bx.mayE;rw[ak.out]
 rw[ak.out]at ad;rw[a1.out];go_enter func156,ntmps156;go_upto_region 1 with fail
 generalize a8:w.alloc (E6 d m G H p)=a6 at*;have I:(Tx b u g ca cs cc k w.heap.size d m G H p a6.drew):=⟨c0,c1,c2,ao,ap,ar,aw,az,aA⟩;go_region_held3 (Tx b u g ca cs cc k w.heap.size d m G H p) (assumption) (first|(go_at_call 212;go_call ad.out as e w6 ⟨rfl,c6⟩;have ba:(Tx b u g ca cs cc k w.heap.size d m G H p w6):=⟨Aj c6 I.1,Aj c6 I.2.1,Aj c6 I.2.2.1,Aj c6 I.2.2.2.1,Aj c6 I.2.2.2.2.1,Aj c6 I.2.2.2.2.2.1,Aj c6 I.2.2.2.2.2.2.1,Aj c6 I.2.2.2.2.2.2.2.1,Aj c6 I.2.2.2.2.2.2.2.2⟩))
 all_goals
  have a7:Hid _:=ab.drew.trans<|c6.mono ab.drew.size;cases R
  all_goals
   go_wp2;go_ret;exact⟨rfl,a7⟩
abbrev Tu:=λb u g ca (cs:List Int) cc k zw d m tu tg p (X:World)=>(Ce X b 3 (iN u)/\Ce X b 4 (iN g)/\Ce X b 5 (.slice ca cs.length cc)/\Ce X b 6 (iN k)/\Ce X zw 0 (.bool d)/\Ce X zw 1 (iN m)/\Ce X zw 2 (iN tu)/\Ce X zw 3 (iN tg)/\Ce X zw 4 (.bool p):Prop)
theorem Wv{B:Bx}(h:A6 w b B)(t:Th):
 Calls prog 158 #[pO b 0,t.v] w λe w'=>e=.returned (Ao<|B.ownE t)/\Bw w w':=by
 obtain⟨M,la,lc,xs,u,g,ca,cc,cs,k,q⟩:=B;obtain⟨d,m,G,H,p⟩:=t;show cL 158 #[pO b 0,Gc d m G H p] w _;have J:Bw w<|w.alloc<|E6 d m G H p:=bN;have O:Hid _:=J;have ad:=FG.new w _ rfl d m G H p;obtain⟨c0,c1,c2,ak⟩:=(h.below J).who;obtain⟨al,ao,ap,ar,aw⟩:=id ad;have Z:Hid _:=VE u g k (.slice ca cs.length cc) d m G H p<|(w.alloc<|E6 d m G H p).drew;obtain⟨R,ab⟩:=Aq<|J7 u k G p;have az:Hid (Bx.ownE ⟨M,la,lc,xs,u,g,ca,cc,cs,k,q⟩ ⟨d,m,G,H,p⟩=if R=true then 0 else 10):=by
  show _=_;unfold Bx.ownE;rw[ab.out]
 rw[ab.out]at Z;rw[az.out];go_enter func158,ntmps158;go_upto_region 1 with fail
 generalize a6:w.alloc (E6 d m G H p)=aA at*;have I:(Tu b u g ca cs cc k w.heap.size d m G H p aA.drew):=⟨c0,c1,c2,ak,al,ao,ap,ar,aw⟩;go_region_held3 (Tu b u g ca cs cc k w.heap.size d m G H p) (assumption) (first|(go_at_call 214;go_call Z.out as e w6 ⟨rfl,c6⟩;have a7:(Tu b u g ca cs cc k w.heap.size d m G H p w6):=⟨Aj c6 I.1,Aj c6 I.2.1,Aj c6 I.2.2.1,Aj c6 I.2.2.2.1,Aj c6 I.2.2.2.2.1,Aj c6 I.2.2.2.2.2.1,Aj c6 I.2.2.2.2.2.2.1,Aj c6 I.2.2.2.2.2.2.2.1,Aj c6 I.2.2.2.2.2.2.2.2⟩))
 all_goals
  have a1:Hid _:=O.drew.trans<|c6.mono O.drew.size;cases R
  all_goals
   go_wp2;go_ret;exact⟨rfl,a1⟩
def Bj(w:World)(b p:Nat)(G:List Value):Prop:=∀i v,G[i]? =some v->w.cell? ⟨b,p+i,none⟩=some v
def Jj(w:World)(b p:Nat):List Value->World
 |[]=>w
 |v::l=>Jj (w.setCell ⟨b,p,none⟩ v) b (p+1) l
theorem KC:∀(G:List Value) (w:World) (p:Nat),(∀j,j<G.length->q≠(aD b<|p+j))->(Jj w b p G).cell? q=w.cell? q
 |[],_,_,_=>rfl
 |v::l,w,p,h=>by
  rw[Jj,KC l _ (p+1) (λj H=>by
   have:=h (j+1) (by rw[R5];omega);rwa [show p+1+j=p+(j+1) by omega])]
  exact NG _ _ _ _ (λe=>h 0 oS (by rw[<-e];rfl))
theorem YV{b:Nat}:∀(G us:List Value) (w:World) (p:Nat),us.length=G.length->Bj w b p us->Bj (Jj w b p G) b p G
 |[],_,_,_,_,_=>λi v h=>by simp at h
 |v::l,[],_,_,h,_=>by simp at h
 |v::l,u::us,w,p,hl,hr=>by
  have H:Bj (w.setCell (aD b p) v) b (p+1) us:=λi x hx=>by
   rw[NG _ _ _ _ (λe=>by injection e with _ e2;omega)];have:=hr (i+1) x (by simpa using hx);rwa [show p+1+i=p+(i+1) by omega]
  have I:=YV l us (w.setCell (aD b p) v) (p+1) (by simpa using hl) H;intro i x hx;rw[Jj];cases i with
  |zero=>
   rw[KC l _ (p+1) (λj _ e=>by injection e with _ e2;omega)];have:v=x:=by simpa using hx
   subst this;exact N2 _ _ _<|hr 0 u rfl
  |succ i=>
   have:=I i x (by simpa using hx);rwa [show p+(i+1)=p+1+i by omega]
theorem cE{b:Nat}{q:Addr}:∀(G:List Value) (w:World) (p:Nat),(Jj w b p G).frozen? q=w.frozen? q
 |[],_,_=>rfl
 |v::l,w,p=>by rw[Jj,cE l];simp
theorem VW{n b:Nat}{w0:World}(G:n<=b):∀(H:List Value) (w:World) (p:Nat),Below n w0 w->Below n w0 (Jj w b p H)
 |[],_,_,h=>h
 |_v::l,_w,_p,h=>VW G l _ _<|h.setCell G _
theorem Bj.below{G:List Value}(h:Bj w b p G)(hb:Bw w w'):Bj w' b p G:=λi v H=>Aj hb<|h i v H
theorem Bj.new(w:World)(b:Nat)(hb:b=w.heap.size)(G:List Value)(t:TypeId):Bj (w.alloc<|.cells G.toArray t) b 0 G:=λi v H=>by
 rw[rO _ _ _ _ hb];simpa using H
theorem J1(b:Nat):∀(G:List Value) (w:World) (p:Nat),Jj w b p G=w.setCells b p G
 |[],_,_=>rfl
 |v::l,w,p=>by rw[Jj,World.setCells,J1 b l]
theorem Ck{G:List Value}(H:q.block≠b):(w.setCells b p G).cell? q=w.cell? q:=by
 rw[<-J1];exact KC _ _ _ (λj _ e=>H<|by rw[e])
theorem FC(G:List Value){us:List Value}(h:Bj w b p us)(H:us.length=G.length):Bj (w.setCells b p G) b p G:=by
 rw[<-J1];exact YV _ us _ _ H h
theorem Fc{w0:World}{n:Nat}(G:List Value)(H:n<=b)(h:Below n w0 w):Below n w0<|w.setCells b p G:=by
 rw[<-J1];exact VW H _ _ _ h
theorem En{P:Program}{us cs:List Value}(h:Bj w b 0 us)(G:∀q,w.frozen? (aD b q)=false)(I:us.length=cs.length)(H:∀v∈cs,v.oneCell'=true):(storeCells (aD b 0) cs 0).run P w=.ok () (w.setCells b 0 cs):=
 run_storeCells_cells b 0 cs 0 w (λj J=>by rw[tl,h j us[j]<|NA oM];rfl) (λj _=>G _) H
def JH(G cs:List Value):Prop:=G=cs
def Cg(cs:List Value):Value:=.agg cs.toArray
theorem Cn(cs:List Value):(Cg cs).cells=cs.toArray:=rfl
structure Fd where
 t:Th
 dir:Th
 na:Option Addr
 nc:Nat
 ry:List BA
 there:Bool
 x:Nd
 h:Hd
 ly:Int
abbrev Th.l(t:Th):List Value:=[.bool t.d,iN t.m,iN t.u,iN t.g,.bool t.p]
def Fd.l(f:Fd):List Value:=f.t.l++f.dir.l++[.slice f.na f.ry.length f.nc,.bool f.there]++Bq f.x f.h++[iN f.ly]
def Fd.v(f:Fd):Value:=.agg f.l.toArray
def FP:Fd:=⟨Lf,Lf,none,0,[],false,zN,zH,0⟩
theorem kP(x:Nd)(h:Hd):∀v∈Bq x h,v.oneCell'=true:=by
 obtain⟨k,m,u,g,o,rL,d,ks⟩:=x;simp[Bq,Value.oneCell']
theorem FU(f:Fd):f.l.length=21:=by
 obtain⟨t,dir,na,nc,ry,G,x,h,ly⟩:=f;obtain⟨k,m,u,g,o,rL,d,ks⟩:=x;rfl
theorem FT(f:Fd):∀v∈f.l,v.oneCell'=true:=by grind [Fd.l,Value.oneCell',kP]
def Bx.passE(B:Bx)(t:Th):Int:=if t.d=false then 7 else B.mayE t 1
theorem oz{B:Bx}{t:Th}{G:Int}:B.mayE t G=0\/B.mayE t G=9:=by unfold Bx.mayE;split<;>simp
theorem iE{B:Bx}(h:A6 w b B)(t:Th)(Z:0<=t.m/\t.m<=4095):
 Calls prog 249 #[pO b 0,t.v] w λe w'=>e=.returned (Ao<|B.passE t)/\Bw w w':=by
 obtain⟨d,m,G,H,p⟩:=t;have J:Bw w<|w.alloc<|E6 d m G H p:=bN;have ab:=FG.new w _ rfl d m G H p;obtain⟨ak,al,ao,ap,ar⟩:=id ab;have O:Hid _:=KF (h.below J) ⟨d,m,G,H,p⟩ 1 Z;have ad:Hid (B.passE ⟨d,m,G,H,p⟩=if d=false then 7 else B.mayE ⟨d,m,G,H,p⟩ 1):=rfl;have I:Hid _:=J;rw[ad.out];generalize B.mayE ⟨d,m,G,H,p⟩ 1=R at O⊢;show cL 249 #[pO b 0,Gc d m G H p] w _;cases d
 .go_enter func249,ntmps249
  go_wp2;go_ret;exact⟨rfl,I⟩
 .go_enter func249,ntmps249
  go_wp2_with fail
  go_call O as e w1 ⟨rfl,hB1⟩
  go_wp2;go_ret;exact⟨rfl,I.trans<|hB1.mono I.size⟩
def Bx.th(B:Bx)(up:Bool):Nd->Th
 |.mk k m u g _ _ _ _=>⟨k==2,m,(Fn up B.M.us u).getD 65534,(Fn up B.M.gs g).getD 65534,(Fn up B.M.us u).isSome&&(Fn up B.M.gs g).isSome⟩
theorem eW(hid:FL x){B:Bx}(G:EN W B.M)(up:Bool):
 Calls prog 268 #[B.M.v,At x h,.bool up] W λe H=>e=.returned (B.th up x).v/\Bw W H:=by
 have:=jb up (h:=h) hid G;obtain⟨k,m,u,g,o,rL,d,ks⟩:=x;exact this
def Bx.fd(B:Bx)(x:Nd)(h:Hd)(ly:Int):Fd:=⟨B.th (ly==0) x,Lf,none,0,[],true,x,h,ly⟩
abbrev Qm:=λb (B:Bx) zw k m u g o (hx:Hd) (rL:List Kv) d (ks:Ay) (X:World)=>(Ce X b 0 (.slice B.M.ua B.M.us.length B.M.uc)/\Ce X b 1 (.slice B.M.ga B.M.gs.length B.M.gc)/\Ce X zw 0 (iN k)/\Ce X zw 1 (iN m)/\Ce X zw 2 (iN u)/\Ce X zw 3 (iN g)/\Ce X zw 4 (.bool o)/\Ce X zw 5 (.slice hx.aa rL.length hx.ca)/\Ce X zw 6 (.string d)/\Ce X zw 7 (.slice hx.ak ks.length hx.ck):Prop)
theorem Sq{B:Bx}(h:A6 w b B){hx:Hd}(hid:FL x)(ly:Int):
 Calls prog 248 #[pO b 0,At x hx,iN ly] w λe w'=>e=.returned (B.fd x hx ly).v/\Bw w w':=by
 obtain⟨R,aw⟩:=Aq<|B.th (ly==0) x;unfold Bx.fd;rw[aw.out];obtain⟨k,m,u,g,o,rL,d,ks⟩:=x;have ao:Bw w<|(w.alloc<|Aw k m u g o rL d ks hx).alloc A2:=bN.alloc oS _;have az:Hid _:=eW (h:=hx) (x:=.mk k m u g o rL d ks) hid ((h.below ao).below (NB _ _).drew).maps<|ly==0;rw[aw.out]at az;have a8:=Bj.new w _ rfl [iN k,iN m,iN u,iN g,.bool o,.slice hx.aa rL.length hx.ca,.string d,.slice hx.ak ks.length hx.ck] 31;have ba:=Bj.new (w.alloc<|Aw k m u g o rL d ks hx) (w.heap.size+1) oS DB 216;have I:=a8.below<|(NB _ _).alloc (rP _) A2;obtain⟨c0,c1,_⟩:=(h.below ao).cells;have fz:∀q,Fz ((w.alloc<|Aw k m u g o rL d ks hx).alloc A2).drew (w.heap.size+1) q:=λq=>RB _ _ _ _ oS;have aA:Hid _:=ao
 have a1:b≠w.heap.size+1:=λe=>by have:=h.lt;omega
 show cL 248 #[pO b 0,(Ba k m u g o rL d ks hx),iN ly] w _;go_enter func248,ntmps248;go_upto_region 1 with fail
 generalize bp:((w.alloc<|Aw k m u g o rL d ks hx).alloc A2)=J at*;have G:(Qm b B w.heap.size k m u g o hx rL d ks J.drew):=⟨c0,c1,I 0 _ rfl,I 1 _ rfl,I 2 _ rfl,I 3 _ rfl,I 4 _ rfl,I 5 _ rfl,I 6 _ rfl,I 7 _ rfl⟩;have ap:Bj J.drew (w.heap.size+1) 0 _:=λi v bb=>ba i v bb;have bd:w.heap.size+1<J.drew.heap.size:=bL<|ap 0 _ rfl
 obtain⟨O,Z,ab,ad,ak⟩:=R;have be:Hid (cL 268 #[G7 B.M.ua B.M.us.length B.M.uc B.M.ga B.M.gs.length B.M.gc,(Ba k m u g o rL d ks hx),.bool<|ly==0] J.drew λe bf=>e=.returned (Gc O Z ab ad ak)/\Bw J.drew bf):=az.out;obtain⟨cs,al⟩:∃cs:List Value,JH [.bool O,iN Z,iN ab,iN ad,.bool ak,.bool false,iN 0,iN 0,iN 0,.bool false,nL,.bool true,iN k,iN m,iN u,iN g,.bool o,.slice hx.aa rL.length hx.ca,.string d,.slice hx.ak ks.length hx.ck,iN ly] cs:=⟨_,rfl⟩;have bg:cs.length=21:=by rw[<-(show _=_ from al)];rfl
 have ar:Hid<|cs.length=21:=bg;have bi:Hid (∀v∈cs,v.oneCell'=true):=by
  show∀v∈cs,_;rw[<-(show _=_ from al)];simp[Value.oneCell']
 have bq:Value.agg #[.bool O,iN Z,iN ab,iN ad,.bool ak,.bool false,iN 0,iN 0,iN 0,.bool false,nL,.bool true,iN k,iN m,iN u,iN g,.bool o,.slice hx.aa rL.length hx.ca,.string d,.slice hx.ak ks.length hx.ck,iN ly]=Cg cs:=by rw[<-(show _=_ from al)];rfl
 have bk:=Cn cs;unfold Value.cells at bk;go_region_held3 (Qm b B w.heap.size k m u g o hx rL d ks) (assumption) (first|(go_at_call 268;go_call be.out as e w6 ⟨rfl,c6⟩;have H:(Qm b B w.heap.size k m u g o hx rL d ks w6):=⟨Aj c6 G.1,Aj c6 G.2.1,Aj c6 G.2.2.1,Aj c6 G.2.2.2.1,Aj c6 G.2.2.2.2.1,Aj c6 G.2.2.2.2.2.1,Aj c6 G.2.2.2.2.2.2.1,Aj c6 G.2.2.2.2.2.2.2.1,Aj c6 G.2.2.2.2.2.2.2.2.1,Aj c6 G.2.2.2.2.2.2.2.2.2⟩;have bs:(Qm b B w.heap.size k m u g o hx rL d ks<|w6.setCells (w.heap.size+1) 0 cs):=⟨(Ck a1).trans<|H.1,(Ck a1).trans<|H.2.1,(Ck oS).trans<|H.2.2.1,(Ck oS).trans<|H.2.2.2.1,(Ck oS).trans<|H.2.2.2.2.1,(Ck oS).trans<|H.2.2.2.2.2.1,(Ck oS).trans<|H.2.2.2.2.2.2.1,(Ck oS).trans<|H.2.2.2.2.2.2.2.1,(Ck oS).trans<|H.2.2.2.2.2.2.2.2.1,(Ck oS).trans<|H.2.2.2.2.2.2.2.2.2⟩;have bu:=En (P:=prog) (ap.below c6) (λq=>(c6.frozen (p:=(aD (w.heap.size+1) q)) bd).trans<|fz q) ar.out.symm bi.out))
 have a6:Hid _:=FC cs (ap.below c6) ar.symm;have a7:Hid _:=Fc (b:=w.heap.size+1) (p:=0) cs (show w.heap.size<=w.heap.size+1 by omega)<|aA.drew.trans<|c6.mono aA.drew.size;generalize(w6.setCells (w.heap.size+1) 0 cs)=bl at a6 a7⊢;have bn:Hid<|Fd.v _=.agg cs.toArray:=(RX (λl:List Value=>Value.agg l.toArray) (show [.bool O,iN Z,iN ab,iN ad,.bool ak,.bool false,iN 0,iN 0,iN 0,.bool false,nL,.bool true,iN k,iN m,iN u,iN g,.bool o,.slice hx.aa rL.length hx.ca,.string d,.slice hx.ak ks.length hx.ck,iN ly]=cs from al):Fd.v ⟨⟨O,Z,ab,ad,ak⟩,Lf,none,0,[],true,.mk k m u g o rL d ks,hx,ly⟩=_);have bo:=run_loadVar_mid (P:=prog) bl (w.heap.size+1) 0 216 cs _ a6 rfl rfl (by rw[ar.out];rfl);go_wp2;refine NZ (v:=.agg cs.toArray) ?_ rfl ⟨RX Ending.returned bn.symm,a7⟩;simp[results,results248,asAddr,bo]
theorem Bj.new2(w:World)(b:Nat)(hb:b=w.heap.size)(cs:List Value)(t:TypeId):Bj (w.alloc<|.cells cs.toArray t) b 0 cs:=Bj.new w b hb cs t
theorem Uh(w:World)(cs:List Value)(G:cs.length=21)(az:∀v∈cs,v.oneCell'=true)(ao:Bool)(a1:cs[11]? =some (.bool ao))(E:Int):
 Calls prog 154 #[Cg cs,Ao E] w λe w'=>(e=.returned (if E=0/\ao=false then .tuple #[FP.v,Ao 5]else .tuple #[Cg cs,Ao E]))/\Bw w w':=by
 have O:=Bj.new2 w _ rfl cs 216;have a6:Bw w<|w.alloc<|Bm cs:=bN;have J:=Bj.new (w.alloc<|Bm cs) (w.heap.size+1) oS DB 216;have a7:Bw w<|(w.alloc<|Bm cs).alloc A2:=a6.alloc oS _;have O:=O.below (w':=((w.alloc<|Bm cs).alloc A2)) bN;have be:=O 11 _ a1;have a8:=Cn cs;unfold Value.cells at a8;go_enter func154,ntmps154;go_upto_region 1 with fail
 have fz:∀q,Fz ((w.alloc<|Bm cs).alloc A2) (w.heap.size+1) q:=λq=>RB _ _ _ _ oS;have ap:Hid _:=a7
 generalize(w.alloc<|Bm cs).alloc A2=ar at*;by_cases Z:E=0
 .subst Z
  rw[show Ao 0=Value.nilIface from rfl];cases ao
  .obtain⟨c0,al⟩:∃cs:List Value,JH DB cs:=⟨_,rfl⟩
   have aw:c0.length=21:=by rw[<-(show _=_ from al)];rfl
   have ba:=hid aw;have bb:∀v∈c0,v.oneCell'=true:=by
    rw[<-(show _=_ from al)];simp[Value.oneCell']
   have ab:=En (P:=prog) J fz aw.symm bb;have H:Hid _:=FC c0 J aw.symm;have I:Hid _:=Fc (b:=w.heap.size+1) (p:=0) c0 (show w.heap.size<=w.heap.size+1 by omega) ap;generalize ar.setCells (w.heap.size+1) 0 c0=ad at ab H I;have ak:=run_loadVar_mid (P:=prog) ad (w.heap.size+1) 0 216 c0 _ H rfl rfl (by rw[ba.out];rfl);have bf:Value.agg #[.bool false,iN 0,iN 0,iN 0,.bool false,.bool false,iN 0,iN 0,iN 0,.bool false,nL,.bool false,iN 0,iN 0,iN 0,iN 0,.bool false,nL,.string ⟨#[]⟩,nL,iN 0]=Cg c0:=by rw[<-(show _=_ from al)];rfl
   have bd:=Cn c0;unfold Value.cells at bd;have aA:Hid<|FP.v=.agg c0.toArray:=RX (λl:List Value=>Value.agg l.toArray) (show DB=c0 from al);go_wp2;refine NZ (v:=.tuple #[.agg c0.toArray,Ao 5]) ?_ rfl ⟨by first|rw[aA.out]|rw[NS ⟨rfl,rfl⟩,aA.out],I⟩;simp[results,results154,asAddr,ak,Ao]
  .go_upto_region 3 with fail
   refine tn ?_;refine wpList_load_mid rfl _ _ rfl _ _ rfl cs _ O rfl rfl (by rw[G];rfl) ?_;simp only[tk];have ab:=En (P:=prog) J fz (by rw[G];rfl) az;have H:Hid _:=FC cs J (by rw[G];rfl);have I:Hid _:=Fc (b:=w.heap.size+1) (p:=0) cs (show w.heap.size<=w.heap.size+1 by omega) ap;generalize ar.setCells (w.heap.size+1) 0 cs=ad at ab H I;have ak:=run_loadVar_mid (P:=prog) ad (w.heap.size+1) 0 216 cs _ H rfl rfl (by rw[G];rfl);go_wp2;refine NZ (v:=.tuple #[.agg cs.toArray,.nilIface]) ?_ rfl ⟨by first|rfl|(rw[NO oS];rfl),I⟩;simp[results,results154,asAddr,ak]
 .rw[show Ao E=.iface 101 (iN E)from AP rfl Z]
  go_upto_region 3 with fail
  refine tn ?_;refine wpList_load_mid rfl _ _ rfl _ _ rfl cs _ O rfl rfl (by rw[G];rfl) ?_;simp only[tk];have ab:=En (P:=prog) J fz (by rw[G];rfl) az;have H:Hid _:=FC cs J (by rw[G];rfl);have I:Hid _:=Fc (b:=w.heap.size+1) (p:=0) cs (show w.heap.size<=w.heap.size+1 by omega) ap;generalize ar.setCells (w.heap.size+1) 0 cs=ad at ab H I;have ak:=run_loadVar_mid (P:=prog) ad (w.heap.size+1) 0 216 cs _ H rfl rfl (by rw[G];rfl);go_wp2;refine NZ (v:=.tuple #[.agg cs.toArray,.iface 101<|iN E]) ?_ rfl ⟨by first|(rw[NO λq=>Z q.1,AP rfl Z];rfl)|(rw[AP rfl Z];rfl)|rfl,I⟩;simp[results,results154,asAddr,ak]
def Bx.takE(B:Bx)(t dir:Th):Int:=if B.mayE dir 2≠0 then 9 else if Ma B.u B.k dir.m dir.u dir.p t.u t.p=true then 0 else 10
abbrev Tv:=λb u g ca (cs:List Int) cc k zw td tm tu tg tp ed em eu eg ep (X:World)=>(Ce X b 3 (iN u)/\Ce X b 4 (iN g)/\Ce X b 5 (.slice ca cs.length cc)/\Ce X b 6 (iN k)/\Ce X zw 0 (.bool td)/\Ce X zw 1 (iN tm)/\Ce X zw 2 (iN tu)/\Ce X zw 3 (iN tg)/\Ce X zw 4 (.bool tp)/\Ce X zw 5 (.bool ed)/\Ce X zw 6 (iN em)/\Ce X zw 7 (iN eu)/\Ce X zw 8 (iN eg)/\Ce X zw 9 (.bool ep):Prop)
theorem Sd{B:Bx}(h:A6 w b B)(I:List Value)(t dir:Th)(bd:I.take 10=t.l++dir.l)(be:0<=dir.m/\dir.m<=4095):
 Calls prog 166 #[pO b 0,Cg I] w λe w'=>e=.returned (Ao<|B.takE t dir)/\Bw w w':=by
 have bf:=Bj.new2 w _ rfl I 216;have aA:Bw w<|w.alloc<|.cells I.toArray 216:=bN;have a7:Hid _:=KF (h.below aA) dir 2 be;have bg:=h.below aA;obtain⟨R,a1⟩:=Aq<|B.mayE dir 2;have bi:R=0\/R=9:=by rw[<-a1.out];exact oz
 obtain⟨T,a8⟩:=Aq<|Ma B.u B.k dir.m dir.u dir.p t.u t.p;have bk:Hid (B.takE t dir=if R≠0 then 9 else if T=true then 0 else 10):=by show _=_;unfold Bx.takE;rw[a1.out,a8.out]
 rw[bk.out];rw[a1.out]at a7;obtain⟨M,la,lc,xs,u,g,ca,cc,cs,k,q⟩:=B;obtain⟨J,O,Z,ab,ad⟩:=t;obtain⟨ak,al,ao,ap,ar⟩:=dir;have bl:∀i v,([.bool J,iN O,iN Z,iN ab,.bool ad,.bool ak,iN al,iN ao,iN ap,.bool ar]:List Value)[i]? =some v->I[i]? =some v:=λi v aw=>by
  have e:I.take 10=[.bool J,iN O,iN Z,iN ab,.bool ad,.bool ak,iN al,iN ao,iN ap,.bool ar]:=bd;rw[<-e,Kp]at aw;split at aw
  .exact aw
  .cases aw
 have bn:=Cn I;unfold Value.cells at bn;have az:Bj (w.alloc<|.cells I.toArray 216) w.heap.size 0 [.bool J,iN O,iN Z,iN ab,.bool ad,.bool ak,iN al,iN ao,iN ap,.bool ar]:=λi v aw=>bf i v<|bl i v aw;have ba:Hid _:=aA
 have bo:=hid a7.out;go_enter func166,ntmps166;have bu:=az 5 _ rfl;have bx:=az 6 _ rfl;have bA:=az 7 _ rfl;have bB:=az 8 _ rfl;have bC:=az 9 _ rfl;go_wp2_with fail
 go_call bo.out as e w3 ⟨rfl,c3⟩
 have a6:Hid _:=ba.trans<|c3.mono ba.size;have bp:=bg.below c3;have H:=az.below c3;rcases bi with rfl|rfl
 .have bb:Hid _:=dv u g k (.slice ca cs.length cc) ak al ao ap ar J O Z ab ad w3.drew
  rw[a8.out]at bb;obtain⟨c0,c1,c2,bq⟩:=bp.who;have G:(Tv b u g ca cs cc k w.heap.size J O Z ab ad ak al ao ap ar w3.drew):=⟨c0,c1,c2,bq,H 0 _ rfl,H 1 _ rfl,H 2 _ rfl,H 3 _ rfl,H 4 _ rfl,H 5 _ rfl,H 6 _ rfl,H 7 _ rfl,H 8 _ rfl,H 9 _ rfl⟩;rw[show Ao 0=Value.nilIface from rfl];go_upto_region 4 with fail
  go_region_held3 (Tv b u g ca cs cc k w.heap.size J O Z ab ad ak al ao ap ar) (assumption) (first|(go_at_call 220;go_call bb.out as e w6 ⟨rfl,c6⟩;have bF:(Tv b u g ca cs cc k w.heap.size J O Z ab ad ak al ao ap ar w6):=⟨Aj c6 G.1,Aj c6 G.2.1,Aj c6 G.2.2.1,Aj c6 G.2.2.2.1,Aj c6 G.2.2.2.2.1,Aj c6 G.2.2.2.2.2.1,Aj c6 G.2.2.2.2.2.2.1,Aj c6 G.2.2.2.2.2.2.2.1,Aj c6 G.2.2.2.2.2.2.2.2.1,Aj c6 G.2.2.2.2.2.2.2.2.2.1,Aj c6 G.2.2.2.2.2.2.2.2.2.2.1,Aj c6 G.2.2.2.2.2.2.2.2.2.2.2.1,Aj c6 G.2.2.2.2.2.2.2.2.2.2.2.2.1,Aj c6 G.2.2.2.2.2.2.2.2.2.2.2.2.2⟩))
  all_goals
   have bs:Hid _:=a6.drew.trans<|c6.mono a6.drew.size;cases T
   all_goals
    go_wp2;go_ret;exact⟨rfl,bs⟩
 .rw[show Ao 9=.iface 101 (iN 9)from rfl]
  go_wp2;go_ret;exact⟨rfl,a6⟩
open Go.Shelf
def BK:List Fl->List Value
 |[]=>[]
 |f::r=>Bq f.x f.h++BK r
def G8:List Fl->List Value
 |[]=>[]
 |f::r=>iN f.ly::G8 r
theorem Pw:∀F:List Fl,(BK F).length=F.length*8
 |[]=>rfl
 |f::r=>by simp[BK,Pw r,Fb];omega
theorem Nh:∀A B:List Fl,BK (A++B)=BK A++BK B
 |[],_=>rfl
 |f::r,B=>by simp[BK,Nh r B]
theorem XU:∀A B:List Fl,G8 (A++B)=G8 A++G8 B
 |[],_=>rfl
 |f::r,B=>by simp[G8,XU r B]
theorem Ni:∀(F:List Fl) (i:Nat) (f:Fl),F[i]? =some f->∀q u,(Bq f.x f.h)[q]? =some u->(BK F)[i*8+q]? =some u
 |[],i,f,hi=>by simp at hi
 |g::r,0,f,hi=>by
  simp at hi;subst hi;intro q u G;have H:=(NE.1 G).1;rw[tB,RT,BK,C5 H];exact G
 |g::r,i+1,f,hi=>by
  intro q u G;have:=Ni r i f (by simpa using hi) q u G;rw[BK,CG (by simp[Fb];omega),Fb,show(i+1)*8+q-8=i*8+q by omega];exact this
theorem Xx:∀(F:List Fl) (i:Nat) (f:Fl),F[i]? =some f->(G8 F)[i]? =some (iN f.ly):=by intro F i f;induction F generalizing i f<;>grind [G8]
def Cu(n₀:Nat)(vn vf:Value)(S:Nat->Bool):Nat->Bool:=λk=>(k==n₀||k==n₀+1||k==n₀+1+1+1+1+1)||(vn.ownBlock==some k||vf.ownBlock==some k)||S k
structure Hp (S:Nat->Bool) (n₀:Nat) (A:World) (vn vf:Value) (L L2:List Fl):Prop where
 rn:A.ownsRow (n₀+1+1) 31 8 vn L.length<|BK L
 rf:A.ownsRow (n₀+1+1) 3 1 vf L2.length<|G8 L2
 ne:∀g,vn.ownBlock=some g->vf.ownBlock≠some g
 nd:∀f∈L,Am (Ag A.cell?<|Cu n₀ vn vf S) f.x f.h
structure Ir (S:Nat->Bool) (w A:World) (xs:List Nd) (ry:List BA) (st:Loop) (i:Nat) (Sx:Nat->Bool):Prop where
 low:Below w.heap.size w A
 bx:∃vn vf L,Boxed A w.heap.size 115 vn/\Boxed A (w.heap.size+1) 39 vf/\Hp S w.heap.size A vn vf L L/\L.length=i/\(∀(j:Nat) f,L[j]? =some f->∃q r,AX xs (ry.take j)=q::r/\f.x=q.1.with []/\f.ly=q.2)/\Sx=Cu w.heap.size vn vf S
 dk:A.heap[w.heap.size+1+1+1+1]? =some (.deferred<|some [])
 lk:A.heap[w.heap.size+1+1+1+1+1]? =some (.loop st)
theorem Hp.below{n₀:Nat}{B:World}{G:List Fl}(h:Hp S n₀ A vn vf L G)(hb:Below A.heap.size A B):Hp S n₀ B vn vf L G:=
 ⟨Fy h.rn hb,Fy h.rf hb,h.ne,λf H=>(h.nd f H).on<|Du hb⟩
theorem Ir.keep{B:World}{ry:List BA}(h:Ir S w A xs ry st i Sx)(hb:Below A.heap.size A B):Ir S w B xs ry st i Sx:=by
 obtain⟨vn,vf,L,G,H,I,J,O,Z⟩:=h.bx;exact⟨h.low.trans<|hb.mono h.low.size,⟨vn,vf,L,Ew G hb,Ew H hb,I.below hb,J,O,Z⟩,(hb.block _ (N3.1 h.dk).1).trans h.dk,(hb.block _ (N3.1 h.lk).1).trans h.lk⟩
theorem Ir.hid{ry:List BA}(I:∀k,S k=true->k<w.heap.size)(h:Ir S w A xs ry st i Sx):∀k,Sx k=true->k<A.heap.size:=λk G=>by
 obtain⟨vn,vf,L,J,O,H,_,_,rfl⟩:=h.bx;simp[Cu]at G;have Z:=(N3.1 h.lk).1;rcases G with(((e|e)|e)|e|e)|e
 .rw[e];exact J.lt
 .rw[e];exact O.lt
 .omega
 .exact(H.rn.lt k e).2
 .exact(H.rf.lt k e).2
 .exact N1 (I k e) h.low.size
def left(l:Array Bool):Nat:=l.toList.count false
theorem Wm{l:Array Bool}(h:l.getD i true=false):left (l.setIfInBounds i true)+1=left l:=by
 unfold left;have G:i<l.size:=by
  rcases Nat.lt_or_ge i l.size with h'|h'
  .exact h'
  .simp[Array.getD,Nat.not_lt.2 h']at h
 have H:l[i]=false:=by simpa [Array.getD,G]using h
 rw[Array.toList_setIfInBounds];have e:l.toList[i]? =some false:=by simp[G,H]
 generalize l.toList=t at e;clear h H G;induction t generalizing i with
 |nil=>simp at e
 |cons x t I=>
  cases i with
  |zero=>simp at e;subst e;simp
  |succ i=>
   have:=I (i:=i) (by simpa using e);rw[List.set_cons_succ,List.count_cons,List.count_cons];omega
theorem Ox{F:Fence}{n:Nat}{P:Program}{md:Region.Mode}{H:Array Oper}{Q:Exit->Act->World->Prop}(I:Array Bool->Act->World->Prop)
 (ab:∀G a w i,I G a w->i∈Region.ready md H G->wpOpIn F n P H Q i (I<|G.setIfInBounds i true) a w)
 (Z:∀G a w,I G a w->Region.ready md H G=[]->Q .normal a w):
 ∀(J:Nat) (G:Array Bool) (a:Act) (w:World),left G<=J->I G a w->wpAnyIn F n P md H Q J G a w
 |0,G,a,w,hl,h=>by
  have e:Region.ready md H G=[]:=by
   cases hr:Region.ready md H G with
   |nil=>rfl
   |cons i r=>
    have O:i∈Region.ready md H G:=by rw[hr];exact N4 ..
    have:=Wm (mem_ready.1 O).1;omega
  exact⟨e,Z _ _ _ h e⟩
 |J+1,G,a,w,hl,h=>by
  refine⟨Z _ _ _ h,λi O=>?_⟩;refine wpOpIn_mono (λad w' h'=>Ox I ab Z J _ ad w' ?_ h')<|ab _ _ _ _ h O;have:=Wm (mem_ready.1 O).1;omega
theorem PK{base:Nat}{t:TypeId}{n k:Nat}{v:Value}{xs:List Value}(h:w.ownsRow base t n v k xs){d:Nat}{o:Obj}(hd:w.heap[d]? =some o)(G:o.isCells=false):some d≠v.ownBlock:=λe=>by
 rcases h.2 with⟨rfl,_⟩|⟨g,cap,I,rfl,_,H,_⟩
 .simp[Value.ownBlock]at e
 .simp[Value.ownBlock]at e
  subst e;rw[H]at hd;cases hd;simp[Obj.isCells]at G
structure XA (S:Nat->Bool) (w A:World) (Sx:Nat->Bool) (st:Loop) (cn cf:Value) (LN LF:List Fl) (b6 b7:Value) (W:World):Prop where
 low:Below w.heap.size w W
 az:A.heap.size<=W.heap.size
 bn:Boxed W w.heap.size 115 b6
 bf:Boxed W (w.heap.size+1) 39 b7
 r:Hp S w.heap.size W cn cf LN LF
 ml:AW (Ag A.cell? Sx)<|Ag W.cell?<|Cu w.heap.size cn cf S
 dk:W.heap[w.heap.size+1+1+1+1]? =some (.deferred<|some [])
 lk:W.heap[w.heap.size+1+1+1+1+1]? =some (.loop st)
theorem XA.below{H I:List Fl}{J O:Value}{Z:World}(h:XA S w A Sx st cn G H I J O W)(hb:Below W.heap.size W Z):XA S w A Sx st cn G H I J O Z:=
 ⟨h.low.trans<|hb.mono h.low.size,Rz h.az hb.size,Ew h.bn hb,Ew h.bf hb,h.r.below hb,h.ml.trans<|Du hb,(hb.block _ (N3.1 h.dk).1).trans h.dk,(hb.block _ (N3.1 h.lk).1).trans h.lk⟩
theorem XA.appN{J ad:List Fl}{ak al:Value}{O:World}(h:XA S w A Sx st cn H J ad ak al W){I:Value}(ar:Am (Ag W.cell?<|Cu w.heap.size cn H S) f.x f.h)
 (aw:O.ownsRow (w.heap.size+1+1) 31 8 I (J++[f]).length<|BK<|J++[f]) (G:W.grownBy O cn.ownBlock) (az:I.ownBlock=cn.ownBlock\/I.ownBlock=some W.heap.size):
 XA S w A Sx st I H (J++[f]) ad ak al O:=by
 have Z:∀g,cn.ownBlock=some g->w.heap.size+1+1<=g/\g<W.heap.size:=λg e=>h.r.rn.lt g e;have ab:AW (Ag W.cell?<|Cu w.heap.size cn H S)<|Ag O.cell?<|Cu w.heap.size I H S:=Bv λk aA ao=>by
  simp[Cu]at ao;refine⟨?_,G.block k aA λe=>ao.1.2.1 e.symm⟩;grind [Cu]
 refine⟨h.low.grown G h.low.size (λg e=>by have:=Z g e;omega),Rz h.az G.size,h.bn.kept G (λe=>by have:=Z _ e.symm;omega),h.bf.kept G (λe=>by have:=Z _ e.symm;omega),⟨aw,?_,?_,?_⟩,h.ml.trans ab,?_,?_⟩
 .refine h.r.rf.kept G ?_
  cases hv:H.ownBlock with
  |none=>exact .inl rfl
  |some g=>exact .inr λe=>h.r.ne g e.symm hv
 .intro g e ap
  rcases az with q|q
  .exact h.r.ne g (q.symm.trans e) ap
  .have a7:=(h.r.rf.lt g ap).2
   grind
 .intro a1 a6
  rcases Cq.1 a6 with e|e
  .exact(h.r.nd a1 e).on ab
  .rw[CD]at e;rw[e];exact ar.on ab
 .exact(G.block _ (N3.1 h.dk).1<|PK h.r.rn h.dk rfl).trans h.dk
 .exact(G.block _ (N3.1 h.lk).1<|PK h.r.rn h.lk rfl).trans h.lk
theorem XA.appF{ab J:List Fl}{ad ak:Value}{O:World}(h:XA S w A Sx st cn H ab J ad ak W){I:Value}
 (ap:O.ownsRow (w.heap.size+1+1) 3 1 I (J++[f]).length<|G8<|J++[f]) (G:W.grownBy O H.ownBlock) (ar:I.ownBlock=H.ownBlock\/I.ownBlock=some W.heap.size):
 XA S w A Sx st cn I ab (J++[f]) ad ak O:=by
 have Z:∀g,H.ownBlock=some g->w.heap.size+1+1<=g/\g<W.heap.size:=λg e=>h.r.rf.lt g e;have al:AW (Ag W.cell?<|Cu w.heap.size cn H S)<|Ag O.cell?<|Cu w.heap.size cn I S:=Bv λk aw ao=>by
  simp[Cu]at ao;refine⟨?_,G.block k aw λe=>ao.1.2.2 e.symm⟩;grind [Cu]
 refine⟨h.low.grown G h.low.size (λg e=>by have:=Z g e;omega),Rz h.az G.size,h.bn.kept G (λe=>by have:=Z _ e.symm;omega),h.bf.kept G (λe=>by have:=Z _ e.symm;omega),⟨?_,ap,?_,λaz aA=>(h.r.nd az aA).on al⟩,h.ml.trans al,?_,?_⟩
 .refine h.r.rn.kept G ?_
  cases hv:cn.ownBlock with
  |none=>exact .inl rfl
  |some g=>exact .inr λe=>h.r.ne g hv e.symm
 .intro g e a1
  rcases ar with q|q
  .exact h.r.ne g e<|q.symm.trans a1
  .have a6:=(h.r.rn.lt g e).2
   grind
 .exact(G.block _ (N3.1 h.dk).1<|PK h.r.rf h.dk rfl).trans h.dk
 .exact(G.block _ (N3.1 h.lk).1<|PK h.r.rf h.lk rfl).trans h.lk
theorem XA.set6{O Z:List Fl}{ak ab:Value}(h:XA S w A Sx st cn H O Z ak ab W)(v:Value):XA S w A Sx st cn H O Z v ab<|W.setCell (aD w.heap.size 0) v:=by
 have G:∀k,k≠w.heap.size->(W.setCell (aD w.heap.size 0) v).heap[k]? =W.heap[k]?:=λk G=>Cv _ _ _ _ G;have I:=grownBy_setCell' W w.heap.size v
 have ad:AW (Ag W.cell?<|Cu w.heap.size cn H S)<|Ag (W.setCell (aD w.heap.size 0) v).cell?<|Cu w.heap.size cn H S:=Bv λk _ J=>⟨J,G k (by simp[Cu]at J;exact J.1.1.1.1)⟩;refine⟨h.low.setCell (p:=(aD w.heap.size 0)) (rP _) v,Rz h.az I.size,h.bn.set v,(G _ oM).trans h.bf,⟨?_,?_,h.r.ne,λf al=>(h.r.nd f al).on ad⟩,h.ml.trans ad,(G _ oM).trans h.dk,(G _ oM).trans h.lk⟩
 .exact h.r.rn.kept I (.inr (λe=>by have:=(h.r.rn.lt _ e).1;omega))
 .exact h.r.rf.kept I (.inr (λe=>by have:=(h.r.rf.lt _ e).1;omega))
theorem XA.set7{O Z:List Fl}{ab ak:Value}(h:XA S w A Sx st cn H O Z ab ak W)(v:Value):XA S w A Sx st cn H O Z ab v<|W.setCell (aD (w.heap.size+1) 0) v:=by
 have G:∀k,k≠w.heap.size+1->(W.setCell (aD (w.heap.size+1) 0) v).heap[k]? =W.heap[k]?:=λk G=>Cv _ _ _ _ G;have I:=grownBy_setCell' W (w.heap.size+1) v
 have ad:AW (Ag W.cell?<|Cu w.heap.size cn H S)<|Ag (W.setCell (aD (w.heap.size+1) 0) v).cell?<|Cu w.heap.size cn H S:=Bv λk _ J=>⟨J,G k (by simp[Cu]at J;exact J.1.1.1.2)⟩;refine⟨h.low.setCell (p:=(aD (w.heap.size+1) 0)) (by show w.heap.size<=w.heap.size+1;omega) v,Rz h.az I.size,(G _ oM).trans h.bn,h.bf.set v,⟨?_,?_,h.r.ne,λf al=>(h.r.nd f al).on ad⟩,h.ml.trans ad,(G _ oM).trans h.dk,(G _ oM).trans h.lk⟩
 .exact h.r.rn.kept I (.inr (λe=>by have:=(h.r.rn.lt _ e).1;omega))
 .exact h.r.rf.kept I (.inr (λe=>by have:=(h.r.rf.lt _ e).1;omega))
theorem XL{us gs:List Rg}{f:Int}:∀{A:List (Nd×BA)} (B:List<|Nd×BA),Dl us gs A=.error f->Dl us gs (A++B)=.error f:=by intro A B;induction A generalizing B<;>grind [Dl]
def EY(G:List Nd)(H:List BA):List<|Nd×BA:=(G.zip H).map λp=>(Dv p.1,p.2)
theorem XY{G:List Nd}{H:List BA}(h:G.length<=H.length):(EY G H).length=G.length:=by grind [EY]
theorem Zk{G:List Nd}{H:List BA}{j:Nat}{y:Nd}{nm:BA}(I:G[j]? =some y)(J:H[j]? =some nm):(EY G H)[j]? =some (Dv y,nm):=by grind [EY]
theorem jU{G:List Nd}{H:List BA}{j:Nat}{y:Nd}{nm:BA}(I:G[j]? =some y)(J:H[j]? =some nm):(EY G H).take (j+1)=(EY G H).take j++[(Dv y,nm)]:=Ks<|Zk I J
def EZ(n₀:Nat)(v:Value)(S:Nat->Bool):Nat->Bool:=λk=>(k==n₀||k==n₀+1)||v.ownBlock==some k||S k
structure Jf (S:Nat->Bool) (W:World) (ua ga:Option Addr) (nu ng uc gc:Nat) (v:Value) (L:List Fl) (wr:World):Prop where
 low:Below W.heap.size W wr
 m0:Ce wr W.heap.size 0<|.slice ua nu uc
 m1:Ce wr W.heap.size 1<|.slice ga ng gc
 rb:AC wr (W.heap.size+1) zN zH
 row:wr.ownsRow (W.heap.size+1+1) 31 8 v L.length<|BK L
 nd:∀f∈L,Am (Ag wr.cell?<|EZ W.heap.size v S) f.x f.h
theorem Jf.below{G H:Nat}{v:Value}(h:Jf S W ua ga G H uc gc v L wr)(hb:Below wr.heap.size wr w'):Jf S W ua ga G H uc gc v L w':=
 ⟨h.low.trans<|hb.mono h.low.size,Ai hb _ _ h.m0,Ai hb _ _ h.m1,h.rb.below hb,Fy h.row hb,λf I=>(h.nd f I).on<|Du hb⟩
theorem Jf.hid{H I:Nat}{v:Value}(J:∀k,S k=true->k<W.heap.size)(h:Jf S W ua ga H I uc gc v L wr):∀k,EZ W.heap.size v S k=true->k<wr.heap.size:=λk G=>by
 simp[EZ]at G;have O:=h.rb.1.lt;rcases G with((e|e)|e)|e
 .omega
 .omega
 .exact(h.row.lt k e).2
 .exact N1 (J k e) h.low.size
theorem Jf.app{Z ab:Nat}{v:Value}(h:Jf S W ua ga Z ab uc gc v L wr)(ao:Am (Ag wr.cell?<|EZ W.heap.size v S) f.x f.h)(ap:w'.ownsRow (W.heap.size+1+1) 31 8 G (L++[f]).length<|BK<|L++[f])(H:wr.grownBy w' v.ownBlock)(bg:G.ownBlock=v.ownBlock\/G.ownBlock=some wr.heap.size):Jf S W ua ga Z ab uc gc G (L++[f]) w':=by
 have I:∀g,v.ownBlock=some g->W.heap.size+1+1<=g/\g<wr.heap.size:=λg e=>h.row.lt g e;have ad:AW (Ag wr.cell?<|EZ W.heap.size v S)<|Ag w'.cell?<|EZ W.heap.size G S:=Bv λk ar ak=>by
  simp[EZ]at ak;refine⟨?_,H.block k ar λe=>ak.1.2 e.symm⟩;grind [EZ]
 have J:∀q:Addr,q.block<W.heap.size+1+1->q.block<wr.heap.size->w'.cell? q=wr.cell? q:=λq aw O=>RE<|H.block q.block O (λe=>by have:=I _ e.symm;omega);have az:∀q:Addr,q.block<W.heap.size+1+1->q.block<wr.heap.size->w'.frozen? q=wr.frozen? q:=λq aw O=>World.frozen?_of_block<|H.block q.block O (λe=>by have:=I _ e.symm;omega)
 have al:=h.rb.1.lt;refine⟨h.low.grown H h.low.size (λg e=>by have:=I g e;omega),(J (aD W.heap.size 0) (by show W.heap.size<_;omega)<|bL h.m0).trans h.m0,(J (aD W.heap.size 1) (by show W.heap.size<_;omega)<|bL h.m1).trans h.m1,⟨?_,λj=>(az (aD (W.heap.size+1) j) (by show W.heap.size+1<_;omega) al).trans<|h.rb.2 j⟩,ap,?_⟩
 .obtain⟨aA,a1,a6,a7,a8,ba,bb,bd⟩:=h.rb.1
  have k:∀j u,Ce wr (W.heap.size+1) j u->Ce w' (W.heap.size+1) j u:=λj u e=>(J (aD (W.heap.size+1) j) (by show W.heap.size+1<_;omega) al).trans e;exact⟨k _ _ aA,k _ _ a1,k _ _ a6,k _ _ a7,k _ _ a8,k _ _ ba,k _ _ bb,k _ _ bd⟩
 .intro be bf
  rcases Cq.1 bf with e|e
  .exact(h.nd be e).on ad
  .rw[CD]at e;rw[e];exact ao.on ad
theorem YC{base:Nat}{v:Value}(h:w.ownsRow base 31 8 v L.length<|BK L):L=[]\/∃g cap,v=sL g 0 L.length cap/\base<=g/\L.length<=cap/\(∀(i:Nat) f,L[i]? =some f->A9 w.cell? g (i*8) f.x f.h)/\∀j,w.frozen? (aD g j)=false:=by
 rcases h.2 with⟨_,Z⟩|⟨g,cap,ab,rfl,hb,G,H,ad,ak,I⟩
 .grind
 .refine .inr ⟨g,cap,rfl,hb,H,λi f J=>GR.2 λq u O=>?_,λj=>by simp[World.frozen?,G]⟩
  exact Iu G I<|Ni L i f J q u O
structure BP (S:Nat->Bool) (w A:World) (Sx:Nat->Bool) (st:Loop) (vn vf:Value) (L:List Fl) (N:Nd) (hb:Hd) (ly nbx vb vo:Nat) (vs:Value) (c0 c1 c2 c3 c4 c5 c6 c7 c8 c9 c10 c11 c12 c13:Bool) (t24 t25 t26 t27 t28 t29 t30 t31 t32 t33 t34 t35:Value) (W:World):Prop where
 f0:c0=true->t24=vn
 f1:c1=true->t25=At N hb
 f5:c5=true->t29=vf
 f6:c6=true->t30=vs
 f7:c7=true->t31=pO vb vo
 f8:c8=true->t32=pO vb (vo+1)
 f9:c9=true->t33=iN ly
 q2:c2=true->c1=true
 q3:c3=true->c2=true
 q4:c4=true->c0=true/\c3=true
 q10:c10=true->c9=true
 q11:c11=true->c4=true/\c5=true/\c10=true
 q12:c12=true->c11=true
 q13:c13=true->c12=true
 p0:c2=false->XA S w A Sx st vn vf L L vn vf W/\AC W nbx N hb/\Am (Ag W.cell?<|Cu w.heap.size vn vf S) N hb
 p1:c2=true->c3=false->∃h',t26=At N h'/\XA S w A Sx st vn vf L L vn vf W/\Am (Ag W.cell?<|Cu w.heap.size vn vf S) N h'
 p2:c3=true->c4=false->∃h' g,t27=sL g 0 1 1/\XA S w A Sx st vn vf L L vn vf W/\Am (Ag W.cell?<|Cu w.heap.size vn vf S) N h'/\∀j u,(Bq N h')[j]? =some u->Ce W g j u
 p3:c4=true->c11=false->∃h',XA S w A Sx st t28 vf (L++[(⟨N,h',ly⟩:Fl)]) L vn vf W
 p4:c11=true->c12=false->∃h',XA S w A Sx st t28 t35 (L++[(⟨N,h',ly⟩:Fl)]) (L++[(⟨N,h',ly⟩:Fl)]) vn vf W
 p5:c12=true->c13=false->∃h',XA S w A Sx st t28 t35 (L++[(⟨N,h',ly⟩:Fl)]) (L++[(⟨N,h',ly⟩:Fl)]) t28 vf W
 p6:c13=true->∃h',XA S w A Sx st t28 t35 (L++[(⟨N,h',ly⟩:Fl)]) (L++[(⟨N,h',ly⟩:Fl)]) t28 t35 W
 p10:c10=true->c11=false->∃g,t34=sL g 0 1 1/\Ce W g 0 (iN ly)/\A.heap.size<=g
theorem BP.below{I:Value}{ao ap ar:Bool}{bb:Value}{bd:World}(h:BP S w A Sx st vn vf L N hb ly nbx vb vo I c0 c1 c2 J O Z ab c7 ad ak al ao ap ar aw t25 az aA a1 a6 a7 t31 a8 ba bb t35 W)(G:Below W.heap.size W bd):BP S w A Sx st vn vf L N hb ly nbx vb vo I c0 c1 c2 J O Z ab c7 ad ak al ao ap ar aw t25 az aA a1 a6 a7 t31 a8 ba bb t35 bd:=
 ⟨h.f0,h.f1,h.f5,h.f6,h.f7,h.f8,h.f9,h.q2,h.q3,h.q4,h.q10,h.q11,h.q12,h.q13,λe=>(h.p0 e).imp (λx=>x.below G) (λx=>x.imp (λy=>y.below G) λy=>y.on<|Du G),
   λe H=>let⟨h',a,b,c⟩:=h.p1 e H;⟨h',a,b.below G,c.on<|Du G⟩,
   λe H=>let⟨h',g,a,b,c,d⟩:=h.p2 e H;⟨h',g,a,b.below G,c.on<|Du G,λj u be=>Ai G _ _<|d j u be⟩,
   λe H=>let⟨h',a⟩:=h.p3 e H;⟨h',a.below G⟩,λe H=>let⟨h',a⟩:=h.p4 e H;⟨h',a.below G⟩,λe H=>let⟨h',a⟩:=h.p5 e H;⟨h',a.below G⟩,λe=>let⟨h',a⟩:=h.p6 e;⟨h',a.below G⟩,
   λe H=>let⟨g,a,b,c⟩:=h.p10 e H;⟨g,a,Ai G _ _ b,c⟩⟩
theorem BP.o0{H ao:Bool}(h:BP S w A Sx st vn vf L N hb ly nbx vb vo G false c1 c2 H I J O c7 Z ab ad ak al ao a8 t25 ap ar aw az aA t31 a1 a6 a7 t35 W):BP S w A Sx st vn vf L N hb ly nbx vb vo G true c1 c2 H I J O c7 Z ab ad ak al ao (vn) t25 ap ar aw az aA t31 a1 a6 a7 t35 W:=
 ⟨(λ_=>rfl),h.f1,h.f5,h.f6,h.f7,h.f8,h.f9,h.q2,h.q3,(λe=>⟨rfl,(h.q4 e).2⟩),h.q10,h.q11,h.q12,h.q13,h.p0,h.p1,h.p2,h.p3,h.p4,h.p5,h.p6,h.p10⟩
theorem BP.o1{H ao:Bool}(h:BP S w A Sx st vn vf L N hb ly nbx vb vo G c0 false c2 H I J O c7 Z ab ad ak al ao ap t25 ar aw az aA a1 t31 a6 a7 a8 t35 W):BP S w A Sx st vn vf L N hb ly nbx vb vo G c0 true c2 H I J O c7 Z ab ad ak al ao ap (At N hb) ar aw az aA a1 t31 a6 a7 a8 t35 W:=
 ⟨h.f0,(λ_=>rfl),h.f5,h.f6,h.f7,h.f8,h.f9,(λ_=>rfl),h.q3,h.q4,h.q10,h.q11,h.q12,h.q13,h.p0,h.p1,h.p2,h.p3,h.p4,h.p5,h.p6,h.p10⟩
theorem BP.o5{H:Bool}(h:BP S w A Sx st vn vf L N hb ly nbx vb vo G c0 c1 c2 H I false J c7 O Z ab ad ak al ao t25 ap ar aw a7 az t31 aA a1 a6 t35 W):BP S w A Sx st vn vf L N hb ly nbx vb vo G c0 c1 c2 H I true J c7 O Z ab ad ak al ao t25 ap ar aw (vf) az t31 aA a1 a6 t35 W:=
 ⟨h.f0,h.f1,(λ_=>rfl),h.f6,h.f7,h.f8,h.f9,h.q2,h.q3,h.q4,h.q10,(λe=>⟨(h.q11 e).1,rfl,(h.q11 e).2.2⟩),h.q12,h.q13,h.p0,h.p1,h.p2,h.p3,h.p4,h.p5,h.p6,h.p10⟩
theorem BP.o6{H:Bool}(h:BP S w A Sx st vn vf L N hb ly nbx vb vo G c0 c1 c2 H I J false c7 O Z ab ad ak al ao t25 ap ar aw az a7 t31 aA a1 a6 t35 W):BP S w A Sx st vn vf L N hb ly nbx vb vo G c0 c1 c2 H I J true c7 O Z ab ad ak al ao t25 ap ar aw az (G) t31 aA a1 a6 t35 W:=
 ⟨h.f0,h.f1,h.f5,(λ_=>rfl),h.f7,h.f8,h.f9,h.q2,h.q3,h.q4,h.q10,h.q11,h.q12,h.q13,h.p0,h.p1,h.p2,h.p3,h.p4,h.p5,h.p6,h.p10⟩
theorem BP.o7{H:Bool}(h:BP S w A Sx st vn vf L N hb ly nbx vb vo G c0 c1 c2 H I J true false O Z ab ad ak al ao t25 ap ar aw az aA t31 a1 a6 a7 t35 W):BP S w A Sx st vn vf L N hb ly nbx vb vo G c0 c1 c2 H I J true true O Z ab ad ak al ao t25 ap ar aw az aA (pO vb vo) a1 a6 a7 t35 W:=
 ⟨h.f0,h.f1,h.f5,h.f6,(λ_=>rfl),h.f8,h.f9,h.q2,h.q3,h.q4,h.q10,h.q11,h.q12,h.q13,h.p0,h.p1,h.p2,h.p3,h.p4,h.p5,h.p6,h.p10⟩
theorem BP.o8{H:Bool}(h:BP S w A Sx st vn vf L N hb ly nbx vb vo G c0 c1 c2 H I J O true false Z ab ad ak al ao t25 ap ar aw az aA t31 a7 a1 a6 t35 W):BP S w A Sx st vn vf L N hb ly nbx vb vo G c0 c1 c2 H I J O true true Z ab ad ak al ao t25 ap ar aw az aA t31 (pO vb<|vo+1) a1 a6 t35 W:=
 ⟨h.f0,h.f1,h.f5,h.f6,h.f7,(λ_=>rfl),h.f9,h.q2,h.q3,h.q4,h.q10,h.q11,h.q12,h.q13,h.p0,h.p1,h.p2,h.p3,h.p4,h.p5,h.p6,h.p10⟩
theorem BP.o9{H:Bool}{al:Value}(h:BP S w A Sx st vn vf L N hb ly nbx vb vo G c0 c1 c2 H I J O c7 true false Z ab ad ak al t25 ao ap ar aw az t31 aA a6 a1 t35 W):BP S w A Sx st vn vf L N hb ly nbx vb vo G c0 c1 c2 H I J O c7 true true Z ab ad ak al t25 ao ap ar aw az t31 aA (iN ly) a1 t35 W:=
 ⟨h.f0,h.f1,h.f5,h.f6,h.f7,h.f8,(λ_=>rfl),h.q2,h.q3,h.q4,(λ_=>rfl),h.q11,h.q12,h.q13,h.p0,h.p1,h.p2,h.p3,h.p4,h.p5,h.p6,h.p10⟩
theorem BP.o2{ao ap:Bool}{G:World}(h:BP S w A Sx st vn vf L N hb ly nbx vb vo H c0 true false I J O Z c7 ab ad ak al ao ap ar t25 ba aw az aA a1 t31 a6 a7 a8 t35 W)(bb:Below W.heap.size W G)(bd:Am (Ag G.cell?<|Cu w.heap.size vn vf S) N h'):BP S w A Sx st vn vf L N hb ly nbx vb vo H c0 true true I J O Z c7 ab ad ak al ao ap ar t25 (At N h') aw az aA a1 t31 a6 a7 a8 t35 G:=by
 have h:=h.below bb;exact⟨h.f0,h.f1,h.f5,h.f6,h.f7,h.f8,h.f9,(λ_=>rfl),(λ_=>rfl),h.q4,h.q10,h.q11,h.q12,h.q13,(λe=>by cases e),(λ_ _=>⟨h',rfl,(h.p0 rfl).1,bd⟩),(λe=>by cases h.q3 e),h.p3,h.p4,h.p5,h.p6,h.p10⟩
theorem BP.o3{J:Value}{ao ap ar:Bool}{H:World}(h:BP S w A Sx st vn vf L N hb ly nbx vb vo J c0 c1 true false O Z ab c7 ad ak al ao ap ar aw t25 G ba az aA a1 t31 a6 a7 a8 t35 W){g:Nat}(_ht:G=At N h')(bb:Am (Ag W.cell?<|Cu w.heap.size vn vf S) N h')(I:Below W.heap.size W H)(bd:∀j u,(Bq N h')[j]? =some u->H.cell? (aD g j)=some u):BP S w A Sx st vn vf L N hb ly nbx vb vo J c0 c1 true true O Z ab c7 ad ak al ao ap ar aw t25 G (sL g 0 1 1) az aA a1 t31 a6 a7 a8 t35 H:=by
 have be:=(let⟨_,_,b,_⟩:=(h.below I).p1 rfl rfl;b);have h:=h.below I;exact⟨h.f0,h.f1,h.f5,h.f6,h.f7,h.f8,h.f9,h.q2,(λ_=>rfl),(λe=>⟨(h.q4 e).1,rfl⟩),h.q10,h.q11,h.q12,h.q13,h.p0,(λ_ e=>by cases e),(λ_ _=>⟨h',g,rfl,be,bb.on<|Du I,bd⟩),(λe=>by cases (h.q4 e).2),h.p4,h.p5,h.p6,h.p10⟩
theorem BP.o4{I:Value}{ao:Bool}{H:World}(h:BP S w A Sx st vn vf L N hb ly nbx vb vo I true c1 c2 true false J O c7 Z ab ad ak al ao ap t25 ar aw ba az aA t31 a1 a6 a7 t35 W)(bb:∀g,vn.ownBlock=some g->g<A.heap.size)(bd:XA S w A Sx st vn vf L L vn vf W)(be:Am (Ag W.cell?<|Cu w.heap.size vn vf S) N h')(bf:H.ownsRow (w.heap.size+1+1) 31 8 G (L++[(⟨N,h',ly⟩:Fl)]).length<|BK<|L++[(⟨N,h',ly⟩:Fl)])(a8:W.grownBy H vn.ownBlock)(bg:G.ownBlock=vn.ownBlock\/G.ownBlock=some W.heap.size):BP S w A Sx st vn vf L N hb ly nbx vb vo I true c1 c2 true true J O c7 Z ab ad ak al ao ap t25 ar aw (G) az aA t31 a1 a6 a7 t35 H:=by
 exact⟨h.f0,h.f1,h.f5,h.f6,h.f7,h.f8,h.f9,h.q2,h.q3,(λ_=>⟨rfl,rfl⟩),h.q10,(λe=>⟨rfl,(h.q11 e).2⟩),h.q12,h.q13,(λe=>by cases e.symm.trans (h.q3 rfl)),(λ_ e=>by cases e),(λ_ e=>by cases e),(λ_ _=>⟨h',bd.appN (f:=⟨N,h',ly⟩) be bf a8 bg⟩),(λe=>by cases (h.q11 e).1),(λe=>by cases (h.q11<|h.q12 e).1),(λe=>by cases (h.q11<|h.q12<|h.q13 e).1),(λe bi=>let⟨g,a,b,c⟩:=h.p10 e bi;⟨g,a,(RE (a:=(aD g 0))<|a8.block g (bL b) (λe=>by have:=bb g e.symm;omega)).trans b,c⟩)⟩
theorem BP.o10{G:World}(h:BP S w A Sx st vn vf L N hb ly nbx vb vo H c0 c1 c2 I J O Z c7 ab true false ad ak al ao t25 ap ar aw az aA t31 a1 a6 a7 t35 W){g:Nat}(a8:Below W.heap.size W G)(ba:G.cell? (aD g 0)=some (iN ly))(bb:A.heap.size<=g):BP S w A Sx st vn vf L N hb ly nbx vb vo H c0 c1 c2 I J O Z c7 ab true true ad ak al ao t25 ap ar aw az aA t31 a1 a6 (sL g 0 1 1) t35 G:=by
 have h:=h.below a8;exact⟨h.f0,h.f1,h.f5,h.f6,h.f7,h.f8,h.f9,h.q2,h.q3,h.q4,(λ_=>rfl),(λe=>⟨(h.q11 e).1,(h.q11 e).2.1,rfl⟩),h.q12,h.q13,h.p0,h.p1,h.p2,h.p3,h.p4,h.p5,h.p6,(λ_ _=>⟨g,rfl,ba,bb⟩)⟩
theorem BP.o11{J:Value}{I:World}(h:BP S w A Sx st vn vf L N hb ly nbx vb vo J c0 c1 c2 O true true Z c7 ab ad true false ak al ao t25 ap ar H aw az t31 aA a1 a6 t35 W)(a7:XA S w A Sx st H vf (L++[(⟨N,h',ly⟩:Fl)]) L vn vf W)(a8:I.ownsRow (w.heap.size+1+1) 3 1 G (L++[(⟨N,h',ly⟩:Fl)]).length<|G8<|L++[(⟨N,h',ly⟩:Fl)])(ba:W.grownBy I vf.ownBlock)(bb:G.ownBlock=vf.ownBlock\/G.ownBlock=some W.heap.size):BP S w A Sx st vn vf L N hb ly nbx vb vo J c0 c1 c2 O true true Z c7 ab ad true true ak al ao t25 ap ar H aw az t31 aA a1 a6 (G) I:=by
 exact⟨h.f0,h.f1,h.f5,h.f6,h.f7,h.f8,h.f9,h.q2,h.q3,h.q4,h.q10,(λ_=>⟨rfl,rfl,rfl⟩),(λ_=>rfl),h.q13,(λe=>by cases e.symm.trans (h.q3 (h.q4 rfl).2)),(λ_ e=>by cases e.symm.trans (h.q4 rfl).2),(λ_ e=>by cases e),(λ_ e=>by cases e),(λ_ _=>⟨h',a7.appF (f:=⟨N,h',ly⟩) a8 ba bb⟩),(λe=>by cases h.q12 e),(λe=>by cases h.q12 (h.q13 e)),(λ_ e=>by cases e)⟩
theorem BP.o12{al:Value}(h:BP S w A Sx st vn vf L N hb ly nbx vb vo H c0 c1 c2 I true J O c7 Z ab ad true false ak al t25 ao ap G ar aw t31 az aA a1 t35 W):BP S w A Sx st vn vf L N hb ly nbx vb vo H c0 c1 c2 I true J O c7 Z ab ad true true ak al t25 ao ap G ar aw t31 az aA a1 t35<|W.setCell (aD w.heap.size 0) G:=by
 exact⟨h.f0,h.f1,h.f5,h.f6,h.f7,h.f8,h.f9,h.q2,h.q3,h.q4,h.q10,h.q11,(λ_=>rfl),(λ_=>rfl),(λe=>by cases e.symm.trans (h.q3 (h.q4 rfl).2)),(λ_ e=>by cases e.symm.trans (h.q4 rfl).2),(λ_ e=>by cases e),(λ_ e=>by cases e),(λ_ e=>by cases e),(λ_ _=>let⟨h',a⟩:=h.p4 rfl rfl;⟨h',a.set6 _⟩),(λe=>by cases h.q13 e),(λ_ e=>by cases e)⟩
theorem BP.o13{H:Bool}{ak al:Value}(h:BP S w A Sx st vn vf L N hb ly nbx vb vo G c0 c1 c2 H I J O c7 Z ab ad true true false ak t25 al ao ap ar aw t31 az aA a1 t35 W):BP S w A Sx st vn vf L N hb ly nbx vb vo G c0 c1 c2 H I J O c7 Z ab ad true true true ak t25 al ao ap ar aw t31 az aA a1 t35<|W.setCell (aD (w.heap.size+1) 0) t35:=by
 exact⟨h.f0,h.f1,h.f5,h.f6,h.f7,h.f8,h.f9,h.q2,h.q3,h.q4,h.q10,h.q11,h.q12,(λ_=>rfl),(λe=>by cases e.symm.trans (h.q3 (h.q4 (h.q11 rfl).1).2)),(λ_ e=>by cases e.symm.trans (h.q4 (h.q11 rfl).1).2),(λ_ e=>by cases e.symm.trans (h.q11 rfl).1),(λ_ e=>by cases e),(λ_ e=>by cases e),(λ_ e=>by cases e),(λ_=>let⟨h',a⟩:=h.p5 rfl rfl;⟨h',a.set7 _⟩),(λ_ e=>by cases e)⟩
end Go.Proofs.YtchpdmjlicmdaaaGreatDoor
