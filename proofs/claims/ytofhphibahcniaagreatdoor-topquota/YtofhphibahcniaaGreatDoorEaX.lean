/-
  TopQuota: Ea Eb Ec Ue Xb Xc Xd Xe Xf Xg Uh Uj.
-/
import Derived.Test.YtofhphibahcniaaGreatDoorApX
import Derived.Test.YtofhphibahcniaaGreatDoorFjX
import Derived.WalkKit
import Derived.WalkSpells
import Derived.WalkLawsBesides
import Derived.Deep.QuietTactic
import Derived.BigQuiet
import Derived.Test.YtofhphibahcniaaGreatDoorKcX
import Derived.Test.YtofhphibahcniaaGreatDoorHaX
import Derived.Deep.RegionHeld3
import Derived.Deep.MidRow
import Derived.Test.YtofhphibahcniaaGreatDoorUbX
import Derived.OrdersIn
set_option maxRecDepth 100000
set_option maxHeartbeats 16000000
namespace Go.Proofs.YtofhphibahcniaaGreatDoor
open Go.RowKit Go.Proofs.Tryz
theorem A6.alloc{w:World}{a:Option Addr}{F:List Int}(h:A6 w a F)(o:Obj):A6 (w.alloc o) a F:=h.below ((nv _ _).alloc (nn _) _)
theorem Z3(u g x c:Int)(a:Option Addr)(cap:Nat)(F:List Int)(w:World)(T:F.length≤9223372036854775807)(h:A6 w a F):
 Calls prog 148 #[.agg #[iN u,iN g,.slice a F.length cap,iN c],iN x] w fun e w'=>
  e=.returned (.bool (En g F x))∧Below w.heap.size w w':=by
 by_cases hx:x=g
 ·subst hx
  go_enter func148,ntmps148;go_wp2;go_ret;exact⟨Bh (by simp[En]),bN⟩
 ·have J:(x==g)=false:=by simpa using hx
  go_enter func148,ntmps148;go_wp2;go_loop [14] (fun i=>∃k:Nat,k≤F.length∧i=iN k∧(F.take k).contains x=false) (fun i=>F.length-(intOf i).toNat)
  case atStart=>exact⟨0,nN _,rfl,rfl⟩
  case round=>
   obtain⟨k,V,rfl,H⟩:=hrel;by_cases I:k<F.length
   ·rcases h with rfl|⟨b,Y,rfl,O⟩
    ·simp at I
    ·have Q:=O k I
     have Z:b<w.heap.size:=bL Q;by_cases G:F[k]=x
     ·have R:(F[k]==x)=true:=by simpa using G
      go_wp2;go_ret;exact⟨Bh (by simp[En,←G]),bN⟩
     ·have R:(F[k]==x)=false:=by simpa using G
      go_wp2;go_round
      case rel=>exact⟨k+1,by omega,by go_num,SV I H G⟩
      case measure=>simp[intOf];omega
   ·go_wp2
    go_ret;rw[n1 (by omega)]at H;exact⟨Bh (by simp[En,J];simpa using H),bN⟩
theorem So(u g c x:Int)(v:Value)(w:World):
 Calls prog 136 #[.agg #[iN u,iN g,v,iN c],iN x] w fun e w'=>
  e=.returned (.bool (bits .and .i64 c x==x))∧Below w.heap.size w w':=by
 go_enter func136,ntmps136;go_wp2;go_ret;exact⟨rfl,bN⟩
def Ja(u:Int)(F:Int)(G:Bool):Bool:=G&&F==u
theorem M5(u g c:Int)(v:Value)(d:Bool)(m G H:Int)(F:Bool)(w:World):
 Calls prog 168 #[.agg #[iN u,iN g,v,iN c],.agg #[.bool d,iN m,iN G,iN H,.bool F]] w fun e w'=>
  e=.returned (.bool (Ja u G F))∧Below w.heap.size w w':=by
 cases F
 ·go_enter func168,ntmps168
  go_wp2;go_ret;exact⟨rfl,bN.alloc (by simp) _⟩
 ·go_enter func168,ntmps168
  go_wp2;go_ret;exact⟨Bh (by simp[Ja]),bN.alloc (by simp) _⟩
def Fh(w:World)(b:Nat)(u g:Int)(v:Value)(c:Int):Prop:=
 w.cell? ⟨b,0,none⟩=some (.int .i64 u)∧w.cell? ⟨b,1,none⟩=some (.int .i64 g)∧w.cell? ⟨b,2,none⟩=some v∧w.cell? ⟨b,3,none⟩=some (.int .i64 c)∧∀o,w.frozen? ⟨b,o,none⟩=false
theorem Fh.new(w:World)(u g:Int)(v:Value)(c:Int):Fh (w.alloc (.cells #[iN u,iN g,v,iN c] 27)) w.heap.size u g v c:=
 ⟨aC,aC,aC,aC,fun _=>nQ _ _ _ _ rfl⟩
theorem Fh.lt{w:World}{b:Nat}{u g:Int}{v:Value}{c:Int}(h:Fh w b u g v c):b<w.heap.size:=nz _ _ h.1
theorem Fh.below{w w':World}{b:Nat}{u g:Int}{v:Value}{c:Int}(h:Fh w b u g v c)(hb:Below w.heap.size w w'):Fh w' b u g v c:=by
 have F:=h.lt;obtain⟨G,H,I,J,O⟩:=h;exact⟨(hb.cell (p:=(aD b 0)) F).trans G,(hb.cell (p:=(aD b 1)) F).trans H,(hb.cell (p:=(aD b 2)) F).trans I,(hb.cell (p:=(aD b 3)) F).trans J,fun o=>(hb.frozen (p:=(aD b o)) F).trans (O o)⟩
theorem Fh.alloc{w:World}{b:Nat}{u g:Int}{v:Value}{c:Int}(h:Fh w b u g v c)(o:Obj):Fh (w.alloc o) b u g v c:=h.below ((nv _ _).alloc (nn _) _)
def El(w:World)(b:Nat)(d:Bool)(m F G:Int)(H:Bool):Prop:=
 w.cell? ⟨b,0,none⟩=some (.bool d)∧w.cell? ⟨b,1,none⟩=some (.int .i64 m)∧w.cell? ⟨b,2,none⟩=some (.int .i64 F)∧w.cell? ⟨b,3,none⟩=some (.int .i64 G)∧w.cell? ⟨b,4,none⟩=some (.bool H)
theorem El.new(w:World)(B:Nat)(I:B=w.heap.size)(d:Bool)(m F G:Int)(H:Bool):El (w.alloc (.cells #[.bool d,iN m,iN F,iN G,.bool H] 99)) B d m F G H:=by
 subst I;exact⟨aC,aC,aC,aC,aC⟩
theorem El.below{w w':World}{b:Nat}{d:Bool}{m G H:Int}{I:Bool}(h:El w b d m G H I)(hb:Below w.heap.size w w'):El w' b d m G H I:=by
 have F:=bL h.1;obtain⟨J,O,Q,R,T⟩:=h;exact⟨(hb.cell (p:=(aD b 0)) F).trans J,(hb.cell (p:=(aD b 1)) F).trans O,(hb.cell (p:=(aD b 2)) F).trans Q,(hb.cell (p:=(aD b 3)) F).trans R,(hb.cell (p:=(aD b 4)) F).trans T⟩
theorem El.alloc{w:World}{b:Nat}{d:Bool}{m F G:Int}{H:Bool}(h:El w b d m F G H)(o:Obj):El (w.alloc o) b d m F G H:=h.below ((nv _ _).alloc (nn _) _)
theorem Lm(w F:World)(u g:Int)(v:Value)(c:Int)(d:Bool)(m G H:Int)(I:Bool)
 (hb:Below ((w.alloc (.cells #[iN u,iN g,v,iN c] 27)).alloc (.cells #[.bool d,iN m,iN G,iN H,.bool I] 99)).heap.size ((w.alloc (.cells #[iN u,iN g,v,iN c] 27)).alloc (.cells #[.bool d,iN m,iN G,iN H,.bool I] 99)) F):
 Fh F w.heap.size u g v c∧El F (w.heap.size+1) d m G H I∧Below w.heap.size w F:=
 ⟨((Fh.new w u g v c).alloc _).below hb,(El.new (w.alloc _) _ (by simp) d m G H I).below hb,(bN.alloc (by simp) _).trans (hb.mono (by simp;omega))⟩
theorem A6.two{w:World}{a:Option Addr}{F:List Int}(h:A6 w a F)(o G:Obj):A6 ((w.alloc o).alloc G) a F:=(h.alloc _).alloc _
def Il(u g:Int)(G:List Int)(m H I:Int)(F:Bool):Int:=if Ja u H F=true then m / 64 else if(F&&En g G I)=true then m / 8 else m
theorem WC(u g c:Int)(a:Option Addr)(cap:Nat)(G:List Int)(d:Bool)(m J H:Int)(I:Bool)(w:World)(Z:G.length≤9223372036854775807)(h:A6 w a G)(_hm0:0≤m)(_hm1:m≤4095):
 Calls prog 164 #[.agg #[iN u,iN g,.slice a G.length cap,iN c],.agg #[.bool d,iN m,iN J,iN H,.bool I]] w fun e w'=>
  e=.returned (iN (Il u g G m J H I))∧Below w.heap.size w w':=by
 go_enter func164,ntmps164;go_wp2_with fail
 refine(M5 u g c _ d m J H I _).mono ?_;rintro e aa ⟨rfl,hb⟩;obtain⟨ab,T,O⟩:=Lm w aa u g _ c d m J H I hb;have ad:=(h.two _ _).below hb;clear hb;obtain⟨ak,ao,ap,ar,ay⟩:=id ab;obtain⟨az,a1,a6,a7,a8⟩:=id T;obtain⟨t,F⟩:∃t,Ja u J I=t:=⟨_,rfl⟩;have Q:=hid F;rw[F];clear F
 cases t
 ·cases I
  ·go_wp2
   go_ret;exact⟨IL (by unfold Il;rw[nC (by rw[Q.out];decide),nC (by simp)]),O⟩
  ·go_wp2_with fail
   refine(Z3 u g H c a cap G _ Z ad).mono ?_;rintro e ba ⟨rfl,R⟩;obtain⟨bb,bd,be,bf,bg⟩:=T.below R;have V:=O.trans (R.mono O.size);clear ak ao ap ar ay az a1 a6 a7 a8 R;obtain⟨t,F⟩:∃t,En g G H=t:=⟨_,rfl⟩;have Y:=hid F;rw[F];clear F
   cases t
   ·go_wp2
    go_ret;exact⟨IL (by unfold Il;rw[nC (by rw[Q.out];decide),nC (by rw[Y.out];simp)]),V⟩
   ·go_wp2
    go_ret;exact⟨IL (by unfold Il;rw[nC (by rw[Q.out];decide),nD (by rw[Y.out];rfl)]),V⟩
 ·go_wp2
  go_ret;exact⟨IL (by unfold Il;rw[nD Q.out]),O⟩
def I5(c:Int)(d:Bool)(m:Int)(F:Bool)(G:Int):Bool:=F&&(bits .and .i64 c 2==2)&&(d||bits .and .i64 G 1==0||bits .and .i64 m 73 !=0)
theorem XO(u g c:Int)(v:Value)(d:Bool)(m O Q:Int)(I:Bool)(J:Int)(w:World):
 Calls prog 165 #[.agg #[iN u,iN g,v,iN c],.agg #[.bool d,iN m,iN O,iN Q,.bool I],iN J] w fun e w'=>
  e=.returned (.bool (I5 c d m I J))∧Below w.heap.size w w':=by
 cases I
 ·go_enter func165,ntmps165
  go_wp2;go_ret;exact⟨rfl,bN.alloc (by simp) _⟩
 ·go_enter func165,ntmps165
  go_wp2_with fail
  refine(So u g c 2 _ _).mono ?_;rintro e T ⟨rfl,hb⟩;obtain⟨Y,V,G⟩:=Lm w T u g _ c d m O Q true hb;clear hb;obtain⟨Z,aa,ab,ad,ak⟩:=id V;obtain⟨t,F⟩:∃t,(bits .and .i64 c 2==2)=t:=⟨_,rfl⟩;have H:=hid F;rw[F];clear F
  cases t
  ·go_wp2
   go_ret;exact⟨Bh (by unfold I5;rw[H.out];simp),G⟩
  ·cases d
   ·obtain⟨t,F⟩:∃t,(bits .and .i64 J 1==0)=t:=⟨_,rfl⟩
    have R:=hid F;cases t
    ·go_wp2
     go_ret;exact⟨Bh (by unfold I5;rw[H.out,R.out];simp),G⟩
    ·go_wp2
     go_ret;exact⟨Bh (by unfold I5;rw[H.out,R.out];simp),G⟩
   ·go_wp2
    go_ret;exact⟨Bh (by unfold I5;rw[H.out];simp),G⟩
def I7(u g:Int)(H:List Int)(c:Int)(d:Bool)(m I J:Int)(G:Bool)(F:Int):Bool:=
 if F<0∨7<F then false else(bits .and .i64 (Il u g H m I J G) F==F)||I5 c d m G F
theorem aL(u g c:Int)(a:Option Addr)(cap:Nat)(H:List Int)(d:Bool)(m I J:Int)(G:Bool)(F:Int)(w:World)(V:H.length≤9223372036854775807)(h:A6 w a H)(Y:0≤m)(Z:m≤4095):
 Calls prog 127 #[.agg #[iN u,iN g,.slice a H.length cap,iN c],.agg #[.bool d,iN m,iN I,iN J,.bool G],iN F] w fun e w'=>
  e=.returned (.bool (I7 u g H c d m I J G F))∧Below w.heap.size w w':=by
 by_cases T:F<0
 ·go_enter func127,ntmps127
  go_wp2;go_ret;exact⟨Bh (by unfold I7;rw[nD (.inl T)]),bN.alloc (by simp) _⟩
 have ay:decide (F<0)=false:=by simpa using T
 by_cases Q:7<F
 ·have aa:decide (7<F)=true:=by simpa using Q
  go_enter func127,ntmps127;go_wp2;go_ret;exact⟨Bh (by unfold I7;rw[nD (.inr Q)]),bN.alloc (by simp) _⟩
 have aa:decide (7<F)=false:=by simpa using Q
 have O:Hid (I7 u g H c d m I J G F=((bits .and .i64 (Il u g H m I J G) F==F)||I5 c d m G F)):=by
  show _=_;unfold I7;rw[nC (by omega)]
 go_enter func127,ntmps127;go_wp2_with fail
 refine(WC u g c a cap H d m I J G _ V (h.two _ _) Y Z).mono ?_;rintro e ab ⟨rfl,hb⟩;obtain⟨ad,ak,R⟩:=Lm w ab u g _ c d m I J G hb;clear hb;obtain⟨az,a1,a6,a7,a8⟩:=id ad;obtain⟨ba,bb,bd,be,bf⟩:=id ak;generalize Il u g H m I J G=n at O⊢;obtain⟨t,ao⟩:∃t,(bits .and .i64 n F==F)=t:=⟨_,rfl⟩;rw[ao]at O;cases t
 ·go_wp2_with fail
  refine(XO u g c _ d m I J G F _).mono ?_;rintro e bg ⟨rfl,ap⟩;have ar:=R.trans (ap.mono R.size);go_wp2;go_ret;exact⟨Bh (by rw[O.out];rfl),ar⟩
 ·go_wp2
  go_ret;exact⟨Bh (by rw[O.out];rfl),R⟩
def Ii(u c:Int)(G:Int)(F:Bool):Bool:=Ja u G F||(F&&bits .and .i64 c 4==4)
theorem Rh(u g c:Int)(v:Value)(d:Bool)(m G I:Int)(F:Bool)(w:World):
 Calls prog 130 #[.agg #[iN u,iN g,v,iN c],.agg #[.bool d,iN m,iN G,iN I,.bool F]] w fun e w'=>
  e=.returned (.bool (Ii u c G F))∧Below w.heap.size w w':=by
 go_enter func130,ntmps130;go_wp2_with fail
 refine(M5 u g c _ d m G I F _).mono ?_;rintro e Q ⟨rfl,hb⟩;obtain⟨R,T,H⟩:=Lm w Q u g _ c d m G I F hb;clear hb;obtain⟨Z,aa,ab,ad,ak⟩:=id R;obtain⟨ao,ap,ar,ay,az⟩:=id T;obtain⟨t,J⟩:∃t,Ja u G F=t:=⟨_,rfl⟩;have O:=hid J;rw[J];clear J
 cases t
 ·cases F
  ·go_wp2
   go_ret;exact⟨Bh (by unfold Ii;rw[O.out];rfl),H⟩
  ·go_wp2_with fail
   refine(So u g c 4 _ _).mono ?_;rintro e a1 ⟨rfl,V⟩;have Y:=H.trans (V.mono H.size);go_wp2;go_ret;exact⟨Bh (by unfold Ii;rw[O.out];rfl),Y⟩
 ·go_wp2
  go_ret;exact⟨Bh (by unfold Ii;rw[O.out];rfl),H⟩
theorem Xu(w F:World)(u g:Int)(v:Value)(c:Int)(d:Bool)(m G H:Int)(I:Bool)(J:Bool)(O Q R:Int)(T:Bool)
 (hb:Below (((w.alloc (.cells #[iN u,iN g,v,iN c] 27)).alloc (.cells #[.bool d,iN m,iN G,iN H,.bool I] 99)).alloc (.cells #[.bool J,iN O,iN Q,iN R,.bool T] 99)).heap.size (((w.alloc (.cells #[iN u,iN g,v,iN c] 27)).alloc (.cells #[.bool d,iN m,iN G,iN H,.bool I] 99)).alloc (.cells #[.bool J,iN O,iN Q,iN R,.bool T] 99)) F):
 Fh F w.heap.size u g v c∧El F (w.heap.size+1) d m G H I∧El F (w.heap.size+2) J O Q R T∧Below w.heap.size w F:=
 ⟨(((Fh.new w u g v c).alloc _).alloc _).below hb,((El.new (w.alloc _) _ (by simp) d m G H I).alloc _).below hb,(El.new ((w.alloc _).alloc _) _ (by simp) J O Q R T).below hb,((bN.alloc (by simp) _).alloc (by simp;omega) _).trans (hb.mono (by simp;omega))⟩
def JK(u c:Int)(F G:Int)(H:Bool)(I:Int)(J:Bool):Bool:=bits .and .i64 F 512==0||Ii u c I J||Ja u G H
theorem XB(u g c:Int)(v:Value)(Q:Bool)(F J R:Int)(O:Bool)(d:Bool)(m G T:Int)(H:Bool)(w:World):
 Calls prog 137 #[.agg #[iN u,iN g,v,iN c],.agg #[.bool Q,iN F,iN J,iN R,.bool O],.agg #[.bool d,iN m,iN G,iN T,.bool H]] w fun e w'=>
  e=.returned (.bool (JK u c F J O G H))∧Below w.heap.size w w':=by
 obtain⟨t,I⟩:∃t,(bits .and .i64 F 512==0)=t:=⟨_,rfl⟩;have V:=hid I;cases t
 ·go_enter func137,ntmps137
  go_wp2_with fail
  refine(Rh u g c _ d m G T H _).mono ?_;rintro e aa ⟨rfl,hb⟩;obtain⟨ab,ad,_,Y⟩:=Xu w aa u g _ c Q F J R O d m G T H hb;clear hb;obtain⟨ap,ar,ay,az,a1⟩:=id ab;obtain⟨a6,a7,a8,ba,bb⟩:=id ad;obtain⟨t,I⟩:∃t,Ii u c G H=t:=⟨_,rfl⟩;have Z:=hid I;rw[I];clear I
  cases t
  ·go_wp2_with fail
   refine(M5 u g c _ Q F J R O _).mono ?_;rintro e bd ⟨rfl,ak⟩;have ao:=Y.trans (ak.mono Y.size);go_wp2;go_ret;exact⟨Bh (by unfold JK;rw[V.out,Z.out];rfl),ao⟩
  ·go_wp2
   go_ret;exact⟨Bh (by unfold JK;rw[V.out,Z.out];rfl),Y⟩
 ·go_enter func137,ntmps137
  go_wp2;go_ret;exact⟨Bh (by unfold JK;rw[V.out];rfl),(bN.alloc (by simp) _).alloc (by simp;omega) _⟩
def Dp(F:Bool)(rs:List Rg)(x:Int):Option Int:=if F=true then Ie rs x else(F6 rs x).map fun _=>x
def Mo(F:Bool)(us gs:List Rg):Nd→Value
 |.mk k m u g _ _ _ _=>.agg #[.bool (k==2),.int .i64 m,.int .i64 ((Dp F us u).getD 65534),.int .i64 ((Dp F gs g).getD 65534),.bool ((Dp F us u).isSome&&(Dp F gs g).isSome)]
def Jk(w:World)(b:Nat)(a:Bool)(m u g:Int)(c:Bool):Prop:=w.cell? ⟨b,0,none⟩=some (.bool a)∧w.cell? ⟨b,1,none⟩=some (.int .i64 m)∧w.cell? ⟨b,2,none⟩=some (.int .i64 u)∧w.cell? ⟨b,3,none⟩=some (.int .i64 g)∧w.cell? ⟨b,4,none⟩=some (.bool c)∧∀j,w.frozen? ⟨b,j,none⟩=false
theorem Jk.new(w:World)(a:Bool)(m u g:Int)(c:Bool):Jk (w.alloc (.cells #[.bool a,iN m,iN u,iN g,.bool c] 99)) w.heap.size a m u g c:=
 ⟨aC,aC,aC,aC,aC,fun _=>nQ _ _ _ _ rfl⟩
theorem Jk.below{w w':World}{b:Nat}{a:Bool}{m u g:Int}{c:Bool}(h:Jk w b a m u g c)(hb:Below w.heap.size w w'):Jk w' b a m u g c:=by
 have F:=bL h.1;obtain⟨G,H,I,J,O,Q⟩:=h;exact⟨Aj hb _ _ G,Aj hb _ _ H,Aj hb _ _ I,Aj hb _ _ J,Aj hb _ _ O,fun j=>(hb.frozen (p:=(aD b j)) F).trans (Q j)⟩
theorem Rl(W A B:World)(G H:Option Addr)(I J uc gc:Nat)(k m u g:Int)(o:Bool)(nh:List Kv)(d:BA)(ks:Ar)(h:Hd)
 (F:A=W.alloc (.cells #[.slice G I uc,.slice H J gc] 24)) (O:B=A.alloc (.cells #[iN k,iN m,iN u,iN g,.bool o,.slice h.aa nh.length h.ca,.string d,.slice h.ak ks.length h.ck] 54)):
 B.cell? (aD W.heap.size 0)=some (.slice G I uc)∧B.cell? (aD W.heap.size 1)=some (.slice H J gc)∧Av B (W.heap.size+1) (.mk k m u g o nh d ks) h∧Below W.heap.size W B∧B.heap.size=W.heap.size+1+1:=by
 have R:A.heap.size=W.heap.size+1:=by rw[F,nw]
 have Y:B.heap.size=W.heap.size+1+1:=by rw[O,nw,R]
 have T:Below W.heap.size W A:=by rw[F];exact bN
 have Q:Below A.heap.size A B:=by rw[O];exact bN
 have c0:Ce A W.heap.size 0 (.slice G I uc):=by rw[F];exact aC
 have c1:Ce A W.heap.size 1 (.slice H J gc):=by rw[F];exact aC
 have V:=Av.new A k m u g o nh d ks h;rw[←O,R]at V;exact⟨Aj Q _ _ c0,Aj Q _ _ c1,V,T.trans (Q.mono T.size),Y⟩
theorem P6(a:Option Addr)(cap:Nat)(rs:List Rg)(x:Int)(w:World)(O:rs.length≤100)(Q:rs.length≤cap)(R:∀r∈rs,r.ok)(hx:A2 x)(h:Rgs w a rs):
 Calls prog 199 #[.slice a rs.length cap,iN x,.bool true] w fun e w'=>e=.returned (.tuple #[iN ((Dp true rs x).getD 65534),.bool (Dp true rs x).isSome])∧Below w.heap.size w w':=by
 obtain⟨G,F⟩:=AQ (Ie rs x);have H:Hid (Dp true rs x=G):=by show _=_;rw[←F.out];rfl
 rw[H.out];have I:Hid _:=WA a cap rs x w O Q R hx h;rw[F.out]at I;clear H F;go_enter func199,ntmps199;go_wp2_with fail
 refine np I.out ?_;rintro e T ⟨rfl,J⟩;cases G with
 |none=>
  rw[J5];go_wp2;go_ret2;exact⟨rfl,J⟩
 |some v=>
  rw[J3];go_wp2;go_ret2;exact⟨rfl,J⟩
theorem PX(a:Option Addr)(cap:Nat)(rs:List Rg)(x:Int)(w:World)(O:rs.length≤100)(Q:rs.length≤cap)(R:∀r∈rs,r.ok)(hx:A2 x)(h:Rgs w a rs):
 Calls prog 199 #[.slice a rs.length cap,iN x,.bool false] w fun e w'=>e=.returned (.tuple #[iN ((Dp false rs x).getD 65534),.bool (Dp false rs x).isSome])∧Below w.heap.size w w':=by
 obtain⟨G,F⟩:=AQ (F6 rs x);have H:Hid (Dp false rs x=G.map fun _=>x):=by show _=_;rw[←F.out];rfl
 rw[H.out];have I:Hid _:=M7 a cap rs x w O Q R hx h;rw[F.out]at I;clear H F;go_enter func199,ntmps199;go_wp2_with fail
 refine np I.out ?_;rintro e T ⟨rfl,J⟩;cases G with
 |none=>
  rw[J5];go_wp2;go_ret2;exact⟨rfl,J⟩
 |some v=>
  rw[J3];go_wp2;go_ret2;exact⟨rfl,J⟩
theorem YU{W:World}{x:Nd}{h:Hd}(hid:Ez x){M:CO}(bp:Ek W M):
 Calls prog 181 #[M.v,Al x h,.bool true] W fun e bs=>e=.returned (Mo true M.us M.gs x)∧Below W.heap.size W bs:=by
 obtain⟨k,m,u,g,o,nh,d,ks⟩:=x;obtain⟨H,I,uc,gc,us,gs⟩:=M;obtain⟨ay,Rgs,az,a1,a6,a7,a8,ba⟩:=bp;dsimp only at ay Rgs az a1 a6 a7 a8 ba;obtain⟨bu,bv⟩:=hid;unfold Mo;dsimp only;obtain⟨c0,c1,G,bb,be⟩:=Rl W _ _ H I us.length gs.length uc gc k m u g o nh d ks h rfl rfl;have J:=Jk.new ((W.alloc (.cells #[.slice H us.length uc,.slice I gs.length gc] 24)).alloc (As k m u g o nh d ks h)) false 0 0 0 false;rw[be]at J;have O:Below ((W.alloc (.cells #[.slice H us.length uc,.slice I gs.length gc] 24)).alloc (As k m u g o nh d ks h)).heap.size ((W.alloc (.cells #[.slice H us.length uc,.slice I gs.length gc] 24)).alloc (As k m u g o nh d ks h)) (((W.alloc (.cells #[.slice H us.length uc,.slice I gs.length gc] 24)).alloc (As k m u g o nh d ks h)).alloc (.cells #[.bool false,iN 0,iN 0,iN 0,.bool false] 99)):=bN;have T:=bb.trans (O.mono bb.size);have G:=G.below O;have c0:=Aj O _ _ c0;have c1:=Aj O _ _ c1;have V:Hid _:=P6 H uc us u (((W.alloc (.cells #[.slice H us.length uc,.slice I gs.length gc] 24)).alloc (As k m u g o nh d ks h)).alloc (.cells #[.bool false,iN 0,iN 0,iN 0,.bool false] 99)) az a6 a8 bu (ay.below T);obtain⟨Y,Z,aa,ab,ad,ak,f6,ao⟩:=G.1;obtain⟨bf,bg⟩:=AQ ((Dp true gs g).getD 65534);obtain⟨bx,bi⟩:=AQ ((Dp true gs g).isSome);rw[bg.out,bi.out];generalize(Dp true us u).getD 65534=bk at V⊢;generalize(Dp true us u).isSome=bA at V⊢;show cL 181 #[.agg #[.slice H us.length uc,.slice I gs.length gc],(A5 k m u g o nh d ks h),.bool true] W _;clear O bb;go_enter func181,ntmps181;go_wp2_with fail
 refine np V.out ?_;rintro e bB ⟨rfl,Q⟩;have ap:=T.trans (Q.mono T.size);have G:=G.below Q;have J:=J.below Q;have c1:=Aj Q _ _ c1;have bd:Hid _:=P6 I gc gs g bB a1 a7 ba bv (Rgs.below ap);rw[bg.out,bi.out]at bd;clear Y Z aa ab ad ak f6 ao c0 V T Q ay Rgs az a1 a6 a7 a8 ba be;obtain⟨Y,Z,aa,ab,ad,ak,f6,ao⟩:=G.1;go_wp2_with fail
 refine np bd.out ?_;rintro e bC ⟨rfl,ar⟩;have bl:=ap.trans (ar.mono ap.size);have G:=G.below ar;have J:=J.below ar;clear Y Z aa ab ad ak f6 ao c1 bd ap ar;obtain⟨Y,Z,aa,ab,ad,ak,f6,ao⟩:=G.1;obtain⟨t0,bn,bo,t3,t4,R⟩:=J;have bF:=R 0;have bG:=R 1;have bH:=R 2;have bY:=R 3;have b0:=R 4;have F:W.heap.size≤W.heap.size+1+1:=by omega
 cases bA
 ·go_wp2
  refine nG (v:=.agg #[.bool (k==2),iN m,iN bk,iN bf,.bool false]) (by simp[results,results181,go_sem,t0,bn,bo,t3,t4]) rfl ⟨rfl,((((bl.setCell F _).setCell F _).setCell F _).setCell F _).setCell F _⟩
 ·go_wp2
  refine nG (v:=.agg #[.bool (k==2),iN m,iN bk,iN bf,.bool bx]) (by simp[results,results181,go_sem,t0,bn,bo,t3,t4]) rfl ⟨rfl,((((bl.setCell F _).setCell F _).setCell F _).setCell F _).setCell F _⟩
theorem Xt{W:World}{x:Nd}{h:Hd}(hid:Ez x){M:CO}(bp:Ek W M):
 Calls prog 181 #[M.v,Al x h,.bool false] W fun e bs=>e=.returned (Mo false M.us M.gs x)∧Below W.heap.size W bs:=by
 obtain⟨k,m,u,g,o,nh,d,ks⟩:=x;obtain⟨H,I,uc,gc,us,gs⟩:=M;obtain⟨ay,Rgs,az,a1,a6,a7,a8,ba⟩:=bp;dsimp only at ay Rgs az a1 a6 a7 a8 ba;obtain⟨bu,bv⟩:=hid;unfold Mo;dsimp only;obtain⟨c0,c1,G,bb,be⟩:=Rl W _ _ H I us.length gs.length uc gc k m u g o nh d ks h rfl rfl;have J:=Jk.new ((W.alloc (.cells #[.slice H us.length uc,.slice I gs.length gc] 24)).alloc (As k m u g o nh d ks h)) false 0 0 0 false;rw[be]at J;have O:Below ((W.alloc (.cells #[.slice H us.length uc,.slice I gs.length gc] 24)).alloc (As k m u g o nh d ks h)).heap.size ((W.alloc (.cells #[.slice H us.length uc,.slice I gs.length gc] 24)).alloc (As k m u g o nh d ks h)) (((W.alloc (.cells #[.slice H us.length uc,.slice I gs.length gc] 24)).alloc (As k m u g o nh d ks h)).alloc (.cells #[.bool false,iN 0,iN 0,iN 0,.bool false] 99)):=bN;have T:=bb.trans (O.mono bb.size);have G:=G.below O;have c0:=Aj O _ _ c0;have c1:=Aj O _ _ c1;have V:Hid _:=PX H uc us u (((W.alloc (.cells #[.slice H us.length uc,.slice I gs.length gc] 24)).alloc (As k m u g o nh d ks h)).alloc (.cells #[.bool false,iN 0,iN 0,iN 0,.bool false] 99)) az a6 a8 bu (ay.below T);obtain⟨Y,Z,aa,ab,ad,ak,f6,ao⟩:=G.1;obtain⟨bf,bg⟩:=AQ ((Dp false gs g).getD 65534);obtain⟨bx,bi⟩:=AQ ((Dp false gs g).isSome);rw[bg.out,bi.out];generalize(Dp false us u).getD 65534=bk at V⊢;generalize(Dp false us u).isSome=bA at V⊢;show cL 181 #[.agg #[.slice H us.length uc,.slice I gs.length gc],(A5 k m u g o nh d ks h),.bool false] W _;clear O bb;go_enter func181,ntmps181;go_wp2_with fail
 refine np V.out ?_;rintro e bB ⟨rfl,Q⟩;have ap:=T.trans (Q.mono T.size);have G:=G.below Q;have J:=J.below Q;have c1:=Aj Q _ _ c1;have bd:Hid _:=PX I gc gs g bB a1 a7 ba bv (Rgs.below ap);rw[bg.out,bi.out]at bd;clear Y Z aa ab ad ak f6 ao c0 V T Q ay Rgs az a1 a6 a7 a8 ba be;obtain⟨Y,Z,aa,ab,ad,ak,f6,ao⟩:=G.1;go_wp2_with fail
 refine np bd.out ?_;rintro e bC ⟨rfl,ar⟩;have bl:=ap.trans (ar.mono ap.size);have G:=G.below ar;have J:=J.below ar;clear Y Z aa ab ad ak f6 ao c1 bd ap ar;obtain⟨Y,Z,aa,ab,ad,ak,f6,ao⟩:=G.1;obtain⟨t0,bn,bo,t3,t4,R⟩:=J;have bF:=R 0;have bG:=R 1;have bH:=R 2;have bY:=R 3;have b0:=R 4;have F:W.heap.size≤W.heap.size+1+1:=by omega
 cases bA
 ·go_wp2
  refine nG (v:=.agg #[.bool (k==2),iN m,iN bk,iN bf,.bool false]) (by simp[results,results181,go_sem,t0,bn,bo,t3,t4]) rfl ⟨rfl,((((bl.setCell F _).setCell F _).setCell F _).setCell F _).setCell F _⟩
 ·go_wp2
  refine nG (v:=.agg #[.bool (k==2),iN m,iN bk,iN bf,.bool bx]) (by simp[results,results181,go_sem,t0,bn,bo,t3,t4]) rfl ⟨rfl,((((bl.setCell F _).setCell F _).setCell F _).setCell F _).setCell F _⟩
def Hh:Value→Prop
 |.int _ _=>True
 |.string _=>True
 |_=>False
def DM(c:AH)(b:Nat):Prop:=∀o s v,c ⟨b,o,none⟩=some (.string s)→c ⟨b,o+1,none⟩=some v→¬Hh v
theorem Gi{c:AH}{S:Nat→Bool}{q:Addr}{v:Value}(h:c q=some v)(F:S q.block=false):Ag c S q=some v:=by unfold Ag;rw[nC (by simp[F])];exact h
theorem Vi{c:AH}{S:Nat→Bool}(F:∀b,S b=true→DM c b){b o:Nat}{s:BA}{v:Value}(G:c (aD b o)=some (.string s))(H:c (aD b (o+1))=some v)(I:Hh v):S b=false:=by
 cases e:S b with
 |false=>rfl
 |true=>exact absurd I (F b e o s v G H)
theorem cQ{c:AH}{S:Nat→Bool}(H:∀b,S b=true→DM c b){a:Option Addr}{l:List Kv}(h:Bp c a l):Bp (Ag c S) a l:=by
 rcases h with h|⟨b,I,J,F⟩
 ·exact .inl h
 ·refine .inr ⟨b,I,J,fun k x G=>?_⟩
  have hb:=Vi H (F k x G).1 (F k x G).2 trivial;exact⟨Gi (F k x G).1 hb,Gi (F k x G).2 hb⟩
theorem TT{c:AH}{S:Nat→Bool}{b p:Nat}{x:Nd}{h:Hd}(G:Bi c b p x h)(F:S b=false):Bi (Ag c S) b p x h:=by
 obtain⟨k,m,u,g,o,nh,d,ks⟩:=x;obtain⟨H,I,J,O,Q,R,T,V⟩:=G;exact⟨Gi H F,Gi I F,Gi J F,Gi O F,Gi Q F,Gi R F,Gi T F,Gi V F⟩
theorem GK{c:AH}{S:Nat→Bool}(G:∀b,S b=true→DM c b){x:Nd}{h:Hd}(H:Ah c x h):Ah (Ag c S) x h:=by
 induction H with
 |mk b I f J O Q R T _ V=>
  refine .mk b I f (cQ G J) O Q R (fun i n x Y=>?_) V;have F:=T i n x Y;have hb:S b=false:=by
   obtain⟨k,m,u,g,o,nh,d,ks⟩:=x;exact Vi G F.1 F.2.1 trivial
  exact⟨Gi F.1 hb,TT F.2 hb⟩
def My(c:AH)(b:Nat):Prop:=∀o s,c ⟨b,o,none⟩≠some (.string s)
theorem My.row{c:AH}{b:Nat}(h:My c b):DM c b:=fun o s _ e _=>absurd e (h o s)
theorem OV{c:AH}{S:Nat→Bool}(F:∀b,S b=true→My c b){a:Option Addr}{xs:List Nd}(h:Cn c a xs):Cn (Ag c S) a xs:=by
 rcases h with h|⟨b,H,I,f,J⟩
 ·exact .inl h
 ·refine .inr ⟨b,H,I,f,fun i x O=>?_⟩
  obtain⟨G,Q⟩:=J i x O;refine⟨TT G ?_,GK (fun b hb=>(F b hb).row) Q⟩;obtain⟨k,m,u,g,o,nh,d,ks⟩:=x;cases e:S b with
  |false=>rfl
  |true=>exact absurd G.2.2.2.2.2.2.1 (F b e _ _)
structure Th where
 d:Bool
 m:Int
 u:Int
 g:Int
 p:Bool
abbrev Th.v(t:Th):Value:=.agg #[.bool t.d,.int .i64 t.m,.int .i64 t.u,.int .i64 t.g,.bool t.p]
def Jb:Th:=⟨false,0,0,0,false⟩
structure Bx where
 M:CO
 la:Option Addr
 lc:Nat
 xs:List Nd
 u:Int
 g:Int
 ca:Option Addr
 cc:Nat
 cs:List Int
 k:Int
 q:Int
def KC(c:AH)(b:Nat)(B:Bx):Prop:=
 c ⟨b,0,none⟩=some (.slice B.M.ua B.M.us.length B.M.uc)∧c ⟨b,1,none⟩=some (.slice B.M.ga B.M.gs.length B.M.gc)∧c ⟨b,2,none⟩=some (.slice B.la B.xs.length B.lc)∧
 c ⟨b,3,none⟩=some (.int .i64 B.u)∧c ⟨b,4,none⟩=some (.int .i64 B.g)∧c ⟨b,5,none⟩=some (.slice B.ca B.cs.length B.cc)∧c ⟨b,6,none⟩=some (.int .i64 B.k)∧c ⟨b,7,none⟩=some (.int .i64 B.q)
def D6(a:Option Addr)(b:Nat):Prop:=∀p,a=some p→p.block≠b
structure AX (w:World) (b:Nat) (B:Bx):Prop where
 cells:KC w.cell? b B
 end8:∀o,8≤o→w.cell? ⟨b,o,none⟩=none
 fz:∀o,w.frozen? ⟨b,o,none⟩=false
 maps:Ek w B.M
 lay:Cn w.cell? B.la B.xs
 lcap:B.xs.length≤B.lc∧B.lc≤9223372036854775807
 grp:A6 w B.ca B.cs
 gcap:B.cs.length≤B.cc∧B.cc≤9223372036854775807
 au:D6 B.M.ua b
 ag:D6 B.M.ga b
 ac:B.cs=[]∨D6 B.ca b
theorem AX.lt{w:World}{b:Nat}{B:Bx}(h:AX w b B):b<w.heap.size:=nz _ _ h.cells.1
theorem KC.on{c F:AH}{b:Nat}{B:Bx}(h:KC c b B)(hb:AR c F):KC F b B:=
 ⟨hb _ _ h.1,hb _ _ h.2.1,hb _ _ h.2.2.1,hb _ _ h.2.2.2.1,hb _ _ h.2.2.2.2.1,hb _ _ h.2.2.2.2.2.1,hb _ _ h.2.2.2.2.2.2.1,hb _ _ h.2.2.2.2.2.2.2⟩
theorem AX.below{w w':World}{b:Nat}{B:Bx}(h:AX w b B)(hb:Bw w w'):AX w' b B where
 cells:=h.cells.on (Aj hb)
 end8:=fun o F=>(hb.cell (p:=(aD b o)) h.lt).trans (h.end8 o F)
 fz:=fun o=>(hb.frozen (p:=(aD b o)) h.lt).trans (h.fz o)
 maps:=h.maps.below hb
 lay:=h.lay.on (Aj hb)
 lcap:=h.lcap
 grp:=h.grp.below hb
 gcap:=h.gcap
 au:=h.au
 ag:=h.ag
 ac:=h.ac
theorem AX.noStr{w:World}{b:Nat}{B:Bx}(h:AX w b B):My w.cell? b:=fun o s e=>by
 obtain⟨G,H,I,J,O,Q,R,T⟩:=h.cells;rcases Nat.lt_or_ge o 8 with F|F
 ·rcases(by omega:o=0∨o=1∨o=2∨o=3∨o=4∨o=5∨o=6∨o=7)with q|q|q|q|q|q|q|q<;>subst q
  ·rw[G]at e;cases e
  ·rw[H]at e;cases e
  ·rw[I]at e;cases e
  ·rw[J]at e;cases e
  ·rw[O]at e;cases e
  ·rw[Q]at e;cases e
  ·rw[R]at e;cases e
  ·rw[T]at e;cases e
 ·rw[h.end8 o F]at e;cases e
theorem AX.hid{w:World}{b:Nat}{B:Bx}(h:AX w b B):Cn (Ag w.cell? (fun k=>k==b)) B.la B.xs:=OV (fun k F=>by
 have:k=b:=by simpa using F
 rw[this];exact h.noStr) h.lay
def Bx.mayE(B:Bx)(t:Th)(F:Int):Int:=if I7 B.u B.g B.cs B.k t.d t.m t.u t.g t.p F=true then 0 else 9
def Bx.ownE(B:Bx)(t:Th):Int:=if Ii B.u B.k t.u t.p=true then 0 else 10
def fU(w:World)(b:Nat)(B:Bx):Prop:=w.cell? ⟨b,3,none⟩=some (.int .i64 B.u)∧w.cell? ⟨b,4,none⟩=some (.int .i64 B.g)∧w.cell? ⟨b,5,none⟩=some (.slice B.ca B.cs.length B.cc)∧w.cell? ⟨b,6,none⟩=some (.int .i64 B.k)
theorem AX.who{w:World}{b:Nat}{B:Bx}(h:AX w b B):fU w b B:=⟨h.cells.2.2.2.1,h.cells.2.2.2.2.1,h.cells.2.2.2.2.2.1,h.cells.2.2.2.2.2.2.1⟩
theorem Af{w w':World}(hb:Bw w w'){q:Addr}{v:Value}(h:w.cell? q=some v):w'.cell? q=some v:=Aj hb q v h
theorem IU{w:World}{b:Nat}{B:Bx}(h:AX w b B)(t:Th)(Q:Int)(V:0≤t.m∧t.m≤4095):
 Calls prog 76 #[pO b 0,t.v,iN Q] w fun e w'=>e=.returned (Am (B.mayE t Q))∧Bw w w':=by
 obtain⟨M,la,lc,xs,u,g,ca,cc,cs,k,q⟩:=B;obtain⟨d,m,F,G,p⟩:=t;show cL 76 #[pO b 0,.agg #[.bool d,iN m,iN F,iN G,.bool p],iN Q] w _;have R:Bw w (w.alloc (.cells #[.bool d,iN m,iN F,iN G,.bool p] 99)):=bN;have Y:Hid _:=R;have Z:=El.new w _ rfl d m F G p;obtain⟨c0,c1,c2,aa⟩:=(h.below R).who;obtain⟨ab,ad,ak,ao,ap⟩:=id Z;have T:Hid _:=aL u g k ca cc cs d m F G p Q ((w.alloc (.cells #[.bool d,iN m,iN F,iN G,.bool p] 99)).drew) (by have:=h.gcap;exact nP this.1 this.2) ((h.grp.below R).below (nv _ _).drew) V.1 V.2;obtain⟨ar,ay⟩:=AQ (I7 u g cs k d m F G p Q);have a1:Hid (Bx.mayE ⟨M,la,lc,xs,u,g,ca,cc,cs,k,q⟩ ⟨d,m,F,G,p⟩ Q=if ar=true then 0 else 9):=by
  show _=_;unfold Bx.mayE;rw[ay.out]
 rw[ay.out]at T;rw[a1.out];clear h R;go_enter func76,ntmps76;go_upto_region 1 with fail
 generalize a6:w.alloc (.cells #[.bool d,iN m,iN F,iN G,.bool p] 99)=J at*;clear a6;have H:Ce J.drew b 3 (iN u)∧Ce J.drew b 4 (iN g)∧Ce J.drew b 5 (.slice ca cs.length cc)∧Ce J.drew b 6 (iN k)∧Ce J.drew w.heap.size 0 (.bool d)∧Ce J.drew w.heap.size 1 (iN m)∧Ce J.drew w.heap.size 2 (iN F)∧Ce J.drew w.heap.size 3 (iN G)∧Ce J.drew w.heap.size 4 (.bool p):=⟨c0,c1,c2,aa,ab,ad,ak,ao,ap⟩;clear c0 c1 c2 aa ab ad ak ao ap;go_region_held3 (fun w'=>Ce w' b 3 (iN u)∧Ce w' b 4 (iN g)∧Ce w' b 5 (.slice ca cs.length cc)∧Ce w' b 6 (iN k)∧Ce w' w.heap.size 0 (.bool d)∧Ce w' w.heap.size 1 (iN m)∧Ce w' w.heap.size 2 (iN F)∧Ce w' w.heap.size 3 (iN G)∧Ce w' w.heap.size 4 (.bool p)) (first|exact H|exact az) (first|(go_at_call 127;refine np T.out ?_;rintro e O ⟨rfl,I⟩;have az:Ce O b 3 (iN u)∧Ce O b 4 (iN g)∧Ce O b 5 (.slice ca cs.length cc)∧Ce O b 6 (iN k)∧Ce O w.heap.size 0 (.bool d)∧Ce O w.heap.size 1 (iN m)∧Ce O w.heap.size 2 (iN F)∧Ce O w.heap.size 3 (iN G)∧Ce O w.heap.size 4 (.bool p):=⟨Af I H.1,Af I H.2.1,Af I H.2.2.1,Af I H.2.2.2.1,Af I H.2.2.2.2.1,Af I H.2.2.2.2.2.1,Af I H.2.2.2.2.2.2.1,Af I H.2.2.2.2.2.2.2.1,Af I H.2.2.2.2.2.2.2.2⟩))
 all_goals
  have a7:Hid _:=Y.out.drew.trans (I.mono Y.out.drew.size);clear H az I T Z;cases ar
  all_goals
   go_wp2;go_ret;exact⟨rfl,a7.out⟩
theorem Sm{w:World}{b:Nat}{B:Bx}(h:AX w b B)(t:Th):
 Calls prog 78 #[pO b 0,t.v] w fun e w'=>e=.returned (Am (B.ownE t))∧Bw w w':=by
 obtain⟨M,la,lc,xs,u,g,ca,cc,cs,k,q⟩:=B;obtain⟨d,m,F,I,p⟩:=t;show cL 78 #[pO b 0,.agg #[.bool d,iN m,iN F,iN I,.bool p]] w _;have Q:Bw w (w.alloc (.cells #[.bool d,iN m,iN F,iN I,.bool p] 99)):=bN;have T:Hid _:=Q;have V:=El.new w _ rfl d m F I p;obtain⟨c0,c1,c2,Y⟩:=(h.below Q).who;obtain⟨Z,aa,ab,ad,ak⟩:=id V;have R:Hid _:=Rh u g k (.slice ca cs.length cc) d m F I p ((w.alloc (.cells #[.bool d,iN m,iN F,iN I,.bool p] 99)).drew);obtain⟨ao,ap⟩:=AQ (Ii u k F p);have ay:Hid (Bx.ownE ⟨M,la,lc,xs,u,g,ca,cc,cs,k,q⟩ ⟨d,m,F,I,p⟩=if ao=true then 0 else 10):=by
  show _=_;unfold Bx.ownE;rw[ap.out]
 rw[ap.out]at R;rw[ay.out];clear h Q;go_enter func78,ntmps78;go_upto_region 1 with fail
 generalize az:w.alloc (.cells #[.bool d,iN m,iN F,iN I,.bool p] 99)=J at*;clear az;have G:Ce J.drew b 3 (iN u)∧Ce J.drew b 4 (iN g)∧Ce J.drew b 5 (.slice ca cs.length cc)∧Ce J.drew b 6 (iN k)∧Ce J.drew w.heap.size 0 (.bool d)∧Ce J.drew w.heap.size 1 (iN m)∧Ce J.drew w.heap.size 2 (iN F)∧Ce J.drew w.heap.size 3 (iN I)∧Ce J.drew w.heap.size 4 (.bool p):=⟨c0,c1,c2,Y,Z,aa,ab,ad,ak⟩;clear c0 c1 c2 Y Z aa ab ad ak;go_region_held3 (fun w'=>Ce w' b 3 (iN u)∧Ce w' b 4 (iN g)∧Ce w' b 5 (.slice ca cs.length cc)∧Ce w' b 6 (iN k)∧Ce w' w.heap.size 0 (.bool d)∧Ce w' w.heap.size 1 (iN m)∧Ce w' w.heap.size 2 (iN F)∧Ce w' w.heap.size 3 (iN I)∧Ce w' w.heap.size 4 (.bool p)) (first|exact G|exact ar) (first|(go_at_call 130;refine np R.out ?_;rintro e O ⟨rfl,H⟩;have ar:Ce O b 3 (iN u)∧Ce O b 4 (iN g)∧Ce O b 5 (.slice ca cs.length cc)∧Ce O b 6 (iN k)∧Ce O w.heap.size 0 (.bool d)∧Ce O w.heap.size 1 (iN m)∧Ce O w.heap.size 2 (iN F)∧Ce O w.heap.size 3 (iN I)∧Ce O w.heap.size 4 (.bool p):=⟨Af H G.1,Af H G.2.1,Af H G.2.2.1,Af H G.2.2.2.1,Af H G.2.2.2.2.1,Af H G.2.2.2.2.2.1,Af H G.2.2.2.2.2.2.1,Af H G.2.2.2.2.2.2.2.1,Af H G.2.2.2.2.2.2.2.2⟩))
 all_goals
  have a1:Hid _:=T.out.drew.trans (H.mono T.out.drew.size);clear G ar H R V;cases ao
  all_goals
   go_wp2;go_ret;exact⟨rfl,a1.out⟩
def A7(w:World)(b p:Nat)(F:List Value):Prop:=∀i v,F[i]? =some v→w.cell? ⟨b,p+i,none⟩=some v
def GV(w:World)(b p:Nat):List Value→World
 |[]=>w
 |v::l=>GV (w.setCell ⟨b,p,none⟩ v) b (p+1) l
theorem IM{b:Nat}{q:Addr}:∀(F:List Value) (w:World) (p:Nat),(∀j,j<F.length→q≠(aD b (p+j)))→(GV w b p F).cell? q=w.cell? q
 |[],_,_,_=>rfl
 |v::l,w,p,h=>by
  rw[GV,IM l _ (p+1) (fun j G=>by
   have:=h (j+1) (by rw[n3];omega);rwa [show p+1+j=p+(j+1) by omega])]
  exact nA _ _ _ _ (fun e=>h 0 (by simp) (by rw[←e];rfl))
theorem Ve{b:Nat}:∀(F us:List Value) (w:World) (p:Nat),us.length=F.length→A7 w b p us→A7 (GV w b p F) b p F
 |[],_,_,_,_,_=>fun i v h=>by simp at h
 |v::l,[],_,_,h,_=>by simp at h
 |v::l,u::us,w,p,hl,hr=>by
  have G:A7 (w.setCell (aD b p) v) b (p+1) us:=fun i x hx=>by
   rw[nA _ _ _ _ (fun e=>by injection e with _ e2;omega)];have:=hr (i+1) x (by simpa using hx);rwa [show p+1+i=p+(i+1) by omega]
  have H:=Ve l us (w.setCell (aD b p) v) (p+1) (by simpa using hl) G;intro i x hx;rw[GV];cases i with
  |zero=>
   rw[IM l _ (p+1) (fun j _ e=>by injection e with _ e2;omega)];have:v=x:=by simpa using hx
   subst this;exact nI _ _ _ (hr 0 u rfl)
  |succ i=>
   have:=H i x (by simpa using hx);rwa [show p+(i+1)=p+1+i by omega]
theorem Xg{b:Nat}{q:Addr}:∀(F:List Value) (w:World) (p:Nat),(GV w b p F).frozen? q=w.frozen? q
 |[],_,_=>rfl
 |v::l,w,p=>by rw[GV,Xg l];simp
theorem Rw{n b:Nat}{F:World}(G:n≤b):∀(H:List Value) (w:World) (p:Nat),Below n F w→Below n F (GV w b p H)
 |[],_,_,h=>h
 |_v::l,_w,_p,h=>Rw G l _ _ (h.setCell G _)
theorem A7.below{w w':World}{b p:Nat}{F:List Value}(h:A7 w b p F)(hb:Bw w w'):A7 w' b p F:=fun i v G=>Af hb (h i v G)
theorem A7.new(w:World)(b:Nat)(hb:b=w.heap.size)(F:List Value)(t:TypeId):A7 (w.alloc (.cells F.toArray t)) b 0 F:=fun i v G=>by
 rw[nl _ _ _ _ hb];simpa using G
theorem Id(b:Nat):∀(F:List Value) (w:World) (p:Nat),GV w b p F=w.setCells b p F
 |[],_,_=>rfl
 |v::l,w,p=>by rw[GV,World.setCells,Id b l]
theorem BP{w:World}{b p:Nat}{F:List Value}{q:Addr}(G:q.block≠b):(w.setCells b p F).cell? q=w.cell? q:=by
 rw[←Id];exact IM _ _ _ (fun j _ e=>G (by rw[e]))
theorem Dh{w:World}{b p:Nat}(F:List Value){us:List Value}(h:A7 w b p us)(G:us.length=F.length):A7 (w.setCells b p F) b p F:=by
 rw[←Id];exact Ve _ us _ _ G h
theorem CX{F w:World}{n b p:Nat}(G:List Value)(H:n≤b)(h:Below n F w):Below n F (w.setCells b p G):=by
 rw[←Id];exact Rw H _ _ _ h
theorem Cd{P:Program}{w:World}{b:Nat}{us cs:List Value}(h:A7 w b 0 us)(F:∀q,w.frozen? (aD b q)=false)(H:us.length=cs.length)(G:∀v∈cs,v.oneCell'=true):(storeCells (aD b 0) cs 0).run P w=.ok () (w.setCells b 0 cs):=
 run_storeCells_cells b 0 cs 0 w (fun j I=>by rw[rT,h j us[j] (nt (by omega))];rfl) (fun j _=>F _) G
def FX(F cs:List Value):Prop:=F=cs
def BT(cs:List Value):Value:=.agg cs.toArray
theorem BV(cs:List Value):(BT cs).cells=cs.toArray:=rfl
structure Fd where
 t:Th
 dir:Th
 na:Option Addr
 nc:Nat
 nf:List BA
 there:Bool
 x:Nd
 h:Hd
 ly:Int
abbrev Th.l(t:Th):List Value:=[.bool t.d,.int .i64 t.m,.int .i64 t.u,.int .i64 t.g,.bool t.p]
def Fd.l(f:Fd):List Value:=f.t.l++f.dir.l++[.slice f.na f.nf.length f.nc,.bool f.there]++Bl f.x f.h++[.int .i64 f.ly]
def Fd.v(f:Fd):Value:=.agg f.l.toArray
def Ds:Fd:=⟨Jb,Jb,none,0,[],false,zN,zH,0⟩
theorem aW(x:Nd)(h:Hd):∀v∈Bl x h,v.oneCell'=true:=by
 obtain⟨k,m,u,g,o,nh,d,ks⟩:=x;simp[Bl,Value.oneCell']
theorem D4(f:Fd):f.l.length=21:=by
 obtain⟨t,dir,na,nc,nf,F,x,h,ly⟩:=f;obtain⟨k,m,u,g,o,nh,d,ks⟩:=x;rfl
theorem Ej(f:Fd):∀v∈f.l,v.oneCell'=true:=by
 intro v F;unfold Fd.l at F;simp only[rd]at F;rcases F with(((F|F)|F)|F)|F
 ·revert v;simp[Value.oneCell']
 ·revert v;simp[Value.oneCell']
 ·revert v;simp[Value.oneCell']
 ·exact aW _ _ _ F
 ·revert v;simp[Value.oneCell']
def Bx.passE(B:Bx)(t:Th):Int:=if t.d=false then 7 else B.mayE t 1
theorem dQ{B:Bx}{t:Th}{F:Int}:B.mayE t F=0∨B.mayE t F=9:=by unfold Bx.mayE;split<;>simp
theorem Zn{w:World}{b:Nat}{B:Bx}(h:AX w b B)(t:Th)(R:0≤t.m∧t.m≤4095):
 Calls prog 156 #[.pointer (some ⟨b,0,none⟩),t.v] w fun e w'=>e=.returned (Am (B.passE t))∧Bw w w':=by
 obtain⟨d,m,F,G,p⟩:=t;have H:Bw w (w.alloc (.cells #[.bool d,iN m,iN F,iN G,.bool p] 99)):=bN;have J:=El.new w _ rfl d m F G p;obtain⟨V,Y,Z,aa,ab⟩:=id J;have O:Hid _:=IU (h.below H) ⟨d,m,F,G,p⟩ 1 R;have Q:Hid (B.passE ⟨d,m,F,G,p⟩=if d=false then 7 else B.mayE ⟨d,m,F,G,p⟩ 1):=rfl;have I:Hid _:=H;rw[Q.out];generalize B.mayE ⟨d,m,F,G,p⟩ 1=ad at O⊢;clear h Q J H;show cL 156 #[pO b 0,.agg #[.bool d,iN m,iN F,iN G,.bool p]] w _;cases d
 ·go_enter func156,ntmps156
  go_wp2;go_ret;exact⟨rfl,I.out⟩
 ·go_enter func156,ntmps156
  go_wp2_with fail
  refine np O.out ?_;rintro e ak ⟨rfl,T⟩;go_wp2;go_ret;exact⟨rfl,I.out.trans (T.mono I.out.size)⟩
def Bx.th(B:Bx)(up:Bool):Nd→Th
 |.mk k m u g _ _ _ _=>⟨k==2,m,(Dp up B.M.us u).getD 65534,(Dp up B.M.gs g).getD 65534,(Dp up B.M.us u).isSome&&(Dp up B.M.gs g).isSome⟩
theorem Yi{W:World}{x:Nd}{h:Hd}(hid:Ez x){B:Bx}(F:Ek W B.M)(up:Bool):
 Calls prog 181 #[B.M.v,Al x h,.bool up] W fun e G=>e=.returned (B.th up x).v∧Bw W G:=by
 cases up
 ·have:=Xt (h:=h) hid F
  obtain⟨k,m,u,g,o,nh,d,ks⟩:=x;exact this
 ·have:=YU (h:=h) hid F
  obtain⟨k,m,u,g,o,nh,d,ks⟩:=x;exact this
def Bx.fd(B:Bx)(x:Nd)(h:Hd)(ly:Int):Fd:=⟨B.th (ly==0) x,Jb,none,0,[],true,x,h,ly⟩
theorem Ov{w:World}{b:Nat}{B:Bx}(h:AX w b B){x:Nd}{hx:Hd}(hid:Ez x)(ly:Int):
 Calls prog 155 #[.pointer (some ⟨b,0,none⟩),Al x hx,.int .i64 ly] w fun e w'=>e=.returned (B.fd x hx ly).v∧Bw w w':=by
 obtain⟨bf,ap⟩:=AQ (B.th (ly==0) x);unfold Bx.fd;rw[ap.out];obtain⟨k,m,u,g,o,nh,d,ks⟩:=x;have aa:Bw w ((w.alloc (As k m u g o nh d ks hx)).alloc AU):=bN.alloc (by simp) _;have ak:Hid _:=Yi (h:=hx) (x:=.mk k m u g o nh d ks) hid ((h.below aa).below (nv _ _).drew).maps (ly==0);rw[ap.out]at ak;have ar:=A7.new w _ rfl [iN k,iN m,iN u,iN g,.bool o,.slice hx.aa nh.length hx.ca,.string d,.slice hx.ak ks.length hx.ck] 54;have ay:=A7.new (w.alloc (As k m u g o nh d ks hx)) (w.heap.size+1) (by simp) CJ 101;have O:=ar.below ((nv _ _).alloc (nn _) AU);obtain⟨c0,c1,_⟩:=(h.below aa).cells;have fz:∀q,Fz ((w.alloc (As k m u g o nh d ks hx)).alloc AU).drew (w.heap.size+1) q:=fun q=>nQ _ _ _ _ (by simp);have az:Hid _:=aa
 have a1:b≠w.heap.size+1:=fun e=>by have:=h.lt;omega
 clear h ar aa;show cL 155 #[pO b 0,(A5 k m u g o nh d ks hx),iN ly] w _;go_enter func155,ntmps155;go_upto_region 1 with fail
 generalize bg:((w.alloc (As k m u g o nh d ks hx)).alloc AU)=H at*;clear bg;have I:Ce H.drew b 0 (.slice B.M.ua B.M.us.length B.M.uc)∧Ce H.drew b 1 (.slice B.M.ga B.M.gs.length B.M.gc)∧Ce H.drew w.heap.size 0 (iN k)∧Ce H.drew w.heap.size 1 (iN m)∧Ce H.drew w.heap.size 2 (iN u)∧Ce H.drew w.heap.size 3 (iN g)∧Ce H.drew w.heap.size 4 (.bool o)∧Ce H.drew w.heap.size 5 (.slice hx.aa nh.length hx.ca)∧Ce H.drew w.heap.size 6 (.string d)∧Ce H.drew w.heap.size 7 (.slice hx.ak ks.length hx.ck):=⟨c0,c1,O 0 _ rfl,O 1 _ rfl,O 2 _ rfl,O 3 _ rfl,O 4 _ rfl,O 5 _ rfl,O 6 _ rfl,O 7 _ rfl⟩;have ab:A7 H.drew (w.heap.size+1) 0 _:=fun i v bi=>ay i v bi;have a6:w.heap.size+1<H.drew.heap.size:=bL (ab 0 _ rfl)
 clear ay;obtain⟨Q,R,T,V,Y⟩:=bf;have a7:Hid (cL 181 #[.agg #[.slice B.M.ua B.M.us.length B.M.uc,.slice B.M.ga B.M.gs.length B.M.gc],(A5 k m u g o nh d ks hx),.bool (ly==0)] H.drew fun e bk=>e=.returned (.agg #[.bool Q,iN R,iN T,iN V,.bool Y])∧Bw H.drew bk):=ak.out;obtain⟨cs,Z⟩:∃cs:List Value,FX [.bool Q,iN R,iN T,iN V,.bool Y,.bool false,iN 0,iN 0,iN 0,.bool false,nL,.bool true,iN k,iN m,iN u,iN g,.bool o,.slice hx.aa nh.length hx.ca,.string d,.slice hx.ak ks.length hx.ck,iN ly] cs:=⟨_,rfl⟩;have a8:cs.length=21:=by rw[←(show _=_ from Z)];rfl
 have ad:Hid (cs.length=21):=a8;have ba:Hid (∀v∈cs,v.oneCell'=true):=by
  show∀v∈cs,_;rw[←(show _=_ from Z)];simp[Value.oneCell']
 have bl:Value.agg #[.bool Q,iN R,iN T,iN V,.bool Y,.bool false,iN 0,iN 0,iN 0,.bool false,nL,.bool true,iN k,iN m,iN u,iN g,.bool o,.slice hx.aa nh.length hx.ca,.string d,.slice hx.ak ks.length hx.ck,iN ly]=BT cs:=by rw[←(show _=_ from Z)];rfl
 have bb:=BV cs;unfold Value.cells at bb;clear ak c0 c1 O;go_region_held3 (fun w'=>Ce w' b 0 (.slice B.M.ua B.M.us.length B.M.uc)∧Ce w' b 1 (.slice B.M.ga B.M.gs.length B.M.gc)∧Ce w' w.heap.size 0 (iN k)∧Ce w' w.heap.size 1 (iN m)∧Ce w' w.heap.size 2 (iN u)∧Ce w' w.heap.size 3 (iN g)∧Ce w' w.heap.size 4 (.bool o)∧Ce w' w.heap.size 5 (.slice hx.aa nh.length hx.ca)∧Ce w' w.heap.size 6 (.string d)∧Ce w' w.heap.size 7 (.slice hx.ak ks.length hx.ck)) (first|with_reducible exact I|with_reducible exact J|with_reducible exact bd) (first|(go_at_call 181;refine np a7.out ?_;rintro e F ⟨rfl,G⟩;have J:Ce F b 0 (.slice B.M.ua B.M.us.length B.M.uc)∧Ce F b 1 (.slice B.M.ga B.M.gs.length B.M.gc)∧Ce F w.heap.size 0 (iN k)∧Ce F w.heap.size 1 (iN m)∧Ce F w.heap.size 2 (iN u)∧Ce F w.heap.size 3 (iN g)∧Ce F w.heap.size 4 (.bool o)∧Ce F w.heap.size 5 (.slice hx.aa nh.length hx.ca)∧Ce F w.heap.size 6 (.string d)∧Ce F w.heap.size 7 (.slice hx.ak ks.length hx.ck):=⟨Af G I.1,Af G I.2.1,Af G I.2.2.1,Af G I.2.2.2.1,Af G I.2.2.2.2.1,Af G I.2.2.2.2.2.1,Af G I.2.2.2.2.2.2.1,Af G I.2.2.2.2.2.2.2.1,Af G I.2.2.2.2.2.2.2.2.1,Af G I.2.2.2.2.2.2.2.2.2⟩;have bd:Ce (F.setCells (w.heap.size+1) 0 cs) b 0 (.slice B.M.ua B.M.us.length B.M.uc)∧Ce (F.setCells (w.heap.size+1) 0 cs) b 1 (.slice B.M.ga B.M.gs.length B.M.gc)∧Ce (F.setCells (w.heap.size+1) 0 cs) w.heap.size 0 (iN k)∧Ce (F.setCells (w.heap.size+1) 0 cs) w.heap.size 1 (iN m)∧Ce (F.setCells (w.heap.size+1) 0 cs) w.heap.size 2 (iN u)∧Ce (F.setCells (w.heap.size+1) 0 cs) w.heap.size 3 (iN g)∧Ce (F.setCells (w.heap.size+1) 0 cs) w.heap.size 4 (.bool o)∧Ce (F.setCells (w.heap.size+1) 0 cs) w.heap.size 5 (.slice hx.aa nh.length hx.ca)∧Ce (F.setCells (w.heap.size+1) 0 cs) w.heap.size 6 (.string d)∧Ce (F.setCells (w.heap.size+1) 0 cs) w.heap.size 7 (.slice hx.ak ks.length hx.ck):=⟨(BP a1).trans (J.1),(BP a1).trans (J.2.1),(BP (by simp)).trans (J.2.2.1),(BP (by simp)).trans (J.2.2.2.1),(BP (by simp)).trans (J.2.2.2.2.1),(BP (by simp)).trans (J.2.2.2.2.2.1),(BP (by simp)).trans (J.2.2.2.2.2.2.1),(BP (by simp)).trans (J.2.2.2.2.2.2.2.1),(BP (by simp)).trans (J.2.2.2.2.2.2.2.2.1),(BP (by simp)).trans (J.2.2.2.2.2.2.2.2.2)⟩;have bn:=Cd (P:=prog) (ab.below G) (fun q=>(G.frozen (p:=(aD (w.heap.size+1) q)) a6).trans (fz q)) ad.out.symm ba.out))
 have ao:Hid _:=Dh cs (ab.below G) ad.out.symm;have be:Hid _:=CX (b:=w.heap.size+1) (p:=0) cs (show w.heap.size≤w.heap.size+1 by omega) (az.out.drew.trans (G.mono az.out.drew.size));generalize(F.setCells (w.heap.size+1) 0 cs)=bo at ao be⊢;have bp:Hid (Fd.v _=.agg cs.toArray):=(nW (fun l:List Value=>Value.agg l.toArray) (show [.bool Q,iN R,iN T,iN V,.bool Y,.bool false,iN 0,iN 0,iN 0,.bool false,nL,.bool true,iN k,iN m,iN u,iN g,.bool o,.slice hx.aa nh.length hx.ca,.string d,.slice hx.ak ks.length hx.ck,iN ly]=cs from Z):Fd.v ⟨⟨Q,R,T,V,Y⟩,Jb,none,0,[],true,.mk k m u g o nh d ks,hx,ly⟩=_);have bs:=run_loadVar_mid (P:=prog) bo (w.heap.size+1) 0 101 cs _ ao.out rfl rfl (by rw[ad.out];rfl);clear I J bd G ab a7 fz a6 bn bl bb a8 ad ba Z ao;go_wp2;refine nG (v:=.agg cs.toArray) ?_ rfl ⟨nW Ending.returned bp.out.symm,be.out⟩;simp[results,results155,asAddr,bs]
theorem A7.new2(w:World)(b:Nat)(hb:b=w.heap.size)(cs:List Value)(t:TypeId):A7 (w.alloc (.cells cs.toArray t)) b 0 cs:=A7.new w b hb cs t
theorem PU(w:World)(cs:List Value)(F:cs.length=21)(ad:∀v∈cs,v.oneCell'=true)(Y:Bool)(ay:cs[11]? =some (.bool Y))(E:Int):
 Calls prog 72 #[BT cs,Am E] w fun e w'=>(e=.returned (if E=0∧Y=false then .tuple #[Ds.v,Am 5]else .tuple #[BT cs,Am E]))∧Bw w w':=by
 have J:=A7.new2 w _ rfl cs 101;have ak:Bw w (w.alloc (.cells cs.toArray 101)):=bN;have I:=A7.new (w.alloc (.cells cs.toArray 101)) (w.heap.size+1) (by simp) CJ 101;have ao:Bw w ((w.alloc (.cells cs.toArray 101)).alloc AU):=ak.alloc (by simp) _;have J:=J.below (w':=((w.alloc (.cells cs.toArray 101)).alloc AU)) bN;have a7:=J 11 _ ay;have az:=BV cs;unfold Value.cells at az;go_enter func72,ntmps72;go_upto_region 1 with fail
 have fz:∀q,Fz ((w.alloc (.cells cs.toArray 101)).alloc AU) (w.heap.size+1) q:=fun q=>nQ _ _ _ _ (by simp);have Z:Hid _:=ao
 clear ak ao;generalize(w.alloc (.cells cs.toArray 101)).alloc AU=aa at*;by_cases O:E=0
 ·subst O
  rw[show Am 0=Value.nilIface from rfl];cases Y
  ·obtain⟨c0,V⟩:∃cs:List Value,FX CJ cs:=⟨_,rfl⟩
   have ab:c0.length=21:=by rw[←(show _=_ from V)];rfl
   have a1:=hid ab;have ap:∀v∈c0,v.oneCell'=true:=by
    rw[←(show _=_ from V)];simp[Value.oneCell']
   have Q:=Cd (P:=prog) I fz ab.symm ap;have G:Hid _:=Dh c0 I ab.symm;have H:Hid _:=CX (b:=w.heap.size+1) (p:=0) c0 (show w.heap.size≤w.heap.size+1 by omega) Z.out;generalize aa.setCells (w.heap.size+1) 0 c0=R at Q G H;have T:=run_loadVar_mid (P:=prog) R (w.heap.size+1) 0 101 c0 _ G.out rfl rfl (by rw[a1.out];rfl);have a8:Value.agg #[.bool false,iN 0,iN 0,iN 0,.bool false,.bool false,iN 0,iN 0,iN 0,.bool false,nL,.bool false,iN 0,iN 0,iN 0,iN 0,.bool false,nL,.string ⟨#[]⟩,nL,iN 0]=BT c0:=by rw[←(show _=_ from V)];rfl
   have a6:=BV c0;unfold Value.cells at a6;have ar:Hid (Ds.v=.agg c0.toArray):=nW (fun l:List Value=>Value.agg l.toArray) (show CJ=c0 from V);clear ap;go_wp2;refine nG (v:=.tuple #[.agg c0.toArray,Am 5]) ?_ rfl ⟨by first|rw[ar.out]|rw[nD ⟨rfl,rfl⟩,ar.out],H.out⟩;simp[results,results72,asAddr,T,Am]
  ·go_upto_region 3 with fail
   refine rU ?_;refine wpList_load_mid rfl _ _ rfl _ _ rfl cs _ J rfl rfl (by rw[F];rfl) ?_;simp only[tk];have Q:=Cd (P:=prog) I fz (by rw[F];rfl) ad;have G:Hid _:=Dh cs I (by rw[F];rfl);have H:Hid _:=CX (b:=w.heap.size+1) (p:=0) cs (show w.heap.size≤w.heap.size+1 by omega) Z.out;generalize aa.setCells (w.heap.size+1) 0 cs=R at Q G H;have T:=run_loadVar_mid (P:=prog) R (w.heap.size+1) 0 101 cs _ G.out rfl rfl (by rw[F];rfl);go_wp2;refine nG (v:=.tuple #[.agg cs.toArray,.nilIface]) ?_ rfl ⟨by first|rfl|(rw[nC (by simp)];rfl),H.out⟩;simp[results,results72,asAddr,T]
 ·rw[show Am E=.iface 78 (iN E)from AG rfl O]
  go_upto_region 3 with fail
  refine rU ?_;refine wpList_load_mid rfl _ _ rfl _ _ rfl cs _ J rfl rfl (by rw[F];rfl) ?_;simp only[tk];have Q:=Cd (P:=prog) I fz (by rw[F];rfl) ad;have G:Hid _:=Dh cs I (by rw[F];rfl);have H:Hid _:=CX (b:=w.heap.size+1) (p:=0) cs (show w.heap.size≤w.heap.size+1 by omega) Z.out;generalize aa.setCells (w.heap.size+1) 0 cs=R at Q G H;have T:=run_loadVar_mid (P:=prog) R (w.heap.size+1) 0 101 cs _ G.out rfl rfl (by rw[F];rfl);go_wp2;refine nG (v:=.tuple #[.agg cs.toArray,.iface 78 (iN E)]) ?_ rfl ⟨by first|(rw[nC (fun q=>O q.1),AG rfl O];rfl)|(rw[AG rfl O];rfl)|rfl,H.out⟩;simp[results,results72,asAddr,T]
def Bx.takE(B:Bx)(t dir:Th):Int:=if B.mayE dir 2≠0 then 9 else if JK B.u B.k dir.m dir.u dir.p t.u t.p=true then 0 else 10
theorem Od{w:World}{b:Nat}{B:Bx}(h:AX w b B)(O:List Value)(t dir:Th)(bb:O.take 10=t.l++dir.l)(bs:0≤dir.m∧dir.m≤4095):
 Calls prog 86 #[.pointer (some ⟨b,0,none⟩),BT O] w fun e w'=>e=.returned (Am (B.takE t dir))∧Bw w w':=by
 have bd:=A7.new2 w _ rfl O 101;have ar:Bw w (w.alloc (.cells O.toArray 101)):=bN;have az:Hid _:=IU (h.below ar) dir 2 bs;have be:=h.below ar;obtain⟨a1,a6⟩:=AQ (B.mayE dir 2);have bu:a1=0∨a1=9:=by rw[←a6.out];exact dQ
 obtain⟨bf,bg⟩:=AQ (JK B.u B.k dir.m dir.u dir.p t.u t.p);have bi:Hid (B.takE t dir=if a1≠0 then 9 else if bf=true then 0 else 10):=by show _=_;unfold Bx.takE;rw[a6.out,bg.out]
 rw[bi.out];rw[a6.out]at az;clear h bi;obtain⟨M,la,lc,xs,u,g,ca,cc,cs,k,q⟩:=B;obtain⟨Q,R,T,V,Y⟩:=t;obtain⟨Z,aa,ab,ad,ak⟩:=dir;have bk:∀i v,([.bool Q,iN R,iN T,iN V,.bool Y,.bool Z,iN aa,iN ab,iN ad,.bool ak]:List Value)[i]? =some v→O[i]? =some v:=fun i v ap=>by
  have e:O.take 10=[.bool Q,iN R,iN T,iN V,.bool Y,.bool Z,iN aa,iN ab,iN ad,.bool ak]:=bb;rw[←e,rL]at ap;split at ap
  ·exact ap
  ·cases ap
 have bv:=BV O;unfold Value.cells at bv;have ao:A7 (w.alloc (.cells O.toArray 101)) w.heap.size 0 [.bool Q,iN R,iN T,iN V,.bool Y,.bool Z,iN aa,iN ab,iN ad,.bool ak]:=fun i v ap=>bd i v (bk i v ap);clear bd bk bb
 have a7:Hid _:=ar;have bl:=hid az.out;clear az ar;go_enter func86,ntmps86;have bx:=ao 5 _ rfl;have bA:=ao 6 _ rfl;have bB:=ao 7 _ rfl;have bC:=ao 8 _ rfl;have bF:=ao 9 _ rfl;go_wp2_with fail
 refine np bl.out ?_;rintro e H ⟨rfl,ay⟩;have a8:Hid _:=a7.out.trans (ay.mono a7.out.size);have bn:=be.below ay;have J:=ao.below ay;clear bx bA bB bC bF bl a7 be ao ay;rcases bu with rfl|rfl
 ·have ba:Hid _:=XB u g k (.slice ca cs.length cc) Z aa ab ad ak Q R T V Y H.drew
  rw[bg.out]at ba;obtain⟨c0,c1,c2,bo⟩:=bn.who;have F:Ce H.drew b 3 (iN u)∧Ce H.drew b 4 (iN g)∧Ce H.drew b 5 (.slice ca cs.length cc)∧Ce H.drew b 6 (iN k)∧Ce H.drew w.heap.size 0 (.bool Q)∧Ce H.drew w.heap.size 1 (iN R)∧Ce H.drew w.heap.size 2 (iN T)∧Ce H.drew w.heap.size 3 (iN V)∧Ce H.drew w.heap.size 4 (.bool Y)∧Ce H.drew w.heap.size 5 (.bool Z)∧Ce H.drew w.heap.size 6 (iN aa)∧Ce H.drew w.heap.size 7 (iN ab)∧Ce H.drew w.heap.size 8 (iN ad)∧Ce H.drew w.heap.size 9 (.bool ak):=⟨c0,c1,c2,bo,J 0 _ rfl,J 1 _ rfl,J 2 _ rfl,J 3 _ rfl,J 4 _ rfl,J 5 _ rfl,J 6 _ rfl,J 7 _ rfl,J 8 _ rfl,J 9 _ rfl⟩;clear c0 c1 c2 bo bn J;rw[show Am 0=Value.nilIface from rfl];go_upto_region 4 with fail
  go_region_held3 (fun w'=>Ce w' b 3 (iN u)∧Ce w' b 4 (iN g)∧Ce w' b 5 (.slice ca cs.length cc)∧Ce w' b 6 (iN k)∧Ce w' w.heap.size 0 (.bool Q)∧Ce w' w.heap.size 1 (iN R)∧Ce w' w.heap.size 2 (iN T)∧Ce w' w.heap.size 3 (iN V)∧Ce w' w.heap.size 4 (.bool Y)∧Ce w' w.heap.size 5 (.bool Z)∧Ce w' w.heap.size 6 (iN aa)∧Ce w' w.heap.size 7 (iN ab)∧Ce w' w.heap.size 8 (iN ad)∧Ce w' w.heap.size 9 (.bool ak)) (first|with_reducible exact F|with_reducible exact bp) (first|(go_at_call 137;refine np ba.out ?_;rintro e I ⟨rfl,G⟩;have bp:Ce I b 3 (iN u)∧Ce I b 4 (iN g)∧Ce I b 5 (.slice ca cs.length cc)∧Ce I b 6 (iN k)∧Ce I w.heap.size 0 (.bool Q)∧Ce I w.heap.size 1 (iN R)∧Ce I w.heap.size 2 (iN T)∧Ce I w.heap.size 3 (iN V)∧Ce I w.heap.size 4 (.bool Y)∧Ce I w.heap.size 5 (.bool Z)∧Ce I w.heap.size 6 (iN aa)∧Ce I w.heap.size 7 (iN ab)∧Ce I w.heap.size 8 (iN ad)∧Ce I w.heap.size 9 (.bool ak):=⟨Af G F.1,Af G F.2.1,Af G F.2.2.1,Af G F.2.2.2.1,Af G F.2.2.2.2.1,Af G F.2.2.2.2.2.1,Af G F.2.2.2.2.2.2.1,Af G F.2.2.2.2.2.2.2.1,Af G F.2.2.2.2.2.2.2.2.1,Af G F.2.2.2.2.2.2.2.2.2.1,Af G F.2.2.2.2.2.2.2.2.2.2.1,Af G F.2.2.2.2.2.2.2.2.2.2.2.1,Af G F.2.2.2.2.2.2.2.2.2.2.2.2.1,Af G F.2.2.2.2.2.2.2.2.2.2.2.2.2⟩))
  all_goals
   have bG:Hid _:=a8.out.drew.trans (G.mono a8.out.drew.size);clear F bp G ba;cases bf
   all_goals
    go_wp2;go_ret;exact⟨rfl,bG.out⟩
 ·rw[show Am 9=.iface 78 (iN 9)from rfl]
  go_wp2;go_ret;exact⟨rfl,a8.out⟩
end Go.Proofs.YtofhphibahcniaaGreatDoor
namespace Go.Proofs.YtofhphibahcniaaGreatDoor
open Go.RowKit Go.Shelf Go.Proofs.Tryz
def Bj:List Fl→List Value
 |[]=>[]
 |f::r=>Bl f.x f.h++Bj r
def Fk:List Fl→List Value
 |[]=>[]
 |f::r=>.int .i64 f.ly::Fk r
theorem L0:∀F:List Fl,(Bj F).length=F.length*8
 |[]=>rfl
 |f::r=>by simp[Bj,L0 r,D1];omega
theorem LZ:∀A B:List Fl,Bj (A++B)=Bj A++Bj B
 |[],_=>rfl
 |f::r,B=>by simp[Bj,LZ r B]
theorem TZ:∀A B:List Fl,Fk (A++B)=Fk A++Fk B
 |[],_=>rfl
 |f::r,B=>by simp[Fk,TZ r B]
theorem JD:∀(G:List Fl) (i:Nat) (f:Fl),G[i]? =some f→∀q u,(Bl f.x f.h)[q]? =some u→(Bj G)[i*8+q]? =some u
 |[],i,f,hi=>by simp at hi
 |g::r,0,f,hi=>by
  simp at hi;subst hi;intro q u F;have H:=(ny.1 F).1;rw[r3,nU,Bj,rH H];exact F
 |g::r,i+1,f,hi=>by
  intro q u F;have:=JD r i f (by simpa using hi) q u F;rw[Bj,ro (by simp[D1];omega),D1,show(i+1)*8+q-8=i*8+q by omega];exact this
theorem Ok:∀(F:List Fl) (i:Nat) (f:Fl),F[i]? =some f→(Fk F)[i]? =some (iN f.ly)
 |[],i,f,hi=>by simp at hi
 |g::r,0,f,hi=>by simp at hi;subst hi;rfl
 |g::r,i+1,f,hi=>by
  have:=Ok r i f (by simpa using hi);simpa [Fk]using this
def Cc(n₀:Nat)(vn vf:Value)(S:Nat→Bool):Nat→Bool:=fun k=>(k==n₀||k==n₀+1||k==n₀+1+1+1+1+1)||(vn.ownBlock==some k||vf.ownBlock==some k)||S k
structure FC (S:Nat→Bool) (n₀:Nat) (A:World) (vn vf:Value) (L L2:List Fl):Prop where
 rn:A.ownsRow (n₀+1+1) 54 8 vn L.length (Bj L)
 rf:A.ownsRow (n₀+1+1) 3 1 vf L2.length (Fk L2)
 ne:∀g,vn.ownBlock=some g→vf.ownBlock≠some g
 nd:∀f∈L,Ah (Ag A.cell? (Cc n₀ vn vf S)) f.x f.h
structure FZ (S:Nat→Bool) (w A:World) (xs:List Nd) (nf:List BA) (st:Loop) (i:Nat) (Sx:Nat→Bool):Prop where
 low:Below w.heap.size w A
 bx:∃vn vf L,Boxed A w.heap.size 30 vn∧Boxed A (w.heap.size+1) 25 vf∧FC S w.heap.size A vn vf L L∧L.length=i∧(∀(j:Nat) f,L[j]? =some f→∃q r,AI xs (nf.take j)=q::r∧f.x=q.1.with []∧f.ly=q.2)∧Sx=Cc w.heap.size vn vf S
 dk:A.heap[w.heap.size+1+1+1+1]? =some (.deferred (some []))
 lk:A.heap[w.heap.size+1+1+1+1+1]? =some (.loop st)
theorem FC.below{S:Nat→Bool}{n₀:Nat}{A B:World}{vn vf:Value}{L F:List Fl}(h:FC S n₀ A vn vf L F)(hb:Below A.heap.size A B):FC S n₀ B vn vf L F:=
 ⟨Fp h.rn hb,Fp h.rf hb,h.ne,fun f G=>(h.nd f G).on (CN hb)⟩
theorem FZ.keep{S:Nat→Bool}{w A B:World}{xs:List Nd}{nf:List BA}{st:Loop}{i:Nat}{Sx:Nat→Bool}(h:FZ S w A xs nf st i Sx)(hb:Below A.heap.size A B):FZ S w B xs nf st i Sx:=by
 obtain⟨vn,vf,L,F,G,H,I,J,O⟩:=h.bx;exact⟨h.low.trans (hb.mono h.low.size),⟨vn,vf,L,Et F hb,Et G hb,H.below hb,I,J,O⟩,(hb.block _ (nJ.1 h.dk).1).trans h.dk,(hb.block _ (nJ.1 h.lk).1).trans h.lk⟩
theorem FZ.hid{S:Nat→Bool}{w A:World}{xs:List Nd}{nf:List BA}{st:Loop}{i:Nat}{Sx:Nat→Bool}(H:∀k,S k=true→k<w.heap.size)(h:FZ S w A xs nf st i Sx):∀k,Sx k=true→k<A.heap.size:=fun k F=>by
 obtain⟨vn,vf,L,I,J,G,_,_,rfl⟩:=h.bx;simp[Cc]at F;have O:=(nJ.1 h.lk).1;rcases F with(((e|e)|e)|e|e)|e
 ·rw[e];exact I.lt
 ·rw[e];exact J.lt
 ·omega
 ·exact(G.rn.lt k e).2
 ·exact(G.rf.lt k e).2
 ·exact nH (H k e) h.low.size
def left(l:Array Bool):Nat:=l.toList.count false
theorem Se{l:Array Bool}{i:Nat}(h:l.getD i true=false):left (l.setIfInBounds i true)+1=left l:=by
 unfold left;have F:i<l.size:=by
  rcases Nat.lt_or_ge i l.size with h'|h'
  ·exact h'
  ·simp[Array.getD,Nat.not_lt.2 h']at h
 have G:l[i]=false:=by simpa [Array.getD,F]using h
 rw[Array.toList_setIfInBounds];have e:l.toList[i]? =some false:=by simp[F,G]
 generalize l.toList=t at e;clear h G F;induction t generalizing i with
 |nil=>simp at e
 |cons x t H=>
  cases i with
  |zero=>simp at e;subst e;simp
  |succ i=>
   have:=H (i:=i) (by simpa using e);rw[List.set_cons_succ,List.count_cons,List.count_cons];omega
theorem QN{R:Fence}{n:Nat}{P:Program}{md:Region.Mode}{G:Array Oper}{O:Exit→Act→World→Prop}(H:Array Bool→Act→World→Prop)
 (T:∀F a w i,H F a w→i∈Region.ready md G F→wpOpIn R n P G O i (H (F.setIfInBounds i true)) a w)
 (Q:∀F a w,H F a w→Region.ready md G F=[]→O .normal a w):
 ∀(I:Nat) (F:Array Bool) (a:Act) (w:World),left F≤I→H F a w→wpAnyIn R n P md G O I F a w
 |0,F,a,w,hl,h=>by
  have e:Region.ready md G F=[]:=by
   cases hr:Region.ready md G F with
   |nil=>rfl
   |cons i r=>
    have J:i∈Region.ready md G F:=by rw[hr];exact nK ..
    have:=Se (mem_ready.1 J).1;omega
  exact⟨e,Q _ _ _ h e⟩
 |I+1,F,a,w,hl,h=>by
  refine⟨Q _ _ _ h,fun i J=>?_⟩;refine wpOpIn_mono (fun V w' h'=>QN H T Q I _ V w' ?_ h') (T _ _ _ _ h J);have:=Se (mem_ready.1 J).1;omega
theorem Ml{w:World}{base:Nat}{t:TypeId}{n k:Nat}{v:Value}{xs:List Value}(h:w.ownsRow base t n v k xs){d:Nat}{o:Obj}(hd:w.heap[d]? =some o)(F:o.isCells=false):some d≠v.ownBlock:=fun e=>by
 rcases h.2 with⟨rfl,_⟩|⟨g,cap,H,rfl,_,G,_⟩
 ·simp[Value.ownBlock]at e
 ·simp[Value.ownBlock]at e
  subst e;rw[G]at hd;cases hd;simp[Obj.isCells]at F
structure XA (S:Nat→Bool) (w A:World) (Sx:Nat→Bool) (st:Loop) (cn cf:Value) (LN LF:List Fl) (b6 b7:Value) (W:World):Prop where
 low:Below w.heap.size w W
 az:A.heap.size≤W.heap.size
 bn:Boxed W w.heap.size 30 b6
 bf:Boxed W (w.heap.size+1) 25 b7
 r:FC S w.heap.size W cn cf LN LF
 ml:AR (Ag A.cell? Sx) (Ag W.cell? (Cc w.heap.size cn cf S))
 dk:W.heap[w.heap.size+1+1+1+1]? =some (.deferred (some []))
 lk:W.heap[w.heap.size+1+1+1+1+1]? =some (.loop st)
theorem XA.below{S:Nat→Bool}{w A:World}{Sx:Nat→Bool}{st:Loop}{cn F:Value}{G H:List Fl}{I J:Value}{W O:World}(h:XA S w A Sx st cn F G H I J W)(hb:Below W.heap.size W O):XA S w A Sx st cn F G H I J O:=
 ⟨h.low.trans (hb.mono h.low.size),nP h.az hb.size,Et h.bn hb,Et h.bf hb,h.r.below hb,h.ml.trans (CN hb),(hb.block _ (nJ.1 h.dk).1).trans h.dk,(hb.block _ (nJ.1 h.lk).1).trans h.lk⟩
theorem XA.appN{S:Nat→Bool}{w A:World}{Sx:Nat→Bool}{st:Loop}{cn G:Value}{J V:List Fl}{Y Z:Value}{W O:World}(h:XA S w A Sx st cn G J V Y Z W){f:Fl}{I:Value}(ab:Ah (Ag W.cell? (Cc w.heap.size cn G S)) f.x f.h)
 (ad:O.ownsRow (w.heap.size+1+1) 54 8 I (J++[f]).length (Bj (J++[f]))) (F:W.grownBy O cn.ownBlock) (aa:I.ownBlock=cn.ownBlock∨I.ownBlock=some W.heap.size):
 XA S w A Sx st I G (J++[f]) V Y Z O:=by
 have R:∀g,cn.ownBlock=some g→w.heap.size+1+1≤g∧g<W.heap.size:=fun g e=>h.r.rn.lt g e;have T:AR (Ag W.cell? (Cc w.heap.size cn G S)) (Ag O.cell? (Cc w.heap.size I G S)):=BN fun k ak H=>by
  simp[Cc]at H;refine⟨?_,F.block k ak (fun e=>H.1.2.1 e.symm)⟩;simp[Cc];refine⟨⟨H.1.1,?_,H.1.2.2⟩,H.2⟩;rcases aa with e|e
  ·rw[e];exact H.1.2.1
  ·rw[e];intro Q;cases Q;omega
 refine⟨h.low.grown F h.low.size (fun g e=>by have:=R g e;omega),nP h.az F.size,h.bn.kept F (fun e=>by have:=R _ e.symm;omega),h.bf.kept F (fun e=>by have:=R _ e.symm;omega),⟨ad,?_,?_,?_⟩,h.ml.trans T,?_,?_⟩
 ·refine h.r.rf.kept F ?_
  cases hv:G.ownBlock with
  |none=>exact .inl rfl
  |some g=>exact .inr (fun e=>h.r.ne g e.symm hv)
 ·intro g e Q
  rcases aa with q|q
  ·exact h.r.ne g (q.symm.trans e) Q
  ·have ar:=(h.r.rf.lt g Q).2
   rw[q]at e;cases e;omega
 ·intro ao ap
  rcases rd.1 ap with e|e
  ·exact(h.r.nd ao e).on T
  ·rw[rj]at e;rw[e];exact ab.on T
 ·exact(F.block _ (nJ.1 h.dk).1 (Ml h.r.rn h.dk rfl)).trans h.dk
 ·exact(F.block _ (nJ.1 h.lk).1 (Ml h.r.rn h.lk rfl)).trans h.lk
theorem XA.appF{S:Nat→Bool}{w A:World}{Sx:Nat→Bool}{st:Loop}{cn H:Value}{T O:List Fl}{V Y:Value}{W Q:World}(h:XA S w A Sx st cn H T O V Y W){f:Fl}{I:Value}
 (ab:Q.ownsRow (w.heap.size+1+1) 3 1 I (O++[f]).length (Fk (O++[f]))) (F:W.grownBy Q H.ownBlock) (Z:I.ownBlock=H.ownBlock∨I.ownBlock=some W.heap.size):
 XA S w A Sx st cn I T (O++[f]) V Y Q:=by
 have R:∀g,H.ownBlock=some g→w.heap.size+1+1≤g∧g<W.heap.size:=fun g e=>h.r.rf.lt g e;have aa:AR (Ag W.cell? (Cc w.heap.size cn H S)) (Ag Q.cell? (Cc w.heap.size cn I S)):=BN fun k ad G=>by
  simp[Cc]at G;refine⟨?_,F.block k ad (fun e=>G.1.2.2 e.symm)⟩;simp[Cc];refine⟨⟨G.1.1,G.1.2.1,?_⟩,G.2⟩;rcases Z with e|e
  ·rw[e];exact G.1.2.2
  ·rw[e];intro J;cases J;omega
 refine⟨h.low.grown F h.low.size (fun g e=>by have:=R g e;omega),nP h.az F.size,h.bn.kept F (fun e=>by have:=R _ e.symm;omega),h.bf.kept F (fun e=>by have:=R _ e.symm;omega),⟨?_,ab,?_,fun ak ao=>(h.r.nd ak ao).on aa⟩,h.ml.trans aa,?_,?_⟩
 ·refine h.r.rn.kept F ?_
  cases hv:cn.ownBlock with
  |none=>exact .inl rfl
  |some g=>exact .inr (fun e=>h.r.ne g hv e.symm)
 ·intro g e J
  rcases Z with q|q
  ·exact h.r.ne g e (q.symm.trans J)
  ·have ap:=(h.r.rn.lt g e).2
   rw[q]at J;cases J;omega
 ·exact(F.block _ (nJ.1 h.dk).1 (Ml h.r.rf h.dk rfl)).trans h.dk
 ·exact(F.block _ (nJ.1 h.lk).1 (Ml h.r.rf h.lk rfl)).trans h.lk
theorem XA.set6{S:Nat→Bool}{w A:World}{Sx:Nat→Bool}{st:Loop}{cn G:Value}{J O:List Fl}{T Q:Value}{W:World}(h:XA S w A Sx st cn G J O T Q W)(v:Value):XA S w A Sx st cn G J O v Q (W.setCell (aD w.heap.size 0) v):=by
 have F:∀k,k≠w.heap.size→(W.setCell (aD w.heap.size 0) v).heap[k]? =W.heap[k]?:=fun k F=>re _ _ _ _ F;have H:=grownBy_setCell' W w.heap.size v
 have R:AR (Ag W.cell? (Cc w.heap.size cn G S)) (Ag (W.setCell (aD w.heap.size 0) v).cell? (Cc w.heap.size cn G S)):=BN fun k _ I=>⟨I,F k (by simp[Cc]at I;exact I.1.1.1.1)⟩;refine⟨h.low.setCell (p:=(aD w.heap.size 0)) (nn _) v,nP h.az H.size,h.bn.set v,(F _ (by omega)).trans h.bf,⟨?_,?_,h.r.ne,fun f V=>(h.r.nd f V).on R⟩,h.ml.trans R,(F _ (by omega)).trans h.dk,(F _ (by omega)).trans h.lk⟩
 ·exact h.r.rn.kept H (.inr (fun e=>by have:=(h.r.rn.lt _ e).1;omega))
 ·exact h.r.rf.kept H (.inr (fun e=>by have:=(h.r.rf.lt _ e).1;omega))
theorem XA.set7{S:Nat→Bool}{w A:World}{Sx:Nat→Bool}{st:Loop}{cn G:Value}{J O:List Fl}{Q T:Value}{W:World}(h:XA S w A Sx st cn G J O Q T W)(v:Value):XA S w A Sx st cn G J O Q v (W.setCell (aD (w.heap.size+1) 0) v):=by
 have F:∀k,k≠w.heap.size+1→(W.setCell (aD (w.heap.size+1) 0) v).heap[k]? =W.heap[k]?:=fun k F=>re _ _ _ _ F;have H:=grownBy_setCell' W (w.heap.size+1) v
 have R:AR (Ag W.cell? (Cc w.heap.size cn G S)) (Ag (W.setCell (aD (w.heap.size+1) 0) v).cell? (Cc w.heap.size cn G S)):=BN fun k _ I=>⟨I,F k (by simp[Cc]at I;exact I.1.1.1.2)⟩;refine⟨h.low.setCell (p:=(aD (w.heap.size+1) 0)) (by show w.heap.size≤w.heap.size+1;omega) v,nP h.az H.size,(F _ (by omega)).trans h.bn,h.bf.set v,⟨?_,?_,h.r.ne,fun f V=>(h.r.nd f V).on R⟩,h.ml.trans R,(F _ (by omega)).trans h.dk,(F _ (by omega)).trans h.lk⟩
 ·exact h.r.rn.kept H (.inr (fun e=>by have:=(h.r.rn.lt _ e).1;omega))
 ·exact h.r.rf.kept H (.inr (fun e=>by have:=(h.r.rf.lt _ e).1;omega))
end Go.Proofs.YtofhphibahcniaaGreatDoor
