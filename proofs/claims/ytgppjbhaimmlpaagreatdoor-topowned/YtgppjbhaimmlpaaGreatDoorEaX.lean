/-
  TopOwned: Ea Eb Ec Ue Xb Xc Xd Xe Xf Xg Uh Uj.
-/
import Derived.Test.YtgppjbhaimmlpaaGreatDoorApX
import Derived.Test.YtgppjbhaimmlpaaGreatDoorFiX
import Derived.WalkKit
import Derived.WalkSpells
import Derived.WalkLawsBesides
import Derived.Deep.QuietTactic
import Derived.BigQuiet
import Derived.Test.YtgppjbhaimmlpaaGreatDoorUcX
import Derived.Deep.RegionHeld3
import Derived.Deep.MidRow
import Derived.Test.YtgppjbhaimmlpaaGreatDoorKbX
import Derived.OrdersIn
set_option maxRecDepth 100000
set_option maxHeartbeats 16000000
namespace Go.Proofs.YtgppjbhaimmlpaaGreatDoor
open Go.RowKit Go.Proofs.Tryz
theorem Bg.alloc{w:World}{a:Option Addr}{F:List Int}(h:Bg w a F)(o:Obj):Bg (w.alloc o) a F:=h.below ((nt _ _).alloc (nl _) _)
theorem YZ(u g x c:Int)(a:Option Addr)(cap:Nat)(F:List Int)(w:World)(T:F.length≤9223372036854775807)(h:Bg w a F):
 Calls prog 139 #[.agg #[iN u,iN g,.slice a F.length cap,iN c],iN x] w fun e w'=>
  e=.returned (.bool (EI g F x))∧Below w.heap.size w w':=by
 by_cases hx:x=g
 ·subst hx
  go_enter func139,ntmps139;go_wp2;go_ret;exact⟨Bf (by simp[EI]),bN⟩
 ·have J:(x==g)=false:=by simpa using hx
  go_enter func139,ntmps139;go_wp2;go_loop [14] (fun i=>∃k:Nat,k≤F.length∧i=iN k∧(F.take k).contains x=false) (fun i=>F.length-(intOf i).toNat)
  case atStart=>exact⟨0,nM _,rfl,rfl⟩
  case round=>
   obtain⟨k,V,rfl,H⟩:=hrel;by_cases I:k<F.length
   ·rcases h with rfl|⟨b,Y,rfl,O⟩
    ·simp at I
    ·have Q:=O k I
     have Z:b<w.heap.size:=bL Q;by_cases G:F[k]=x
     ·have R:(F[k]==x)=true:=by simpa using G
      go_wp2;go_ret;exact⟨Bf (by simp[EI,←G]),bN⟩
     ·have R:(F[k]==x)=false:=by simpa using G
      go_wp2;go_round
      case rel=>exact⟨k+1,by omega,by go_num,Sf I H G⟩
      case measure=>simp[intOf];omega
   ·go_wp2
    go_ret;rw[n1 (by omega)]at H;exact⟨Bf (by simp[EI,J];simpa using H),bN⟩
theorem Ry(u g c x:Int)(v:Value)(w:World):
 Calls prog 128 #[.agg #[iN u,iN g,v,iN c],iN x] w fun e w'=>
  e=.returned (.bool (bits .and .i64 c x==x))∧Below w.heap.size w w':=by
 go_enter func128,ntmps128;go_wp2;go_ret;exact⟨rfl,bN⟩
def IV(u:Int)(F:Int)(G:Bool):Bool:=G&&F==u
theorem MC(u g c:Int)(v:Value)(d:Bool)(m G tg:Int)(F:Bool)(w:World):
 Calls prog 159 #[.agg #[iN u,iN g,v,iN c],.agg #[.bool d,iN m,iN G,iN tg,.bool F]] w fun e w'=>
  e=.returned (.bool (IV u G F))∧Below w.heap.size w w':=by
 cases F
 ·go_enter func159,ntmps159
  go_wp2;go_ret;exact⟨rfl,bN.alloc (by simp) _⟩
 ·go_enter func159,ntmps159
  go_wp2;go_ret;exact⟨Bf (by simp[IV]),bN.alloc (by simp) _⟩
def Fm(w:World)(b:Nat)(u g:Int)(v:Value)(c:Int):Prop:=
 w.cell? ⟨b,0,none⟩=some (.int .i64 u)∧w.cell? ⟨b,1,none⟩=some (.int .i64 g)∧w.cell? ⟨b,2,none⟩=some v∧w.cell? ⟨b,3,none⟩=some (.int .i64 c)∧∀o,w.frozen? ⟨b,o,none⟩=false
theorem Fm.new(w:World)(u g:Int)(v:Value)(c:Int):Fm (w.alloc (.cells #[iN u,iN g,v,iN c] 27)) w.heap.size u g v c:=
 ⟨aC,aC,aC,aC,fun _=>nP _ _ _ _ rfl⟩
theorem Fm.lt{w:World}{b:Nat}{u g:Int}{v:Value}{c:Int}(h:Fm w b u g v c):b<w.heap.size:=ny _ _ h.1
theorem Fm.below{w w':World}{b:Nat}{u g:Int}{v:Value}{c:Int}(h:Fm w b u g v c)(hb:Below w.heap.size w w'):Fm w' b u g v c:=by
 have F:=h.lt;obtain⟨G,H,I,J,O⟩:=h;exact⟨(hb.cell (p:=(aD b 0)) F).trans G,(hb.cell (p:=(aD b 1)) F).trans H,(hb.cell (p:=(aD b 2)) F).trans I,(hb.cell (p:=(aD b 3)) F).trans J,fun o=>(hb.frozen (p:=(aD b o)) F).trans (O o)⟩
theorem Fm.alloc{w:World}{b:Nat}{u g:Int}{v:Value}{c:Int}(h:Fm w b u g v c)(o:Obj):Fm (w.alloc o) b u g v c:=h.below ((nt _ _).alloc (nl _) _)
def Ek(w:World)(b:Nat)(d:Bool)(m F tg:Int)(G:Bool):Prop:=
 w.cell? ⟨b,0,none⟩=some (.bool d)∧w.cell? ⟨b,1,none⟩=some (.int .i64 m)∧w.cell? ⟨b,2,none⟩=some (.int .i64 F)∧w.cell? ⟨b,3,none⟩=some (.int .i64 tg)∧w.cell? ⟨b,4,none⟩=some (.bool G)
theorem Ek.new(w:World)(B:Nat)(H:B=w.heap.size)(d:Bool)(m F tg:Int)(G:Bool):Ek (w.alloc (.cells #[.bool d,iN m,iN F,iN tg,.bool G] 84)) B d m F tg G:=by
 subst H;exact⟨aC,aC,aC,aC,aC⟩
theorem Ek.below{w w':World}{b:Nat}{d:Bool}{m G tg:Int}{H:Bool}(h:Ek w b d m G tg H)(hb:Below w.heap.size w w'):Ek w' b d m G tg H:=by
 have F:=bL h.1;obtain⟨I,J,O,Q,R⟩:=h;exact⟨(hb.cell (p:=(aD b 0)) F).trans I,(hb.cell (p:=(aD b 1)) F).trans J,(hb.cell (p:=(aD b 2)) F).trans O,(hb.cell (p:=(aD b 3)) F).trans Q,(hb.cell (p:=(aD b 4)) F).trans R⟩
theorem Ek.alloc{w:World}{b:Nat}{d:Bool}{m F tg:Int}{G:Bool}(h:Ek w b d m F tg G)(o:Obj):Ek (w.alloc o) b d m F tg G:=h.below ((nt _ _).alloc (nl _) _)
theorem KX(w F:World)(u g:Int)(v:Value)(c:Int)(d:Bool)(m G tg:Int)(H:Bool)
 (hb:Below ((w.alloc (.cells #[iN u,iN g,v,iN c] 27)).alloc (.cells #[.bool d,iN m,iN G,iN tg,.bool H] 84)).heap.size ((w.alloc (.cells #[iN u,iN g,v,iN c] 27)).alloc (.cells #[.bool d,iN m,iN G,iN tg,.bool H] 84)) F):
 Fm F w.heap.size u g v c∧Ek F (w.heap.size+1) d m G tg H∧Below w.heap.size w F:=
 ⟨((Fm.new w u g v c).alloc _).below hb,(Ek.new (w.alloc _) _ (by simp) d m G tg H).below hb,(bN.alloc (by simp) _).trans (hb.mono (by simp;omega))⟩
theorem Bg.two{w:World}{a:Option Addr}{F:List Int}(h:Bg w a F)(o G:Obj):Bg ((w.alloc o).alloc G) a F:=(h.alloc _).alloc _
def Ie(u g:Int)(G:List Int)(m H tg:Int)(F:Bool):Int:=if IV u H F=true then m / 64 else if(F&&EI g G tg)=true then m / 8 else m
theorem VG(u g c:Int)(a:Option Addr)(cap:Nat)(G:List Int)(d:Bool)(m I tg:Int)(H:Bool)(w:World)(Y:G.length≤9223372036854775807)(h:Bg w a G)(_hm0:0≤m)(_hm1:m≤4095):
 Calls prog 156 #[.agg #[iN u,iN g,.slice a G.length cap,iN c],.agg #[.bool d,iN m,iN I,iN tg,.bool H]] w fun e w'=>
  e=.returned (iN (Ie u g G m I tg H))∧Below w.heap.size w w':=by
 go_enter func156,ntmps156;go_wp2_with fail
 refine(MC u g c _ d m I tg H _).mono ?_;rintro e Z ⟨rfl,hb⟩;obtain⟨aa,R,J⟩:=KX w Z u g _ c d m I tg H hb;have ab:=(h.two _ _).below hb;clear hb;obtain⟨ad,ak,ao,ap,az⟩:=id aa;obtain⟨a1,a6,a7,a8,ba⟩:=id R;obtain⟨t,F⟩:∃t,IV u I H=t:=⟨_,rfl⟩;have O:=hid F;rw[F];clear F
 cases t
 ·cases H
  ·go_wp2
   go_ret;exact⟨Iz (by unfold Ie;rw[nB (by rw[O.out];decide),nB (by simp)]),J⟩
  ·go_wp2_with fail
   refine(YZ u g tg c a cap G _ Y ab).mono ?_;rintro e bb ⟨rfl,Q⟩;obtain⟨bd,be,bf,bg,bi⟩:=R.below Q;have T:=J.trans (Q.mono J.size);clear ad ak ao ap az a1 a6 a7 a8 ba Q;obtain⟨t,F⟩:∃t,EI g G tg=t:=⟨_,rfl⟩;have V:=hid F;rw[F];clear F
   cases t
   ·go_wp2
    go_ret;exact⟨Iz (by unfold Ie;rw[nB (by rw[O.out];decide),nB (by rw[V.out];simp)]),T⟩
   ·go_wp2
    go_ret;exact⟨Iz (by unfold Ie;rw[nB (by rw[O.out];decide),nC (by rw[V.out];rfl)]),T⟩
 ·go_wp2
  go_ret;exact⟨Iz (by unfold Ie;rw[nC O.out]),J⟩
def IQ(c:Int)(d:Bool)(m:Int)(F:Bool)(G:Int):Bool:=F&&(bits .and .i64 c 2==2)&&(d||bits .and .i64 G 1==0||bits .and .i64 m 73 !=0)
theorem WJ(u g c:Int)(v:Value)(d:Bool)(m O tg:Int)(I:Bool)(J:Int)(w:World):
 Calls prog 157 #[.agg #[iN u,iN g,v,iN c],.agg #[.bool d,iN m,iN O,iN tg,.bool I],iN J] w fun e w'=>
  e=.returned (.bool (IQ c d m I J))∧Below w.heap.size w w':=by
 cases I
 ·go_enter func157,ntmps157
  go_wp2;go_ret;exact⟨rfl,bN.alloc (by simp) _⟩
 ·go_enter func157,ntmps157
  go_wp2_with fail
  refine(Ry u g c 2 _ _).mono ?_;rintro e R ⟨rfl,hb⟩;obtain⟨V,T,G⟩:=KX w R u g _ c d m O tg true hb;clear hb;obtain⟨Y,Z,aa,ab,ad⟩:=id T;obtain⟨t,F⟩:∃t,(bits .and .i64 c 2==2)=t:=⟨_,rfl⟩;have H:=hid F;rw[F];clear F
  cases t
  ·go_wp2
   go_ret;exact⟨Bf (by unfold IQ;rw[H.out];simp),G⟩
  ·cases d
   ·obtain⟨t,F⟩:∃t,(bits .and .i64 J 1==0)=t:=⟨_,rfl⟩
    have Q:=hid F;cases t
    ·go_wp2
     go_ret;exact⟨Bf (by unfold IQ;rw[H.out,Q.out];simp),G⟩
    ·go_wp2
     go_ret;exact⟨Bf (by unfold IQ;rw[H.out,Q.out];simp),G⟩
   ·go_wp2
    go_ret;exact⟨Bf (by unfold IQ;rw[H.out];simp),G⟩
def IR(u g:Int)(H:List Int)(c:Int)(d:Bool)(m I tg:Int)(G:Bool)(F:Int):Bool:=
 if F<0∨7<F then false else(bits .and .i64 (Ie u g H m I tg G) F==F)||IQ c d m G F
theorem Zn(u g c:Int)(a:Option Addr)(cap:Nat)(H:List Int)(d:Bool)(m I tg:Int)(G:Bool)(F:Int)(w:World)(T:H.length≤9223372036854775807)(h:Bg w a H)(V:0≤m)(Y:m≤4095):
 Calls prog 121 #[.agg #[iN u,iN g,.slice a H.length cap,iN c],.agg #[.bool d,iN m,iN I,iN tg,.bool G],iN F] w fun e w'=>
  e=.returned (.bool (IR u g H c d m I tg G F))∧Below w.heap.size w w':=by
 by_cases R:F<0
 ·go_enter func121,ntmps121
  go_wp2;go_ret;exact⟨Bf (by unfold IR;rw[nC (.inl R)]),bN.alloc (by simp) _⟩
 have az:decide (F<0)=false:=by simpa using R
 by_cases O:7<F
 ·have Z:decide (7<F)=true:=by simpa using O
  go_enter func121,ntmps121;go_wp2;go_ret;exact⟨Bf (by unfold IR;rw[nC (.inr O)]),bN.alloc (by simp) _⟩
 have Z:decide (7<F)=false:=by simpa using O
 have J:Hid (IR u g H c d m I tg G F=((bits .and .i64 (Ie u g H m I tg G) F==F)||IQ c d m G F)):=by
  show _=_;unfold IR;rw[nB (by omega)]
 go_enter func121,ntmps121;go_wp2_with fail
 refine(VG u g c a cap H d m I tg G _ T (h.two _ _) V Y).mono ?_;rintro e aa ⟨rfl,hb⟩;obtain⟨ab,ad,Q⟩:=KX w aa u g _ c d m I tg G hb;clear hb;obtain⟨a1,a6,a7,a8,ba⟩:=id ab;obtain⟨bb,bd,be,bf,bg⟩:=id ad;generalize Ie u g H m I tg G=n at J⊢;obtain⟨t,ak⟩:∃t,(bits .and .i64 n F==F)=t:=⟨_,rfl⟩;rw[ak]at J;cases t
 ·go_wp2_with fail
  refine(WJ u g c _ d m I tg G F _).mono ?_;rintro e bi ⟨rfl,ao⟩;have ap:=Q.trans (ao.mono Q.size);go_wp2;go_ret;exact⟨Bf (by rw[J.out];rfl),ap⟩
 ·go_wp2
  go_ret;exact⟨Bf (by rw[J.out];rfl),Q⟩
def Ib(u c:Int)(G:Int)(F:Bool):Bool:=IV u G F||(F&&bits .and .i64 c 4==4)
theorem Qx(u g c:Int)(v:Value)(d:Bool)(m G tg:Int)(F:Bool)(w:World):
 Calls prog 123 #[.agg #[iN u,iN g,v,iN c],.agg #[.bool d,iN m,iN G,iN tg,.bool F]] w fun e w'=>
  e=.returned (.bool (Ib u c G F))∧Below w.heap.size w w':=by
 go_enter func123,ntmps123;go_wp2_with fail
 refine(MC u g c _ d m G tg F _).mono ?_;rintro e O ⟨rfl,hb⟩;obtain⟨Q,R,H⟩:=KX w O u g _ c d m G tg F hb;clear hb;obtain⟨Y,Z,aa,ab,ad⟩:=id Q;obtain⟨ak,ao,ap,az,a1⟩:=id R;obtain⟨t,I⟩:∃t,IV u G F=t:=⟨_,rfl⟩;have J:=hid I;rw[I];clear I
 cases t
 ·cases F
  ·go_wp2
   go_ret;exact⟨Bf (by unfold Ib;rw[J.out];rfl),H⟩
  ·go_wp2_with fail
   refine(Ry u g c 4 _ _).mono ?_;rintro e a6 ⟨rfl,T⟩;have V:=H.trans (T.mono H.size);go_wp2;go_ret;exact⟨Bf (by unfold Ib;rw[J.out];rfl),V⟩
 ·go_wp2
  go_ret;exact⟨Bf (by unfold Ib;rw[J.out];rfl),H⟩
theorem Wp(w F:World)(u g:Int)(v:Value)(c:Int)(d:Bool)(m G tg:Int)(H:Bool)(I:Bool)(J O Q:Int)(R:Bool)
 (hb:Below (((w.alloc (.cells #[iN u,iN g,v,iN c] 27)).alloc (.cells #[.bool d,iN m,iN G,iN tg,.bool H] 84)).alloc (.cells #[.bool I,iN J,iN O,iN Q,.bool R] 84)).heap.size (((w.alloc (.cells #[iN u,iN g,v,iN c] 27)).alloc (.cells #[.bool d,iN m,iN G,iN tg,.bool H] 84)).alloc (.cells #[.bool I,iN J,iN O,iN Q,.bool R] 84)) F):
 Fm F w.heap.size u g v c∧Ek F (w.heap.size+1) d m G tg H∧Ek F (w.heap.size+2) I J O Q R∧Below w.heap.size w F:=
 ⟨(((Fm.new w u g v c).alloc _).alloc _).below hb,((Ek.new (w.alloc _) _ (by simp) d m G tg H).alloc _).below hb,(Ek.new ((w.alloc _).alloc _) _ (by simp) I J O Q R).below hb,((bN.alloc (by simp) _).alloc (by simp;omega) _).trans (hb.mono (by simp;omega))⟩
def Jy(u c:Int)(F G:Int)(H:Bool)(I:Int)(J:Bool):Bool:=bits .and .i64 F 512==0||Ib u c I J||IV u G H
theorem Ww(u g c:Int)(v:Value)(Q:Bool)(F J R:Int)(O:Bool)(d:Bool)(m G tg:Int)(H:Bool)(w:World):
 Calls prog 129 #[.agg #[iN u,iN g,v,iN c],.agg #[.bool Q,iN F,iN J,iN R,.bool O],.agg #[.bool d,iN m,iN G,iN tg,.bool H]] w fun e w'=>
  e=.returned (.bool (Jy u c F J O G H))∧Below w.heap.size w w':=by
 obtain⟨t,I⟩:∃t,(bits .and .i64 F 512==0)=t:=⟨_,rfl⟩;have T:=hid I;cases t
 ·go_enter func129,ntmps129
  go_wp2_with fail
  refine(Qx u g c _ d m G tg H _).mono ?_;rintro e Z ⟨rfl,hb⟩;obtain⟨aa,ab,_,V⟩:=Wp w Z u g _ c Q F J R O d m G tg H hb;clear hb;obtain⟨ao,ap,az,a1,a6⟩:=id aa;obtain⟨a7,a8,ba,bb,bd⟩:=id ab;obtain⟨t,I⟩:∃t,Ib u c G H=t:=⟨_,rfl⟩;have Y:=hid I;rw[I];clear I
  cases t
  ·go_wp2_with fail
   refine(MC u g c _ Q F J R O _).mono ?_;rintro e be ⟨rfl,ad⟩;have ak:=V.trans (ad.mono V.size);go_wp2;go_ret;exact⟨Bf (by unfold Jy;rw[T.out,Y.out];rfl),ak⟩
  ·go_wp2
   go_ret;exact⟨Bf (by unfold Jy;rw[T.out,Y.out];rfl),V⟩
 ·go_enter func129,ntmps129
  go_wp2;go_ret;exact⟨Bf (by unfold Jy;rw[T.out];rfl),(bN.alloc (by simp) _).alloc (by simp;omega) _⟩
def De(F:Bool)(rs:List Rg)(x:Int):Option Int:=if F=true then Ff rs x else(Fp rs x).map fun _=>x
def LR(F:Bool)(us gs:List Rg):Nd→Value
 |.mk k m u g _ _ _ _=>.agg #[.bool (k==2),.int .i64 m,.int .i64 ((De F us u).getD 65534),.int .i64 ((De F gs g).getD 65534),.bool ((De F us u).isSome&&(De F gs g).isSome)]
def I2(w:World)(b:Nat)(a:Bool)(m u g:Int)(c:Bool):Prop:=w.cell? ⟨b,0,none⟩=some (.bool a)∧w.cell? ⟨b,1,none⟩=some (.int .i64 m)∧w.cell? ⟨b,2,none⟩=some (.int .i64 u)∧w.cell? ⟨b,3,none⟩=some (.int .i64 g)∧w.cell? ⟨b,4,none⟩=some (.bool c)∧∀j,w.frozen? ⟨b,j,none⟩=false
theorem I2.new(w:World)(a:Bool)(m u g:Int)(c:Bool):I2 (w.alloc (.cells #[.bool a,iN m,iN u,iN g,.bool c] 84)) w.heap.size a m u g c:=
 ⟨aC,aC,aC,aC,aC,fun _=>nP _ _ _ _ rfl⟩
theorem I2.below{w w':World}{b:Nat}{a:Bool}{m u g:Int}{c:Bool}(h:I2 w b a m u g c)(hb:Below w.heap.size w w'):I2 w' b a m u g c:=by
 have F:=bL h.1;obtain⟨G,H,I,J,O,Q⟩:=h;exact⟨Aj hb _ _ G,Aj hb _ _ H,Aj hb _ _ I,Aj hb _ _ J,Aj hb _ _ O,fun j=>(hb.frozen (p:=(aD b j)) F).trans (Q j)⟩
theorem QC(W A B:World)(G H:Option Addr)(I J uc gc:Nat)(k m u g:Int)(o:Bool)(nh:List Kv)(d:BA)(ks:At)(h:Hd)
 (F:A=W.alloc (.cells #[.slice G I uc,.slice H J gc] 24)) (O:B=A.alloc (.cells #[iN k,iN m,iN u,iN g,.bool o,.slice h.aa nh.length h.ca,.string d,.slice h.ak ks.length h.ck] 50)):
 B.cell? (aD W.heap.size 0)=some (.slice G I uc)∧B.cell? (aD W.heap.size 1)=some (.slice H J gc)∧As B (W.heap.size+1) (.mk k m u g o nh d ks) h∧Below W.heap.size W B∧B.heap.size=W.heap.size+1+1:=by
 have R:A.heap.size=W.heap.size+1:=by rw[F,nv]
 have Y:B.heap.size=W.heap.size+1+1:=by rw[O,nv,R]
 have T:Below W.heap.size W A:=by rw[F];exact bN
 have Q:Below A.heap.size A B:=by rw[O];exact bN
 have c0:Ce A W.heap.size 0 (.slice G I uc):=by rw[F];exact aC
 have c1:Ce A W.heap.size 1 (.slice H J gc):=by rw[F];exact aC
 have V:=As.new A k m u g o nh d ks h;rw[←O,R]at V;exact⟨Aj Q _ _ c0,Aj Q _ _ c1,V,T.trans (Q.mono T.size),Y⟩
theorem Px(a:Option Addr)(cap:Nat)(rs:List Rg)(x:Int)(w:World)(O:rs.length≤100)(Q:rs.length≤cap)(R:∀r∈rs,r.ok)(hx:AZ x)(h:Rgs w a rs):
 Calls prog 187 #[.slice a rs.length cap,iN x,.bool true] w fun e w'=>e=.returned (.tuple #[iN ((De true rs x).getD 65534),.bool (De true rs x).isSome])∧Below w.heap.size w w':=by
 obtain⟨G,F⟩:=A3 (Ff rs x);have H:Hid (De true rs x=G):=by show _=_;rw[←F.out];rfl
 rw[H.out];have I:Hid _:=Mr a cap rs x w O Q R hx h;rw[F.out]at I;clear H F;go_enter func187,ntmps187;go_wp2_with fail
 refine nn I.out ?_;rintro e T ⟨rfl,J⟩;cases G with
 |none=>
  rw[JS];go_wp2;go_ret2;exact⟨rfl,J⟩
 |some v=>
  rw[JP];go_wp2;go_ret2;exact⟨rfl,J⟩
theorem Pp(a:Option Addr)(cap:Nat)(rs:List Rg)(x:Int)(w:World)(O:rs.length≤100)(Q:rs.length≤cap)(R:∀r∈rs,r.ok)(hx:AZ x)(h:Rgs w a rs):
 Calls prog 187 #[.slice a rs.length cap,iN x,.bool false] w fun e w'=>e=.returned (.tuple #[iN ((De false rs x).getD 65534),.bool (De false rs x).isSome])∧Below w.heap.size w w':=by
 obtain⟨G,F⟩:=A3 (Fp rs x);have H:Hid (De false rs x=G.map fun _=>x):=by show _=_;rw[←F.out];rfl
 rw[H.out];have I:Hid _:=MD a cap rs x w O Q R hx h;rw[F.out]at I;clear H F;go_enter func187,ntmps187;go_wp2_with fail
 refine nn I.out ?_;rintro e T ⟨rfl,J⟩;cases G with
 |none=>
  rw[JS];go_wp2;go_ret2;exact⟨rfl,J⟩
 |some v=>
  rw[JP];go_wp2;go_ret2;exact⟨rfl,J⟩
theorem XS{W:World}{x:Nd}{h:Hd}(hid:Eu x){M:CE}(bu:DD W M):
 Calls prog 170 #[M.v,Ao x h,.bool true] W fun e bv=>e=.returned (LR true M.us M.gs x)∧Below W.heap.size W bv:=by
 obtain⟨k,m,u,g,o,nh,d,ks⟩:=x;obtain⟨H,I,uc,gc,us,gs⟩:=M;obtain⟨a1,Rgs,a6,a7,a8,ba,bb,bd⟩:=bu;dsimp only at a1 Rgs a6 a7 a8 ba bb bd;obtain⟨bx,bA⟩:=hid;unfold LR;dsimp only;obtain⟨c0,c1,G,be,bg⟩:=QC W _ _ H I us.length gs.length uc gc k m u g o nh d ks h rfl rfl;have J:=I2.new ((W.alloc (.cells #[.slice H us.length uc,.slice I gs.length gc] 24)).alloc (Ap k m u g o nh d ks h)) false 0 0 0 false;rw[bg]at J;have O:Below ((W.alloc (.cells #[.slice H us.length uc,.slice I gs.length gc] 24)).alloc (Ap k m u g o nh d ks h)).heap.size ((W.alloc (.cells #[.slice H us.length uc,.slice I gs.length gc] 24)).alloc (Ap k m u g o nh d ks h)) (((W.alloc (.cells #[.slice H us.length uc,.slice I gs.length gc] 24)).alloc (Ap k m u g o nh d ks h)).alloc (.cells #[.bool false,iN 0,iN 0,iN 0,.bool false] 84)):=bN;have T:=be.trans (O.mono be.size);have G:=G.below O;have c0:=Aj O _ _ c0;have c1:=Aj O _ _ c1;have V:Hid _:=Px H uc us u (((W.alloc (.cells #[.slice H us.length uc,.slice I gs.length gc] 24)).alloc (Ap k m u g o nh d ks h)).alloc (.cells #[.bool false,iN 0,iN 0,iN 0,.bool false] 84)) a6 a8 bb bx (a1.below T);obtain⟨Y,Z,aa,ab,ad,ak,f6,ao⟩:=G.1;obtain⟨bi,bk⟩:=A3 ((De true gs g).getD 65534);obtain⟨bB,bl⟩:=A3 ((De true gs g).isSome);rw[bk.out,bl.out];generalize(De true us u).getD 65534=bn at V⊢;generalize(De true us u).isSome=bC at V⊢;show cL 170 #[.agg #[.slice H us.length uc,.slice I gs.length gc],(AY k m u g o nh d ks h),.bool true] W _;clear O be;go_enter func170,ntmps170;go_wp2_with fail
 refine nn V.out ?_;rintro e bF ⟨rfl,Q⟩;have ap:=T.trans (Q.mono T.size);have G:=G.below Q;have J:=J.below Q;have c1:=Aj Q _ _ c1;have bf:Hid _:=Px I gc gs g bF a7 ba bd bA (Rgs.below ap);rw[bk.out,bl.out]at bf;clear Y Z aa ab ad ak f6 ao c0 V T Q a1 Rgs a6 a7 a8 ba bb bd bg;obtain⟨Y,Z,aa,ab,ad,ak,f6,ao⟩:=G.1;go_wp2_with fail
 refine nn bf.out ?_;rintro e bG ⟨rfl,az⟩;have bo:=ap.trans (az.mono ap.size);have G:=G.below az;have J:=J.below az;clear Y Z aa ab ad ak f6 ao c1 bf ap az;obtain⟨Y,Z,aa,ab,ad,ak,f6,ao⟩:=G.1;obtain⟨t0,bp,bs,t3,t4,R⟩:=J;have bH:=R 0;have bY:=R 1;have b0:=R 2;have b1:=R 3;have b2:=R 4;have F:W.heap.size≤W.heap.size+1+1:=by omega
 cases bC
 ·go_wp2
  refine nF (v:=.agg #[.bool (k==2),iN m,iN bn,iN bi,.bool false]) (by simp[results,results170,go_sem,t0,bp,bs,t3,t4]) rfl ⟨rfl,((((bo.setCell F _).setCell F _).setCell F _).setCell F _).setCell F _⟩
 ·go_wp2
  refine nF (v:=.agg #[.bool (k==2),iN m,iN bn,iN bi,.bool bB]) (by simp[results,results170,go_sem,t0,bp,bs,t3,t4]) rfl ⟨rfl,((((bo.setCell F _).setCell F _).setCell F _).setCell F _).setCell F _⟩
theorem Wo{W:World}{x:Nd}{h:Hd}(hid:Eu x){M:CE}(bu:DD W M):
 Calls prog 170 #[M.v,Ao x h,.bool false] W fun e bv=>e=.returned (LR false M.us M.gs x)∧Below W.heap.size W bv:=by
 obtain⟨k,m,u,g,o,nh,d,ks⟩:=x;obtain⟨H,I,uc,gc,us,gs⟩:=M;obtain⟨a1,Rgs,a6,a7,a8,ba,bb,bd⟩:=bu;dsimp only at a1 Rgs a6 a7 a8 ba bb bd;obtain⟨bx,bA⟩:=hid;unfold LR;dsimp only;obtain⟨c0,c1,G,be,bg⟩:=QC W _ _ H I us.length gs.length uc gc k m u g o nh d ks h rfl rfl;have J:=I2.new ((W.alloc (.cells #[.slice H us.length uc,.slice I gs.length gc] 24)).alloc (Ap k m u g o nh d ks h)) false 0 0 0 false;rw[bg]at J;have O:Below ((W.alloc (.cells #[.slice H us.length uc,.slice I gs.length gc] 24)).alloc (Ap k m u g o nh d ks h)).heap.size ((W.alloc (.cells #[.slice H us.length uc,.slice I gs.length gc] 24)).alloc (Ap k m u g o nh d ks h)) (((W.alloc (.cells #[.slice H us.length uc,.slice I gs.length gc] 24)).alloc (Ap k m u g o nh d ks h)).alloc (.cells #[.bool false,iN 0,iN 0,iN 0,.bool false] 84)):=bN;have T:=be.trans (O.mono be.size);have G:=G.below O;have c0:=Aj O _ _ c0;have c1:=Aj O _ _ c1;have V:Hid _:=Pp H uc us u (((W.alloc (.cells #[.slice H us.length uc,.slice I gs.length gc] 24)).alloc (Ap k m u g o nh d ks h)).alloc (.cells #[.bool false,iN 0,iN 0,iN 0,.bool false] 84)) a6 a8 bb bx (a1.below T);obtain⟨Y,Z,aa,ab,ad,ak,f6,ao⟩:=G.1;obtain⟨bi,bk⟩:=A3 ((De false gs g).getD 65534);obtain⟨bB,bl⟩:=A3 ((De false gs g).isSome);rw[bk.out,bl.out];generalize(De false us u).getD 65534=bn at V⊢;generalize(De false us u).isSome=bC at V⊢;show cL 170 #[.agg #[.slice H us.length uc,.slice I gs.length gc],(AY k m u g o nh d ks h),.bool false] W _;clear O be;go_enter func170,ntmps170;go_wp2_with fail
 refine nn V.out ?_;rintro e bF ⟨rfl,Q⟩;have ap:=T.trans (Q.mono T.size);have G:=G.below Q;have J:=J.below Q;have c1:=Aj Q _ _ c1;have bf:Hid _:=Pp I gc gs g bF a7 ba bd bA (Rgs.below ap);rw[bk.out,bl.out]at bf;clear Y Z aa ab ad ak f6 ao c0 V T Q a1 Rgs a6 a7 a8 ba bb bd bg;obtain⟨Y,Z,aa,ab,ad,ak,f6,ao⟩:=G.1;go_wp2_with fail
 refine nn bf.out ?_;rintro e bG ⟨rfl,az⟩;have bo:=ap.trans (az.mono ap.size);have G:=G.below az;have J:=J.below az;clear Y Z aa ab ad ak f6 ao c1 bf ap az;obtain⟨Y,Z,aa,ab,ad,ak,f6,ao⟩:=G.1;obtain⟨t0,bp,bs,t3,t4,R⟩:=J;have bH:=R 0;have bY:=R 1;have b0:=R 2;have b1:=R 3;have b2:=R 4;have F:W.heap.size≤W.heap.size+1+1:=by omega
 cases bC
 ·go_wp2
  refine nF (v:=.agg #[.bool (k==2),iN m,iN bn,iN bi,.bool false]) (by simp[results,results170,go_sem,t0,bp,bs,t3,t4]) rfl ⟨rfl,((((bo.setCell F _).setCell F _).setCell F _).setCell F _).setCell F _⟩
 ·go_wp2
  refine nF (v:=.agg #[.bool (k==2),iN m,iN bn,iN bi,.bool bB]) (by simp[results,results170,go_sem,t0,bp,bs,t3,t4]) rfl ⟨rfl,((((bo.setCell F _).setCell F _).setCell F _).setCell F _).setCell F _⟩
def Ha:Value→Prop
 |.int _ _=>True
 |.string _=>True
 |_=>False
def DE(c:AJ)(b:Nat):Prop:=∀o s v,c ⟨b,o,none⟩=some (.string s)→c ⟨b,o+1,none⟩=some v→¬Ha v
theorem Ge{c:AJ}{S:Nat→Bool}{q:Addr}{v:Value}(h:c q=some v)(F:S q.block=false):Ag c S q=some v:=by unfold Ag;rw[nB (by simp[F])];exact h
theorem Uw{c:AJ}{S:Nat→Bool}(F:∀b,S b=true→DE c b){b o:Nat}{s:BA}{v:Value}(G:c (aD b o)=some (.string s))(H:c (aD b (o+1))=some v)(I:Ha v):S b=false:=by
 cases e:S b with
 |false=>rfl
 |true=>exact absurd I (F b e o s v G H)
theorem aw{c:AJ}{S:Nat→Bool}(H:∀b,S b=true→DE c b){a:Option Addr}{l:List Kv}(h:Bm c a l):Bm (Ag c S) a l:=by
 rcases h with h|⟨b,I,J,F⟩
 ·exact .inl h
 ·refine .inr ⟨b,I,J,fun k x G=>?_⟩
  have hb:=Uw H (F k x G).1 (F k x G).2 trivial;exact⟨Ge (F k x G).1 hb,Ge (F k x G).2 hb⟩
theorem Tf{c:AJ}{S:Nat→Bool}{b p:Nat}{x:Nd}{h:Hd}(G:Bj c b p x h)(F:S b=false):Bj (Ag c S) b p x h:=by
 obtain⟨k,m,u,g,o,nh,d,ks⟩:=x;obtain⟨H,I,J,O,Q,R,T,V⟩:=G;exact⟨Ge H F,Ge I F,Ge J F,Ge O F,Ge Q F,Ge R F,Ge T F,Ge V F⟩
theorem GY{c:AJ}{S:Nat→Bool}(G:∀b,S b=true→DE c b){x:Nd}{h:Hd}(H:Ah c x h):Ah (Ag c S) x h:=by
 induction H with
 |mk b I f J O Q R T _ V=>
  refine .mk b I f (aw G J) O Q R (fun i n x Y=>?_) V;have F:=T i n x Y;have hb:S b=false:=by
   obtain⟨k,m,u,g,o,nh,d,ks⟩:=x;exact Uw G F.1 F.2.1 trivial
  exact⟨Ge F.1 hb,Tf F.2 hb⟩
def L1(c:AJ)(b:Nat):Prop:=∀o s,c ⟨b,o,none⟩≠some (.string s)
theorem L1.row{c:AJ}{b:Nat}(h:L1 c b):DE c b:=fun o s _ e _=>absurd e (h o s)
theorem UJ{c:AJ}{S:Nat→Bool}(F:∀b,S b=true→L1 c b){a:Option Addr}{xs:List Nd}(h:Ch c a xs):Ch (Ag c S) a xs:=by
 rcases h with h|⟨b,H,I,f,J⟩
 ·exact .inl h
 ·refine .inr ⟨b,H,I,f,fun i x O=>?_⟩
  obtain⟨G,Q⟩:=J i x O;refine⟨Tf G ?_,GY (fun b hb=>(F b hb).row) Q⟩;obtain⟨k,m,u,g,o,nh,d,ks⟩:=x;cases e:S b with
  |false=>rfl
  |true=>exact absurd G.2.2.2.2.2.2.1 (F b e _ _)
structure Th where
 d:Bool
 m:Int
 u:Int
 g:Int
 p:Bool
abbrev Th.v(t:Th):Value:=.agg #[.bool t.d,.int .i64 t.m,.int .i64 t.u,.int .i64 t.g,.bool t.p]
def JC:Th:=⟨false,0,0,0,false⟩
structure Bx where
 M:CE
 la:Option Addr
 lc:Nat
 xs:List Nd
 u:Int
 g:Int
 ca:Option Addr
 cc:Nat
 cs:List Int
 k:Int
 q:Int
def Kn(c:AJ)(b:Nat)(B:Bx):Prop:=
 c ⟨b,0,none⟩=some (.slice B.M.ua B.M.us.length B.M.uc)∧c ⟨b,1,none⟩=some (.slice B.M.ga B.M.gs.length B.M.gc)∧c ⟨b,2,none⟩=some (.slice B.la B.xs.length B.lc)∧
 c ⟨b,3,none⟩=some (.int .i64 B.u)∧c ⟨b,4,none⟩=some (.int .i64 B.g)∧c ⟨b,5,none⟩=some (.slice B.ca B.cs.length B.cc)∧c ⟨b,6,none⟩=some (.int .i64 B.k)∧c ⟨b,7,none⟩=some (.int .i64 B.q)
def G0(a:Option Addr)(b:Nat):Prop:=∀p,a=some p→p.block≠b
structure A5 (w:World) (b:Nat) (B:Bx):Prop where
 cells:Kn w.cell? b B
 end8:∀o,8≤o→w.cell? ⟨b,o,none⟩=none
 fz:∀o,w.frozen? ⟨b,o,none⟩=false
 maps:DD w B.M
 lay:Ch w.cell? B.la B.xs
 lcap:B.xs.length≤B.lc∧B.lc≤9223372036854775807
 grp:Bg w B.ca B.cs
 gcap:B.cs.length≤B.cc∧B.cc≤9223372036854775807
 au:G0 B.M.ua b
 ag:G0 B.M.ga b
 ac:B.cs=[]∨G0 B.ca b
theorem A5.lt{w:World}{b:Nat}{B:Bx}(h:A5 w b B):b<w.heap.size:=ny _ _ h.cells.1
theorem Kn.on{c F:AJ}{b:Nat}{B:Bx}(h:Kn c b B)(hb:AR c F):Kn F b B:=
 ⟨hb _ _ h.1,hb _ _ h.2.1,hb _ _ h.2.2.1,hb _ _ h.2.2.2.1,hb _ _ h.2.2.2.2.1,hb _ _ h.2.2.2.2.2.1,hb _ _ h.2.2.2.2.2.2.1,hb _ _ h.2.2.2.2.2.2.2⟩
theorem A5.below{w w':World}{b:Nat}{B:Bx}(h:A5 w b B)(hb:Bw w w'):A5 w' b B where
 cells:=h.cells.on (Aj hb)
 end8:=fun o F=>(hb.cell (p:=(aD b o)) h.lt).trans (h.end8 o F)
 fz:=fun o=>(hb.frozen (p:=(aD b o)) h.lt).trans (h.fz o)
 maps:=h.maps.below hb
 lay:=h.lay.on (Aj hb)
 lcap:=h.lcap
 grp:=h.grp.below hb
 gcap:=h.gcap
 au:=h.au
 ag:=h.ag
 ac:=h.ac
theorem A5.noStr{w:World}{b:Nat}{B:Bx}(h:A5 w b B):L1 w.cell? b:=fun o s e=>by
 obtain⟨G,H,I,J,O,Q,R,T⟩:=h.cells;rcases Nat.lt_or_ge o 8 with F|F
 ·rcases(by omega:o=0∨o=1∨o=2∨o=3∨o=4∨o=5∨o=6∨o=7)with q|q|q|q|q|q|q|q<;>subst q
  ·rw[G]at e;cases e
  ·rw[H]at e;cases e
  ·rw[I]at e;cases e
  ·rw[J]at e;cases e
  ·rw[O]at e;cases e
  ·rw[Q]at e;cases e
  ·rw[R]at e;cases e
  ·rw[T]at e;cases e
 ·rw[h.end8 o F]at e;cases e
theorem A5.hid{w:World}{b:Nat}{B:Bx}(h:A5 w b B):Ch (Ag w.cell? (fun k=>k==b)) B.la B.xs:=UJ (fun k F=>by
 have:k=b:=by simpa using F
 rw[this];exact h.noStr) h.lay
def Bx.mayE(B:Bx)(t:Th)(F:Int):Int:=if IR B.u B.g B.cs B.k t.d t.m t.u t.g t.p F=true then 0 else 9
def Bx.ownE(B:Bx)(t:Th):Int:=if Ib B.u B.k t.u t.p=true then 0 else 10
def dY(w:World)(b:Nat)(B:Bx):Prop:=w.cell? ⟨b,3,none⟩=some (.int .i64 B.u)∧w.cell? ⟨b,4,none⟩=some (.int .i64 B.g)∧w.cell? ⟨b,5,none⟩=some (.slice B.ca B.cs.length B.cc)∧w.cell? ⟨b,6,none⟩=some (.int .i64 B.k)
theorem A5.who{w:World}{b:Nat}{B:Bx}(h:A5 w b B):dY w b B:=⟨h.cells.2.2.2.1,h.cells.2.2.2.2.1,h.cells.2.2.2.2.2.1,h.cells.2.2.2.2.2.2.1⟩
theorem Ad{w w':World}(hb:Bw w w'){q:Addr}{v:Value}(h:w.cell? q=some v):w'.cell? q=some v:=Aj hb q v h
theorem IC{w:World}{b:Nat}{B:Bx}(h:A5 w b B)(t:Th)(O:Int)(T:0≤t.m∧t.m≤4095):
 Calls prog 69 #[pO b 0,t.v,iN O] w fun e w'=>e=.returned (Am (B.mayE t O))∧Bw w w':=by
 obtain⟨M,la,lc,xs,u,g,ca,cc,cs,k,q⟩:=B;obtain⟨d,m,F,tg,p⟩:=t;show cL 69 #[pO b 0,.agg #[.bool d,iN m,iN F,iN tg,.bool p],iN O] w _;have Q:Bw w (w.alloc (.cells #[.bool d,iN m,iN F,iN tg,.bool p] 84)):=bN;have V:Hid _:=Q;have Y:=Ek.new w _ rfl d m F tg p;obtain⟨c0,c1,c2,Z⟩:=(h.below Q).who;obtain⟨aa,ab,ad,ak,ao⟩:=id Y;have R:Hid _:=Zn u g k ca cc cs d m F tg p O ((w.alloc (.cells #[.bool d,iN m,iN F,iN tg,.bool p] 84)).drew) (by have:=h.gcap;exact nO this.1 this.2) ((h.grp.below Q).below (nt _ _).drew) T.1 T.2;obtain⟨ap,az⟩:=A3 (IR u g cs k d m F tg p O);have a6:Hid (Bx.mayE ⟨M,la,lc,xs,u,g,ca,cc,cs,k,q⟩ ⟨d,m,F,tg,p⟩ O=if ap=true then 0 else 9):=by
  show _=_;unfold Bx.mayE;rw[az.out]
 rw[az.out]at R;rw[a6.out];clear h Q;go_enter func69,ntmps69;go_upto_region 1 with fail
 generalize a7:w.alloc (.cells #[.bool d,iN m,iN F,iN tg,.bool p] 84)=I at*;clear a7;have G:Ce I.drew b 3 (iN u)∧Ce I.drew b 4 (iN g)∧Ce I.drew b 5 (.slice ca cs.length cc)∧Ce I.drew b 6 (iN k)∧Ce I.drew w.heap.size 0 (.bool d)∧Ce I.drew w.heap.size 1 (iN m)∧Ce I.drew w.heap.size 2 (iN F)∧Ce I.drew w.heap.size 3 (iN tg)∧Ce I.drew w.heap.size 4 (.bool p):=⟨c0,c1,c2,Z,aa,ab,ad,ak,ao⟩;clear c0 c1 c2 Z aa ab ad ak ao;go_region_held3 (fun w'=>Ce w' b 3 (iN u)∧Ce w' b 4 (iN g)∧Ce w' b 5 (.slice ca cs.length cc)∧Ce w' b 6 (iN k)∧Ce w' w.heap.size 0 (.bool d)∧Ce w' w.heap.size 1 (iN m)∧Ce w' w.heap.size 2 (iN F)∧Ce w' w.heap.size 3 (iN tg)∧Ce w' w.heap.size 4 (.bool p)) (first|exact G|exact a1) (first|(go_at_call 121;refine nn R.out ?_;rintro e J ⟨rfl,H⟩;have a1:Ce J b 3 (iN u)∧Ce J b 4 (iN g)∧Ce J b 5 (.slice ca cs.length cc)∧Ce J b 6 (iN k)∧Ce J w.heap.size 0 (.bool d)∧Ce J w.heap.size 1 (iN m)∧Ce J w.heap.size 2 (iN F)∧Ce J w.heap.size 3 (iN tg)∧Ce J w.heap.size 4 (.bool p):=⟨Ad H G.1,Ad H G.2.1,Ad H G.2.2.1,Ad H G.2.2.2.1,Ad H G.2.2.2.2.1,Ad H G.2.2.2.2.2.1,Ad H G.2.2.2.2.2.2.1,Ad H G.2.2.2.2.2.2.2.1,Ad H G.2.2.2.2.2.2.2.2⟩))
 all_goals
  have a8:Hid _:=V.out.drew.trans (H.mono V.out.drew.size);clear G a1 H R Y;cases ap
  all_goals
   go_wp2;go_ret;exact⟨rfl,a8.out⟩
theorem Rw{w:World}{b:Nat}{B:Bx}(h:A5 w b B)(t:Th):
 Calls prog 71 #[pO b 0,t.v] w fun e w'=>e=.returned (Am (B.ownE t))∧Bw w w':=by
 obtain⟨M,la,lc,xs,u,g,ca,cc,cs,k,q⟩:=B;obtain⟨d,m,F,tg,p⟩:=t;show cL 71 #[pO b 0,.agg #[.bool d,iN m,iN F,iN tg,.bool p]] w _;have O:Bw w (w.alloc (.cells #[.bool d,iN m,iN F,iN tg,.bool p] 84)):=bN;have R:Hid _:=O;have T:=Ek.new w _ rfl d m F tg p;obtain⟨c0,c1,c2,V⟩:=(h.below O).who;obtain⟨Y,Z,aa,ab,ad⟩:=id T;have Q:Hid _:=Qx u g k (.slice ca cs.length cc) d m F tg p ((w.alloc (.cells #[.bool d,iN m,iN F,iN tg,.bool p] 84)).drew);obtain⟨ak,ao⟩:=A3 (Ib u k F p);have az:Hid (Bx.ownE ⟨M,la,lc,xs,u,g,ca,cc,cs,k,q⟩ ⟨d,m,F,tg,p⟩=if ak=true then 0 else 10):=by
  show _=_;unfold Bx.ownE;rw[ao.out]
 rw[ao.out]at Q;rw[az.out];clear h O;go_enter func71,ntmps71;go_upto_region 1 with fail
 generalize a1:w.alloc (.cells #[.bool d,iN m,iN F,iN tg,.bool p] 84)=I at*;clear a1;have G:Ce I.drew b 3 (iN u)∧Ce I.drew b 4 (iN g)∧Ce I.drew b 5 (.slice ca cs.length cc)∧Ce I.drew b 6 (iN k)∧Ce I.drew w.heap.size 0 (.bool d)∧Ce I.drew w.heap.size 1 (iN m)∧Ce I.drew w.heap.size 2 (iN F)∧Ce I.drew w.heap.size 3 (iN tg)∧Ce I.drew w.heap.size 4 (.bool p):=⟨c0,c1,c2,V,Y,Z,aa,ab,ad⟩;clear c0 c1 c2 V Y Z aa ab ad;go_region_held3 (fun w'=>Ce w' b 3 (iN u)∧Ce w' b 4 (iN g)∧Ce w' b 5 (.slice ca cs.length cc)∧Ce w' b 6 (iN k)∧Ce w' w.heap.size 0 (.bool d)∧Ce w' w.heap.size 1 (iN m)∧Ce w' w.heap.size 2 (iN F)∧Ce w' w.heap.size 3 (iN tg)∧Ce w' w.heap.size 4 (.bool p)) (first|exact G|exact ap) (first|(go_at_call 123;refine nn Q.out ?_;rintro e J ⟨rfl,H⟩;have ap:Ce J b 3 (iN u)∧Ce J b 4 (iN g)∧Ce J b 5 (.slice ca cs.length cc)∧Ce J b 6 (iN k)∧Ce J w.heap.size 0 (.bool d)∧Ce J w.heap.size 1 (iN m)∧Ce J w.heap.size 2 (iN F)∧Ce J w.heap.size 3 (iN tg)∧Ce J w.heap.size 4 (.bool p):=⟨Ad H G.1,Ad H G.2.1,Ad H G.2.2.1,Ad H G.2.2.2.1,Ad H G.2.2.2.2.1,Ad H G.2.2.2.2.2.1,Ad H G.2.2.2.2.2.2.1,Ad H G.2.2.2.2.2.2.2.1,Ad H G.2.2.2.2.2.2.2.2⟩))
 all_goals
  have a6:Hid _:=R.out.drew.trans (H.mono R.out.drew.size);clear G ap H Q T;cases ak
  all_goals
   go_wp2;go_ret;exact⟨rfl,a6.out⟩
def A6(w:World)(b p:Nat)(F:List Value):Prop:=∀i v,F[i]? =some v→w.cell? ⟨b,p+i,none⟩=some v
def GP(w:World)(b p:Nat):List Value→World
 |[]=>w
 |v::l=>GP (w.setCell ⟨b,p,none⟩ v) b (p+1) l
theorem IA{b:Nat}{q:Addr}:∀(F:List Value) (w:World) (p:Nat),(∀j,j<F.length→q≠(aD b (p+j)))→(GP w b p F).cell? q=w.cell? q
 |[],_,_,_=>rfl
 |v::l,w,p,h=>by
  rw[GP,IA l _ (p+1) (fun j G=>by
   have:=h (j+1) (by rw[n3];omega);rwa [show p+1+j=p+(j+1) by omega])]
  exact nz _ _ _ _ (fun e=>h 0 (by simp) (by rw[←e];rfl))
theorem Ut{b:Nat}:∀(F us:List Value) (w:World) (p:Nat),us.length=F.length→A6 w b p us→A6 (GP w b p F) b p F
 |[],_,_,_,_,_=>fun i v h=>by simp at h
 |v::l,[],_,_,h,_=>by simp at h
 |v::l,u::us,w,p,hl,hr=>by
  have G:A6 (w.setCell (aD b p) v) b (p+1) us:=fun i x hx=>by
   rw[nz _ _ _ _ (fun e=>by injection e with _ e2;omega)];have:=hr (i+1) x (by simpa using hx);rwa [show p+1+i=p+(i+1) by omega]
  have H:=Ut l us (w.setCell (aD b p) v) (p+1) (by simpa using hl) G;intro i x hx;rw[GP];cases i with
  |zero=>
   rw[IA l _ (p+1) (fun j _ e=>by injection e with _ e2;omega)];have:v=x:=by simpa using hx
   subst this;exact nH _ _ _ (hr 0 u rfl)
  |succ i=>
   have:=H i x (by simpa using hx);rwa [show p+(i+1)=p+1+i by omega]
theorem Wf{b:Nat}{q:Addr}:∀(F:List Value) (w:World) (p:Nat),(GP w b p F).frozen? q=w.frozen? q
 |[],_,_=>rfl
 |v::l,w,p=>by rw[GP,Wf l];simp
theorem QP{n b:Nat}{F:World}(G:n≤b):∀(H:List Value) (w:World) (p:Nat),Below n F w→Below n F (GP w b p H)
 |[],_,_,h=>h
 |_v::l,_w,_p,h=>QP G l _ _ (h.setCell G _)
theorem A6.below{w w':World}{b p:Nat}{F:List Value}(h:A6 w b p F)(hb:Bw w w'):A6 w' b p F:=fun i v G=>Ad hb (h i v G)
theorem A6.new(w:World)(b:Nat)(hb:b=w.heap.size)(F:List Value)(t:TypeId):A6 (w.alloc (.cells F.toArray t)) b 0 F:=fun i v G=>by
 rw[nk _ _ _ _ hb];simpa using G
theorem Hz(b:Nat):∀(F:List Value) (w:World) (p:Nat),GP w b p F=w.setCells b p F
 |[],_,_=>rfl
 |v::l,w,p=>by rw[GP,World.setCells,Hz b l]
theorem BM{w:World}{b p:Nat}{F:List Value}{q:Addr}(G:q.block≠b):(w.setCells b p F).cell? q=w.cell? q:=by
 rw[←Hz];exact IA _ _ _ (fun j _ e=>G (by rw[e]))
theorem C5{w:World}{b p:Nat}(F:List Value){us:List Value}(h:A6 w b p us)(G:us.length=F.length):A6 (w.setCells b p F) b p F:=by
 rw[←Hz];exact Ut _ us _ _ G h
theorem CP{F w:World}{n b p:Nat}(G:List Value)(H:n≤b)(h:Below n F w):Below n F (w.setCells b p G):=by
 rw[←Hz];exact QP H _ _ _ h
theorem Cd{P:Program}{w:World}{b:Nat}{us cs:List Value}(h:A6 w b 0 us)(F:∀q,w.frozen? (aD b q)=false)(H:us.length=cs.length)(G:∀v∈cs,v.oneCell'=true):(storeCells (aD b 0) cs 0).run P w=.ok () (w.setCells b 0 cs):=
 run_storeCells_cells b 0 cs 0 w (fun j I=>by rw[rT,h j us[j] (np (by omega))];rfl) (fun j _=>F _) G
def kb(F cs:List Value):Prop:=F=cs
def BK(cs:List Value):Value:=.agg cs.toArray
theorem BT(cs:List Value):(BK cs).cells=cs.toArray:=rfl
structure Fd where
 t:Th
 dir:Th
 na:Option Addr
 nc:Nat
 nf:List BA
 there:Bool
 x:Nd
 h:Hd
 ly:Int
abbrev Th.l(t:Th):List Value:=[.bool t.d,.int .i64 t.m,.int .i64 t.u,.int .i64 t.g,.bool t.p]
def Fd.l(f:Fd):List Value:=f.t.l++f.dir.l++[.slice f.na f.nf.length f.nc,.bool f.there]++Bi f.x f.h++[.int .i64 f.ly]
def Fd.v(f:Fd):Value:=.agg f.l.toArray
def Dg:Fd:=⟨JC,JC,none,0,[],false,zN,zH,0⟩
theorem Zx(x:Nd)(h:Hd):∀v∈Bi x h,v.oneCell'=true:=by
 obtain⟨k,m,u,g,o,nh,d,ks⟩:=x;simp[Bi,Value.oneCell']
theorem DW(f:Fd):f.l.length=21:=by
 obtain⟨t,dir,na,nc,nf,F,x,h,ly⟩:=f;obtain⟨k,m,u,g,o,nh,d,ks⟩:=x;rfl
theorem Ej(f:Fd):∀v∈f.l,v.oneCell'=true:=by
 intro v F;unfold Fd.l at F;simp only[rd]at F;rcases F with(((F|F)|F)|F)|F
 ·revert v;simp[Value.oneCell']
 ·revert v;simp[Value.oneCell']
 ·revert v;simp[Value.oneCell']
 ·exact Zx _ _ _ F
 ·revert v;simp[Value.oneCell']
def Bx.passE(B:Bx)(t:Th):Int:=if t.d=false then 7 else B.mayE t 1
theorem bw{B:Bx}{t:Th}{F:Int}:B.mayE t F=0∨B.mayE t F=9:=by unfold Bx.mayE;split<;>simp
theorem Yn{w:World}{b:Nat}{B:Bx}(h:A5 w b B)(t:Th)(Q:0≤t.m∧t.m≤4095):
 Calls prog 150 #[.pointer (some ⟨b,0,none⟩),t.v] w fun e w'=>e=.returned (Am (B.passE t))∧Bw w w':=by
 obtain⟨d,m,F,tg,p⟩:=t;have G:Bw w (w.alloc (.cells #[.bool d,iN m,iN F,iN tg,.bool p] 84)):=bN;have I:=Ek.new w _ rfl d m F tg p;obtain⟨T,V,Y,Z,aa⟩:=id I;have J:Hid _:=IC (h.below G) ⟨d,m,F,tg,p⟩ 1 Q;have O:Hid (B.passE ⟨d,m,F,tg,p⟩=if d=false then 7 else B.mayE ⟨d,m,F,tg,p⟩ 1):=rfl;have H:Hid _:=G;rw[O.out];generalize B.mayE ⟨d,m,F,tg,p⟩ 1=ab at J⊢;clear h O I G;show cL 150 #[pO b 0,.agg #[.bool d,iN m,iN F,iN tg,.bool p]] w _;cases d
 ·go_enter func150,ntmps150
  go_wp2;go_ret;exact⟨rfl,H.out⟩
 ·go_enter func150,ntmps150
  go_wp2_with fail
  refine nn J.out ?_;rintro e ad ⟨rfl,R⟩;go_wp2;go_ret;exact⟨rfl,H.out.trans (R.mono H.out.size)⟩
def Bx.th(B:Bx)(up:Bool):Nd→Th
 |.mk k m u g _ _ _ _=>⟨k==2,m,(De up B.M.us u).getD 65534,(De up B.M.gs g).getD 65534,(De up B.M.us u).isSome&&(De up B.M.gs g).isSome⟩
theorem Xh{W:World}{x:Nd}{h:Hd}(hid:Eu x){B:Bx}(F:DD W B.M)(up:Bool):
 Calls prog 170 #[B.M.v,Ao x h,.bool up] W fun e G=>e=.returned (B.th up x).v∧Bw W G:=by
 cases up
 ·have:=Wo (h:=h) hid F
  obtain⟨k,m,u,g,o,nh,d,ks⟩:=x;exact this
 ·have:=XS (h:=h) hid F
  obtain⟨k,m,u,g,o,nh,d,ks⟩:=x;exact this
def Bx.fd(B:Bx)(x:Nd)(h:Hd)(ly:Int):Fd:=⟨B.th (ly==0) x,JC,none,0,[],true,x,h,ly⟩
theorem NR{w:World}{b:Nat}{B:Bx}(h:A5 w b B){x:Nd}{hx:Hd}(hid:Eu x)(ly:Int):
 Calls prog 149 #[.pointer (some ⟨b,0,none⟩),Ao x hx,.int .i64 ly] w fun e w'=>e=.returned (B.fd x hx ly).v∧Bw w w':=by
 obtain⟨bg,ao⟩:=A3 (B.th (ly==0) x);unfold Bx.fd;rw[ao.out];obtain⟨k,m,u,g,o,nh,d,ks⟩:=x;have Z:Bw w ((w.alloc (Ap k m u g o nh d ks hx)).alloc AF):=bN.alloc (by simp) _;have ad:Hid _:=Xh (h:=hx) (x:=.mk k m u g o nh d ks) hid ((h.below Z).below (nt _ _).drew).maps (ly==0);rw[ao.out]at ad;have ap:=A6.new w _ rfl [iN k,iN m,iN u,iN g,.bool o,.slice hx.aa nh.length hx.ca,.string d,.slice hx.ak ks.length hx.ck] 50;have az:=A6.new (w.alloc (Ap k m u g o nh d ks hx)) (w.heap.size+1) (by simp) CB 86;have O:=ap.below ((nt _ _).alloc (nl _) AF);obtain⟨c0,c1,_⟩:=(h.below Z).cells;have fz:∀q,Fz ((w.alloc (Ap k m u g o nh d ks hx)).alloc AF).drew (w.heap.size+1) q:=fun q=>nP _ _ _ _ (by simp);have a1:Hid _:=Z
 have a6:b≠w.heap.size+1:=fun e=>by have:=h.lt;omega
 clear h ap Z;show cL 149 #[pO b 0,(AY k m u g o nh d ks hx),iN ly] w _;go_enter func149,ntmps149;go_upto_region 1 with fail
 generalize bi:((w.alloc (Ap k m u g o nh d ks hx)).alloc AF)=H at*;clear bi;have I:Ce H.drew b 0 (.slice B.M.ua B.M.us.length B.M.uc)∧Ce H.drew b 1 (.slice B.M.ga B.M.gs.length B.M.gc)∧Ce H.drew w.heap.size 0 (iN k)∧Ce H.drew w.heap.size 1 (iN m)∧Ce H.drew w.heap.size 2 (iN u)∧Ce H.drew w.heap.size 3 (iN g)∧Ce H.drew w.heap.size 4 (.bool o)∧Ce H.drew w.heap.size 5 (.slice hx.aa nh.length hx.ca)∧Ce H.drew w.heap.size 6 (.string d)∧Ce H.drew w.heap.size 7 (.slice hx.ak ks.length hx.ck):=⟨c0,c1,O 0 _ rfl,O 1 _ rfl,O 2 _ rfl,O 3 _ rfl,O 4 _ rfl,O 5 _ rfl,O 6 _ rfl,O 7 _ rfl⟩;have aa:A6 H.drew (w.heap.size+1) 0 _:=fun i v bk=>az i v bk;have a7:w.heap.size+1<H.drew.heap.size:=bL (aa 0 _ rfl)
 clear az;obtain⟨Q,R,T,tg,V⟩:=bg;have a8:Hid (cL 170 #[.agg #[.slice B.M.ua B.M.us.length B.M.uc,.slice B.M.ga B.M.gs.length B.M.gc],(AY k m u g o nh d ks hx),.bool (ly==0)] H.drew fun e bl=>e=.returned (.agg #[.bool Q,iN R,iN T,iN tg,.bool V])∧Bw H.drew bl):=ad.out;obtain⟨cs,Y⟩:∃cs:List Value,kb [.bool Q,iN R,iN T,iN tg,.bool V,.bool false,iN 0,iN 0,iN 0,.bool false,nL,.bool true,iN k,iN m,iN u,iN g,.bool o,.slice hx.aa nh.length hx.ca,.string d,.slice hx.ak ks.length hx.ck,iN ly] cs:=⟨_,rfl⟩;have ba:cs.length=21:=by rw[←(show _=_ from Y)];rfl
 have ab:Hid (cs.length=21):=ba;have bb:Hid (∀v∈cs,v.oneCell'=true):=by
  show∀v∈cs,_;rw[←(show _=_ from Y)];simp[Value.oneCell']
 have bn:Value.agg #[.bool Q,iN R,iN T,iN tg,.bool V,.bool false,iN 0,iN 0,iN 0,.bool false,nL,.bool true,iN k,iN m,iN u,iN g,.bool o,.slice hx.aa nh.length hx.ca,.string d,.slice hx.ak ks.length hx.ck,iN ly]=BK cs:=by rw[←(show _=_ from Y)];rfl
 have bd:=BT cs;unfold Value.cells at bd;clear ad c0 c1 O;go_region_held3 (fun w'=>Ce w' b 0 (.slice B.M.ua B.M.us.length B.M.uc)∧Ce w' b 1 (.slice B.M.ga B.M.gs.length B.M.gc)∧Ce w' w.heap.size 0 (iN k)∧Ce w' w.heap.size 1 (iN m)∧Ce w' w.heap.size 2 (iN u)∧Ce w' w.heap.size 3 (iN g)∧Ce w' w.heap.size 4 (.bool o)∧Ce w' w.heap.size 5 (.slice hx.aa nh.length hx.ca)∧Ce w' w.heap.size 6 (.string d)∧Ce w' w.heap.size 7 (.slice hx.ak ks.length hx.ck)) (first|with_reducible exact I|with_reducible exact J|with_reducible exact be) (first|(go_at_call 170;refine nn a8.out ?_;rintro e F ⟨rfl,G⟩;have J:Ce F b 0 (.slice B.M.ua B.M.us.length B.M.uc)∧Ce F b 1 (.slice B.M.ga B.M.gs.length B.M.gc)∧Ce F w.heap.size 0 (iN k)∧Ce F w.heap.size 1 (iN m)∧Ce F w.heap.size 2 (iN u)∧Ce F w.heap.size 3 (iN g)∧Ce F w.heap.size 4 (.bool o)∧Ce F w.heap.size 5 (.slice hx.aa nh.length hx.ca)∧Ce F w.heap.size 6 (.string d)∧Ce F w.heap.size 7 (.slice hx.ak ks.length hx.ck):=⟨Ad G I.1,Ad G I.2.1,Ad G I.2.2.1,Ad G I.2.2.2.1,Ad G I.2.2.2.2.1,Ad G I.2.2.2.2.2.1,Ad G I.2.2.2.2.2.2.1,Ad G I.2.2.2.2.2.2.2.1,Ad G I.2.2.2.2.2.2.2.2.1,Ad G I.2.2.2.2.2.2.2.2.2⟩;have be:Ce (F.setCells (w.heap.size+1) 0 cs) b 0 (.slice B.M.ua B.M.us.length B.M.uc)∧Ce (F.setCells (w.heap.size+1) 0 cs) b 1 (.slice B.M.ga B.M.gs.length B.M.gc)∧Ce (F.setCells (w.heap.size+1) 0 cs) w.heap.size 0 (iN k)∧Ce (F.setCells (w.heap.size+1) 0 cs) w.heap.size 1 (iN m)∧Ce (F.setCells (w.heap.size+1) 0 cs) w.heap.size 2 (iN u)∧Ce (F.setCells (w.heap.size+1) 0 cs) w.heap.size 3 (iN g)∧Ce (F.setCells (w.heap.size+1) 0 cs) w.heap.size 4 (.bool o)∧Ce (F.setCells (w.heap.size+1) 0 cs) w.heap.size 5 (.slice hx.aa nh.length hx.ca)∧Ce (F.setCells (w.heap.size+1) 0 cs) w.heap.size 6 (.string d)∧Ce (F.setCells (w.heap.size+1) 0 cs) w.heap.size 7 (.slice hx.ak ks.length hx.ck):=⟨(BM a6).trans (J.1),(BM a6).trans (J.2.1),(BM (by simp)).trans (J.2.2.1),(BM (by simp)).trans (J.2.2.2.1),(BM (by simp)).trans (J.2.2.2.2.1),(BM (by simp)).trans (J.2.2.2.2.2.1),(BM (by simp)).trans (J.2.2.2.2.2.2.1),(BM (by simp)).trans (J.2.2.2.2.2.2.2.1),(BM (by simp)).trans (J.2.2.2.2.2.2.2.2.1),(BM (by simp)).trans (J.2.2.2.2.2.2.2.2.2)⟩;have bo:=Cd (P:=prog) (aa.below G) (fun q=>(G.frozen (p:=(aD (w.heap.size+1) q)) a7).trans (fz q)) ab.out.symm bb.out))
 have ak:Hid _:=C5 cs (aa.below G) ab.out.symm;have bf:Hid _:=CP (b:=w.heap.size+1) (p:=0) cs (show w.heap.size≤w.heap.size+1 by omega) (a1.out.drew.trans (G.mono a1.out.drew.size));generalize(F.setCells (w.heap.size+1) 0 cs)=bp at ak bf⊢;have bs:Hid (Fd.v _=.agg cs.toArray):=(nV (fun l:List Value=>Value.agg l.toArray) (show [.bool Q,iN R,iN T,iN tg,.bool V,.bool false,iN 0,iN 0,iN 0,.bool false,nL,.bool true,iN k,iN m,iN u,iN g,.bool o,.slice hx.aa nh.length hx.ca,.string d,.slice hx.ak ks.length hx.ck,iN ly]=cs from Y):Fd.v ⟨⟨Q,R,T,tg,V⟩,JC,none,0,[],true,.mk k m u g o nh d ks,hx,ly⟩=_);have bu:=run_loadVar_mid (P:=prog) bp (w.heap.size+1) 0 86 cs _ ak.out rfl rfl (by rw[ab.out];rfl);clear I J be G aa a8 fz a7 bo bn bd ba ab bb Y ak;go_wp2;refine nF (v:=.agg cs.toArray) ?_ rfl ⟨nV Ending.returned bs.out.symm,bf.out⟩;simp[results,results149,asAddr,bu]
theorem A6.new2(w:World)(b:Nat)(hb:b=w.heap.size)(cs:List Value)(t:TypeId):A6 (w.alloc (.cells cs.toArray t)) b 0 cs:=A6.new w b hb cs t
theorem Pk(w:World)(cs:List Value)(F:cs.length=21)(ad:∀v∈cs,v.oneCell'=true)(Y:Bool)(a1:cs[11]? =some (.bool Y))(E:Int):
 Calls prog 66 #[BK cs,Am E] w fun e w'=>(e=.returned (if E=0∧Y=false then .tuple #[Dg.v,Am 5]else .tuple #[BK cs,Am E]))∧Bw w w':=by
 have J:=A6.new2 w _ rfl cs 86;have ak:Bw w (w.alloc (.cells cs.toArray 86)):=bN;have I:=A6.new (w.alloc (.cells cs.toArray 86)) (w.heap.size+1) (by simp) CB 86;have ao:Bw w ((w.alloc (.cells cs.toArray 86)).alloc AF):=ak.alloc (by simp) _;have J:=J.below (w':=((w.alloc (.cells cs.toArray 86)).alloc AF)) bN;have ba:=J 11 _ a1;have a6:=BT cs;unfold Value.cells at a6;go_enter func66,ntmps66;go_upto_region 1 with fail
 have fz:∀q,Fz ((w.alloc (.cells cs.toArray 86)).alloc AF) (w.heap.size+1) q:=fun q=>nP _ _ _ _ (by simp);have Z:Hid _:=ao
 clear ak ao;generalize(w.alloc (.cells cs.toArray 86)).alloc AF=aa at*;by_cases O:E=0
 ·subst O
  rw[show Am 0=Value.nilIface from rfl];cases Y
  ·obtain⟨c0,V⟩:∃cs:List Value,kb CB cs:=⟨_,rfl⟩
   have ab:c0.length=21:=by rw[←(show _=_ from V)];rfl
   have a7:=hid ab;have ap:∀v∈c0,v.oneCell'=true:=by
    rw[←(show _=_ from V)];simp[Value.oneCell']
   have Q:=Cd (P:=prog) I fz ab.symm ap;have G:Hid _:=C5 c0 I ab.symm;have H:Hid _:=CP (b:=w.heap.size+1) (p:=0) c0 (show w.heap.size≤w.heap.size+1 by omega) Z.out;generalize aa.setCells (w.heap.size+1) 0 c0=R at Q G H;have T:=run_loadVar_mid (P:=prog) R (w.heap.size+1) 0 86 c0 _ G.out rfl rfl (by rw[a7.out];rfl);have bb:Value.agg #[.bool false,iN 0,iN 0,iN 0,.bool false,.bool false,iN 0,iN 0,iN 0,.bool false,nL,.bool false,iN 0,iN 0,iN 0,iN 0,.bool false,nL,.string ⟨#[]⟩,nL,iN 0]=BK c0:=by rw[←(show _=_ from V)];rfl
   have a8:=BT c0;unfold Value.cells at a8;have az:Hid (Dg.v=.agg c0.toArray):=nV (fun l:List Value=>Value.agg l.toArray) (show CB=c0 from V);clear ap;go_wp2;refine nF (v:=.tuple #[.agg c0.toArray,Am 5]) ?_ rfl ⟨by first|rw[az.out]|rw[nC ⟨rfl,rfl⟩,az.out],H.out⟩;simp[results,results66,asAddr,T,Am]
  ·go_upto_region 3 with fail
   refine rU ?_;refine wpList_load_mid rfl _ _ rfl _ _ rfl cs _ J rfl rfl (by rw[F];rfl) ?_;simp only[tk];have Q:=Cd (P:=prog) I fz (by rw[F];rfl) ad;have G:Hid _:=C5 cs I (by rw[F];rfl);have H:Hid _:=CP (b:=w.heap.size+1) (p:=0) cs (show w.heap.size≤w.heap.size+1 by omega) Z.out;generalize aa.setCells (w.heap.size+1) 0 cs=R at Q G H;have T:=run_loadVar_mid (P:=prog) R (w.heap.size+1) 0 86 cs _ G.out rfl rfl (by rw[F];rfl);go_wp2;refine nF (v:=.tuple #[.agg cs.toArray,.nilIface]) ?_ rfl ⟨by first|rfl|(rw[nB (by simp)];rfl),H.out⟩;simp[results,results66,asAddr,T]
 ·rw[show Am E=.iface 74 (iN E)from AH rfl O]
  go_upto_region 3 with fail
  refine rU ?_;refine wpList_load_mid rfl _ _ rfl _ _ rfl cs _ J rfl rfl (by rw[F];rfl) ?_;simp only[tk];have Q:=Cd (P:=prog) I fz (by rw[F];rfl) ad;have G:Hid _:=C5 cs I (by rw[F];rfl);have H:Hid _:=CP (b:=w.heap.size+1) (p:=0) cs (show w.heap.size≤w.heap.size+1 by omega) Z.out;generalize aa.setCells (w.heap.size+1) 0 cs=R at Q G H;have T:=run_loadVar_mid (P:=prog) R (w.heap.size+1) 0 86 cs _ G.out rfl rfl (by rw[F];rfl);go_wp2;refine nF (v:=.tuple #[.agg cs.toArray,.iface 74 (iN E)]) ?_ rfl ⟨by first|(rw[nB (fun q=>O q.1),AH rfl O];rfl)|(rw[AH rfl O];rfl)|rfl,H.out⟩;simp[results,results66,asAddr,T]
def Bx.takE(B:Bx)(t dir:Th):Int:=if B.mayE dir 2≠0 then 9 else if Jy B.u B.k dir.m dir.u dir.p t.u t.p=true then 0 else 10
theorem Nw{w:World}{b:Nat}{B:Bx}(h:A5 w b B)(O:List Value)(t dir:Th)(bd:O.take 10=t.l++dir.l)(bu:0≤dir.m∧dir.m≤4095):
 Calls prog 79 #[.pointer (some ⟨b,0,none⟩),BK O] w fun e w'=>e=.returned (Am (B.takE t dir))∧Bw w w':=by
 have be:=A6.new2 w _ rfl O 86;have ap:Bw w (w.alloc (.cells O.toArray 86)):=bN;have a1:Hid _:=IC (h.below ap) dir 2 bu;have bf:=h.below ap;obtain⟨a6,a7⟩:=A3 (B.mayE dir 2);have bv:a6=0∨a6=9:=by rw[←a7.out];exact bw
 obtain⟨bg,bi⟩:=A3 (Jy B.u B.k dir.m dir.u dir.p t.u t.p);have bk:Hid (B.takE t dir=if a6≠0 then 9 else if bg=true then 0 else 10):=by show _=_;unfold Bx.takE;rw[a7.out,bi.out]
 rw[bk.out];rw[a7.out]at a1;clear h bk;obtain⟨M,la,lc,xs,u,g,ca,cc,cs,k,q⟩:=B;obtain⟨Q,R,T,tg,V⟩:=t;obtain⟨Y,Z,aa,ab,ad⟩:=dir;have bl:∀i v,([.bool Q,iN R,iN T,iN tg,.bool V,.bool Y,iN Z,iN aa,iN ab,.bool ad]:List Value)[i]? =some v→O[i]? =some v:=fun i v ao=>by
  have e:O.take 10=[.bool Q,iN R,iN T,iN tg,.bool V,.bool Y,iN Z,iN aa,iN ab,.bool ad]:=bd;rw[←e,rL]at ao;split at ao
  ·exact ao
  ·cases ao
 have bx:=BT O;unfold Value.cells at bx;have ak:A6 (w.alloc (.cells O.toArray 86)) w.heap.size 0 [.bool Q,iN R,iN T,iN tg,.bool V,.bool Y,iN Z,iN aa,iN ab,.bool ad]:=fun i v ao=>be i v (bl i v ao);clear be bl bd
 have a8:Hid _:=ap;have bn:=hid a1.out;clear a1 ap;go_enter func79,ntmps79;have bA:=ak 5 _ rfl;have bB:=ak 6 _ rfl;have bC:=ak 7 _ rfl;have bF:=ak 8 _ rfl;have bG:=ak 9 _ rfl;go_wp2_with fail
 refine nn bn.out ?_;rintro e H ⟨rfl,az⟩;have ba:Hid _:=a8.out.trans (az.mono a8.out.size);have bo:=bf.below az;have J:=ak.below az;clear bA bB bC bF bG bn a8 bf ak az;rcases bv with rfl|rfl
 ·have bb:Hid _:=Ww u g k (.slice ca cs.length cc) Y Z aa ab ad Q R T tg V H.drew
  rw[bi.out]at bb;obtain⟨c0,c1,c2,bp⟩:=bo.who;have F:Ce H.drew b 3 (iN u)∧Ce H.drew b 4 (iN g)∧Ce H.drew b 5 (.slice ca cs.length cc)∧Ce H.drew b 6 (iN k)∧Ce H.drew w.heap.size 0 (.bool Q)∧Ce H.drew w.heap.size 1 (iN R)∧Ce H.drew w.heap.size 2 (iN T)∧Ce H.drew w.heap.size 3 (iN tg)∧Ce H.drew w.heap.size 4 (.bool V)∧Ce H.drew w.heap.size 5 (.bool Y)∧Ce H.drew w.heap.size 6 (iN Z)∧Ce H.drew w.heap.size 7 (iN aa)∧Ce H.drew w.heap.size 8 (iN ab)∧Ce H.drew w.heap.size 9 (.bool ad):=⟨c0,c1,c2,bp,J 0 _ rfl,J 1 _ rfl,J 2 _ rfl,J 3 _ rfl,J 4 _ rfl,J 5 _ rfl,J 6 _ rfl,J 7 _ rfl,J 8 _ rfl,J 9 _ rfl⟩;clear c0 c1 c2 bp bo J;rw[show Am 0=Value.nilIface from rfl];go_upto_region 4 with fail
  go_region_held3 (fun w'=>Ce w' b 3 (iN u)∧Ce w' b 4 (iN g)∧Ce w' b 5 (.slice ca cs.length cc)∧Ce w' b 6 (iN k)∧Ce w' w.heap.size 0 (.bool Q)∧Ce w' w.heap.size 1 (iN R)∧Ce w' w.heap.size 2 (iN T)∧Ce w' w.heap.size 3 (iN tg)∧Ce w' w.heap.size 4 (.bool V)∧Ce w' w.heap.size 5 (.bool Y)∧Ce w' w.heap.size 6 (iN Z)∧Ce w' w.heap.size 7 (iN aa)∧Ce w' w.heap.size 8 (iN ab)∧Ce w' w.heap.size 9 (.bool ad)) (first|with_reducible exact F|with_reducible exact bs) (first|(go_at_call 129;refine nn bb.out ?_;rintro e I ⟨rfl,G⟩;have bs:Ce I b 3 (iN u)∧Ce I b 4 (iN g)∧Ce I b 5 (.slice ca cs.length cc)∧Ce I b 6 (iN k)∧Ce I w.heap.size 0 (.bool Q)∧Ce I w.heap.size 1 (iN R)∧Ce I w.heap.size 2 (iN T)∧Ce I w.heap.size 3 (iN tg)∧Ce I w.heap.size 4 (.bool V)∧Ce I w.heap.size 5 (.bool Y)∧Ce I w.heap.size 6 (iN Z)∧Ce I w.heap.size 7 (iN aa)∧Ce I w.heap.size 8 (iN ab)∧Ce I w.heap.size 9 (.bool ad):=⟨Ad G F.1,Ad G F.2.1,Ad G F.2.2.1,Ad G F.2.2.2.1,Ad G F.2.2.2.2.1,Ad G F.2.2.2.2.2.1,Ad G F.2.2.2.2.2.2.1,Ad G F.2.2.2.2.2.2.2.1,Ad G F.2.2.2.2.2.2.2.2.1,Ad G F.2.2.2.2.2.2.2.2.2.1,Ad G F.2.2.2.2.2.2.2.2.2.2.1,Ad G F.2.2.2.2.2.2.2.2.2.2.2.1,Ad G F.2.2.2.2.2.2.2.2.2.2.2.2.1,Ad G F.2.2.2.2.2.2.2.2.2.2.2.2.2⟩))
  all_goals
   have bH:Hid _:=ba.out.drew.trans (G.mono ba.out.drew.size);clear F bs G bb;cases bg
   all_goals
    go_wp2;go_ret;exact⟨rfl,bH.out⟩
 ·rw[show Am 9=.iface 74 (iN 9)from rfl]
  go_wp2;go_ret;exact⟨rfl,ba.out⟩
end Go.Proofs.YtgppjbhaimmlpaaGreatDoor
namespace Go.Proofs.YtgppjbhaimmlpaaGreatDoor
open Go.RowKit Go.Shelf Go.Proofs.Tryz
def Be:List Fl→List Value
 |[]=>[]
 |f::r=>Bi f.x f.h++Be r
def Fn:List Fl→List Value
 |[]=>[]
 |f::r=>.int .i64 f.ly::Fn r
theorem Ka:∀F:List Fl,(Be F).length=F.length*8
 |[]=>rfl
 |f::r=>by simp[Be,Ka r,DT];omega
theorem J9:∀A B:List Fl,Be (A++B)=Be A++Be B
 |[],_=>rfl
 |f::r,B=>by simp[Be,J9 r B]
theorem Tl:∀A B:List Fl,Fn (A++B)=Fn A++Fn B
 |[],_=>rfl
 |f::r,B=>by simp[Fn,Tl r B]
theorem Jn:∀(G:List Fl) (i:Nat) (f:Fl),G[i]? =some f→∀q u,(Bi f.x f.h)[q]? =some u→(Be G)[i*8+q]? =some u
 |[],i,f,hi=>by simp at hi
 |g::r,0,f,hi=>by
  simp at hi;subst hi;intro q u F;have H:=(nw.1 F).1;rw[r3,nT,Be,rH H];exact F
 |g::r,i+1,f,hi=>by
  intro q u F;have:=Jn r i f (by simpa using hi) q u F;rw[Be,rm (by simp[DT];omega),DT,show(i+1)*8+q-8=i*8+q by omega];exact this
theorem NI:∀(F:List Fl) (i:Nat) (f:Fl),F[i]? =some f→(Fn F)[i]? =some (iN f.ly)
 |[],i,f,hi=>by simp at hi
 |g::r,0,f,hi=>by simp at hi;subst hi;rfl
 |g::r,i+1,f,hi=>by
  have:=NI r i f (by simpa using hi);simpa [Fn]using this
def Ca(n₀:Nat)(vn vf:Value)(S:Nat→Bool):Nat→Bool:=fun k=>(k==n₀||k==n₀+1||k==n₀+1+1+1+1+1)||(vn.ownBlock==some k||vf.ownBlock==some k)||S k
structure Fy (S:Nat→Bool) (n₀:Nat) (A:World) (vn vf:Value) (L L2:List Fl):Prop where
 rn:A.ownsRow (n₀+1+1) 50 8 vn L.length (Be L)
 rf:A.ownsRow (n₀+1+1) 3 1 vf L2.length (Fn L2)
 ne:∀g,vn.ownBlock=some g→vf.ownBlock≠some g
 nd:∀f∈L,Ah (Ag A.cell? (Ca n₀ vn vf S)) f.x f.h
structure FU (S:Nat→Bool) (w A:World) (xs:List Nd) (nf:List BA) (st:Loop) (i:Nat) (Sx:Nat→Bool):Prop where
 low:Below w.heap.size w A
 bx:∃vn vf L,Boxed A w.heap.size 30 vn∧Boxed A (w.heap.size+1) 25 vf∧Fy S w.heap.size A vn vf L L∧L.length=i∧(∀(j:Nat) f,L[j]? =some f→∃q r,AP xs (nf.take j)=q::r∧f.x=q.1.with []∧f.ly=q.2)∧Sx=Ca w.heap.size vn vf S
 dk:A.heap[w.heap.size+1+1+1+1]? =some (.deferred (some []))
 lk:A.heap[w.heap.size+1+1+1+1+1]? =some (.loop st)
theorem Fy.below{S:Nat→Bool}{n₀:Nat}{A B:World}{vn vf:Value}{L F:List Fl}(h:Fy S n₀ A vn vf L F)(hb:Below A.heap.size A B):Fy S n₀ B vn vf L F:=
 ⟨GR h.rn hb,GR h.rf hb,h.ne,fun f G=>(h.nd f G).on (CQ hb)⟩
theorem FU.keep{S:Nat→Bool}{w A B:World}{xs:List Nd}{nf:List BA}{st:Loop}{i:Nat}{Sx:Nat→Bool}(h:FU S w A xs nf st i Sx)(hb:Below A.heap.size A B):FU S w B xs nf st i Sx:=by
 obtain⟨vn,vf,L,F,G,H,I,J,O⟩:=h.bx;exact⟨h.low.trans (hb.mono h.low.size),⟨vn,vf,L,En F hb,En G hb,H.below hb,I,J,O⟩,(hb.block _ (nI.1 h.dk).1).trans h.dk,(hb.block _ (nI.1 h.lk).1).trans h.lk⟩
theorem FU.hid{S:Nat→Bool}{w A:World}{xs:List Nd}{nf:List BA}{st:Loop}{i:Nat}{Sx:Nat→Bool}(H:∀k,S k=true→k<w.heap.size)(h:FU S w A xs nf st i Sx):∀k,Sx k=true→k<A.heap.size:=fun k F=>by
 obtain⟨vn,vf,L,I,J,G,_,_,rfl⟩:=h.bx;simp[Ca]at F;have O:=(nI.1 h.lk).1;rcases F with(((e|e)|e)|e|e)|e
 ·rw[e];exact I.lt
 ·rw[e];exact J.lt
 ·omega
 ·exact(G.rn.lt k e).2
 ·exact(G.rf.lt k e).2
 ·exact nG (H k e) h.low.size
def left(l:Array Bool):Nat:=l.toList.count false
theorem Rn{l:Array Bool}{i:Nat}(h:l.getD i true=false):left (l.setIfInBounds i true)+1=left l:=by
 unfold left;have F:i<l.size:=by
  rcases Nat.lt_or_ge i l.size with h'|h'
  ·exact h'
  ·simp[Array.getD,Nat.not_lt.2 h']at h
 have G:l[i]=false:=by simpa [Array.getD,F]using h
 rw[Array.toList_setIfInBounds];have e:l.toList[i]? =some false:=by simp[F,G]
 generalize l.toList=t at e;clear h G F;induction t generalizing i with
 |nil=>simp at e
 |cons x t H=>
  cases i with
  |zero=>simp at e;subst e;simp
  |succ i=>
   have:=H (i:=i) (by simpa using e);rw[List.set_cons_succ,List.count_cons,List.count_cons];omega
theorem Qb{R:Fence}{n:Nat}{P:Program}{md:Region.Mode}{G:Array Oper}{O:Exit→Act→World→Prop}(H:Array Bool→Act→World→Prop)
 (T:∀F a w i,H F a w→i∈Region.ready md G F→wpOpIn R n P G O i (H (F.setIfInBounds i true)) a w)
 (Q:∀F a w,H F a w→Region.ready md G F=[]→O .normal a w):
 ∀(I:Nat) (F:Array Bool) (a:Act) (w:World),left F≤I→H F a w→wpAnyIn R n P md G O I F a w
 |0,F,a,w,hl,h=>by
  have e:Region.ready md G F=[]:=by
   cases hr:Region.ready md G F with
   |nil=>rfl
   |cons i r=>
    have J:i∈Region.ready md G F:=by rw[hr];exact nJ ..
    have:=Rn (mem_ready.1 J).1;omega
  exact⟨e,Q _ _ _ h e⟩
 |I+1,F,a,w,hl,h=>by
  refine⟨Q _ _ _ h,fun i J=>?_⟩;refine wpOpIn_mono (fun V w' h'=>Qb H T Q I _ V w' ?_ h') (T _ _ _ _ h J);have:=Rn (mem_ready.1 J).1;omega
theorem LP{w:World}{base:Nat}{t:TypeId}{n k:Nat}{v:Value}{xs:List Value}(h:w.ownsRow base t n v k xs){d:Nat}{o:Obj}(hd:w.heap[d]? =some o)(F:o.isCells=false):some d≠v.ownBlock:=fun e=>by
 rcases h.2 with⟨rfl,_⟩|⟨g,cap,H,rfl,_,G,_⟩
 ·simp[Value.ownBlock]at e
 ·simp[Value.ownBlock]at e
  subst e;rw[G]at hd;cases hd;simp[Obj.isCells]at F
structure XA (S:Nat→Bool) (w A:World) (Sx:Nat→Bool) (st:Loop) (cn cf:Value) (LN LF:List Fl) (b6 b7:Value) (W:World):Prop where
 low:Below w.heap.size w W
 az:A.heap.size≤W.heap.size
 bn:Boxed W w.heap.size 30 b6
 bf:Boxed W (w.heap.size+1) 25 b7
 r:Fy S w.heap.size W cn cf LN LF
 ml:AR (Ag A.cell? Sx) (Ag W.cell? (Ca w.heap.size cn cf S))
 dk:W.heap[w.heap.size+1+1+1+1]? =some (.deferred (some []))
 lk:W.heap[w.heap.size+1+1+1+1+1]? =some (.loop st)
theorem XA.below{S:Nat→Bool}{w A:World}{Sx:Nat→Bool}{st:Loop}{cn F:Value}{G H:List Fl}{I J:Value}{W O:World}(h:XA S w A Sx st cn F G H I J W)(hb:Below W.heap.size W O):XA S w A Sx st cn F G H I J O:=
 ⟨h.low.trans (hb.mono h.low.size),nO h.az hb.size,En h.bn hb,En h.bf hb,h.r.below hb,h.ml.trans (CQ hb),(hb.block _ (nI.1 h.dk).1).trans h.dk,(hb.block _ (nI.1 h.lk).1).trans h.lk⟩
theorem XA.appN{S:Nat→Bool}{w A:World}{Sx:Nat→Bool}{st:Loop}{cn G:Value}{J V:List Fl}{Y Z:Value}{W O:World}(h:XA S w A Sx st cn G J V Y Z W){f:Fl}{I:Value}(ab:Ah (Ag W.cell? (Ca w.heap.size cn G S)) f.x f.h)
 (ad:O.ownsRow (w.heap.size+1+1) 50 8 I (J++[f]).length (Be (J++[f]))) (F:W.grownBy O cn.ownBlock) (aa:I.ownBlock=cn.ownBlock∨I.ownBlock=some W.heap.size):
 XA S w A Sx st I G (J++[f]) V Y Z O:=by
 have R:∀g,cn.ownBlock=some g→w.heap.size+1+1≤g∧g<W.heap.size:=fun g e=>h.r.rn.lt g e;have T:AR (Ag W.cell? (Ca w.heap.size cn G S)) (Ag O.cell? (Ca w.heap.size I G S)):=Cb fun k ak H=>by
  simp[Ca]at H;refine⟨?_,F.block k ak (fun e=>H.1.2.1 e.symm)⟩;simp[Ca];refine⟨⟨H.1.1,?_,H.1.2.2⟩,H.2⟩;rcases aa with e|e
  ·rw[e];exact H.1.2.1
  ·rw[e];intro Q;cases Q;omega
 refine⟨h.low.grown F h.low.size (fun g e=>by have:=R g e;omega),nO h.az F.size,h.bn.kept F (fun e=>by have:=R _ e.symm;omega),h.bf.kept F (fun e=>by have:=R _ e.symm;omega),⟨ad,?_,?_,?_⟩,h.ml.trans T,?_,?_⟩
 ·refine h.r.rf.kept F ?_
  cases hv:G.ownBlock with
  |none=>exact .inl rfl
  |some g=>exact .inr (fun e=>h.r.ne g e.symm hv)
 ·intro g e Q
  rcases aa with q|q
  ·exact h.r.ne g (q.symm.trans e) Q
  ·have az:=(h.r.rf.lt g Q).2
   rw[q]at e;cases e;omega
 ·intro ao ap
  rcases rd.1 ap with e|e
  ·exact(h.r.nd ao e).on T
  ·rw[rj]at e;rw[e];exact ab.on T
 ·exact(F.block _ (nI.1 h.dk).1 (LP h.r.rn h.dk rfl)).trans h.dk
 ·exact(F.block _ (nI.1 h.lk).1 (LP h.r.rn h.lk rfl)).trans h.lk
theorem XA.appF{S:Nat→Bool}{w A:World}{Sx:Nat→Bool}{st:Loop}{cn H:Value}{T O:List Fl}{V Y:Value}{W Q:World}(h:XA S w A Sx st cn H T O V Y W){f:Fl}{I:Value}
 (ab:Q.ownsRow (w.heap.size+1+1) 3 1 I (O++[f]).length (Fn (O++[f]))) (F:W.grownBy Q H.ownBlock) (Z:I.ownBlock=H.ownBlock∨I.ownBlock=some W.heap.size):
 XA S w A Sx st cn I T (O++[f]) V Y Q:=by
 have R:∀g,H.ownBlock=some g→w.heap.size+1+1≤g∧g<W.heap.size:=fun g e=>h.r.rf.lt g e;have aa:AR (Ag W.cell? (Ca w.heap.size cn H S)) (Ag Q.cell? (Ca w.heap.size cn I S)):=Cb fun k ad G=>by
  simp[Ca]at G;refine⟨?_,F.block k ad (fun e=>G.1.2.2 e.symm)⟩;simp[Ca];refine⟨⟨G.1.1,G.1.2.1,?_⟩,G.2⟩;rcases Z with e|e
  ·rw[e];exact G.1.2.2
  ·rw[e];intro J;cases J;omega
 refine⟨h.low.grown F h.low.size (fun g e=>by have:=R g e;omega),nO h.az F.size,h.bn.kept F (fun e=>by have:=R _ e.symm;omega),h.bf.kept F (fun e=>by have:=R _ e.symm;omega),⟨?_,ab,?_,fun ak ao=>(h.r.nd ak ao).on aa⟩,h.ml.trans aa,?_,?_⟩
 ·refine h.r.rn.kept F ?_
  cases hv:cn.ownBlock with
  |none=>exact .inl rfl
  |some g=>exact .inr (fun e=>h.r.ne g hv e.symm)
 ·intro g e J
  rcases Z with q|q
  ·exact h.r.ne g e (q.symm.trans J)
  ·have ap:=(h.r.rn.lt g e).2
   rw[q]at J;cases J;omega
 ·exact(F.block _ (nI.1 h.dk).1 (LP h.r.rf h.dk rfl)).trans h.dk
 ·exact(F.block _ (nI.1 h.lk).1 (LP h.r.rf h.lk rfl)).trans h.lk
theorem XA.set6{S:Nat→Bool}{w A:World}{Sx:Nat→Bool}{st:Loop}{cn G:Value}{J O:List Fl}{T Q:Value}{W:World}(h:XA S w A Sx st cn G J O T Q W)(v:Value):XA S w A Sx st cn G J O v Q (W.setCell (aD w.heap.size 0) v):=by
 have F:∀k,k≠w.heap.size→(W.setCell (aD w.heap.size 0) v).heap[k]? =W.heap[k]?:=fun k F=>re _ _ _ _ F;have H:=grownBy_setCell' W w.heap.size v
 have R:AR (Ag W.cell? (Ca w.heap.size cn G S)) (Ag (W.setCell (aD w.heap.size 0) v).cell? (Ca w.heap.size cn G S)):=Cb fun k _ I=>⟨I,F k (by simp[Ca]at I;exact I.1.1.1.1)⟩;refine⟨h.low.setCell (p:=(aD w.heap.size 0)) (nl _) v,nO h.az H.size,h.bn.set v,(F _ (by omega)).trans h.bf,⟨?_,?_,h.r.ne,fun f V=>(h.r.nd f V).on R⟩,h.ml.trans R,(F _ (by omega)).trans h.dk,(F _ (by omega)).trans h.lk⟩
 ·exact h.r.rn.kept H (.inr (fun e=>by have:=(h.r.rn.lt _ e).1;omega))
 ·exact h.r.rf.kept H (.inr (fun e=>by have:=(h.r.rf.lt _ e).1;omega))
theorem XA.set7{S:Nat→Bool}{w A:World}{Sx:Nat→Bool}{st:Loop}{cn G:Value}{J O:List Fl}{Q T:Value}{W:World}(h:XA S w A Sx st cn G J O Q T W)(v:Value):XA S w A Sx st cn G J O Q v (W.setCell (aD (w.heap.size+1) 0) v):=by
 have F:∀k,k≠w.heap.size+1→(W.setCell (aD (w.heap.size+1) 0) v).heap[k]? =W.heap[k]?:=fun k F=>re _ _ _ _ F;have H:=grownBy_setCell' W (w.heap.size+1) v
 have R:AR (Ag W.cell? (Ca w.heap.size cn G S)) (Ag (W.setCell (aD (w.heap.size+1) 0) v).cell? (Ca w.heap.size cn G S)):=Cb fun k _ I=>⟨I,F k (by simp[Ca]at I;exact I.1.1.1.2)⟩;refine⟨h.low.setCell (p:=(aD (w.heap.size+1) 0)) (by show w.heap.size≤w.heap.size+1;omega) v,nO h.az H.size,(F _ (by omega)).trans h.bn,h.bf.set v,⟨?_,?_,h.r.ne,fun f V=>(h.r.nd f V).on R⟩,h.ml.trans R,(F _ (by omega)).trans h.dk,(F _ (by omega)).trans h.lk⟩
 ·exact h.r.rn.kept H (.inr (fun e=>by have:=(h.r.rn.lt _ e).1;omega))
 ·exact h.r.rf.kept H (.inr (fun e=>by have:=(h.r.rf.lt _ e).1;omega))
end Go.Proofs.YtgppjbhaimmlpaaGreatDoor
