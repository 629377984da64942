/-
  TopQuota: Oc Oh Rb Rd Rg Oi.
-/
import Derived.Test.YtofhphibahcniaaGreatDoorWoX
import Derived.Test.YtofhphibahcniaaGreatDoorApX
import Derived.Test.YtofhphibahcniaaGreatDoorYzX
import Derived.Test.YtofhphibahcniaaGreatDoorVdX
import Derived.Test.YtofhphibahcniaaGreatDoorXjX
import Derived.Test.YtofhphibahcniaaGreatDoorUbX
import Derived.Lib.ConvBytes
import Derived.Laws.BitsAllLaws
import Derived.Deep.RegionHeld3
import Derived.Deep.RegionLaw
import Derived.Deep.Cut
import Derived.Test.YtofhphibahcniaaGreatDoorHeX
set_option maxRecDepth 100000
set_option maxHeartbeats 16000000
namespace Go.Proofs.YtofhphibahcniaaGreatDoor
open Go.ChangeShapes Go.WideShapes Go.ChangeAt Go.RowKit Go.Deep Go.Proofs.Tryz
structure Cl where
 op:Int
 pa:BA
 ot:BA
 nm:BA
 da:BA
 a:Int
 b:Int
def Cl.l(c:Cl):List Value:=[.int .i64 c.op,.string c.pa,.string c.ot,.string c.nm,.string c.da,.int .i64 c.a,.int .i64 c.b]
def Io(m:AH)(a:Option Addr)(l:List Cl):Prop:=l=[]∨∃b F,a=some ⟨b,F,none⟩∧∀i c,l[i]? =some c→∀q v,c.l[q]? =some v→m ⟨b,F+i*7+q,none⟩=some v
theorem Io.on{m F:AH}{a:Option Addr}{l:List Cl}(h:Io m a l)(hb:AR m F):Io F a l:=by
 rcases h with e|⟨b,G,H,I⟩
 ·exact .inl e
 ·exact .inr ⟨b,G,H,fun i c J q v O=>hb _ _ (I i c J q v O)⟩
namespace RowsIn
theorem UM:prog.cellsOf 48=7:=by kernel_rfl
theorem cC:prog.cellsOf 29=8:=by kernel_rfl
theorem OB:prog.cellsOf 27=4:=by kernel_rfl
theorem Kk:prog.cellsOf 25=1:=by kernel_rfl
theorem Sc{F:Type}{l:List F}(h:l.length=7):∃a b c d e f g,l=[a,b,c,d,e,f,g]:=by
 match l,h with
 |[a,b,c,d,e,f,g],_=>exact⟨a,b,c,d,e,f,g,rfl⟩
theorem SZ{F:Type}{l:List F}(h:l.length=4):∃a b c d,l=[a,b,c,d]:=by
 match l,h with
 |[a,b,c,d],_=>exact⟨a,b,c,d,rfl⟩
theorem PT{I:Type}{enc:TypeId×Value→I}{W:World}{m:Nat}{v:Value}{y:DataW I×List MemPlace}(h:DataW.trod enc prog W 0 (fun _=>true) true m 25 [v]=some y):
 ∃a n cap J,v=.slice a n cap∧n≤cap∧J.length=n∧A6 W a J:=by
 rcases open_slice underlying25 h with⟨H,_⟩|⟨x,F,cap,Z,n,D,a6,H,_,O,_,aa,_,hx⟩
 ·obtain rfl:v=.slice none 0 0:=by simpa using H
  exact⟨none,0,0,[],rfl,nn _,rfl,.inl rfl⟩
 ·obtain rfl:v=.slice (some x) F cap:=by simpa using H
  have a7:F≤Z:=by rw[aa];simp;exact O
  have Q:∀i,i<F→∃z:Int,W.cell? (x.add (i*1))=some (.int .i64 z):=by
   intro i G;obtain⟨ab,R,ad⟩:=hx i (by omega);rw[Gg]at R;obtain⟨_,ak,ao⟩:=World.cells?_some R;obtain⟨c0,rfl⟩:∃c,ab=[c]:=List.length_eq_one_iff.1 ak;obtain⟨u0,T,_,_⟩:=rD underlying3 ad;simp at T;subst T;have ap:=ao 0 (by omega);exact⟨u0,by simpa [Addr.add]using ap⟩
  obtain⟨f,V⟩:∃f:Nat→Int,∀i,i<F→W.cell? (x.add (i*1))=some (.int .i64 (f i)):=by
   refine⟨fun i=>if h:i<F then Classical.choose (Q i h)else 0,fun i G=>?_⟩;simp only[G,dite_true];exact rg (Q i G)
  refine⟨some x,F,cap,(List.range F).map f,rfl,O,by simp,?_⟩;by_cases ar:F=0
  ·subst ar;exact .inl rfl
  ·obtain⟨b,ay,az⟩:=x
   have a1:az=none:=by
    have:=World.cell?_spot (V 0 (by omega));simpa [Addr.add]using this
   subst a1;refine .inr ⟨b,ay,rfl,fun i G=>?_⟩;have Y:i<F:=by simpa using G
   have g:=V i Y;rw[D2,Nat.mul_one]at g;rw[g];simp[List.getD,Y]
theorem cls_of_trod{O:Type}{enc:TypeId×Value→O}{W:World}{m:Nat}{v:Value}{y:DataW O×List MemPlace}(h:DataW.trod enc prog W 0 (fun _=>true) true m 31 [v]=some y):
 ∃a n cap l,v=.slice a n cap∧l.length=n∧n≤cap∧cap≤9223372036854775807∧Io W.cell? a l:=by
 rcases DataW.trod_slice underlying31 h with⟨J,_⟩|⟨a,G,cap,b4,ni,b5,b6,J,_,_,ay,az,b7,a1,_,_⟩
 ·obtain rfl:v=.slice none 0 0:=by simpa using J
  exact⟨none,0,0,[],rfl,rfl,by omega,by omega,.inl rfl⟩
 ·obtain rfl:v=.slice (some a) G cap:=by simpa using J
  have a6:cap≤9223372036854775807:=by unfold maxLen at az;omega
  have Q:∀i,i<G→∃c:Cl,W.cells? 0 (a.add (i*7)) 7=some c.l:=by
   intro i F;have R:=a1 i F;rw[UM,nt (by omega)]at R;obtain⟨b9,a7,a8⟩:=Option.bind_eq_some_iff.1 R;obtain⟨xs,n,cb,_,ba,bb,hx⟩:=DataW.trod_struct underlying48 a8;obtain⟨c0,c1,c2,bd,be,bf,bg,rfl⟩:=Sc (ba.trans UM);obtain⟨bi,bk,bl,bn,bo,bp,bs,rfl⟩:=Sc (show xs.length=7 from bb);have t0:DataW.trod enc prog W 0 (fun _=>true) true n 3 [c0]=some bi:=by simpa [Gg]using hx 0 _ rfl
   have bu:DataW.trod enc prog W 0 (fun _=>true) true n 9 [c1]=some bk:=by simpa [I0]using hx 1 _ rfl
   have bv:DataW.trod enc prog W 0 (fun _=>true) true n 9 [c2]=some bl:=by simpa [I0]using hx 2 _ rfl
   have t3:DataW.trod enc prog W 0 (fun _=>true) true n 9 [bd]=some bn:=by simpa [I0]using hx 3 _ rfl
   have t4:DataW.trod enc prog W 0 (fun _=>true) true n 9 [be]=some bo:=by simpa [I0]using hx 4 _ rfl
   have t5:DataW.trod enc prog W 0 (fun _=>true) true n 3 [bf]=some bp:=by simpa [Gg]using hx 5 _ rfl
   have bx:DataW.trod enc prog W 0 (fun _=>true) true n 3 [bg]=some bs:=by simpa [Gg]using hx 6 _ rfl
   obtain⟨x0,T,_⟩:=rD underlying3 t0;obtain⟨bA,V,_,_⟩:=r6 underlying9 bu;obtain⟨bB,Y,_,_⟩:=r6 underlying9 bv;obtain⟨bC,Z,_,_⟩:=r6 underlying9 t3;obtain⟨bF,aa,_,_⟩:=r6 underlying9 t4;obtain⟨bG,ab,_⟩:=rD underlying3 t5;obtain⟨bH,ad,_⟩:=rD underlying3 bx;simp at T V Y Z aa ab ad;subst T V Y Z aa ab ad;exact⟨⟨x0,bA,bB,bC,bF,bG,bH⟩,a7⟩
  obtain⟨H,hF⟩:∃H:Nat→Cl,∀i,i<G→W.cells? 0 (a.add (i*7)) 7=some (H i).l:=by
   refine⟨fun i=>if h:i<G then Classical.choose (Q i h)else⟨0,⟨#[]⟩,⟨#[]⟩,⟨#[]⟩,⟨#[]⟩,0,0⟩,fun i F=>?_⟩;simp only[F,dite_true];exact rg (Q i F)
  refine⟨some a,G,cap,(List.range G).map H,rfl,by simp,ay,a6,?_⟩;by_cases bY:G=0
  ·subst bY;exact .inl rfl
  ·obtain⟨b,ak,ao⟩:=a
   have ap:∀i,i<G→∀q v,(H i).l[q]? =some v→W.cell? (((⟨b,ak,ao⟩:Addr).add (i*7)).add q)=some v:=by
    intro i F q v I;obtain⟨_,cd,b0⟩:=World.cells?_some (hF i F);have b1:q<7:=(ny.1 I).1;rw[b0 q b1];exact I
   have b2:ao=none:=by
    have:=World.cell?_spot (ap 0 (by omega) 0 _ rfl);simpa [Addr.add]using this
   subst b2;refine .inr ⟨b,ak,rfl,fun i c F q v I=>?_⟩;have ar:i<G:=by have:=(ny.1 F).1;simpa using this
   have b3:c=H i:=by simp[ar]at F;exact F.symm
   subst b3;have g:=ap i ar q v I;rw[D2,D2]at g;exact g
theorem cfg_of_arg{O:Type}{enc:TypeId×Value→O}{W:World}{r:Reach}{ad:Nat}{v:Value}{y:DataW O×List MemPlace}{m:Nat}(ak:Value.okWide prog W r ad 29 v)(h:DataW.trod enc prog W 0 (fun _=>true) true m 29 v.cells.toList=some y):
 ∃(F G ca lwa:Option Addr) (uc gc cc lwn lwc:Nat) (us gs:List Rg) (cs:List Int) (H I ck q:Int),v=.agg #[.slice F us.length uc,.slice G gs.length gc,.int .i64 H,.int .i64 I,.slice ca cs.length cc,.int .i64 ck,.int .i64 q,.slice lwa lwn lwc]∧(Rgs W F us∧Rgs W G gs)∧(us.length≤uc∧gs.length≤gc)∧((∀r∈us,r.ok)∧∀r∈gs,r.ok)∧A6 W ca cs∧A2 H∧A2 I:=by
 obtain⟨cs,rfl,_⟩:=okWide_struct underlying29 ak;obtain⟨xs,n,b2,_,ao,ap,hx⟩:=DataW.trod_struct underlying29 h;obtain⟨c0,c1,c2,Q,R,T,ar,c7,e⟩:=N1 (ao.trans cC);obtain⟨ay,az,a1,a6,rfl⟩:=SZ (show xs.length=4 from ap);rw[e]at hx;have t0:DataW.trod enc prog W 0 (fun _=>true) true n 24 [c0,c1]=some ay:=by simpa [L9]using hx 0 _ rfl
 have a7:DataW.trod enc prog W 0 (fun _=>true) true n 27 [c2,Q,R,T]=some az:=by simpa [L9,OB]using hx 1 _ rfl
 have a8:DataW.trod enc prog W 0 (fun _=>true) true n 3 [ar]=some a1:=by simpa [L9,OB,Gg]using hx 2 _ rfl
 have t3:DataW.trod enc prog W 0 (fun _=>true) true n 25 [c7]=some a6:=by simpa [L9,OB,Gg,Kk]using hx 3 _ rfl
 obtain⟨ba,nm,_,_,_,bb,V⟩:=DataW.trod_struct underlying24 t0;obtain⟨z0,bd,rfl⟩:=OR (show ba.length=2 from bb);have be:DataW.trod enc prog W 0 (fun _=>true) true nm 22 [c0]=some z0:=by simpa [Ua]using V 0 _ rfl
 have bf:DataW.trod enc prog W 0 (fun _=>true) true nm 22 [c1]=some bd:=by simpa [Ua]using V 1 _ rfl
 obtain⟨bg,nc,_,_,_,bi,J⟩:=DataW.trod_struct underlying27 a7;obtain⟨bk,bl,bn,bo,rfl⟩:=SZ (show bg.length=4 from bi);have bp:DataW.trod enc prog W 0 (fun _=>true) true nc 3 [c2]=some bk:=by simpa [Gg,Kk]using J 0 _ rfl
 have bs:DataW.trod enc prog W 0 (fun _=>true) true nc 3 [Q]=some bl:=by simpa [Gg,Kk]using J 1 _ rfl
 have bu:DataW.trod enc prog W 0 (fun _=>true) true nc 25 [R]=some bn:=by simpa [Gg,Kk]using J 2 _ rfl
 have bv:DataW.trod enc prog W 0 (fun _=>true) true nc 3 [T]=some bo:=by simpa [Gg,Kk]using J 3 _ rfl
 obtain⟨F,b3,uc,us,rfl,bx,rfl,bA,bB⟩:=Qd be;obtain⟨G,b4,gc,gs,rfl,bC,rfl,bF,bG⟩:=Qd bf;obtain⟨H,Y,_,bH⟩:=rD underlying3 bp;obtain⟨I,Z,_,bY⟩:=rD underlying3 bs;obtain⟨ca,b5,cc,b0,rfl,b6,rfl,b1⟩:=PT bu;obtain⟨ck,aa,_,_⟩:=rD underlying3 bv;obtain⟨q,ab,_,_⟩:=rD underlying3 a8;obtain⟨lwa,lwn,lwc,_,rfl,_,_,_⟩:=PT t3;simp at Y Z aa ab;subst Y Z aa ab;refine⟨F,G,ca,lwa,uc,gc,cc,lwn,lwc,us,gs,b0,H,I,ck,q,?_,⟨bA,bF⟩,⟨bx,bC⟩,⟨bB,bG⟩,b1,Gb bH,Gb bY⟩;show Value.agg cs=.agg _;congr 1;apply Array.ext';exact e
end RowsIn
theorem Wp{w:World}{G H ca lwa:Option Addr}{uc gc cc lwn lwc:Nat}{us gs:List Rg}{cs:List Int}{I J ck q:Int}:
 Calls prog 4 #[.agg #[.slice G us.length uc,.slice H gs.length gc,.int .i64 I,.int .i64 J,.slice ca cs.length cc,.int .i64 ck,.int .i64 q,.slice lwa lwn lwc]] w fun e w'=>(∃r,e=.returned (.bool r)∧(r=true→us.length≤6∧gs.length≤6∧cs.length≤8))∧Bw w w':=by
 have O:Bw w (w.alloc (A0 G H ca lwa uc gc cc lwn lwc us gs cs I J ck q)):=(nv _ _).alloc (nn _) _;have F:Hid (Bw w (w.alloc (A0 G H ca lwa uc gc cc lwn lwc us gs cs I J ck q))):=O;clear O;by_cases Q:us.length≤6
 case neg=>
  have V:decide ((us.length:Int)≤6)=false:=nB (by omega);go_enter func4,ntmps4;go_wp2;go_ret;exact⟨⟨false,rfl,fun e=>by cases e⟩,F.out⟩
 case pos=>
  have V:decide ((us.length:Int)≤6)=true:=nF (by omega);by_cases R:gs.length≤6
  case neg=>
   have Y:decide ((gs.length:Int)≤6)=false:=nB (by omega);go_enter func4,ntmps4;go_wp2;go_ret;exact⟨⟨false,rfl,fun e=>by cases e⟩,F.out⟩
  case pos=>
   have Y:decide ((gs.length:Int)≤6)=true:=nF (by omega);by_cases T:cs.length≤8
   case neg=>
    have Z:decide ((cs.length:Int)≤8)=false:=nB (by omega);go_enter func4,ntmps4;go_wp2;go_ret;exact⟨⟨false,rfl,fun e=>by cases e⟩,F.out⟩
   case pos=>
    have Z:decide ((cs.length:Int)≤8)=true:=nF (by omega);have aa:Hid (us.length≤6∧gs.length≤6∧cs.length≤8):=⟨Q,R,T⟩;clear Q R T;obtain⟨ab,ad⟩:∃r,decide ((lwn:Int)≤6)=r:=⟨_,rfl⟩;go_enter func4,ntmps4;go_wp2;go_ret;exact⟨⟨_,rfl,fun _=>aa.out⟩,F.out⟩
theorem Wr{w:World}{a:Option Addr}{cap:Nat}{l:List Cl}(hx:Io w.cell? a l):
 Calls prog 6 #[.slice a l.length cap] w fun e w'=>(∃r,e=.returned (.bool r)∧(r=true→l.length≤40∧∀c∈l,c.nm.size≤60))∧Bw w w':=by
 have Z:Hid (Io w.cell? a l):=hx;obtain⟨N,I⟩:∃N,Hid (l.length=N):=⟨_,rfl⟩;rw[I.out];clear hx;by_cases aa:40<N
 case pos=>
  have R:decide ((40:Int)<(N:Int))=true:=nF (by omega);go_enter func6,ntmps6;go_wp2;go_ret;exact⟨⟨false,rfl,fun e=>by cases e⟩,nv _ _⟩
 case neg=>
  have R:decide ((40:Int)<(N:Int))=false:=nB (by omega);have T:Hid (N≤40):=by show _≤_;omega
  go_enter func6,ntmps6;go_upto_region 3 with fail
  clear R aa;go_wp2;go_loopw [3] (fun i wr=>∃j:Nat,j≤N∧i=.int .i64 j∧Hid (Bw w wr)∧Hid (∀t c,t<j→l[t]? =some c→c.nm.size≤60)) (fun i _=>N-(intOf i).toNat)
  case atStart=>exact⟨0,nN _,rfl,nv _ _,fun t c H=>absurd H (Nat.not_lt_zero _)⟩
  case round=>
   obtain⟨j,be,rfl,G,V⟩:=hrel;by_cases ab:j<N
   ·have bf:(j:Int)<(N:Int):=by omega
    have bg:N≤40:=T.out;obtain⟨c,F⟩:∃c,l[j]? =some c:=⟨_,nt (by rw[I.out];exact ab)⟩;rcases Z.out with e|⟨b,bi,rfl,Y⟩
    ·rw[e]at F;simp at F
    have hb:=Y j c F;have ad:=Af G.out (hb 1 _ rfl);have ak:=Af G.out (hb 2 _ rfl);have ao:=Af G.out (hb 3 _ rfl);have ap:=Af G.out (hb 4 _ rfl);have ar:Hid (l[j]? =some c):=F;obtain⟨op,J,O,nm,Q,ca,bk⟩:=c;dsimp only at ad ak ao ap;clear hb Y F;by_cases ay:200<J.size
    ·have az:decide ((200:Int)<(J.size:Int))=true:=nF (by omega)
     go_wp2;go_ret;exact⟨⟨false,rfl,fun e=>by cases e⟩,G.out⟩
    have az:decide ((200:Int)<(J.size:Int))=false:=nB (by omega);by_cases a1:200<O.size
    ·have a6:decide ((200:Int)<(O.size:Int))=true:=nF (by omega)
     go_wp2;go_ret;exact⟨⟨false,rfl,fun e=>by cases e⟩,G.out⟩
    have a6:decide ((200:Int)<(O.size:Int))=false:=nB (by omega);by_cases a7:60<nm.size
    ·have a8:decide ((60:Int)<(nm.size:Int))=true:=nF (by omega)
     go_wp2;go_ret;exact⟨⟨false,rfl,fun e=>by cases e⟩,G.out⟩
    have a8:decide ((60:Int)<(nm.size:Int))=false:=nB (by omega);have ba:Hid (nm.size≤60):=by show _≤_;omega
    by_cases bb:300<Q.size
    ·have bd:decide ((300:Int)<(Q.size:Int))=true:=nF (by omega)
     go_wp2;go_ret;exact⟨⟨false,rfl,fun e=>by cases e⟩,G.out⟩
    have bd:decide ((300:Int)<(Q.size:Int))=false:=nB (by omega);clear ay a1 a7 bb;go_wp2;go_roundw
    case rel=>
     refine⟨j+1,by omega,by go_num,G,fun t c H F=>?_⟩;by_cases e:t=j
     ·subst e
      rw[ar.out]at F;cases F;exact ba.out
     ·exact V.out t c (by omega) F
    case measure=>(simp[intOf];try omega)
   ·obtain rfl:j=N:=by omega
    have bl:decide ((j:Int)<(j:Int))=false:=nB (by omega);go_wp2;go_ret;refine⟨⟨true,rfl,fun _=>⟨T.out,fun c F=>?_⟩⟩,G.out⟩;obtain⟨t,H⟩:=n5 F;exact V.out t c (by have:=(ny.1 H).1;rw[I.out]at this;exact this) H
end Go.Proofs.YtofhphibahcniaaGreatDoor
namespace Go.Proofs.YtofhphibahcniaaGreatDoor
open Go.RowKit Go.Proofs.Tryz
theorem Vh(w:World)(x y:Int)(t:TypeId):∀j u,(bc [b8 x,b8 y])[j]? =some u→(w.alloc (.cells #[.int .u8 (x%256),.int .u8 (y%256)] t)).cell? ((⟨w.heap.size,0,none⟩:Addr).add j)=some u:=by
 intro j u F;rw[D2,nU];refine(nl _ _ _ _ rfl).trans ?_;match j with
 |0=>simpa [bc,FL]using F
 |1=>simpa [bc,FL]using F
 |j+2=>simp[bc]at F
theorem Ot{w:World}{base:Nat}{v:Value}{n:Nat}{L:List UInt8}(F:w.ownsRow base 5 1 v n (bc L))(x:Int)(Y:n≤1000)(hb:base≤w.heap.size):
 Calls prog 21 #[v,.int .i64 x] w fun e w'=>∃G,e=.returned G∧w'.ownsRow base 5 1 G (n+2) (bc (L++[b8 (x / 256),b8 x]))∧Below base w w':=by
 obtain⟨H,I,J,O,Q⟩:=DC Tryz.infoB;go_enter func21,ntmps21;go_wp2_with (at_builtin;refine DZ (w.alloc (.cells #[.int .u8 (x / 256%256),.int .u8 (x%256)] 5)) rfl (.tmp 5) (.tmp 11) 71 rfl base 5 H (.int .u8 0) 1 1 underlying71 I J O Q rfl (by decide) _ n (bc L) rfl (World.ownsRow.alloc F _) (some ⟨w.heap.size,0,none⟩) 2 2 (bc [b8 (x / 256),b8 x]) rfl rfl (.inr ⟨_,rfl,Vh _ _ _ _⟩) (G8 _) (by unfold maxLen;omega) (by omega) (by rw[nw];omega) ?_)
 intro R Z T V aa;go_wp2;go_ret;exact⟨R,rfl,by rw[Ld];exact T,((nv base w).alloc hb _).grown V (by rw[nw];omega) (fun g e=>((World.ownsRow.lt F) g e).1)⟩
def Es:List Int→List UInt8
 |[]=>[]
 |g::l=>BW g++Es l
def Dn(u g k:Int)(cs:List Int):List UInt8:=BW u++BW g++[b8 k,b8 cs.length]++Es cs
theorem Qw:∀(a b:List Int),Es (a++b)=Es a++Es b
 |[],b=>rfl
 |g::l,b=>by rw[n9,Es,Es,Qw l b,n8]
theorem U1:∀a:List Int,(Es a).length=2*a.length
 |[]=>rfl
 |g::l=>by rw[Es,nM,U1 l,n3];simp only[BW,n3,nR];omega
theorem aE{cs:List Int}{j:Nat}(F:j<cs.length):Es (cs.take (j+1))=Es (cs.take j)++[b8 (cs.getD j 0 / 256),b8 (cs.getD j 0)]:=by
 rw[rv,Qw,List.getD_eq_getElem?_getD];rw[nt F];rfl
theorem LL(u g k:Int)(cs:List Int):(Dn u g k cs).length=6+2*cs.length:=by
 unfold Dn;rw[nM,U1];rfl
theorem Xm{w:World}{b:Nat}{B:Bx}{x:Nd}{ni:List Nd}(h:AX w b B)(hx:B.xs=x::ni)(bo:B.cs.length≤100)(bp:AB x)(aa:cnt x≤1000)(a6:(BK x).length≤60000000)(a7:CC true x=0):
 Calls prog 8 #[.pointer (some ⟨b,0,none⟩)] w fun e w'=>e=.returned (.string (A8 (Dn B.u B.g B.k B.cs)++A8 (BK x)))∧Bw w w':=by
 obtain⟨co,cp,cr,cu,cx⟩:=DC Tryz.infoB;have dm:=h.lt;obtain⟨c0,c1,c2,bs,ab,Q,a8,c7⟩:=h.cells;have bu:Hid (Cn w.cell? B.la (x::ni)):=by have q:=h.lay;rw[hx]at q;exact q
 have bv:Hid (A6 w B.ca B.cs):=h.grp;have ad:Hid ((AB x∧cnt x≤1000)∧(BK x).length≤60000000∧CC true x=0):=⟨⟨bp,aa⟩,a6,a7⟩;rw[hx]at c2;obtain⟨la,ba⟩:∃la,B.la=la:=⟨_,rfl⟩;obtain⟨lc,bx⟩:∃lc,B.lc=lc:=⟨_,rfl⟩;obtain⟨ca,bb⟩:∃ca,B.ca=ca:=⟨_,rfl⟩;obtain⟨cc,bA⟩:∃cc,B.cc=cc:=⟨_,rfl⟩;obtain⟨cs,I⟩:∃cs,B.cs=cs:=⟨_,rfl⟩;obtain⟨G,bd⟩:∃G,B.u=G:=⟨_,rfl⟩;obtain⟨H,be⟩:∃H,B.g=H:=⟨_,rfl⟩;obtain⟨F,bf⟩:∃F,B.k=F:=⟨_,rfl⟩;rw[ba,bx]at c2;rw[bb,bA,I]at Q;rw[bd]at bs;rw[be]at ab;rw[bf]at a8;rw[ba]at bu;rw[bb,I]at bv;rw[I]at bo;rw[bd,be,bf,I];obtain⟨N,J⟩:∃N,cs.length=N:=⟨_,rfl⟩;rw[J]at Q bo;have R:Hid (cs.length=N):=J;obtain⟨ak,ao⟩:∃ak,A8 (BK x)=ak:=⟨_,rfl⟩;obtain⟨ap,ar⟩:∃ap,A8 (Dn G H F cs)=ap:=⟨_,rfl⟩;have bB:Hid (E6 x=ak∧ak.size≤60000000):=⟨(nD a7).trans ao,by rw[←ao,Gf];exact a6⟩;have bC:Hid (A8 (Dn G H F cs)=ap∧ap.size=6+2*N):=⟨ar,by rw[←ar,Gf,LL,J]⟩;rw[ao,ar];have c3:Hid (w.cell? ⟨b,2,none⟩=some (.slice la (x::ni).length lc)):=c2;have bF:Hid (w.cell? ⟨b,5,none⟩=some (.slice ca N cc)):=Q;have c4:Hid (w.cell? ⟨b,6,none⟩=some (.int .i64 F)):=a8;have bG:=Ot (w:=w) (base:=w.heap.size) (v:=.slice none 0 0) (n:=0) (L:=[]) (rB _ _ _ _) G (by omega) (nn _);clear ao ar h hx J ba bx bb bA I bd be bf c0 c1 c2 Q a8 c7 bp aa a6 a7;go_enter func8,ntmps8;go_wp2_with fail
 refine np bG ?_;rintro e c5 ⟨dn,rfl,bH,q1⟩;replace ab:=Af q1 ab;have bY:=Ot bH H (by omega) q1.size;have c6:Hid (Below w.heap.size w c5):=q1;clear bG bs bH q1;go_wp2_with fail
 refine np bY ?_;rintro e T ⟨b0,rfl,b1,q2⟩;have ay:Hid (Below w.heap.size w T):=c6.out.trans q2;have b2:Hid (T.ownsRow w.heap.size 5 1 b0 4 (bc (BW G++BW H))):=b1;have c8:T.drew.cell? ⟨b,5,none⟩=some (.slice ca N cc):=Af ay.out bF.out;have c9:T.drew.cell? ⟨b,6,none⟩=some (.int .i64 F):=Af ay.out c4.out;have az:=ay.out.size;clear bY ab b1 q2;go_upto_region 3 with fail
 go_region_law (refine KK (T.drew.alloc (.cells #[.int .u8 (F%256),.int .u8 ((N:Int)%256)] 5)) (by rfl) (.tmp 21) (.tmp 35) 71 (by rfl) w.heap.size 5 co (.int .u8 0) 1 1 underlying71 cp cr cu cx rfl (by decide) b0 4 (bc (BW G++BW H)) (by rfl) (World.ownsRow.alloc (World.ownsRow.drew b2.out) _) (some ⟨T.drew.heap.size,0,none⟩) 2 2 (bc [b8 F,b8 N]) (by rfl) (by rfl) (.inr ⟨_,rfl,Vh _ _ _ _⟩) (G8 _) (by unfold maxLen;omega) (by omega) (by rw[nw];exact nP az (Nat.le_succ _)) ?_;intro v3 bg b3 b4 da)
 all_goals
  have b5:Hid (bg.ownsRow w.heap.size 5 1 v3 6 (bc (BW G++BW H++[b8 F,b8 N]))):=by
   have q:=b3;rw[←Ld]at q;exact q
  have bi:Hid (Below w.heap.size w bg):=(ay.out.drew.alloc az _).grown b4 (by rw[nw];exact nP az (Nat.le_succ _)) (fun g e=>((World.ownsRow.lt b2.out) g e).1);have Q:bg.cell? ⟨b,5,none⟩=some (.slice ca N cc):=Af bi.out bF.out;clear b3 b4 da c8 c9 az;go_wp2;go_loopw [3,43] (fun v i wr=>∃j:Nat,i=.int .i64 j∧j≤N∧wr.ownsRow w.heap.size 5 1 v (6+2*j) (bc (BW G++BW H++[b8 F,b8 N]++Es (cs.take j)))∧Below w.heap.size w wr) (fun _ i _=>N-(intOf i).toNat)
  case atStart=>exact⟨0,rfl,nN _,by rw[List.take_zero,Es,rQ];exact b5.out,bi.out⟩
  case round=>
   obtain⟨j,rfl,dp,b6,q4⟩:=hrel;have bk:Hid (wr.ownsRow w.heap.size 5 1 u3 (6+2*j) (bc (BW G++BW H++[b8 F,b8 N]++Es (cs.take j)))):=b6;have O:Hid (Below w.heap.size w wr):=q4;clear b6 q4 b5 bi Q;by_cases db:j<N
   ·have b7:Hid (A6 wr ca cs):=bv.out.below O.out
    obtain⟨V,dr,rfl,b9⟩:∃V a1,ca=some ⟨V,a1,none⟩∧wr.cell? ⟨V,a1+j,none⟩=some (.int .i64 (cs.getD j 0)):=by
     have J:=R.out;rcases b7.out with e|⟨V,a1,e,aa⟩
     ·rw[e]at J;simp at J;omega
     ·exact⟨V,a1,e,aa j (by omega)⟩
    obtain⟨z,bl⟩:∃z,cs.getD j 0=z:=⟨_,rfl⟩;rw[bl]at b9;have dd:Hid (cs.getD j 0=z):=bl;have Y:=Ot bk.out z (by omega) O.out.size;clear b7 bl;go_wp2_with fail
    refine np Y ?_;rintro e Z ⟨v5,rfl,cb,q5⟩;have de:Hid (Z.ownsRow w.heap.size 5 1 v5 (6+2*(j+1)) (bc (BW G++BW H++[b8 F,b8 N]++Es (cs.take (j+1))))):=by
     rw[aE (by rw[R.out];exact db),dd.out,←n8];exact cb
    have dg:Hid (Below w.heap.size w Z):=O.out.trans q5;clear Y b9 cb q5;go_wp2;go_roundw
    case rel=>exact⟨j+1,by go_num,by omega,de.out,dg.out⟩
    case measure=>simp[intOf];omega
   ·have cd:j=N:=by omega
    have cf:Hid (wr.ownsRow w.heap.size 5 1 u3 (6+2*N) (bc (Dn G H F cs))):=by
     have q:=bk.out;rw[cd,←R.out,List.take_length,R.out]at q;unfold Dn;rw[R.out];exact q
    subst cd;have Y:=Ga (b:=b) (la:=la) (lc:=lc) (x:=x) (ni:=ni) (Af O.out c3.out) (bu.out.on (Aj O.out));clear bk;go_wp2_with fail
    refine np Y ?_;rintro e Z ⟨⟨ds,rfl,_,cg⟩,q5⟩;have bn:=QB cg ad.out.1.1 ad.out.1.2 ad.out.2.1;rw[bB.out.1,ad.out.2.2]at bn;have du:=bB.out.2;have ch:Hid (Below w.heap.size w Z):=O.out.trans (q5.mono O.out.size);have cl:Hid (Z.ownsRow w.heap.size 5 1 u3 (6+2*j) (bc (Dn G H F cs))):=Fp cf.out q5;clear Y cg q5 cf;go_wp2_with fail
    refine np bn ?_;rintro e dj ⟨rfl,q6⟩;have I:=Tr (Fp cl.out q6) (by rw[LL,R.out]) (by omega);have dw:=bC.out.2;rw[bC.out.1]at I;have dk:Hid (Below w.heap.size w dj):=ch.out.trans (q6.mono ch.out.size);clear bn q6 cl;go_wp2;go_ret;exact⟨rfl,dk.out⟩
theorem Zr{up F:Bool}{k m u g:Int}{o:Bool}{nh:List Kv}{d:BA}{ks:Ar}(h:DT up F (.mk k m u g o nh d ks)=0):d.size≤200:=by
 rw[DT]at h;split at h
 ·omega
 split at h
 ·omega
 split at h
 ·rename_i h3;exact absurd h h3
 unfold Jc at h;split at h
 ·omega
 ·omega
theorem Tb(l:List UInt8)(n:Nat):(A8 l).extract n l.length=A8 (l.drop n):=by
 apply ByteArray.ext;simp[A8,ByteArray.extract,ByteArray.copySlice];exact n1 (by simp)
theorem dK(s t:List UInt8):(A8 (s++t)).extract 0 s.length=A8 s∧(A8 (s++t)).extract s.length (s++t).length=A8 t:=by
 refine⟨?_,by rw[Tb,List.drop_left]⟩;apply ByteArray.ext;simp[A8,ByteArray.extract,ByteArray.copySlice]
structure RB (w:World) (rb:Nat) (l:List UInt8) (n:Nat):Prop where
 c0:w.cell? ⟨rb,0,none⟩=some (.string (A8 l))
 c1:w.cell? ⟨rb,1,none⟩=some (.int .i64 n)
 c2:w.cell? ⟨rb,2,none⟩=some (.bool false)
 f:∀o,w.frozen? ⟨rb,o,none⟩=false
theorem RB.lt{w:World}{F:Nat}{l:List UInt8}{n:Nat}(h:RB w F l n):F<w.heap.size:=nz _ _ h.c0
theorem RB.same{w w':World}{F:Nat}{l:List UInt8}{n:Nat}(h:RB w F l n)(hb:w'.heap[F]? =w.heap[F]?):RB w' F l n:=
 ⟨(nS (w:=w) hb).trans h.c0,(nS (w:=w) hb).trans h.c1,(nS (w:=w) hb).trans h.c2,fun _=>(World.frozen?_of_block (w:=w) hb).trans (h.f _)⟩
theorem RB.below{w w':World}{F:Nat}{l:List UInt8}{n:Nat}(h:RB w F l n)(hb:Below w.heap.size w w'):RB w' F l n:=h.same (hb.block F h.lt)
theorem RB.set0{w:World}{F:Nat}{l:List UInt8}{n:Nat}(h:RB w F l n)(G:List UInt8):RB (w.setCell ⟨F,0,none⟩ (.string (A8 G))) F G n:=
 ⟨nI _ _ _ h.c0,(nA _ _ _ _ (by simp)).trans h.c1,(nA _ _ _ _ (by simp)).trans h.c2,fun o=>by simpa using h.f o⟩
theorem RB.set1{w:World}{F:Nat}{l:List UInt8}{n:Nat}(h:RB w F l n)(G:Nat):RB (w.setCell ⟨F,1,none⟩ (.int .i64 G)) F l G:=
 ⟨(nA _ _ _ _ (by simp)).trans h.c0,nI _ _ _ h.c1,(nA _ _ _ _ (by simp)).trans h.c2,fun o=>by simpa using h.f o⟩
def PE(W:World)(F:Nat)(l:List UInt8)(n:Nat)(v:Value)(e:Ending)(w':World):Prop:=e=.returned v∧Ao F W w'∧RB w' F l n
theorem St{W:World}{F:Nat}{s t:List UInt8}{n:Nat}(h:RB W F (s++t) n)(_hl:(s++t).length≤1000000){k:Nat}(G:s.length=k):
 Calls prog 115 #[.pointer (some ⟨F,0,none⟩),.int .i64 k] W (PE W F t n (.string (A8 s))):=by
 have H:=hid h;have J:=Gf (s++t);have O:s.length≤(s++t).length:=by simp
 obtain⟨Q,R⟩:=dK s t;obtain⟨T,_,_,I⟩:=h;have V:=I 0;subst G;generalize(s++t).length=N at*;generalize s.length=k at*;have Y:decide ((N:Int)<(k:Int))=false:=nB (by omega);generalize A8 (s++t)=S at*;generalize A8 s=Z at*;go_enter func115,ntmps115;go_wp2;go_ret;exact⟨rfl,(Ao.refl _ _).setCell _ _ _,H.out.set0 _⟩
theorem Xk(w:World)(s:List UInt8):∃(F:World) (cap:Nat),(convert 9 71 (.string (A8 s))).run prog w=.ok (.slice (some ⟨w.heap.size,0,none⟩) s.length cap) F∧Below w.heap.size w F∧∀j b,s[j]? =some b→F.cell? ⟨w.heap.size,j,none⟩=some (.int .u8 b.toNat):=by
 have h:=Lib.run_convert_string_bytes (P:=prog) w 9 71 5 (A8 s) underlying9 underlying71 underlying5;rw[Gf]at h;refine⟨_,_,h,⟨rfl,rfl,rfl,by rw[Lib.bytesWorld_size];omega,fun k H=>Lib.bytesWorld_at_old w _ _ k H⟩,fun j b G=>?_⟩;have I:=(ny.1 G).1;rw[Lib.bytesWorld_cell w _ _ j (by rw[Gf];exact I)];simp[A8,List.getD,G]
def nuV(l:List UInt8):Nat:=l.foldl (fun x b=>x*256+b.toNat) 0
theorem af{s:List UInt8}{j:Nat}{b:UInt8}(h:s[j]? =some b)(H:s.length≤2):nuV (s.take (j+1))=nuV (s.take j)*256+b.toNat∧nuV (s.take j)<256:=by
 have F:=(ny.1 h).1;refine⟨?_,?_⟩
 ·rw[rv,h]
  simp[nuV,List.foldl_append]
 ·have G:j=0∨j=1:=by omega
  rcases G with rfl|rfl
  ·simp[nuV]
  ·cases s with
   |nil=>simp at F
   |cons a s=>
    have:=a.toNat_lt;simp[nuV];omega
theorem Ri(a:Nat)(F:a<65536):(BitVec.ofInt 64 (a:Int)).toNat=a:=by
 simp;omega
theorem Xs(a b:Nat)(F:a<65536)(hb:b<65536):bits .or .i64 (a:Int) (b:Int)=((a|||b:Nat):Int):=by
 have h:a|||b<65536:=Nat.or_lt_two_pow (n:=16) F hb
 show IntKind.i64.wrap (((BitVec.ofInt 64 (a:Int)|||BitVec.ofInt 64 (b:Int)).toNat:Nat):Int)=_;rw[BitVec.toNat_or,Ri a F,Ri b hb];exact EG (by omega) (by omega)
theorem Uf(x:Nat)(b:UInt8)(hx:x<256):bits BinOp.or IntKind.i64 (wrap64 ((x:Int)*256)) (wrap64 (b.toNat:Int))=((x*256+b.toNat:Nat):Int):=by
 have hb:=b.toNat_lt;have F:wrap64 ((x:Int)*256)=((x*256:Nat):Int):=by rw[wrap64];omega
 have G:wrap64 (b.toNat:Int)=((b.toNat:Nat):Int):=by rw[wrap64];omega
 rw[F,G,Xs (x*256) b.toNat (by omega) (by omega)];rw[←Nat.shiftLeft_eq x 8,Nat.shiftLeft_add_eq_or_of_lt (by omega)]
theorem IC{W:World}{F:Nat}{s t:List UInt8}{n:Nat}(h:RB W F (s++t) n)(J:(s++t).length≤1000000){k:Nat}(O:s.length=k)(ar:k≤2){z:Int}(aa:(nuV s:Int)=z):
 Calls prog 70 #[.pointer (some ⟨F,0,none⟩),.int .i64 k] W (PE W F t n (.int .i64 z)):=by
 have Q:=hid (St h J O);have ab:s.length≤2:=by omega
 subst aa;clear h J O;go_enter func70,ntmps70;go_wp2_with fail
 refine np Q.out ?_;rintro e R ⟨rfl,hb,T⟩;obtain⟨G,cap,ad,H,V⟩:=Xk R s;have Y:=hid V;have ak:Hid (Ao F W G∧RB G F t n):=⟨hb.then H,T.below H⟩;clear V Q hb T H;go_wp2;clear ad;generalize R.heap.size=g1 at Y⊢;go_loopw [13,5] (fun i x wr=>∃j:Nat,j≤s.length∧i=.int .i64 j∧x=.int .i64 (nuV (s.take j))∧wr=G) (fun i _ _=>s.length-(intOf i).toNat)
 case atStart=>exact⟨0,nN _,rfl,by simp[nuV],rfl⟩
 case round=>
  obtain⟨j,ay,rfl,rfl,rfl⟩:=hrel;by_cases ao:j<s.length
  ·have ap:(j:Int)<(s.length:Int):=by omega
   obtain⟨b,Z⟩:∃b,s[j]? =some b:=⟨s[j],by simp[ao]⟩;have az:=Y.out j b Z;have I:=hid (af Z ab);generalize nuV (s.take j)=x at I⊢;go_wp2;go_roundw
   case rel=>exact⟨j+1,by omega,by go_num,by rw[I.out.1,Uf x b I.out.2],trivial⟩
   case measure=>simp[intOf];omega
  ·have ap:decide ((j:Int)<(s.length:Int))=false:=nB (by omega)
   have e:s.take j=s:=n1 (by omega);rw[e];clear e;go_wp2;go_ret;exact⟨rfl,ak.out⟩
theorem MN{z:Int}(F:0≤z)(G:z≤255):(nuV [b8 z]:Int)=z:=by
 have:=FL z;simp[nuV];omega
theorem PD{z:Int}(F:0≤z)(G:z≤65535):(nuV (BW z):Int)=z:=by
 have:=FL z;have:=FL (z / 256);simp[nuV,BW];omega
theorem LJ{W:World}{F:Nat}{s:BA}{t:List UInt8}{n:Nat}(h:RB W F (Bg s++t) n)(G:(Bg s++t).length≤1000000)(T:s.size≤255):
 Calls prog 71 #[.pointer (some ⟨F,0,none⟩)] W (PE W F t n (.string s)):=by
 have H:=hid (IC (s:=[b8 s.size]) (t:=s.data.toList++t) h G (k:=1) rfl (by omega) (MN (by omega) (by omega)));have I:(s.data.toList++t).length≤1000000:=by simp[Bg]at G⊢;omega
 clear h G;go_enter func71,ntmps71;go_wp2_with fail
 refine np H.out ?_;rintro e V ⟨rfl,hb,J⟩;have O:=hid (St J I (k:=s.size) (by simp));clear H;go_wp2_with fail
 refine np O.out ?_;rintro e Y ⟨rfl,Q,R⟩;have e:A8 s.data.toList=s:=by cases s;rfl
 rw[e];clear e;go_wp2;go_ret;exact⟨rfl,hb.trans Q,R⟩
theorem kT:∀(k:Fin 8) (o:Bool),bits .andNot .i64 (if o=true then(k.val:Int)+8 else k.val) 8=k.val∧(bits .and .i64 (if o=true then(k.val:Int)+8 else k.val) 8 !=0)=o:=by decide+kernel
def BX(w:World)(b:Nat)(F:List Value):Prop:=(∀(j:Nat) v,F[j]? =some v→w.cell? ⟨b,j,none⟩=some v)∧∀j:Nat,w.frozen? ⟨b,j,none⟩=false
theorem BX.lt{w:World}{b:Nat}{v:Value}{F:List Value}(h:BX w b (v::F)):b<w.heap.size:=nz _ _ (h.1 0 v rfl)
theorem BX.same{w w':World}{b:Nat}{F:List Value}(h:BX w b F)(hb:w'.heap[b]? =w.heap[b]?):BX w' b F:=
 ⟨fun j v G=>(nS (w:=w) hb).trans (h.1 j v G),fun j=>(World.frozen?_of_block (w:=w) hb).trans (h.2 j)⟩
theorem BX.below{w w':World}{b:Nat}{v:Value}{F:List Value}(h:BX w b (v::F))(hb:Below w.heap.size w w'):BX w' b (v::F):=h.same (hb.block b h.lt)
theorem BX.but{w w':World}{b F:Nat}{v:Value}{G:List Value}(h:BX w b (v::G))(hb:Ao F w w')(H:b≠F):BX w' b (v::G):=h.same (hb.block b h.lt H)
theorem BX.grown{w w':World}{b:Nat}{v:Value}{F:List Value}{row:Option Nat}(h:BX w b (v::F))(hb:w.grownBy w' row)(G:some b≠row):BX w' b (v::F):=h.same (hb.block b h.lt G)
theorem BX.set{w:World}{b:Nat}{F:List Value}(h:BX w b F)(i:Nat)(H:i<F.length)(u:Value):BX (w.setCell ⟨b,i,none⟩ u) b (F.set i u):=by
 refine⟨fun j v G=>?_,fun j=>by simpa using h.2 j⟩;by_cases e:i=j
 ·subst e
  rw[List.getElem?_set_self H]at G;cases G;exact nI _ _ _ (h.1 i F[i] (nt H))
 ·rw[List.getElem?_set_ne e]at G
  exact(nA _ _ _ _ (by simp)).trans (h.1 j v G)
theorem BX.other{w:World}{b c i:Nat}{F:List Value}(h:BX w b F)(G:b≠c)(u:Value):BX (w.setCell ⟨c,i,none⟩ u) b F:=h.same (re _ _ _ _ G)
theorem BX.new(w:World)(F:List Value)(t:TypeId):BX (w.alloc (.cells F.toArray t)) w.heap.size F:=
 ⟨fun j v G=>by refine(nl _ _ _ _ rfl).trans ?_;simpa using G,fun _=>World.frozen?_alloc_new _ _ _ _⟩
theorem L8{w w':World}{F b:Nat}{e:TypeId}{z:Nat}{v:Value}{n:Nat}{xs:List Value}(h:w.ownsRow b e z v n xs)(hb:Ao F w w')(J:F<b):w'.ownsRow b e z v n xs:=by
 have G:w.grownBy w' (some F):=⟨hb.os,hb.tape,hb.output,hb.size,fun k H I=>hb.block k H (fun e=>I (by rw[e]))⟩;refine h.kept G ?_;cases hv:v.ownBlock with
 |none=>exact .inl rfl
 |some q=>exact .inr (fun e=>by have:=(h.lt q hv).1;simp at e;omega)
theorem Ow{w:World}{b:Nat}{e:TypeId}{z:Nat}{v:Value}{n:Nat}{xs:List Value}(h:w.ownsRow (b+1) e z v n xs):some b≠v.ownBlock:=fun e=>by have:=(h.lt _ e.symm).1;omega
theorem eR(w:World)(a b:BA)(t:TypeId):∀j u,(Cr [⟨a,b⟩])[j]? =some u→(w.alloc (.cells #[.string a,.string b] t)).cell? ((⟨w.heap.size,0,none⟩:Addr).add j)=some u:=by
 intro j u F;rw[D2,nU];refine(nl _ _ _ _ rfl).trans ?_;simpa [Cr]using F
abbrev kb(B:Nat)(w:World):AH:=Ag w.cell? (fun k=>decide (k<B))
def KS(B F:Nat)(G:Value):Nat→Bool:=fun k=>decide (k≤B)||k==F||some k==G.ownBlock
theorem Kb{B H:Nat}{I:Value}{k:Nat}:KS B H I k=false↔B<k∧k≠H∧some k≠I.ownBlock:=by
 unfold KS;simp only[Bool.or_eq_false_iff,decide_eq_false_iff_not,beq_eq_false_iff_ne,ne_eq];constructor
 ·rintro⟨⟨J,F⟩,G⟩;exact⟨by omega,F,G⟩
 ·rintro⟨J,F,G⟩;exact⟨⟨by omega,F⟩,G⟩
abbrev zV:List Value:=[.int .i64 0,.int .i64 0,.int .i64 0,.int .i64 0,.bool false,.slice none 0 0,.string ⟨#[]⟩,.slice none 0 0]
structure KI (W wr:World) (rb nb:Nat) (k m u g:Int) (o:Bool) (A:List Kv) (va:Value) (d:BA) (L:BH) (vk:Value) (lk:List UInt8) (nk:Nat):Prop where
 r:RB wr rb lk nk
 x:BX wr W.heap.size zV
 b:BX wr nb [.int .i64 k,.int .i64 m,.int .i64 u,.int .i64 g,.bool o,va,.string d,vk]
 rowA:wr.ownsRow (nb+1) 122 2 va A.length (Cr A)
 row:wr.ownsRow (nb+1) 89 9 vk L.length (Bn L)
 ap:vk.ownBlock=none∨vk.ownBlock≠va.ownBlock
 nds:∀e∈L,Ah (Ag wr.cell? (KS W.heap.size nb vk)) e.2.1 e.2.2
 but:Ao rb W wr
 lt:W.heap.size<nb
 rl:rb<W.heap.size
theorem KI.start{W w:World}{F:Nat}{l:List UInt8}{n:Nat}(G:RB w F l n)(hx:BX w W.heap.size zV)(hb:Ao F W w)(H:F<W.heap.size)(k:Int)(o:Bool):KI W (w.alloc (.cells #[.int .i64 k,.int .i64 0,.int .i64 0,.int .i64 0,.bool o,.slice none 0 0,.string ⟨#[]⟩,.slice none 0 0] 54)) F w.heap.size k 0 0 0 o [] (.slice none 0 0) ⟨#[]⟩ [] (.slice none 0 0) l n:=
 ⟨G.below bN,hx.below bN,BX.new w _ _,rB _ _ _ _,rB _ _ _ _,.inl rfl,fun e I=>(by cases I),hb.then bN,hx.lt,H⟩
theorem KI.but'{W wr w':World}{F G:Nat}{k m u g:Int}{o:Bool}{A:List Kv}{H:Value}{d:BA}{L:BH}{I:Value}{R:List UInt8}{T:Nat}{J:List UInt8}{O:Nat}(h:KI W wr F G k m u g o A H d L I R T)(hb:Ao F wr w')(V:RB w' F J O):KI W w' F G k m u g o A H d L I J O:=by
 have Y:=h.lt;have Z:=h.rl;refine⟨V,h.x.but hb (by omega),h.b.but hb (by omega),L8 h.rowA hb (by omega),L8 h.row hb (by omega),h.ap,fun e aa=>(h.nds e aa).on (BN fun q ab Q=>?_),h.but.trans hb,Y,Z⟩;have ad:=Kb.1 Q;exact⟨Q,hb.block q ab (by omega)⟩
theorem KI.drew{W wr:World}{F G:Nat}{k m u g:Int}{o:Bool}{A:List Kv}{H:Value}{d:BA}{L:BH}{I:Value}{J:List UInt8}{O:Nat}(h:KI W wr F G k m u g o A H d L I J O):KI W wr.drew F G k m u g o A H d L I J O:=h.but' (Ao.of_below (nv _ _).drew) (h.r.below (nv _ _).drew)
theorem KI.sets{W wr:World}{I F:Nat}{k m u g:Int}{o:Bool}{A:List Kv}{H:Value}{d:BA}{J:List UInt8}{O:Nat}(h:KI W wr I F k m u g o A H d [] (.slice none 0 0) J O)(i:Nat)(v:Value){Q R T:Int}{V:BA}(Y:i<8)(e:[.int .i64 k,.int .i64 m,.int .i64 u,.int .i64 g,.bool o,H,.string d,.slice none 0 0].set i v=[.int .i64 k,.int .i64 Q,.int .i64 R,.int .i64 T,.bool o,H,.string V,.slice none 0 0]):KI W (wr.setCell ⟨F,i,none⟩ v) I F k Q R T o A H V [] (.slice none 0 0) J O:=by
 have Z:=h.lt;have aa:=h.rl;have G:∀q,q≠F→(wr.setCell ⟨F,i,none⟩ v).heap[q]? =wr.heap[q]?:=fun q G=>re _ _ _ _ G;refine⟨h.r.same (G _ (by omega)),h.x.same (G _ (by omega)),?_,ownsRow_setCell_below h.rowA (Nat.lt_succ_self _) _,rB _ _ _ _,.inl rfl,fun e ab=>(by cases ab),⟨h.but.os,h.but.tape,h.but.output,by simpa [World.setCell]using h.but.size,fun q ad ak=>(G q (by omega)).trans (h.but.block q ad ak)⟩,Z,aa⟩
 rw[←e];exact h.b.set i Y v
theorem KI.appA{W wr w':World}{O F:Nat}{k m u g:Int}{o:Bool}{A:List Kv}{Q I:Value}{d:BA}{R:List UInt8}{T:Nat}(h:KI W wr O F k m u g o A Q d [] (.slice none 0 0) R T)(V:Obj)(G:(wr.alloc V).grownBy w' Q.ownBlock)(r:Kv)(aa:w'.ownsRow (F+1) 122 2 I (A.length+1) (Cr A++Cr [r])):KI W (w'.setCell ⟨F,5,none⟩ I) O F k m u g o (A++[r]) I d [] (.slice none 0 0) R T:=by
 have Y:=h.lt;have ab:=h.rl;have H:Below wr.heap.size wr (wr.alloc V):=bN;have Z:∀c,c≤F→some c≠Q.ownBlock:=fun c ap e=>by have:=(h.rowA.lt c e.symm).1;omega
 have J:∀q,q<wr.heap.size→q<F→(w'.setCell ⟨F,5,none⟩ I).heap[q]? =wr.heap[q]?:=fun q J ar=>by
  rw[re _ _ _ _ (by show q≠F;omega),G.block q (by rw[nw];omega) (Z q (by omega)),H.block q J]
 have q1:=h.but.size;refine⟨h.r.same (J O (by omega) (by omega)),h.x.same (J _ h.x.lt Y),((h.b.below H).grown G (Z _ (nn _))).set 5 (by simp) I,?_,rB _ _ _ _,.inl rfl,fun e ad=>(by cases ad),⟨G.os.trans (H.os.trans h.but.os),G.tape.trans (H.tape.trans h.but.tape),G.output.trans (H.output.trans h.but.output),?_,fun q ak ao=>(J q (by omega) (by omega)).trans (h.but.block q ak ao)⟩,Y,ab⟩
 ·rw[nM,M1]
  exact ownsRow_setCell_below aa (Nat.lt_succ_self _) _
 ·have q2:=H.size
  have ay:=G.size;simp[World.setCell];omega
theorem NZ(L:BH):(bare L).length=L.length:=by simp[bare]
theorem ZV{a b:Option Nat}(h:a=none∨a≠b):b=none∨b≠a:=by
 rcases h with e|e
 ·cases b with
  |none=>exact .inl rfl
  |some s=>exact .inr (by rw[e];simp)
 ·exact .inr (fun q=>e q.symm)
theorem KI.app{W G V:World}{ak F aa:Nat}{k m u g:Int}{o:Bool}{A:List Kv}{ar:Value}{d:BA}{L:BH}{J I:Value}{ay:List UInt8}{az:Nat}(h:KI W G ak F k m u g o A ar d L J ay az)(ao:Obj)(O:(G.alloc ao).grownBy V J.ownBlock)(e:BA×Nd×Hd)(a8:Ah (kb aa G) e.2.1 e.2.2)(_hB:W.heap.size<aa)(bf:F<aa)(ba:∀s,J.ownBlock=some s→s<aa)(bb:V.ownsRow (F+1) 89 9 I (L.length+1) (Bn L++Bn [e]))(a1:I.ownBlock=J.ownBlock∨I.ownBlock=some (G.heap.size+1)):
 KI W (V.setCell ⟨F,7,none⟩ I) ak F k m u g o A ar d (L++[e]) I ay az:=by
 have bd:=h.lt;have a6:=h.rl;have Q:Below G.heap.size G (G.alloc ao):=(nv _ _).alloc (nn _) _;have ab:∀c,c≤F→some c≠J.ownBlock:=fun c R e=>by have:=(h.row.lt c e.symm).1;omega
 have ad:∀q,q<G.heap.size→q≠F→some q≠J.ownBlock→(V.setCell ⟨F,7,none⟩ I).heap[q]? =G.heap[q]?:=fun q H bg Y=>by
  rw[re _ _ _ _ (by show q≠F;omega),O.block q (by rw[nw];omega) Y,Q.block q H]
 have a7:∀q,q<G.heap.size→some q≠J.ownBlock→some q≠I.ownBlock:=fun q H Y e=>by
  rcases a1 with T|T
  ·rw[T]at e;exact Y e
  ·rw[T]at e
   have:q=G.heap.size+1:=by simpa using e
   omega
 refine⟨h.r.same (ad ak (Nat.lt_trans a6 h.x.lt) (by omega) (ab _ (by omega))),((h.x.below Q).grown O (ab _ (by omega))).other (by omega) _,((h.b.below Q).grown O (ab _ (nn _))).set 7 (by simp) I,?_,?_,?_,?_,?_,bd,a6⟩
 ·exact ownsRow_setCell_below ((h.rowA.alloc ao).kept O (ZV h.ap)) (by show F<F+1;omega) _
 ·rw[nM,J0]
  exact ownsRow_setCell_below bb (by show F<F+1;omega) _
 ·rcases a1 with T|T
  ·rw[T];exact h.ap
  ·refine .inr ?_
   rw[T];intro q;have:=(h.rowA.lt _ q.symm).2;omega
 ·intro c R
  rcases rd.1 R with R|R
  ·refine(h.nds c R).on (BN fun q H ap=>?_)
   have Z:=Kb.1 ap;exact⟨Kb.2 ⟨Z.1,Z.2.1,a7 q H Z.2.2⟩,ad q H Z.2.1 Z.2.2⟩
  ·simp at R
   subst R;refine a8.on (BN fun q H ap=>?_);have Z:aa≤q:=by have:=of_decide_eq_false ap;omega
   have Y:some q≠J.ownBlock:=fun e=>by have:=ba q e.symm;omega
   exact⟨Kb.2 ⟨by omega,by omega,a7 q H Y⟩,ad q H (by omega) Y⟩
 ·refine⟨?_,?_,?_,?_,fun q H be=>?_⟩
  ·exact O.os.trans (Q.os.trans h.but.os)
  ·exact O.tape.trans (Q.tape.trans h.but.tape)
  ·exact O.output.trans (Q.output.trans h.but.output)
  ·have q1:=h.but.size
   have q2:=Q.size;have bi:=O.size;have q4:(V.setCell ⟨F,7,none⟩ I).heap.size=V.heap.size:=by simp[World.setCell]
   rw[q4];omega
  ·have q1:=h.but.size
   rw[ad q (by omega) (by omega) (ab q (by omega))];exact h.but.block q H be
theorem KI.fin{W wr w':World}{Q F:Nat}{k m u g:Int}{o:Bool}{A:List Kv}{G H:Option Addr}{c1 c2:Nat}{d:BA}{L:BH}{R:List UInt8}{T:Nat}(h:KI W wr Q F k m u g o A (.slice G A.length c1) d L (.slice H L.length c2) R T)(hb:Ao W.heap.size wr w'):Ah (kb W.heap.size w') (.mk k m u g o A d (bare L)) ⟨G,c1,H,c2⟩:=by
 have ao:=h.lt;have I:∀q,(decide (q<W.heap.size))=true→q<F+1:=fun q e=>by have:=rI e;omega
 obtain⟨ap,ar,J,V,Y,Z⟩:=PV (S:=fun q=>decide (q<W.heap.size)) I (L8 h.rowA hb (by omega))
 obtain⟨a2,ay,O,q1,q2,aa,_⟩:=MW (S:=fun q=>decide (q<W.heap.size)) I (L8 h.row hb (by omega)) (fun e ab=>(h.nds e ab).on (BN fun q ad ak=>by
  have az:=Kb.1 ak;exact⟨nB (by omega),hb.block q ad (by omega)⟩))
 simp only[rp,true_and]at J O;obtain⟨rfl,rfl⟩:=J;obtain⟨rfl,rfl⟩:=O;refine Cq.2 ⟨Z,⟨V,Y⟩,⟨?_,q2⟩,IQ aa⟩;rw[NZ];exact q1
theorem GH{w:World}{b:Nat}{a0 F a2 a3 a4 a5 G H:Value}(h:BX w b [a0,F,a2,a3,a4,a5,G,H]):w.cell? ⟨b,0,none⟩=some a0∧w.cell? ⟨b,1,none⟩=some F∧w.cell? ⟨b,2,none⟩=some a2∧w.cell? ⟨b,3,none⟩=some a3∧w.cell? ⟨b,4,none⟩=some a4∧w.cell? ⟨b,5,none⟩=some a5∧w.cell? ⟨b,6,none⟩=some G∧w.cell? ⟨b,7,none⟩=some H:=
 ⟨h.1 0 _ rfl,h.1 1 _ rfl,h.1 2 _ rfl,h.1 3 _ rfl,h.1 4 _ rfl,h.1 5 _ rfl,h.1 6 _ rfl,h.1 7 _ rfl⟩
theorem BX.all{w:World}{b:Nat}{a0 O a2 a3 a4 a5 Q R:Value}(h:BX w b [a0,O,a2,a3,a4,a5,Q,R])(v0 F G v3 v4 v5 H I:Value):∃J,(((((((w.setCell ⟨b,0,none⟩ v0).setCell ⟨b,1,none⟩ F).setCell ⟨b,2,none⟩ G).setCell ⟨b,3,none⟩ v3).setCell ⟨b,4,none⟩ v4).setCell ⟨b,5,none⟩ v5).setCell ⟨b,6,none⟩ H).setCell ⟨b,7,none⟩ I=J∧BX J b [v0,F,G,v3,v4,v5,H,I]∧Ao b w J:=
 ⟨_,rfl,(((((((h.set 0 (by simp) v0).set 1 (by simp) F).set 2 (by simp) G).set 3 (by simp) v3).set 4 (by simp) v4).set 5 (by simp) v5).set 6 (by simp) H).set 7 (by simp) I,(((((((Ao.refl b w).setCell 0 none v0).setCell 1 none F).setCell 2 none G).setCell 3 none v3).setCell 4 none v4).setCell 5 none v5).setCell 6 none H |>.setCell 7 none I⟩
theorem ZW(w:World)(nm:BA)(x:Nd)(h:Hd)(t:TypeId):∀j u,(Bn [(nm,x,h)])[j]? =some u→(w.alloc (.cells (Bn [(nm,x,h)]).toArray t)).cell? ((⟨w.heap.size,0,none⟩:Addr).add j)=some u:=by
 intro j u F;rw[D2,nU];refine(nl _ _ _ _ rfl).trans ?_;simpa using F
theorem ci{W w w':World}{F:Nat}(h:Ao F W w)(hb:Ao W.heap.size w w'):Ao F W w':=
 ⟨hb.os.trans h.os,hb.tape.trans h.tape,hb.output.trans h.output,nP h.size hb.size,fun k G H=>(hb.block k (nH G h.size) (by omega)).trans (h.block k G H)⟩
theorem M6:∀a b:Ar,cntL (a++b)=cntL a+cntL b
 |[],b=>by simp[cntL]
 |(n,x)::a,b=>by simp[cntL,M6 a b];omega
theorem UX:∀a b:List Kv,CD (a++b)=CD a++CD b
 |[],b=>rfl
 |r::a,b=>by rw[n9,CD,CD,UX a b];simp
theorem TI:∀a b:Ar,BQ (a++b)=BQ a++BQ b
 |[],b=>by rw[BQ];rfl
 |p::a,b=>by rw[n9,BQ,BQ,TI a b];simp
theorem Ss{up:Bool}{F:Nat}:∀{l:Ar} {p:Option BA},Gs up F p l→Bu l→∀n x,(n,x)∈l→(∃up F,Fn up F x)∧AB x∧n.size≤255
 |[],p,_,_,n,x,h=>by cases h
 |(m,y)::l,p,h,hl,n,x,hm=>by
  rw[Gs]at h;rw[Bu]at hl;rcases nY.1 hm with e|e
  ·cases e;exact⟨⟨_,_,h.2.2.1⟩,hl.2.1,hl.1⟩
  ·exact Ss h.2.2.2 hl.2.2 n x e
theorem YJ(k m u g:Int)(o:Bool)(nh:List Kv)(d:BA)(ks:Ar)(t:List UInt8):BK (.mk k m u g o nh d ks)++t=[b8 (if o=true then k+8 else k)]++(BW m++(BW u++(BW g++([b8 nh.length]++(CD nh++(Bg d++([b8 ks.length]++(BQ ks++t)))))))):=by
 rw[BK];simp
theorem aT(G:Nat):∀(md:Nat) (x:Nd),cnt x≤md→(∃up dg,Fn up dg x)→AB x→∀(W:World) (t:List UInt8) (n:Nat),RB W G (BK x++t) n→n+cnt x≤60→(BK x++t).length≤100000→
 Calls prog 43 #[.pointer (some ⟨G,0,none⟩)] W fun e w'=>∃h,e=.returned (Al x h)∧RB w' G t (n+cnt x)∧Ao G W w'∧Ah (kb W.heap.size w') x h:=by
 obtain⟨eo,dj,dk,dm,cr⟩:=DC Tryz.infoA;have b7:=hid (And.intro dj (And.intro dk (And.intro dm cr)));clear dj dk dm cr;obtain⟨ep,dn,dp,dr,ds⟩:=DC Tryz.infoK;have b9:=hid (And.intro dn (And.intro dp (And.intro dr ds)));clear dn dp dr ds;intro md;induction md with
 |zero=>
  intro x h;have:=SU x;omega
 |succ md du=>
  intro x eq a8 bx W t n bk er ap;have es:=hid du;clear du;obtain⟨k,m,u,g,o,nh,d,ks⟩:=x;rw[YJ]at bk ap;rw[cnt]at eq er;rw[AB]at bx;obtain⟨up,dg,a8⟩:=a8;rw[Fn]at a8;obtain⟨⟨f5,f7⟩,⟨dw,eu⟩,⟨u1,u2⟩,g1,dx⟩:=Ur a8.2.1;have hd:=Zr a8.2.1;have ev:=hid (Ss a8.2.2 bx.2.2);have eB:=bx.1.1;have eE:=hid bx.1.2;have eL:=Gc ks;obtain⟨cb,cu⟩:=AQ (if o=true then k+8 else k);have e0:(bits BinOp.andNot IntKind.i64 cb 8=k∧(bits BinOp.and IntKind.i64 cb 8 !=0)=o)∧0≤cb∧cb≤255:=by
   obtain⟨q,rfl⟩:=Int.eq_ofNat_of_zero_le (show 0≤k by omega);have e:=kT ⟨q,by omega⟩ o;rw[←cu.out];refine⟨e,?_⟩;split<;>omega
  obtain⟨⟨e1,e2⟩,dy,dz⟩:=e0;rw[cu.out]at bk ap;obtain⟨e3,cx⟩:=AQ (CD nh++(Bg d++([b8 ks.length]++(BQ ks++t))));rw[cx.out]at bk ap;have d0:e3.length≤100000:=by simp at ap;omega
  have d1:=hid bk;have e4:=bk.lt;obtain⟨bA,bB,bC,bl⟩:=bk;have c3:=bl 1;clear bA a8 bx bl cu;have e5:((n:Int)==60)=false:=by simp;omega
  go_enter func43,ntmps43;go_upto_region 4 with fail
  have d2:(W.setCell ⟨G,1,none⟩ (.int .i64 ((n:Int)+1))).heap.size=W.heap.size:=by simp[World.setCell]
  have cd:=hid ((d1.out.set1 (n+1)).below (bN (o:=.cells zV.toArray 54)));have c4:Hid (BX ((W.setCell ⟨G,1,none⟩ (.int .i64 ((n:Int)+1))).alloc (.cells zV.toArray 54)) W.heap.size zV):=by
   have q:=BX.new (W.setCell ⟨G,1,none⟩ (.int .i64 ((n:Int)+1))) zV 54;rw[d2]at q;exact q
  have c5:Hid (Ao G W ((W.setCell ⟨G,1,none⟩ (.int .i64 ((n:Int)+1))).alloc (.cells zV.toArray 54))):=((Ao.refl G W).setCell _ _ _).alloc _;have d3:((n+1:Nat):Int)=(n:Int)+1:=by omega
  rw[d3]at cd;clear d1 bB bC c3 e5 d2 d3;generalize(W.setCell ⟨G,1,none⟩ (.int .i64 ((n:Int)+1))).alloc (.cells zV.toArray 54)=f8 at cd c4 c5⊢;have H:=hid (IC cd.out (by omega) (k:=1) rfl (by omega) (MN dy dz));go_wp2_with fail
  refine np H.out ?_;rintro e d4 ⟨rfl,hb,I⟩;have bF:=hid (KI.start I (c4.out.but hb (by omega)) (c5.out.trans hb) e4 k o);clear H cd c4 c5 hb I;go_upto_region 6 with fail
  generalize d4.alloc (.cells #[.int .i64 k,.int .i64 0,.int .i64 0,.int .i64 0,.bool o,.slice none 0 0,.string ⟨#[]⟩,.slice none 0 0] 54)=f9 at bF⊢;generalize d4.heap.size=ab at bF⊢;clear e1 e2 dy dz;have H:=hid (IC bF.out.r (by simp at ap⊢;omega) (k:=2) rfl (by omega) (PD dw (by omega)));go_wp2_with fail
  refine np H.out ?_;rintro e e6 ⟨rfl,hb,I⟩;have J:=hid (bF.out.but' hb I);clear H bF hb I;have bG:=J.out.b.1 1 _ rfl;have bH:=J.out.b.2 1;go_upto_region 7 with fail
  have ak:=hid (J.out.sets 1 (.int .i64 m) (by omega) rfl);clear J bG bH;generalize e6.setCell ⟨ab,1,none⟩ (.int .i64 m)=ga at ak⊢;have H:=hid (IC ak.out.r (by simp at ap⊢;omega) (k:=2) rfl (by omega) (PD u1 u2));go_wp2_with fail
  refine np H.out ?_;rintro e e7 ⟨rfl,hb,I⟩;have J:=hid (ak.out.but' hb I);clear H ak hb I;have bG:=J.out.b.1 2 _ rfl;have bH:=J.out.b.2 2;go_upto_region 8 with fail
  have ba:=hid (J.out.sets 2 (.int .i64 u) (by omega) rfl);clear J bG bH;generalize e7.setCell ⟨ab,2,none⟩ (.int .i64 u)=gb at ba⊢;have H:=hid (IC ba.out.r (by simp at ap⊢;omega) (k:=2) rfl (by omega) (PD g1 dx));go_wp2_with fail
  refine np H.out ?_;rintro e d5 ⟨rfl,hb,I⟩;have J:=hid (ba.out.but' hb I);clear H ba hb I;have bG:=J.out.b.1 3 _ rfl;have bH:=J.out.b.2 3;go_upto_region 9 with fail
  have cf:=hid (J.out.sets 3 (.int .i64 g) (by omega) rfl);clear J bG bH;generalize d5.setCell ⟨ab,3,none⟩ (.int .i64 g)=gg at cf⊢;have H:=hid (IC cf.out.r (by simp at ap⊢;omega) (k:=1) rfl (by omega) (MN (by omega) (show(nh.length:Int)≤255 by omega)));go_wp2_with fail
  refine np H.out ?_;rintro e gl ⟨rfl,hb,I⟩;have c6:=hid (cf.out.but' hb I);rw[←cx.out]at c6;clear H cf hb I dw eu u1 u2 g1 dx;obtain⟨ca,d6⟩:=AQ nh.length;rw[d6.out]at eB⊢;go_wp2;go_loopw [41] (fun i wr=>∃(j:Nat) (A C:List Kv) (d7:Value),i=.int .i64 j∧A.length=j∧Hid (nh=A++C)∧Hid (KI W wr G ab k m u g o A d7 ⟨#[]⟩ [] (.slice none 0 0) (CD C++(Bg d++([b8 ks.length]++(BQ ks++t)))) (n+1))) (fun i _=>ca-(intOf i).toNat)
  case atStart=>exact⟨0,[],nh,_,rfl,rfl,rfl,c6.out⟩
  case round=>
   obtain⟨j,A,C,d7,rfl,bn,bY,ar⟩:=hrel;have c8:j+C.length=ca:=by rw[←d6.out,bY.out,nM,bn]
   have bo:(CD C++(Bg d++([b8 ks.length]++(BQ ks++t)))).length≤100000:=by
    rw[←cx.out,bY.out]at d0;simp[UX]at d0⊢;omega
   clear c6;cases C with
   |cons r C=>
    obtain⟨bp,bs⟩:=r;rw[n3]at c8;have e8:(j:Int)<(ca:Int):=by omega
    have c9:=eE.out ⟨bp,bs⟩ (by rw[bY.out];simp);rw[CD,n8,n8]at ar bo;have ay:=hid (LJ ar.out.r (by omega) c9.1);go_wp2_with fail
    refine np ay.out ?_;rintro e ad ⟨rfl,az,a1⟩;have aa:=hid (ar.out.but' az a1);clear ay ar az a1;have da:=hid aa.out.drew;have d8:=hid (LJ da.out.r (by simp at bo⊢;omega) c9.2);clear c9;go_upto_region 12 with fail
    obtain⟨bb,bd,cg,_,_,_⟩:=Df aa.out.rowA;rw[bn]at cg;subst cg;have b0:=aa.out.b.1 5 _ rfl;have b1:=aa.out.b.2 5;go_region_law (first|(refine KK (ao.alloc (.cells #[.string bp,.string bs] 122)) (by rfl) (.tmp 46) (.tmp 51) 51 (by rfl) (ab+1) 122 eo _ 2 32 underlying51 b7.out.1 b7.out.2.1 b7.out.2.2.1 b7.out.2.2.2 rfl (by decide) (.slice bb j bd) j (Cr A) (by rfl) (d9.out.alloc _) (some ⟨ao.heap.size,0,none⟩) 1 1 (Cr [⟨bp,bs⟩]) (by rfl) (by rfl) (.inr ⟨_,rfl,eR ao bp bs _⟩) (Lu _) (by unfold maxLen;omega) (by omega) (nP a6.out.b.lt (by rw[nw];omega)) ?_;intro e9 ea be bf bu;obtain⟨fa,fb,rfl,_,_,_⟩:=Df be;have fc:=hid (a6.out.appA _ bf ⟨bp,bs⟩ (by rw[bn];exact be));have bg:=(a6.out.b.below bN).grown bf (Ow a6.out.rowA);have O:=bg.1 5 _ rfl;have fd:=bg.2 5;clear be bf bu bg)|(go_simp;go_at_call 71;(with_reducible refine np d8.out ?_);rintro e ao ⟨rfl,b2,b3⟩;have a6:=hid (da.out.but' b2 b3);have d9:Hid (ao.ownsRow (ab+1) 122 2 (.slice bb j bd) j (Cr A)):=(by have q:=a6.out.rowA;rw[bn]at q;exact q);have db:=a6.out.b.1 5 _ rfl;have c7:=(a6.out.b.below (bN (w:=ao) (o:=.cells #[.string bp,.string bs] 122))).1 5 _ rfl;clear d8 b2 b3))
    all_goals
     clear aa da a6 d9 db c7 O fd b0 b1;go_wp2;go_roundw
     case rel=>exact⟨j+1,_,C,_,by go_num,by simp[bn],by show _=_;rw[bY.out];simp,fc.out⟩
     case measure=>simp[intOf];omega
   |nil=>
    rw[nR,rT]at c8;subst c8;subst bn;have e8:decide ((A.length:Int)<(A.length:Int))=false:=nB (by omega);have fe:Hid (nh=A):=by have q:=bY.out;rw[rQ]at q;exact q
    rw[CD,ru]at ar bo;have ay:=hid (LJ ar.out.r (by omega) (by omega));go_wp2_with fail
    refine np ay.out ?_;rintro e ad ⟨rfl,az,a1⟩;have aa:=hid (ar.out.but' az a1);clear ay ar az a1;obtain⟨bb,bd,cg,go,gq,_⟩:=Df aa.out.rowA;subst cg;have b0:=aa.out.b.1 6 _ rfl;have b1:=aa.out.b.2 6;go_upto_region 15 with fail
    have ak:=hid (aa.out.sets 6 (.string d) (by omega) rfl);clear aa b0 b1;generalize ad.setCell ⟨ab,6,none⟩ (.string d)=ea at ak⊢;have H:=hid (IC ak.out.r (by simp at bo⊢;omega) (k:=1) rfl (by omega) (MN (by omega) (show(ks.length:Int)≤255 by omega)));go_wp2_with fail
    refine np H.out ?_;rintro e gr ⟨rfl,hb,I⟩;have ba:=hid (ak.out.but' hb I);have eb:(BQ ks++t).length≤100000:=by simp at bo⊢;omega
    clear H ak hb I bo;obtain⟨ff,ec⟩:=AQ ks.length;rw[ec.out]at eL⊢;go_wp2;go_loopw [6] (fun i wr=>∃(j:Nat) (L:BH) (K:Ar) (ed:Value),i=.int .i64 j∧Hid (K.length=j)∧Hid (ks=bare L++K)∧Hid (KI W wr G ab k m u g o A (.slice bb A.length bd) d L ed (BQ K++t) (n+1+cntL (bare L)))) (fun i _=>(intOf i).toNat)
    case atStart=>exact⟨ff,[],ks,_,rfl,ec.out,rfl,ba.out⟩
    case round=>
     obtain⟨ee,L,K,ed,rfl,b4,bv,F⟩:=hrel;clear ba;obtain⟨b5,b6,fg,_,_,_⟩:=Df F.out.row;subst fg;obtain⟨bA,bB,bC,bl⟩:=F.out.r;cases K with
     |nil=>
      obtain rfl:0=ee:=b4.out;have fh:Hid (ks=bare L):=by have q:=bv.out;rw[rQ]at q;exact q
      obtain⟨x0,gu,gv,gw,gx,gy,gz,gC⟩:=GH F.out.x;obtain⟨gD,gE,gG,gH,gI,gJ,gK,gL⟩:=GH F.out.b;have gM:=F.out.x.2 0;have gN:=F.out.x.2 1;have gO:=F.out.x.2 2;have gP:=F.out.x.2 3;have gQ:=F.out.x.2 4;have gR:=F.out.x.2 5;have f6:=F.out.x.2 6;have gS:=F.out.x.2 7;go_wp2;obtain⟨d5,fl,fr,dd⟩:=F.out.x.all (.int .i64 k) (.int .i64 m) (.int .i64 u) (.int .i64 g) (.bool o) (.slice bb A.length bd) (.string d) (.slice b5 L.length b6);rw[fl];have de:=F.out.r.same (dd.block G F.out.r.lt (by omega));have fs:=F.out.fin dd;obtain⟨bA,bB,bC,bl,c3,fv,fx,fY⟩:=GH fr;rw[BQ,ru]at de;refine nG (v:=Al (.mk k m u g o A d (bare L)) ⟨bb,bd,b5,b6⟩) (by simp[results,results43,go_sem,Al,NZ,bA,bB,bC,bl,c3,fv,fx,fY]) rfl ?_;have ch:n+1+cntL (bare L)=n+cnt (.mk k m u g o A d (bare L)):=by rw[cnt];omega
      rw[ch]at de;rw[fh.out,fe.out];exact⟨⟨bb,bd,b5,b6⟩,rfl,de,ci F.out.but dd,fs⟩
     |cons p K=>
      obtain⟨nm,y⟩:=p;obtain⟨cl,rfl⟩:∃q,ee=q+1:=⟨K.length,b4.out.symm⟩;have gT:decide ((0:Int)<((cl+1:Nat):Int))=true:=nF (by omega);obtain⟨ef,eg,ej⟩:=ev.out nm y (by rw[bv.out];simp);have gU:cntL ks=cntL (bare L)+(cnt y+cntL K):=by rw[bv.out,M6,cntL]
      have f0:(Bg nm++(BK y++(BQ K++t))).length≤100000:=by
       rw[bv.out,TI,BQ]at eb;simp at eb⊢;omega
      rw[BQ,n8,n8]at F;dsimp only at F;have cr:cl≤60:=by have q:=b4.out;rw[n3]at q;have:=Gc K;omega
      have gV:L.length≤255:=by have:=Gc (bare L);rw[NZ]at this;omega
      have ay:=hid (LJ F.out.r (by omega) ej);go_wp2_with fail
      refine np ay.out ?_;rintro e ad ⟨rfl,az,a1⟩;have co:=hid (F.out.but' az a1);have bi:=hid co.out.drew;have cp:Hid (W.heap.size<ad.drew.heap.size∧ab<ad.drew.heap.size∧∀s,(Value.slice b5 L.length b6).ownBlock=some s→s<ad.drew.heap.size):=⟨Nat.lt_trans bi.out.lt bi.out.b.lt,bi.out.b.lt,fun s e=>(bi.out.row.lt s e).2⟩;obtain⟨Q,R,u5,T,V,Y,O,Z⟩:=y;have ek:Hid (Calls prog 43 #[.pointer (some ⟨G,0,none⟩)] ad.drew fun e w'=>∃hx,e=.returned (A5 Q R u5 T V Y O Z hx)∧RB w' G (BQ K++t) (n+1+cntL (bare L)+cnt (.mk Q R u5 T V Y O Z))∧Ao G ad.drew w'∧Ah (kb ad.drew.heap.size w') (.mk Q R u5 T V Y O Z) hx):=es.out (.mk Q R u5 T V Y O Z) (by omega) ef eg ad.drew (BQ K++t) _ bi.out.r (by omega) (by simp at f0⊢;omega);clear ay F az a1 bA bB bC bl ef eg ej;go_upto_region 19 with fail
      have b0:=co.out.b.1 7 _ rfl;have b1:=co.out.b.2 7;go_region_law (first|(refine KK (ao.alloc (.cells #[.string nm,.int .i64 Q,.int .i64 R,.int .i64 u5,.int .i64 T,.bool V,.slice hx.aa Y.length hx.ca,.string O,.slice hx.ak Z.length hx.ck] 89)) (by rfl) (.tmp 74) (.tmp 79) 52 (by rfl) (ab+1) 89 ep zK 9 120 underlying52 b9.out.1 b9.out.2.1 b9.out.2.2.1 b9.out.2.2.2 rfl (by decide) (.slice b5 L.length b6) L.length (Bn L) (by rfl) (a7.out.row.alloc _) (some ⟨ao.heap.size,0,none⟩) 1 1 (Bn [(nm,(.mk Q R u5 T V Y O Z),hx)]) (by rfl) (by rfl) (.inr ⟨_,rfl,ZW ao nm (.mk Q R u5 T V Y O Z) hx _⟩) (Md _) (by unfold maxLen;omega) (by omega) (nP a7.out.b.lt (by rw[nw];omega)) ?_;intro e9 ea be bf bu;obtain⟨fa,fb,rfl,_,_,_⟩:=Df be;have el:=hid (a7.out.app _ bf (nm,(.mk Q R u5 T V Y O Z),hx) em.out cp.out.1 cp.out.2.1 cp.out.2.2 be (by first|exact bu|(rw[nw]at bu;exact bu)));have bg:=(a7.out.b.below bN).grown bf (Ow a7.out.row);have f1:=bg.1 7 _ rfl;have f2:=bg.2 7;clear be bf bu bg)|(go_simp;go_at_call 43;(with_reducible refine np ek.out ?_);rintro e ao ⟨hx,rfl,b3,b2,en⟩;have a7:=hid (bi.out.but' b2 b3);have em:=hid en;have db:=a7.out.b.1 7 _ rfl;have c7:=(a7.out.b.below (bN (o:=.cells #[.string nm,.int .i64 Q,.int .i64 R,.int .i64 u5,.int .i64 T,.bool V,.slice hx.aa Y.length hx.ca,.string O,.slice hx.ak Z.length hx.ck] 89))).1 7 _ rfl;clear ek b2 b3 en))
      all_goals
       have f3:Hid (ks=bare (L++[(nm,(.mk Q R u5 T V Y O Z),hx)])++K):=by show _=_;rw[bv.out];simp[bare]
       have f4:Hid (K.length=cl):=by have q:=b4.out;rw[n3]at q;exact Nat.succ.inj q
       have ch:n+1+cntL (bare L)+cnt (.mk Q R u5 T V Y O Z)=n+1+cntL (bare (L++[(nm,(.mk Q R u5 T V Y O Z),hx)])):=by simp[bare,M6,cntL];omega
       rw[ch]at el;clear co bi a7 db c7 f1 f2 b0 b1 em cp bv b4 ch;go_wp2;go_roundw
       case rel=>exact⟨cl,_,K,_,by go_num,f4.out,f3.out,el.out⟩
       case measure=>(simp[intOf];try omega)
theorem X7{B F:Nat}{w:World}(h:F≤B):AR (kb B w) (kb F w):=BN fun k _ G=>⟨nB (by have:=of_decide_eq_false G;omega),rfl⟩
theorem YY{B:Nat}{w w':World}(h:∀k,B≤k→k<w.heap.size→w'.heap[k]? =w.heap[k]?):AR (kb B w) (kb B w'):=BN fun k G F=>⟨F,h k (by have:=of_decide_eq_false F;omega) G⟩
abbrev KF(S:BA):Obj:=.cells #[.string S,.int .i64 0,.bool false] 97
theorem Xh(up:Bool){w:World}{x:Nd}(aa:AB x)(a7:(BK x).length≤100000)(hF:CC up x=0):
 Calls prog 26 #[.string (A8 (BK x)),.bool up] w fun e w'=>∃h',e=.returned (.tuple #[Al x h',.nilIface])∧Ah (kb (w.heap.size+1) w') x h'∧Below w.heap.size w w':=by
 have R:=(JJ _ _).1 hF;have a8:Hid (∀(T:World) (F:Hd),Ah T.cell? x F→Calls prog 36 #[Al x F,.bool up] T fun e ab=>e=.returned .nilIface∧Bw T ab):=fun T F bo=>by
  have q:=KY up bo aa (by have:=R.2.2;omega);rw[hF]at q;exact q
 have ad:Hid (BX ((w.alloc AJ).alloc (KF (A8 (BK x)))) w.heap.size zV):=(BX.new w zV 54).below bN;have H:=BX.new (w.alloc AJ) [.string (A8 (BK x)),.int .i64 0,.bool false] 97;rw[nw]at H;have ak:Hid (RB ((w.alloc AJ).alloc (KF (A8 (BK x)))) (w.heap.size+1) (BK x++[]) 0):=⟨by rw[rQ];exact H.1 0 _ rfl,H.1 1 _ rfl,H.1 2 _ rfl,H.2⟩;have V:Hid (Bw w ((w.alloc AJ).alloc (KF (A8 (BK x))))):=Below.alloc bN (by rw[nw];omega) _;have ao:Hid (w.heap.size+1<((w.alloc AJ).alloc (KF (A8 (BK x)))).heap.size):=by show _<_;rw[nw,nw];omega
 have Y:=hid (aT (w.heap.size+1) _ x (nn _) ⟨up,0,R.2.1⟩ aa _ [] 0 ak.out (by have:=R.2.2;omega) (by rw[rQ];exact a7));rw[nU]at Y;obtain⟨bp,ba⟩:=AQ (A8 (BK x));rw[ba.out]at ad ak V ao Y⊢;clear aa hF H R a7 ak ba;go_enter func26,ntmps26;go_wp2_with fail
 generalize(w.alloc AJ).alloc (KF bp)=cb at*;refine np Y.out ?_;rintro e I ⟨F,rfl,bb,ap,bd⟩;have be:=hid (ad.out.but ap (by omega));have ar:=hid (V.out.trans (ap.below (by omega) V.out.size));have bf:Hid (Ah (kb (w.heap.size+1) I) x F):=bd.on (X7 (by have:=ao.out;omega));have bg:=hid bb;clear bb ap bd ad V Y ao;obtain⟨k,m,u,g,o,nh,d,ks⟩:=x;rw[show Al (.mk k m u g o nh d ks) F=A5 k m u g o nh d ks F from rfl];have O:Bw I (I.alloc (As k m u g o nh d ks F)):=bN;have bi:=hid (be.out.below O);have ay:=hid (BX.new I [.int .i64 k,.int .i64 m,.int .i64 u,.int .i64 g,.bool o,.slice F.aa nh.length F.ca,.string d,.slice F.ak ks.length F.ck] 54);have az:=hid (ar.out.trans (O.mono ar.out.size));have bk:Hid (Calls prog 36 #[A5 k m u g o nh d ks F,.bool up] (I.alloc (As k m u g o nh d ks F)) fun e ab=>e=.returned .nilIface∧Bw (I.alloc (As k m u g o nh d ks F)) ab):=a8.out _ F ((bf.out.on (Ci _ _)).on (Aj O));obtain⟨Z,a1,a6,_⟩:=bg.out.below O;rw[show A8 []=⟨#[]⟩from rfl]at Z;obtain⟨bs,bu,bv,bx,bA,bB,bC,bF⟩:=GH ay.out;clear O be ar bg a8;go_wp2_with fail
 refine np bk.out ?_;rintro e bG ⟨rfl,J⟩;have G:=hid (bi.out.below J);have bH:=ay.out.below J;have bl:=hid (az.out.trans (J.mono az.out.size))
 have bY:Hid (∀Q,Ao w.heap.size bG Q→Ah (kb (w.heap.size+1) Q) (.mk k m u g o nh d ks) F):=fun Q hF=>bf.out.on (YY fun q cd b0=>by
  have b1:=J.size;rw[nw]at b1;rw[hF.block q (by omega) (by omega),J.block q (by rw[nw];omega)];exact rR _ _ _ b0)
 clear bi ay az bk J bs bu bv bx bA bB bC bF Z a1 a6;obtain⟨x0,cf,cg,ch,cl,co,cp,cr⟩:=GH G.out;obtain⟨cu,cx,c3,c4,c5,c6,c8,c9⟩:=GH bH;have da:=G.out.2 0;have db:=G.out.2 1;have dd:=G.out.2 2;have de:=G.out.2 3;have dg:=G.out.2 4;have dj:=G.out.2 5;have f6:=G.out.2 6;have dk:=G.out.2 7;go_wp2;obtain⟨Q,b2,b3,bn⟩:=G.out.all (.int .i64 k) (.int .i64 m) (.int .i64 u) (.int .i64 g) (.bool o) (.slice F.aa nh.length F.ca) (.string d) (.slice F.ak ks.length F.ck);rw[b2];obtain⟨Z,a1,a6,b4,b5,b6,b7,b9⟩:=GH b3;refine nG (v:=.tuple #[Al (.mk k m u g o nh d ks) F,.nilIface]) (by simp[results,results26,go_sem,Al,Z,a1,a6,b4,b5,b6,b7,b9]) rfl ⟨F,rfl,bY.out Q bn,bl.out.trans (bn.below (nn _) bl.out.size)⟩
theorem WT{w:World}{s:BA}{j:Nat}{a b:UInt8}(F:s.data[j]? =some a)(hb:s.data[j+1]? =some b)(Q:s.size≤100000000):
 Calls prog 41 #[.string s,.int .i64 j] w fun e w'=>e=.returned (.int .i64 ((a.toNat*256+b.toNat:Nat):Int))∧Bw w w':=by
 have I:j+1<s.size:=by
  have:=(nJ.1 hb).1;exact this
 have J:j<s.size:=by omega
 have R:((j:Int)+1).toNat=j+1:=by omega
 have T:¬((j:Int)+1<0):=by omega
 have t3:(0:Int)≤(j:Int)+1:=by omega
 have t4:(j:Int)+1<s.size:=by omega
 have V:s[j]=a:=Option.some.inj ((Array.getElem?_eq_getElem J).symm.trans F);have Y:s[j+1]=b:=Option.some.inj ((Array.getElem?_eq_getElem I).symm.trans hb);have G:=Uf a.toNat b a.toNat_lt;have H:wrap64 (a.toNat:Int)=a.toNat:=by have:=a.toNat_lt;rw[wrap64];omega
 have O:Hid (bits BinOp.or IntKind.i64 (wrap64 (wrap64 (a.toNat:Int)*256)) (wrap64 (b.toNat:Int))=((a.toNat*256+b.toNat:Nat):Int)):=by rw[H];exact G
 clear G F hb H;go_enter func41,ntmps41;go_wp2_with fail
 go_region
 all_goals
  go_wp2;go_ret;exact⟨by rw[←O.out];rfl,(nv _ _).drew⟩
theorem Zi{z:Int}(F:0≤z)(G:z≤65535):(((b8 (z / 256)).toNat*256+(b8 z).toNat:Nat):Int)=z:=by
 have H:=FL (z / 256);have I:=FL z;omega
theorem Vj:∀{cs:List Int} {i:Nat} (t:List UInt8),i<cs.length→(Es cs++t)[2*i]? =some (b8 (cs.getD i 0 / 256))∧(Es cs++t)[2*i+1]? =some (b8 (cs.getD i 0))
 |c::cs,0,t,_=>⟨rfl,rfl⟩
 |c::cs,i+1,t,h=>by
  have e:=Vj (cs:=cs) (i:=i) t (by simpa using h);have F:2*(i+1)=2*i+1+1:=by omega
  rw[F];exact e
theorem Nc{w:World}{L:List UInt8}{j:Nat}{z:Int}(F:0≤z)(G:z≤65535)(H:L[j]? =some (b8 (z / 256)))(hb:L[j+1]? =some (b8 z))(I:L.length≤100000000):
 Calls prog 41 #[.string (A8 L),.int .i64 j] w fun e w'=>e=.returned (.int .i64 z)∧Bw w w':=by
 have e:=WT (w:=w) (s:=A8 L) (j:=j) (a:=b8 (z / 256)) (b:=b8 z) (by simpa [A8]using H) (by simpa [A8]using hb) (by rw[Gf];exact I);rw[Zi F G]at e;exact e
theorem Ib(u g k:Int)(cs:List Int)(t:List UInt8):Dn u g k cs++t=b8 (u / 256)::b8 u::b8 (g / 256)::b8 g::b8 k::b8 cs.length::(Es cs++t):=by simp[Dn,BW]
theorem XX{u g k:Int}{cs:List Int}(t:List UInt8)(H:0≤u∧u≤65535)(I:0≤g∧g≤65535)(O:∀z∈cs,0≤z∧z≤65535)(F:(Dn u g k cs++t).length≤100000000):
 (∀w,Calls prog 41 #[.string (A8 (Dn u g k cs++t)),.int .i64 0] w fun e w'=>e=.returned (.int .i64 u)∧Bw w w')∧(∀w,Calls prog 41 #[.string (A8 (Dn u g k cs++t)),.int .i64 2] w fun e w'=>e=.returned (.int .i64 g)∧Bw w w')∧∀(i:Nat) (w:World),i<cs.length→Calls prog 41 #[.string (A8 (Dn u g k cs++t)),.int .i64 ((6+2*i:Nat):Int)] w fun e w'=>e=.returned (.int .i64 (cs.getD i 0))∧Bw w w':=by
 refine⟨fun w=>Nc (j:=0) H.1 H.2 (by rw[Ib];rfl) (by rw[Ib];rfl) F,fun w=>Nc (j:=2) I.1 I.2 (by rw[Ib];rfl) (by rw[Ib];rfl) F,fun i w G=>?_⟩;have J:0≤cs.getD i 0∧cs.getD i 0≤65535:=by
  rw[List.getD_eq_getElem?_getD,nt G];exact O _ (List.getElem_mem G)
 have e:=Vj t G;refine Nc J.1 J.2 ?_ ?_ F
 ·rw[Ib,show 6+2*i=2*i+1+1+1+1+1+1 by omega]
  exact e.1
 ·rw[Ib,show 6+2*i+1=2*i+1+1+1+1+1+1+1 by omega]
  exact e.2
end Go.Proofs.YtofhphibahcniaaGreatDoor
