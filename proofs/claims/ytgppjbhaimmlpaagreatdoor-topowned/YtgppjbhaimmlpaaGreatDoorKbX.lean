/-
  TopOwned: Kb Kc Ua Wj Wl Mi Mj.
-/
import Derived.Test.YtgppjbhaimmlpaaGreatDoorApX
import Derived.Test.YtgppjbhaimmlpaaGreatDoorWoX
import Derived.Test.YtgppjbhaimmlpaaGreatDoorMaX
import Derived.Deep.LoopGhost
import Derived.WalkSmall
import Derived.Outline
import Derived.Deep.RegionHeld3
set_option maxRecDepth 100000
set_option maxHeartbeats 16000000
namespace Go.Proofs.YtgppjbhaimmlpaaGreatDoor
open Go.RowKit Go.Proofs.Tryz
def Ep(rs:List Rg)(k:Nat):Int:=match rs[k]? with
 |none=>0
 |some r=>if Fh r=false then 1 else if(rs.take k).any (fun p=>Fw p r)=true then 3 else 0
def mF(rs:List Rg):Nat→Nat→Int
 |_,0=>0
 |k,n+1=>if Ep rs k=0 then mF rs (k+1) n else Ep rs k
def CY(rs:List Rg):Int:=if 4<rs.length then 2 else mF rs 0 rs.length
theorem UY{rs:List Rg}{k n:Nat}(h:Ep rs k=0):mF rs k (n+1)=mF rs (k+1) n:=by simp[mF,h]
theorem Kd{rs:List Rg}{k n:Nat}(h:¬Ep rs k=0):mF rs k (n+1)=Ep rs k:=by simp[mF,h]
theorem JW{rs:List Rg}{k:Nat}{r:Rg}(F:rs[k]? =some r)(h:Fh r=false):Ep rs k=1:=by simp[Ep,F,h]
theorem JK{rs:List Rg}{k:Nat}{r:Rg}(F:rs[k]? =some r)(h:Fh r=true)(G:(rs.take k).any (fun p=>Fw p r)=true):Ep rs k=3:=by
 unfold Ep;rw[F];dsimp only;rw[nB (by rw[h];decide),nC G]
theorem RI{rs:List Rg}{k:Nat}{r:Rg}(F:rs[k]? =some r)(h:Fh r=true)(G:(rs.take k).any (fun p=>Fw p r)=false):Ep rs k=0:=by
 unfold Ep;rw[F];dsimp only;rw[nB (by rw[h];decide),nB (by rw[G];decide)]
theorem MB{rs:List Rg}{k:Nat}{r:Rg}(F:rs[k]? =some r)(h:Ep rs k=0):Fh r=true:=by
 by_cases hb:Fh r=false
 ·rw[JW F hb]at h;omega
 ·simpa using hb
theorem Vy{F:Type}{l:List F}{k:Nat}{p:F}(h:l[k]? =some p):l.take (k+1)=l.take k++[p]:=by
 obtain⟨G,rfl⟩:=nw.1 h;exact List.take_succ_eq_append_getElem G
theorem KT{rs:List Rg}{f:Rg→Bool}{j k:Nat}(G:j<k)(h:(rs.take (j+1)).any f=true):(rs.take k).any f=true:=by
 rw[List.any_eq_true]at h⊢;obtain⟨x,hx,F⟩:=h;refine⟨x,?_,F⟩;have:rs.take (j+1)=(rs.take k).take (j+1):=by rw[List.take_take];congr 1;omega
 rw[this]at hx;exact List.mem_of_mem_take hx
theorem Ja(a:Option Addr)(cap:Nat)(rs:List Rg)(w:World)(c4:rs.length≤100)(c5:rs.length≤cap)(b1:∀r∈rs,r.ok)(h:Rgs w a rs):
 Calls prog 60 #[.slice a rs.length cap] w fun e w'=>e=.returned (Am (CY rs))∧Below w.heap.size w w':=by
 by_cases bv:4<rs.length
 ·have b2:Hid (CY rs=2):=nC bv
  go_enter func60,ntmps60;go_wp2;go_ret;exact⟨Cm (AH b2.out (by decide)).symm,nt _ _⟩
 have ad:Hid (CY rs=mF rs 0 rs.length):=nB bv;have hd:decide (4<(rs.length:Int))=false:=by simp;omega
 go_enter func60,ntmps60;go_wp2;go_loopw [13] (fun i wr=>∃k:Nat,k≤rs.length∧i=iN k∧Hid (mF rs 0 rs.length=mF rs k (rs.length-k))∧Hid (∀j,j<k→Ep rs j=0)∧Below w.heap.size w wr) (fun i _=>rs.length-(intOf i).toNat)
 case atStart=>exact⟨0,nM _,rfl,rfl,fun j bx=>absurd bx (Nat.not_lt_zero _),nt _ _⟩
 case round=>
  obtain⟨k,c6,rfl,Z,bA,G⟩:=hrel;by_cases bB:k<rs.length
  ·rcases h with rfl|⟨b,aa,rfl,bd⟩
   ·simp at bB
   ·obtain⟨r,az⟩:∃r,rs[k]? =some r:=⟨rs[k],by simp[bB]⟩
    obtain⟨be,bC,bF⟩:=bd k r az;have R:b<w.heap.size:=bL be;have bG:=nG R G.size;obtain⟨⟨c8,c9⟩,⟨da,db⟩,⟨dd,de⟩⟩:=b1 r (nD az);have dg:(k:Int)<(rs.length:Int):=by omega
    have ak:Hid (mF rs k (rs.length-k)=mF rs k ((rs.length-(k+1))+1)):=by show _=_;congr 1;omega
    obtain⟨H,I,F⟩:=r;dsimp only at*;have b3:=(G.cell (p:=(aD b (aa+k*3))) R).trans be;have q1:=(G.cell (p:=(aD b (aa+k*3+1))) R).trans bC;have q2:=(G.cell (p:=(aD b (aa+k*3+2))) R).trans bF;have Q:=hid az;have Y:=bd;clear be bC bF az bd;obtain⟨a1,a6⟩:∃t,FP H F=t:=⟨_,rfl⟩;obtain⟨bf,a7⟩:∃t,FP I F=t:=⟨_,rfl⟩;have bg:a1=false∨a1=true∧bf=false∨a1=true∧bf=true:=by cases a1<;>cases bf<;>simp
    rcases bg with rfl|⟨rfl,rfl⟩|⟨rfl,rfl⟩
    ·have J:Hid (mF rs k (rs.length-k)=1):=ak.out.trans ((Kd (by rw[JW Q.out (by simp[Fh,a6])];decide)).trans (JW Q.out (by simp[Fh,a6])))
     clear Y;go_wp2_with (go_at_call 109;refine(MA _ _ ⟨by omega,by omega⟩ ⟨by omega,by omega⟩ _).mono ?_;rintro e w' ⟨rfl,rfl⟩)
     go_ret;exact⟨Cm (AH (by rw[ad.out,Z.out,J.out]) (by decide)).symm,G.alloc G.size _⟩
    ·have J:Hid (mF rs k (rs.length-k)=1):=ak.out.trans ((Kd (by rw[JW Q.out (by simp[Fh,a7])];decide)).trans (JW Q.out (by simp[Fh,a7])))
     clear Y;go_wp2_with (go_at_call 109;refine(MA _ _ ⟨by omega,by omega⟩ ⟨by omega,by omega⟩ _).mono ?_;rintro e w' ⟨rfl,rfl⟩)
     go_ret;exact⟨Cm (AH (by rw[ad.out,Z.out,J.out]) (by decide)).symm,G.alloc G.size _⟩
    ·have bi:Fh ⟨H,I,F⟩=true:=by simp[Fh,a6,a7]
     obtain⟨b4,b5,v3,v4,v5,b6,b7,b9⟩:=OH bi;dsimp only at b4 b5 v3 v4 v5 b6 b7 b9;have ab:=hid bi;clear bi;have dj:(k:Int)≤(cap:Int):=by omega
     go_wp2_with (go_at_call 109;refine(MA _ _ ⟨by omega,by omega⟩ ⟨by omega,by omega⟩ _).mono ?_;rintro e w' ⟨rfl,rfl⟩)
     have a8:=Fi.new wr H I F;have bk:=G.alloc G.size (.cells #[iN H,iN I,iN F] 62);clear b3 q1 q2 G bG a6 a7;generalize wr.alloc (.cells #[iN H,iN I,iN F] 62)=dk at a8 bk⊢;generalize wr.heap.size=cb at a8⊢;go_loopw [37] (fun i bH=>∃j:Nat,j≤k∧i=iN j∧Hid ((rs.take j).any (fun p=>Fw p ⟨H,I,F⟩)=false)∧Below w.heap.size w bH∧Fi bH cb ⟨H,I,F⟩) (fun i _=>k-(intOf i).toNat)
     case atStart=>exact⟨0,nM _,rfl,rfl,bk,a8⟩
     case round=>
      obtain⟨j,bx,rfl,bl,O,bn⟩:=hrel;clear bk a8;obtain⟨x0,cf,cg,dm⟩:=id bn;dsimp only at x0 cf cg;have lb:=bn.lt;by_cases ao:j<k
      ·have ch:j<rs.length:=by omega
       obtain⟨p,ba⟩:∃p,rs[j]? =some p:=⟨rs[j],by simp[ch]⟩;obtain⟨bo,bp,bs⟩:=Y j p ba;obtain⟨cl,co,t3,t4,t5,cp,cq,cr⟩:=OH (MB ba (bA.out j ao));have T:Hid ((rs.take (j+1)).any (fun p=>Fw p ⟨H,I,F⟩)=Fw p ⟨H,I,F⟩):=by
        show _=_;rw[Vy ba,List.any_append,bl.out];simp
       obtain⟨bY,b0,bu⟩:=p;dsimp only at bo bp bs cl co t3 t4 t5 cp cq cr;have z0:=(O.cell (p:=(aD b (aa+j*3))) R).trans bo;have dn:=(O.cell (p:=(aD b (aa+j*3+1))) R).trans bp;have dp:=(O.cell (p:=(aD b (aa+j*3+2))) R).trans bs;have bG:=nG R O.size;have dr:(j:Int)<(k:Int):=by omega
       clear bo bp bs ba;obtain⟨ap,cu⟩:∃t,GD bY bu H F=t:=⟨_,rfl⟩;obtain⟨bb,cx⟩:∃t,GD b0 bu I F=t:=⟨_,rfl⟩;have V:Hid (Fw ⟨bY,b0,bu⟩ ⟨H,I,F⟩=(ap||bb)):=by show _=_;simp[Fw,cu,cx]
       have bg:ap=true∨ap=false∧bb=true∨ap=false∧bb=false:=by cases ap<;>cases bb<;>simp
       rcases bg with rfl|⟨rfl,rfl⟩|⟨rfl,rfl⟩
       ·have J:Hid (mF rs k (rs.length-k)=3):=ak.out.trans ((Kd (by rw[JK Q.out ab.out (KT ao (by rw[T.out,V.out];rfl))];decide)).trans (JK Q.out ab.out (KT ao (by rw[T.out,V.out];rfl))))
        clear Y T V;go_wp2_with (go_at_call 110;refine(Nr _ _ _ _ (by omega) (by omega) (by omega) (by omega) (by omega) (by omega) (by omega) (by omega) _).mono ?_;rintro e w' ⟨rfl,rfl⟩)
        go_ret;exact⟨Cm (AH (by rw[ad.out,Z.out,J.out]) (by decide)).symm,O.alloc O.size _⟩
       ·have J:Hid (mF rs k (rs.length-k)=3):=ak.out.trans ((Kd (by rw[JK Q.out ab.out (KT ao (by rw[T.out,V.out];rfl))];decide)).trans (JK Q.out ab.out (KT ao (by rw[T.out,V.out];rfl))))
        clear Y T V;go_wp2_with (go_at_call 110;refine(Nr _ _ _ _ (by omega) (by omega) (by omega) (by omega) (by omega) (by omega) (by omega) (by omega) _).mono ?_;rintro e w' ⟨rfl,rfl⟩)
        go_ret;exact⟨Cm (AH (by rw[ad.out,Z.out,J.out]) (by decide)).symm,O.alloc O.size _⟩
       ·have J:Hid ((rs.take (j+1)).any (fun p=>Fw p ⟨H,I,F⟩)=false):=by show _=_;rw[T.out,V.out];rfl
        clear Y T V;go_wp2_with (go_at_call 110;refine(Nr _ _ _ _ (by omega) (by omega) (by omega) (by omega) (by omega) (by omega) (by omega) (by omega) _).mono ?_;rintro e w' ⟨rfl,rfl⟩)
        go_roundw
        case rel=>exact⟨j+1,by omega,by go_num,J.out,O.alloc O.size _,bn.alloc _⟩
        case measure=>simp[intOf];omega
      ·have cA:j=k:=by omega
       subst cA;have J:=hid (ak.out.trans (UY (RI Q.out ab.out bl.out)));have cB:Hid (∀i,i<j+1→Ep rs i=0):=by
        intro i ds;by_cases e:i=j
        ·subst e;exact RI Q.out ab.out bl.out
        ·exact bA.out i (by omega)
       clear Y;go_wp2;go_roundw
       case rel=>exact⟨j+1,by omega,by go_num,Z.out.trans J.out,cB.out,O⟩
       case measure=>simp[intOf];omega
  ·have c3:rs.length-k=0:=by omega
   go_wp2;go_ret;exact⟨Cm (Cr (by rw[ad.out,Z.out,c3];rfl)).symm,G⟩
theorem ae(r:Rg)(w:World):Calls prog 112 #[.agg #[iN r.i,iN r.o,iN r.n]] w fun e w'=>e=.returned (.tuple #[iN r.i,iN r.o])∧Below w.heap.size w w':=by
 go_enter func112,ntmps112;go_wp2;go_quiet (fail)
 go_wp2;go_ret2;exact⟨rfl,rz bN _⟩
theorem Xb(r:Rg)(w:World):Calls prog 54 #[.agg #[iN r.i,iN r.o,iN r.n]] w fun e w'=>e=.returned (.tuple #[iN r.o,iN r.i])∧Below w.heap.size w w':=by
 go_enter func54,ntmps54;go_wp2;go_quiet (fail)
 go_wp2;go_ret2;exact⟨rfl,rz bN _⟩
def CK(fr tg:Rg→Int):List Rg→Int→Option Int
 |[],_=>none
 |r::l,x=>if fr r≤x∧x-fr r<r.n then some (tg r+x-fr r)else CK fr tg l x
theorem KP{fr tg:Rg→Int}{r:Rg}{l:List Rg}{x:Int}(F:fr r≤x)(G:x-fr r<r.n):CK fr tg (r::l) x=some (tg r+x-fr r):=by
 unfold CK;rw[nC ⟨F,G⟩]
theorem I7{fr tg:Rg→Int}{r:Rg}{l:List Rg}{x:Int}(h:¬(fr r≤x∧x-fr r<r.n)):CK fr tg (r::l) x=CK fr tg l x:=by
 rw[CK,nB h]
def Fp(rs:List Rg)(x:Int):Option Int:=if CY rs=0 then CK (·.i) (·.o) rs x else none
def Ff(rs:List Rg)(x:Int):Option Int:=if CY rs=0 then CK (·.o) (·.i) rs x else none
def Gm(o:Option Int):Value:=.tuple #[.int .i64 (o.getD 0),.bool o.isSome]
theorem RM{o:Option Int}{v:Int}(h:o=some v):Ending.returned (.tuple #[.int .i64 v,.bool true])=.returned (Gm o):=by subst h;rfl
theorem Ld{o:Option Int}(h:o=none):Ending.returned (.tuple #[.int .i64 0,.bool false])=.returned (Gm o):=by subst h;rfl
theorem Ty{o F:Option Int}(h:o=F):Ending.returned (.tuple #[.int .i64 (o.getD 0),.bool o.isSome])=.returned (Gm F):=by subst h;rfl
theorem Ul{rs:List Rg}:∀n k,mF rs k n=0→∀j,k≤j→j<k+n→Ep rs j=0
 |0,k,_,j,h1,h2=>by omega
 |n+1,k,h,j,h1,h2=>by
  by_cases e:Ep rs k=0
  ·rw[UY e]at h
   by_cases F:j=k
   ·subst F;exact e
   ·exact Ul n (k+1) h j (by omega) (by omega)
  ·rw[Kd e]at h;exact absurd h e
theorem Qs{rs:List Rg}(h:CY rs=0):rs.length≤4∧∀j,j<rs.length→Ep rs j=0:=by
 unfold CY at h;by_cases F:4<rs.length
 ·rw[nC F]at h;omega
 ·rw[nB F]at h
  exact⟨by omega,fun j G=>Ul _ _ h j (nM _) (by omega)⟩
theorem J6{rs:List Rg}(h:CY rs=0):∀r∈rs,r.bd:=by
 intro r G;obtain⟨k,F⟩:=n5 G;have H:=(nw.1 F).1;exact OH (MB F ((Qs h).2 k H))
theorem ZV(a:Option Addr)(cap:Nat)(rs:List Rg)(x:Int)(w:World)(a1:rs.length≤100)(a6:rs.length≤cap)(a7:∀r∈rs,r.ok)(hx:AZ x)(h:Rgs w a rs)(o:Option Int)(O:Hid ((if CY rs=0 then CK (·.i) (·.o) rs x else none)=o)):
 Calls prog 53 #[.slice a rs.length cap,iN x,.func (.func 112) #[] #[]] w fun e w'=>e=.returned (Gm o)∧Below w.heap.size w w':=by
 obtain⟨bs,bu⟩:=hx;by_cases I:CY rs=0
 ·have Q:Hid (o=CK (·.i) (·.o) rs x):=O.out.symm.trans (nC I)
  have a8:=hid I;clear I O;go_enter func53,ntmps53;go_wp2_with fail
  refine(Ja a cap rs _ a1 a6 a7 h).mono ?_;rintro e bf ⟨rfl,R⟩;rw[Cr a8.out];go_wp2_with fail
  go_loopw [17] (fun i wr=>∃k:Nat,k≤rs.length∧i=iN k∧Hid (CK (·.i) (·.o) rs x=CK (·.i) (·.o) (rs.drop k) x)∧Below w.heap.size w wr) (fun i _=>rs.length-(intOf i).toNat)
  case atStart=>exact⟨0,nM _,rfl,rfl,R⟩
  case round=>
   obtain⟨k,bv,rfl,T,G⟩:=hrel;clear R;by_cases ba:k<rs.length
   ·rcases h with rfl|⟨b,aa,rfl,bb⟩
    ·simp at ba
    ·obtain⟨r,V⟩:∃r,rs[k]? =some r:=⟨rs[k],by simp[ba]⟩
     obtain⟨ab,bd,be⟩:=bb k r V;have Y:b<w.heap.size:=bL ab;have bx:=nG Y G.size;obtain⟨bA,bB,t3,t4,t5,bC,bF,bG⟩:=J6 a8.out r (nD V);have ad:Hid (rs.drop k=r::rs.drop (k+1)):=by
      obtain⟨bg,rfl⟩:=nw.1 V;exact nN bg
     have bH:(k:Int)<(rs.length:Int):=by omega
     obtain⟨H,Z,J⟩:=r;dsimp only at*;have bi:=(G.cell (p:=(aD b (aa+k*3))) Y).trans ab;have q1:=(G.cell (p:=(aD b (aa+k*3+1))) Y).trans bd;have q2:=(G.cell (p:=(aD b (aa+k*3+2))) Y).trans be;clear ab bd be V bb;go_wp2_with fail
     refine(ae ⟨H,Z,J⟩ _).mono ?_;rintro e bY ⟨rfl,ak⟩;have bk:=(Fi.new wr H Z J).below ak;have ao:=(G.alloc G.size (.cells #[iN H,iN Z,iN J] 62)).trans (ak.mono (by have:=G.size;simp;omega));clear bi q1 q2 ak;obtain⟨bl,bn,bo,b0⟩:=id bk;dsimp only at bl bn bo;by_cases g1:H≤x
     ·by_cases ap:x-H<J
      ·have F:Hid (CK (·.i) (·.o) rs x=some (Z+x-H)):=T.out.trans (by rw[ad.out];exact KP g1 ap)
       go_wp2;go_ret2;exact⟨RM (Q.out.trans F.out),ao⟩
      ·have F:Hid (CK (·.i) (·.o) rs x=CK (·.i) (·.o) (rs.drop (k+1)) x):=T.out.trans (by rw[ad.out];exact I7 (fun e=>ap e.2))
       have b1:decide (x-H<J)=false:=by simpa using ap
       go_wp2;go_roundw
       case rel=>exact⟨k+1,by omega,by go_num,F.out,ao⟩
       case measure=>simp[intOf];omega
     ·have F:Hid (CK (·.i) (·.o) rs x=CK (·.i) (·.o) (rs.drop (k+1)) x):=T.out.trans (by rw[ad.out];exact I7 (fun e=>g1 e.1))
      have b2:decide (H≤x)=false:=by simpa using g1
      go_wp2;go_roundw
      case rel=>exact⟨k+1,by omega,by go_num,F.out,ao⟩
      case measure=>simp[intOf];omega
   ·have F:Hid (CK (·.i) (·.o) rs x=none):=T.out.trans (by rw[n7 (by omega)];rfl)
    go_wp2;go_ret2;exact⟨Ld (Q.out.trans F.out),G⟩
 ·have Q:Hid (o=none):=O.out.symm.trans (nB I)
  obtain⟨n,az⟩:∃n,CY rs=n:=⟨_,rfl⟩;have F:=hid az;have bp:n≠0:=az▸I;clear az I O;go_enter func53,ntmps53;go_wp2_with fail
  refine(Ja a cap rs _ a1 a6 a7 h).mono ?_;rintro e bf ⟨rfl,R⟩;rw[AH F.out bp];go_wp2;go_ret2;exact⟨Ld Q.out,R⟩
theorem MD(a:Option Addr)(cap:Nat)(rs:List Rg)(x:Int)(w:World)(G:rs.length≤100)(H:rs.length≤cap)(I:∀r∈rs,r.ok)(hx:AZ x)(h:Rgs w a rs):
 Calls prog 63 #[.slice a rs.length cap,iN x] w fun e w'=>e=.returned (Gm (Fp rs x))∧Below w.heap.size w w':=by
 obtain⟨o,F⟩:=A3 (Fp rs x);go_enter func63,ntmps63;go_wp2_with fail
 refine(ZV a cap rs x _ G H I hx h o F).mono ?_;rintro e O ⟨rfl,J⟩;unfold Gm;go_wp2;go_ret2;exact⟨Ty F.out.symm,J⟩
theorem WC(a:Option Addr)(cap:Nat)(rs:List Rg)(x:Int)(w:World)(a1:rs.length≤100)(a6:rs.length≤cap)(a7:∀r∈rs,r.ok)(hx:AZ x)(h:Rgs w a rs)(o:Option Int)(O:Hid ((if CY rs=0 then CK (·.o) (·.i) rs x else none)=o)):
 Calls prog 53 #[.slice a rs.length cap,iN x,.func (.func 54) #[] #[]] w fun e w'=>e=.returned (Gm o)∧Below w.heap.size w w':=by
 obtain⟨bs,bu⟩:=hx;by_cases I:CY rs=0
 ·have Q:Hid (o=CK (·.o) (·.i) rs x):=O.out.symm.trans (nC I)
  have a8:=hid I;clear I O;go_enter func53,ntmps53;go_wp2_with fail
  refine(Ja a cap rs _ a1 a6 a7 h).mono ?_;rintro e bf ⟨rfl,R⟩;rw[Cr a8.out];go_wp2_with fail
  go_loopw [17] (fun i wr=>∃k:Nat,k≤rs.length∧i=iN k∧Hid (CK (·.o) (·.i) rs x=CK (·.o) (·.i) (rs.drop k) x)∧Below w.heap.size w wr) (fun i _=>rs.length-(intOf i).toNat)
  case atStart=>exact⟨0,nM _,rfl,rfl,R⟩
  case round=>
   obtain⟨k,bv,rfl,T,G⟩:=hrel;clear R;by_cases ba:k<rs.length
   ·rcases h with rfl|⟨b,aa,rfl,bb⟩
    ·simp at ba
    ·obtain⟨r,V⟩:∃r,rs[k]? =some r:=⟨rs[k],by simp[ba]⟩
     obtain⟨ab,bd,be⟩:=bb k r V;have Y:b<w.heap.size:=bL ab;have bx:=nG Y G.size;obtain⟨bA,bB,t3,t4,t5,bC,bF,bG⟩:=J6 a8.out r (nD V);have ad:Hid (rs.drop k=r::rs.drop (k+1)):=by
      obtain⟨bg,rfl⟩:=nw.1 V;exact nN bg
     have bH:(k:Int)<(rs.length:Int):=by omega
     obtain⟨Z,H,J⟩:=r;dsimp only at*;have bi:=(G.cell (p:=(aD b (aa+k*3))) Y).trans ab;have q1:=(G.cell (p:=(aD b (aa+k*3+1))) Y).trans bd;have q2:=(G.cell (p:=(aD b (aa+k*3+2))) Y).trans be;clear ab bd be V bb;go_wp2_with fail
     refine(Xb ⟨Z,H,J⟩ _).mono ?_;rintro e bY ⟨rfl,ak⟩;have bk:=(Fi.new wr Z H J).below ak;have ao:=(G.alloc G.size (.cells #[iN Z,iN H,iN J] 62)).trans (ak.mono (by have:=G.size;simp;omega));clear bi q1 q2 ak;obtain⟨bl,bn,bo,b0⟩:=id bk;dsimp only at bl bn bo;by_cases g1:H≤x
     ·by_cases ap:x-H<J
      ·have F:Hid (CK (·.o) (·.i) rs x=some (Z+x-H)):=T.out.trans (by rw[ad.out];exact KP g1 ap)
       go_wp2;go_ret2;exact⟨RM (Q.out.trans F.out),ao⟩
      ·have F:Hid (CK (·.o) (·.i) rs x=CK (·.o) (·.i) (rs.drop (k+1)) x):=T.out.trans (by rw[ad.out];exact I7 (fun e=>ap e.2))
       have b1:decide (x-H<J)=false:=by simpa using ap
       go_wp2;go_roundw
       case rel=>exact⟨k+1,by omega,by go_num,F.out,ao⟩
       case measure=>simp[intOf];omega
     ·have F:Hid (CK (·.o) (·.i) rs x=CK (·.o) (·.i) (rs.drop (k+1)) x):=T.out.trans (by rw[ad.out];exact I7 (fun e=>g1 e.1))
      have b2:decide (H≤x)=false:=by simpa using g1
      go_wp2;go_roundw
      case rel=>exact⟨k+1,by omega,by go_num,F.out,ao⟩
      case measure=>simp[intOf];omega
   ·have F:Hid (CK (·.o) (·.i) rs x=none):=T.out.trans (by rw[n7 (by omega)];rfl)
    go_wp2;go_ret2;exact⟨Ld (Q.out.trans F.out),G⟩
 ·have Q:Hid (o=none):=O.out.symm.trans (nB I)
  obtain⟨n,az⟩:∃n,CY rs=n:=⟨_,rfl⟩;have F:=hid az;have bp:n≠0:=az▸I;clear az I O;go_enter func53,ntmps53;go_wp2_with fail
  refine(Ja a cap rs _ a1 a6 a7 h).mono ?_;rintro e bf ⟨rfl,R⟩;rw[AH F.out bp];go_wp2;go_ret2;exact⟨Ld Q.out,R⟩
theorem Mr(a:Option Addr)(cap:Nat)(rs:List Rg)(x:Int)(w:World)(G:rs.length≤100)(H:rs.length≤cap)(I:∀r∈rs,r.ok)(hx:AZ x)(h:Rgs w a rs):
 Calls prog 25 #[.slice a rs.length cap,iN x] w fun e w'=>e=.returned (Gm (Ff rs x))∧Below w.heap.size w w':=by
 obtain⟨o,F⟩:=A3 (Ff rs x);go_enter func25,ntmps25;go_wp2_with fail
 refine(WC a cap rs x _ G H I hx h o F).mono ?_;rintro e O ⟨rfl,J⟩;unfold Gm;go_wp2;go_ret2;exact⟨Ty F.out.symm,J⟩
theorem M6(m:BA)(x y:Nd):∀ks:At,BQ m y (BQ m x ks)=BQ m y ks
 |[]=>rfl
 |(n,z)::l=>by
  by_cases h:n=m
  ·simp[BQ,h]
  ·simp[BQ,h,M6 m x y l]
theorem QT{m:BA}{x y:Nd}:∀{ks:At},fk m ks=none→BQ m y (Cy m x ks)=Cy m y ks
 |[],_=>by simp[Cy,BQ]
 |(n,z)::l,h=>by
  rw[fk]at h;split at h
  ·cases h
  ·rename_i hn
   by_cases F:AX m n=true
   ·simp[Cy,F,BQ]
   ·simp[Cy,F,BQ,hn,QT h]
theorem MR(x:Nd)(a b:At):(x.with a).with b=x.with b:=by obtain⟨k,m,u,g,o,nh,d,ks⟩:=x;rfl
theorem KZ(c:Option Nd)(m:BA){l:List BA}(F:l≠[])(x:Nd):AG c (m::l) x=if x.kind≠2 then .error 7 else match fk m x.kids with
 |none=>.error 5
 |some y=>(AG c l y).map fun z=>x.with (BQ m z x.kids):=by
 cases l with
 |nil=>exact absurd rfl F
 |cons G l=>exact Gg c m G l x
theorem Qn{x:Nd}{c:Option Nd}{G:List BA}(J:G≠[]):∀{l:List BA} {n r:Nd},AG (some x) l n=.ok r→AG c (l++G) r=(match AG c G x with|.error f=>.error f|.ok y=>AG (some y) l n)
 |[],n,r,h=>by rw[AG]at h;cases h
 |[m],n,r,h=>by
  rw[Gf]at h;by_cases F:n.kind≠2
  ·rw[nC F]at h;cases h
  rw[nB F]at h;simp only[Dy]at h;by_cases H:AQ m=false
  ·rw[nC H]at h;cases h
  rw[nB H]at h;have e:r=n.with (if fk m n.kids=none then Cy m x n.kids else BQ m x n.kids):=by cases h;rfl
  have O:fk m (if fk m n.kids=none then Cy m x n.kids else BQ m x n.kids)=some x:=by
   split
   ·exact Ol ‹_›
   ·exact Js ‹_›
  rw[List.singleton_append,KZ c m J,e,FZ,nB F,FH,O];dsimp only;cases AG c G x with
  |error f=>rfl
  |ok y=>
   dsimp only;rw[Gf,nB F];simp only[Dy];rw[nB H];show Except.ok _=Except.ok _;dsimp only;rw[MR];congr 2;split
   ·exact QT ‹_›
   ·exact M6 _ _ _ _
 |m::I::l,n,r,h=>by
  rw[Gg]at h;by_cases F:n.kind≠2
  ·rw[nC F]at h;cases h
  rw[nB F]at h;cases hf:fk m n.kids with
  |none=>rw[hf]at h;cases h
  |some y=>
   rw[hf]at h;dsimp only at h;cases hc:AG (some x) (I::l) y with
   |error f=>rw[hc]at h;cases h
   |ok z=>
    rw[hc]at h;have e:r=n.with (BQ m z n.kids):=by cases h;rfl
    have Q:=Qn (c:=c) J hc;show AG c (m::((I::l)++G)) r=_;rw[KZ c m (by simp),e,FZ,nB F,FH,Js (by rw[hf];simp)];dsimp only;rw[Q];cases AG c G x with
    |error f=>rfl
    |ok v=>
     dsimp only;rw[Gg,nB F,hf];dsimp only;cases AG (some v) (I::l) y with
     |error f=>rfl
     |ok v=>show Except.ok _=Except.ok _;dsimp only;rw[MR,M6]
theorem QN(m:BA):∀(l:List BA) (x:Nd),AV (l++[m]) x=(AV l x).bind fun y=>if y.kind≠2 then none else fk m y.kids
 |[],x=>by
  rw[ru,CJ,AV];simp only[Option.bind_some];split
  ·rfl
  ·cases fk m x.kids<;>simp[AV]
 |n::l,x=>by
  rw[n9,CJ,CJ];split
  ·rfl
  ·cases fk n x.kids with
   |none=>rfl
   |some y=>exact QN m l y
theorem K9{x:Nd}{m:BA}:∀{l:List BA} {n d:Nd},AV l n=some d→d.kind=2→(AQ m=false→AG (some x) (l++[m]) n=.error 4)∧(¬AQ m=false→∃r,AG (some x) (l++[m]) n=.ok r)
 |[],n,d,h,hd=>by
  rw[AV]at h;cases h;rw[ru,Gf,nB (by simp[hd])];simp only[Dy];exact⟨fun e=>by rw[nC e];rfl,fun e=>by rw[nB e];exact⟨_,rfl⟩⟩
 |a::l,n,d,h,hd=>by
  rw[CJ]at h;by_cases F:n.kind≠2
  ·rw[nC F]at h;cases h
  rw[nB F]at h;cases hf:fk a n.kids with
  |none=>rw[hf]at h;cases h
  |some y=>
   rw[hf]at h;obtain⟨G,H⟩:=K9 (x:=x) (m:=m) (l:=l) h hd;rw[n9,KZ _ a (by simp),nB F,hf];dsimp only;refine⟨fun e=>by rw[G e];rfl,fun e=>?_⟩;obtain⟨r,I⟩:=H e;rw[I];exact⟨_,rfl⟩
def BN:List (Nd×BA)→Nd
 |[]=>zN
 |[p]=>p.1
 |p::q::r=>p.1.with [(q.2,BN (q::r))]
theorem QH{z:Nd}{m:BA}:∀{L:List (Nd×BA)},L≠[]→(∀p∈L,p.1.kind=2∧p.1.kids=[])→AG (some z) (L.tail.map Prod.snd++[m]) (BN L)=if AQ m=false then .error 4 else .ok (BN (L++[(z,m)]))
 |[],h,_=>absurd rfl h
 |[p],_,h=>by
  obtain⟨F,G⟩:=h p (nJ ..);rw[List.tail_cons,List.map_nil,ru,BN,Gf,nB (by simp[F]),G];simp only[Dy];split
  ·rfl
  ·simp[fk,Cy,BN];rfl
 |p::q::r,_,h=>by
  obtain⟨F,G⟩:=h p (nJ ..);have H:=QH (z:=z) (m:=m) (L:=q::r) (by simp) (fun p I=>h p (n2 _ I));rw[List.tail_cons]at H;show AG (some z) (q.2::(r.map Prod.snd++[m])) (p.1.with [(q.2,BN (q::r))])=_;rw[KZ _ _ (by simp),FZ,nB (by simp[F]),FH];simp only[fk,if_true,H];split
  ·rfl
  ·show Except.ok _=Except.ok _
   simp only[BQ,if_true,MR];rfl
def Bh(F:Bool)(us gs:List Rg):Nd→Option Nd
 |.mk k m u g o nh d ks=>match(if F=true then Fp us u else Ff us u),(if F=true then Fp gs g else Ff gs g)with
  |some G,some g'=>some (.mk k m G g' o nh d ks)
  |_,_=>none
def CF:Nd→Nd
 |.mk k m u g _ nh d _=>.mk k m u g false nh d []
theorem Gz{F:Bool}{us gs:List Rg}{x y:Nd}(h:Bh F us gs x=some y):y.kind=x.kind∧y.kids=x.kids:=by
 obtain⟨k,m,u,g,o,nh,d,ks⟩:=x;rw[Bh]at h;split at h
 ·cases h;exact⟨rfl,rfl⟩
 ·cases h
theorem JN(x:Nd):(CF x).kind=x.kind:=by obtain⟨k,m,u,g,o,nh,d,ks⟩:=x;rfl
theorem JO(x:Nd):(CF x).kids=[]:=by obtain⟨k,m,u,g,o,nh,d,ks⟩:=x;rfl
def BW(us gs:List Rg):List (Nd×BA)→Except Int (List (Nd×BA))
 |[]=>.ok []
 |(x,m)::r=>match Bh true us gs x with
  |none=>.error 11
  |some y=>if AQ m=false then .error 4 else match BW us gs r with
   |.error f=>.error f
   |.ok L=>.ok ((y,m)::L)
theorem JX{us gs:List Rg}{x:Nd}{m:BA}:∀A:List (Nd×BA),BW us gs (A++[(x,m)])=(match BW us gs A with|.error f=>.error f|.ok L=>(match Bh true us gs x with|none=>.error 11|some y=>if AQ m=false then .error 4 else .ok (L++[(y,m)])))
 |[]=>by simp[BW]
 |(a,n)::r=>by
  rw[n9,BW,BW,JX r];cases Bh true us gs a with
  |none=>rfl
  |some y=>
   dsimp only;split
   ·rfl
   ·cases BW us gs r with
    |error f=>rfl
    |ok L=>
     dsimp only;cases Bh true us gs x with
     |none=>rfl
     |some z=>
      dsimp only;by_cases F:AQ m=false
      ·rw[nC F,nC F]
      ·rw[nB F,nB F];rfl
theorem Om{us gs:List Rg}:∀{A L:List (Nd×BA)},BW us gs A=.ok L→L.map Prod.snd=A.map Prod.snd∧(∀p∈A,AQ p.2=true)∧((∀p∈A,p.1.kind=2∧p.1.kids=[])→∀p∈L,p.1.kind=2∧p.1.kids=[])
 |[],L,h=>by cases h;exact⟨rfl,fun p F=>(by cases F),fun _ p F=>by cases F⟩
 |(x,m)::r,L,h=>by
  rw[BW]at h;cases hm:Bh true us gs x with
  |none=>rw[hm]at h;cases h
  |some y=>
   rw[hm]at h;dsimp only at h;by_cases G:AQ m=false
   ·rw[nC G]at h;cases h
   rw[nB G]at h;cases hb:BW us gs r with
   |error f=>rw[hb]at h;cases h
   |ok K=>
    rw[hb]at h;cases h;obtain⟨J,O,Q⟩:=Om hb;refine⟨by simp[J],fun p F=>?_,fun H p F=>?_⟩
    ·rcases nX.1 F with rfl|F
     ·simpa using G
     ·exact O p F
    ·rcases nX.1 F with rfl|F
     ·have e:=Gz hm
      have I:=H (x,m) (nJ ..);exact⟨e.1.trans I.1,e.2.trans I.2⟩
     ·exact Q (fun p F=>H p (n2 _ F)) p F
structure Pn where
 a:Option Addr
 c:Nat
 ks:At
def pv(P:List Pn):List Value:=P.map fun e=>.slice e.a e.ks.length e.c
theorem Yh(P:List Pn):(pv P).length=P.length*1:=by simp[pv]
def ms:List At→Nat
 |[]=>0
 |k::l=>(1+2*cntL k)+ms l
theorem Iu:∀a b:List At,ms (a++b)=ms a+ms b
 |[],b=>by simp[ms]
 |k::a,b=>by simp[ms,Iu a b];omega
theorem Ow:∀l:List At,l.length≤ms l
 |[]=>nl _
 |k::l=>by have:=Ow l;simp[ms];omega
theorem St(x:Nd):cnt x=cntL x.kids+1:=by obtain⟨k,m,u,g,o,nh,d,ks⟩:=x;rw[cnt];rfl
theorem Lm:∀ks:At,ms (ks.map fun p=>p.2.kids)+ks.length=2*cntL ks
 |[]=>rfl
 |(n,x)::l=>by
  have:=Lm l;have:=St x;simp[ms,cntL];omega
theorem aj(ks:At)(j:Nat):ms ((ks.take j).map fun p=>p.2.kids)≤ms (ks.map fun p=>p.2.kids):=by
 have h:ks.map (fun p=>p.2.kids)=(ks.take j).map (fun p=>p.2.kids)++(ks.drop j).map (fun p=>p.2.kids):=by rw[←rA,ry]
 rw[h,Iu];omega
def DB(F:Nat)(v:Value)(S:Nat→Bool):Nat→Bool:=fun k=>(k==F+1||some k==v.ownBlock)||S k
theorem IG{F k:Nat}{v:Value}{S:Nat→Bool}:DB F v S k=false↔k≠F+1∧some k≠v.ownBlock∧S k=false:=by simp[DB,and_assoc]
theorem ZL{c F:AJ}{b p:Nat}{y:Nd}{G H:Hd}(I:Bj c b p y G)(J:Ah c y G)(O:Ah c y H)(Q:Bj F b p y H)
 (R:∀q,q≠(aD b (p+5))→q≠(aD b (p+7))→F q=c q) {a:Option Addr} {ks:At} (T:ks.length≤1000) (h:DP c a ks):DP F a ks:=
 have hx:Ah c (.mk 0 0 0 0 false [] ⟨#[]⟩ ks) ⟨none,0,a,ks.length⟩:=Cj.2 ⟨.inl rfl,⟨nl _,by simp⟩,⟨nl _,by show ks.length≤_;omega⟩,h⟩
 (Cj.1 (RC I J O Q R hx)).2.2.2
def Kl(base:Nat)(w:World)(S:Nat→Bool)(e:Pn):Prop:=DP (Ag w.cell? S) e.a e.ks∧GC base w e.a e.ks∧Dl e.ks∧e.ks.length≤1000
structure Dk (W wr:World) (S:Nat→Bool) (nb:Nat) (x:Nd) (h0:Hd) (v:Value) (P Q:List Pn):Prop where
 row:wr.ownsRow (nb+2) 48 1 v P.length (pv P)
 box:Cc wr nb x h0
 res:As wr (nb+1) zN zH
 tree:Ah (Ag wr.cell? (DB nb v S)) x h0
 pend:∀e∈Q,Kl (nb+2) wr (DB nb v S) e
 low:Below W.heap.size W wr
 sz:W.heap.size=nb
theorem As.but{w w':World}{b G:Nat}{x:Nd}{h:Hd}(F:As w b x h)(hb:Au G w w')(H:b≠G):As w' b x h:=
 ⟨F.1.but hb H,fun j=>(hb.frozen (p:=(aD b j)) F.1.lt H).trans (F.2 j)⟩
theorem Dk.below{W wr w':World}{S:Nat→Bool}{G:Nat}{x:Nd}{H:Hd}{v:Value}{P I:List Pn}(h:Dk W wr S G x H v P I)(hb:Below wr.heap.size wr w'):Dk W w' S G x H v P I:=
 ⟨Qd h.row hb,h.box.below hb,h.res.below hb,h.tree.on (CQ hb),fun e F=>⟨(h.pend e F).1.on (CQ hb),(h.pend e F).2.1.below hb,(h.pend e F).2.2⟩,h.low.trans (hb.mono h.low.size),h.sz⟩
theorem Dk.sub{W wr:World}{S:Nat→Bool}{F:Nat}{x:Nd}{G:Hd}{v:Value}{P H Q':List Pn}(h:Dk W wr S F x G v P H)(I:∀e∈Q',e∈H):Dk W wr S F x G v P Q':=
 ⟨h.row,h.box,h.res,h.tree,fun e J=>h.pend e (I e J),h.low,h.sz⟩
theorem Dk.pop{W wr:World}{S:Nat→Bool}{F G n cap:Nat}{x:Nd}{H:Hd}{P:List Pn}{e:Pn}{I:List Pn}(J:P.length=n)(h:Dk W wr S F x H (sL G 0 (n+1) cap) (P++[e]) I):Dk W wr S F x H (sL G 0 n cap) P I:=by
 subst J;refine⟨?_,h.box,h.res,h.tree,h.pend,h.low,h.sz⟩;have:=h.row;rw[show(P++[e]).length=P.length+1 by simp,show pv (P++[e])=pv P++pv [e] by simp[pv]]at this;exact ownsRow_pop (Yh P) this
theorem Dk.store{W w:World}{S:Nat→Bool}{F g p:Nat}{x y:Nd}{T I h':Hd}{v:Value}{P V:List Pn}(h:Dk W w S F x T v P V)(be:F+2≤g)
 (H:Bj (Ag w.cell? (DB F v S)) g p y I) (Y:Ah (Ag w.cell? (DB F v S)) y I) (Z:Ah (Ag w.cell? (DB F v S)) y h'):Dk W (CZ w g p y h') S F x T v P V:=by
 have G:DB F v S g=false:=by
  obtain⟨k,m,u,J,o,nh,d,ks⟩:=y;exact JZ H.1
 have ap:=IG.1 G;have aa:Bj w.cell? g p y I:=H.on (Ci _ _);have hb:Au g w (CZ w g p y h'):=NT;have ab:Bj (Ag (CZ w g p y h').cell? (DB F v S)) g p y h':=by
  have:=LJ (x:=y) (h:=h') aa;obtain⟨k,m,u,J,o,nh,d,ks⟩:=y;obtain⟨az,O,Q,ad,R,a1,a6,a7⟩:=this;exact⟨(Co G).trans az,(Co G).trans O,(Co G).trans Q,(Co G).trans ad,(Co G).trans R,(Co G).trans a1,(Co G).trans a6,(Co G).trans a7⟩
 have ak:∀q,q≠(aD g (p+5))→q≠(aD g (p+7))→Ag (CZ w g p y h').cell? (DB F v S) q=Ag w.cell? (DB F v S) q:=by
  intro q a8 ba;cases hq:DB F v S q.block with
  |true=>simp[Ag,hq]
  |false=>rw[Co hq,Co hq];exact YX aa q a8 ba
 refine⟨Hr h.row fun k ao=>hb.block k (h.row.lt k ao).2 (fun e=>ap.2.1 (by rw[←e];exact ao.symm)),h.box.but hb (by omega),h.res.but hb (by omega),RC H Y Z ab ak h.tree,?_,?_,h.sz⟩
 ·intro e bb
  obtain⟨q1,q2,bd,q4⟩:=h.pend e bb;refine⟨ZL H Y Z ab ak q4 q1,?_,bd,q4⟩;rcases q2 with q2|⟨J,O,Q,ad,R⟩
  ·exact .inl q2
  ·exact .inr ⟨J,O,Q,by have:=hb.size;omega,fun j=>(MQ _).trans (R j)⟩
 ·exact h.low.trans (hb.below (B:=W.heap.size) (by have:=h.sz;omega) h.low.size)
theorem Dk.push{W w w':World}{S:Nat→Bool}{G:Nat}{x:Nd}{Q:Hd}{v J:Value}{P ao:List Pn}{e:Pn}(h:Dk W w S G x Q v P ao)(a7:w'.ownsRow (G+2) 48 1 J (P.length+1) (pv P++pv [e]))(I:w.grownBy w' v.ownBlock)(R:J.ownBlock=v.ownBlock∨∃s,J.ownBlock=some s∧w.heap.size≤s)
 (a8:Kl (G+2) w (DB G v S) e):Dk W w' S G x Q J (P++[e]) (e::ao):=by
 have step:AR (Ag w.cell? (DB G v S)) (Ag w'.cell? (DB G J S)):=by
  refine Cb fun k ap ba=>?_;obtain⟨bb,az,bd⟩:=IG.1 ba
  refine⟨IG.2 ⟨bb,?_,bd⟩,I.block k ap az⟩;rcases R with R|⟨s,R,bs⟩
  ·rw[R];exact az
  ·rw[R];intro e;simp at e;omega
 have be:∀k,k<G+2→w'.heap[k]? =w.heap[k]?:=by
  intro k ap;have bu:=h.res.1.lt;refine I.block k (by omega) (fun e=>?_);have:=(h.row.lt k e.symm).1;omega
 have Y:Below (G+2) w w':=⟨I.os,I.tape,I.output,I.size,be⟩;have F:∀q:Addr,q.block<G+2→w'.cell? q=w.cell? q:=fun q bf=>Y.cell bf;refine⟨by rw[show(P++[e]).length=P.length+1 by simp,show pv (P++[e])=pv P++pv [e] by simp[pv]];exact a7,?_,?_,h.tree.on step,?_,?_,h.sz⟩
 ·have:=h.box
  obtain⟨k,m,u,g,o,nh,d,ks⟩:=x;obtain⟨Z,H,T,O,V,aa,ab,ad⟩:=this;exact⟨(F _ (by simp)).trans Z,(F _ (by simp)).trans H,(F _ (by simp)).trans T,(F _ (by simp)).trans O,(F _ (by simp)).trans V,(F _ (by simp)).trans aa,(F _ (by simp)).trans ab,(F _ (by simp)).trans ad⟩
 ·obtain⟨⟨Z,H,T,O,V,aa,ab,ad⟩,bg⟩:=h.res
  exact⟨⟨(F _ (by simp)).trans Z,(F _ (by simp)).trans H,(F _ (by simp)).trans T,(F _ (by simp)).trans O,(F _ (by simp)).trans V,(F _ (by simp)).trans aa,(F _ (by simp)).trans ab,(F _ (by simp)).trans ad⟩,fun j=>(Y.frozen (by simp)).trans (bg j)⟩
 ·have a1:∀e,Kl (G+2) w (DB G v S) e→Kl (G+2) w' (DB G J S) e:=by
   rintro e ⟨q1,q2,bi,q4⟩;refine⟨q1.on step,?_,bi,q4⟩;rcases q2 with q2|⟨ak,H,T,O,V⟩
   ·exact .inl q2
   ·rcases q1 with q1|⟨b,bv,bk,f,bl⟩
    ·exact .inl q1
    ·by_cases Q:e.ks=[]
     ·exact .inl Q
     ·refine .inr ⟨ak,H,T,nG O I.size,fun j=>?_⟩
      have bn:some ak≠v.ownBlock:=by
       have bo:0<e.ks.length:=ri.2 Q;have hx:=(bl 0 e.ks[0].1 e.ks[0].2 (np bo)).1.1;have:=(IG.1 (JZ hx)).2.1;rw[bk]at H;simp at H;rw[←H.1];exact this
      exact(World.frozen?_of_block (w:=w) (I.block ak O bn)).trans (V j)
  intro a6 bp;rcases nX.1 bp with H|H
  ·rw[H];exact a1 e a8
  ·exact a1 a6 (h.pend a6 H)
 ·exact h.low.trans (Y.mono (by have:=h.sz;omega))
theorem Na{w w':World}{S:Nat→Bool}(hb:Below w.heap.size w w')(H:∀k,k<w.heap.size→S k=false):AR w.cell? (Ag w'.cell? S):=by
 intro q v F;have G:q.block<w.heap.size:=bL F;rw[Co (H _ G)];exact(hb.cell G).trans F
theorem Dk.more{W wr:World}{S:Nat→Bool}{F:Nat}{x:Nd}{H:Hd}{v:Value}{P I:List Pn}{e:Pn}(h:Dk W wr S F x H v P I)(J:Kl (F+2) wr (DB F v S) e):Dk W wr S F x H v P (e::I):=
 ⟨h.row,h.box,h.res,h.tree,fun q O=>by rcases nX.1 O with G|G;exact G▸J;exact h.pend q G,h.low,h.sz⟩
theorem Tryz.infoS:(prog.info? 48).map (fun i=>(i.zero,i.size,i.bytes))=some (some (.slice none 0 0),1,24):=by kernel_rfl
theorem Dk.start{W F:World}{S:Nat→Bool}{G:Nat}{x:Nd}{J:Hd}{H:Option Addr}{ck n:Nat}{ks:At}(R:W.heap.size=G)(T:ks.length=n)(V:Cc F G x J)(O:As F (G+1) zN zH)(Y:Ah (Ag F.cell? (fun k=>(k==G||k==G+1)||S k)) x J)(Q:Below W.heap.size W F)
 (Z:DP (Ag F.cell? (fun k=>(k==G||k==G+1)||S k)) H ks) (hF:GC (G+2) F H ks) (aa:Dl ks) (ab:ks.length≤1000):
 Dk W (F.alloc (.cells #[.slice H n ck] 48)) S G x J (sL F.heap.size 0 1 1) [⟨H,ck,ks⟩] [⟨H,ck,ks⟩]:=by
 have ao:=O.1.lt;have hb:Below F.heap.size F (F.alloc (.cells #[.slice H n ck] 48)):=bN;have step:AR (Ag F.cell? (fun k=>(k==G||k==G+1)||S k)) (Ag (F.alloc (.cells #[.slice H n ck] 48)).cell? (DB G (sL F.heap.size 0 1 1) S)):=by
  refine Cb fun k ad I=>⟨IG.2 ⟨by simp at I;exact I.1.2,?_,by simp at I;exact I.2⟩,hb.block k ad⟩;intro e;simp[Value.ownBlock]at e;omega
 refine⟨⟨by simp[pv],.inr ⟨F.heap.size,1,#[.slice H n ck],rfl,by omega,heap_alloc_new F _,by simp,by decide,rfl,by simp[pv,T]⟩⟩,V.below hb,O.below hb,Y.on step,?_,Q.trans (hb.mono Q.size),R⟩;intro e ak;have:e=⟨H,ck,ks⟩:=by simpa using ak
 subst this;exact⟨Z.on step,hF.below hb,aa,ab⟩
theorem Hv{W:World}{S:Nat→Bool}(b9:∀k,S k=true→k<W.heap.size){x:Nd}{h:Hd}(d1:Ah (Ag W.cell? S) x h)(cb:A7 x)(eJ:cnt x≤1000):
 Calls prog 15 #[Ao x h] W fun e aa=>(∃h',e=.returned (Ao x h')∧Ah (Ag aa.cell? S) x h')∧Below W.heap.size W aa:=by
 obtain⟨k,m,u,g,o,nh,d,ks⟩:=x;have cf:=cb;rw[A7]at cf;rw[cnt]at eJ;have d2:=As.new W k m u g o nh d ks h;have cg:Below W.heap.size W (W.alloc (Ap k m u g o nh d ks h)):=bN;have ch:=As.zero (W.alloc (Ap k m u g o nh d ks h));rw[nv]at ch;have cl:=d2.below ((nt _ _).alloc (nl _) AO);have bv:Below W.heap.size W ((W.alloc (Ap k m u g o nh d ks h)).alloc AO):=cg.alloc cg.size _;have bx:W.heap.size+2=((W.alloc (Ap k m u g o nh d ks h)).alloc AO).heap.size:=by simp
 have d3:Hid (∀Q,Below ((W.alloc (Ap k m u g o nh d ks h)).alloc AO).heap.size ((W.alloc (Ap k m u g o nh d ks h)).alloc AO) Q→cL 31 #[Ao (.mk k m u g o nh d ks) h] Q fun e aa=>(∃h',e=.returned (Ao (.mk k m u g o nh d ks) h')∧Ah (Ag aa.cell? (fun k=>(k==W.heap.size||k==W.heap.size+1)||S k)) (.mk k m u g o nh d ks) h'∧GC Q.heap.size aa h'.ak ks)∧Below Q.heap.size Q aa):=
  fun Q co=>QS (S:=fun k=>(k==W.heap.size||k==W.heap.size+1)||S k) (fun k R=>by
   rw[←bx];simp at R;rcases R with R|R
   ·omega
   ·have:=b9 k R;omega) (d1.on (Cb fun k R ad=>⟨by simp[ad];omega,bv.block k R⟩)) Q co cb
 have eK:=hid b9;clear b9;show cL 15 #[(AY k m u g o nh d ks h)] _ _;obtain⟨⟨bA,bB,bC,bF,bG,bH,bY,b0⟩,cp⟩:=id cl;clear d2 cg d1 cb;go_enter func15,ntmps15;go_wp2_with fail
 refine(d3.out _ (nt _ _)).mono ?_;rintro e H ⟨⟨F,rfl,cq,bd⟩,ab⟩;rw[←bx]at bd;have b1:=cl.below ab;have cr:=ch.below ab;have cu:=bv.trans (ab.mono bv.size);have eL:W.heap.size+2≤H.heap.size:=by rw[bx];exact ab.size
 clear bA bB bC bF bG bH bY b0 cp cl ch bv ab bx d3;generalize eM:W.heap.size=G at b1 cr cq bd eL⊢
 have cx:=b1.store (.mk k m u g o nh d ks) F;have be:Au G H (Ar H G (.mk k m u g o nh d ks) F):=Cf;have d4:=cr.but be (by omega);have d5:=cu.trans (be.below (B:=W.heap.size) (by omega) cu.size);have step:AR (Ag H.cell? (fun k=>(k==G||k==G+1)||S k)) (Ag (Ar H G (.mk k m u g o nh d ks) F).cell? (fun k=>(k==G||k==G+1)||S k)):=Cb fun q Y ad=>⟨ad,be.block q Y (by simp at ad;exact ad.1.1)⟩;have cA:=cq.on step
 have d6:GC (G+2) (Ar H G (.mk k m u g o nh d ks) F) F.ak ks:=by
  rcases bd with e|⟨bi,Z,cB,c3,c4⟩
  ·exact .inl e
  ·exact .inr ⟨bi,Z,cB,by have:=be.size;omega,fun j=>(be.frozen (p:=(aD bi j)) c3 (by show bi≠G;omega)).trans (c4 j)⟩
 have T:=Dk.start (ck:=F.ck) eM rfl cx.1 d4 cA d5 (Cj.1 cA).2.2.2 d6 cf.2.2 cf.2.1;obtain⟨⟨bA,bB,bC,bF,bG,bH,bY,b0⟩,cp⟩:=id b1;obtain⟨⟨z0,c5,c6,z3,z4,z5,c8,c9⟩,da⟩:=id cx;have bk:Ao (.mk k m u g o nh d ks) F=(AY k m u g o nh d ks F):=rfl;rw[bk];generalize d7:Ar H G (.mk k m u g o nh d ks) F=d8 at T z0 c5 c6 z3 z4 z5 c8 c9 da;clear cq bd cr cu b1 cx be d4 d5 step cA d6;simp only[Ar]at d7;go_wp2;clear d7 bA bB bC bF bG bH bY b0 cp z0 c5 c6 z3 z4 z5 c8 c9 da bk;generalize d8.alloc (.cells #[.slice F.ak ks.length F.ck] 48)=fs at T⊢;generalize d8.heap.size=bl at T⊢;go_loopg [3] (1+2*cntL ks) (fun gk v wr=>∃P:List Pn,Hid (ms (P.map (·.ks))≤gk)∧gk≤2001∧Dk W wr S G (.mk k m u g o nh d ks) F v P P)
 case atStart=>exact⟨[⟨F.ak,F.ck,ks⟩],by show _≤_;simp[ms],by omega,T⟩
 case round=>
  obtain⟨P,db,ft,T⟩:=hrel;rcases List.eq_nil_or_concat P with rfl|⟨I,e,d9⟩
  ·obtain⟨a,cap,bn,_,_,_⟩:=Ei T.row
   simp only[nQ]at bn;subst bn;have eN:=T.box;obtain⟨bA,bB,bC,bF,bG,bH,bY,b0⟩:=eN;have dd:=T.res;obtain⟨⟨z0,c5,c6,z3,z4,z5,c8,c9⟩,da⟩:=id dd;have ea:=dd.store (.mk k m u g o nh d ks) F;have de:Au (G+1) wr (Ar wr (G+1) (.mk k m u g o nh d ks) F):=Cf;have eb:=T.low.trans (de.below (B:=W.heap.size) (by omega) T.low.size);have step:AR (Ag wr.cell? (DB G (.slice a 0 cap) S)) (Ag (Ar wr (G+1) (.mk k m u g o nh d ks) F).cell? S):=Cb fun q Y ad=>⟨(IG.1 ad).2.2,de.block q Y (IG.1 ad).1⟩;have ec:=T.tree.on step
   generalize bo:Ar wr (G+1) (.mk k m u g o nh d ks) F=eO at ea eb ec;have eP:=hid bo;clear bo de step T dd;go_wp2;have bo:=eP.out;simp only[Ar]at bo;rw[bo];obtain⟨eQ,eR,eS,eT,eU,eV,eW,eX⟩:=ea.1;refine nF (v:=Ao (.mk k m u g o nh d ks) F) (by simp[results,results15,go_sem,Ao,eQ,eR,eS,eT,eU,eV,eW,eX]) rfl ⟨⟨F,rfl,ec⟩,eb⟩
  ·rw[List.concat_eq_append]at d9
   subst d9;obtain⟨a,cap,bn,ed,fu,eY⟩:=Ei T.row;have dg:(I++[e]).length=I.length+1:=by simp
   rw[dg]at bn ed;rcases eY with⟨_,eZ,_⟩|⟨bl,rfl,ee,b2,ef,_⟩
   ·rw[dg]at eZ;omega
   subst bn;have b3:Ce wr bl I.length (.slice e.a e.ks.length e.c):=ef _ _ (by simp[pv]);have e0:I.length≤2001:=by
    have ak:=db.out;rw[rA,Iu]at ak;have bf:=Ow (I.map (·.ks));simp at bf;omega
   have bg:Hid (ms (I.map (·.ks))+(1+2*cntL e.ks)≤gk):=by
    show _≤_;have ak:=db.out;rw[rA,Iu]at ak;simp[ms]at ak;omega
   have ao:Dk W wr S G (.mk k m u g o nh d ks) F (.slice (some ⟨bl,0,none⟩) I.length cap) I (e::I):=(T.pop rfl).sub (fun q Y=>by simp at Y⊢;rcases Y with h|h;exact .inr h;exact .inl h);obtain⟨_,bp,eg,e1⟩:=ao.pend e (by simp);clear T db ef dg;have dj:I.length≤cap:=by omega
   clear ed;generalize e2:I.length=n at b3 e0 ao dj⊢;clear e2;have ej:IntKind.i64.wrap ((n:Int)+1-1)=(n:Int):=(Ez (by omega) (by omega)).trans (by omega);obtain⟨fv,dk,J⟩:=e;dsimp only at b3 bg bp eg e1;rcases bp with rfl|⟨ge,rfl,e3,_,_⟩
   ·go_wp2
    clear b3 dj ej ee b2;generalize Value.slice (some (aD bl 0)) n cap=v0 at ao⊢;go_loopw [27,3] (fun i v w'=>i=iN 0∧v=v0∧wr=w') (fun _ _ _=>0)
    case atStart=>exact⟨rfl,rfl,rfl⟩
    case round=>
     obtain⟨rfl,rfl,rfl⟩:=hrel;go_wp2;go_roundg (ms (I.map (·.ks)))
     case measure=>have bf:=bg.out;omega
     case rel=>exact⟨I,nl _,by have bf:=bg.out;omega,ao.sub (fun q Y=>by simp[Y])⟩
   go_wp2;clear b3 dj ej ee b2;generalize Value.slice (some (aD bl 0)) n cap=v0 at ao⊢;go_loopw [27,3] (fun i v wr=>∃(j:Nat) (V:List Pn),j≤J.length∧i=iN j∧Hid (V.map (·.ks)=I.map (·.ks)++(J.take j).map (fun p=>p.2.kids))∧Dk W wr S G (.mk k m u g o nh d ks) F v V (⟨some (aD ge 0),dk,J⟩::V)) (fun i _ _=>J.length-(intOf i).toNat)
   case atStart=>exact⟨0,I,nM _,rfl,by show _=_;simp,ao⟩
   case round=>
    obtain⟨j,V,fw,rfl,dm,ap⟩:=hrel;clear ao;by_cases bs:j<J.length;rotate_left
    ·have e4:decide ((j:Int)<(J.length:Int))=false:=nA (by omega)
     have ek:Hid (V.map (·.ks)=I.map (·.ks)++J.map (fun p=>p.2.kids)):=by
      have:=dm.out;rw[n1 (by omega)]at this;exact this
     go_wp2;go_roundg (ms (V.map (·.ks)))
     case measure=>
      rw[ek.out,Iu];have ak:=Lm J;have bf:=bg.out;omega
     case rel=>
      refine⟨V,nl _,?_,ap.sub (fun q Y=>by simp[Y])⟩;rw[ek.out,Iu];have ak:=Lm J;have bf:=bg.out;omega
    have e4:(j:Int)<(J.length:Int):=by omega
    obtain⟨⟨nm,y⟩,hx⟩:∃p,J[j]? =some p:=⟨J[j],by simp[bs]⟩;obtain⟨el,bp,_,_⟩:=ap.pend ⟨some (aD ge 0),dk,J⟩ (by simp);dsimp only at el bp;have b4:=J2 eg hx;rcases bp with dn|⟨fx,em,_,b2,en⟩
    ·rw[dn]at bs;simp at bs
    simp only[nU,rc,and_true]at em;subst em;rcases el with dn|⟨fy,fA,eo,f,ep⟩
    ·rw[dn]at bs;simp at bs
    simp only[nU,rc]at eo;obtain⟨rfl,rfl,_⟩:=eo;obtain⟨b5,dp⟩:=ep j nm y hx;rw[nT]at b5;have eq:=hid b5;have dr:Dd wr.cell? ge (j*9) nm y (f j):=b5.on (Ci _ _)
    have ds:Hid (∀Q,Below wr.heap.size wr Q→cL 31 #[Ao y (f j)] Q fun e aa=>(∃h',e=.returned (Ao y h')∧Ah (Ag aa.cell? (DB G u3 S)) y h'∧GC Q.heap.size aa h'.ak y.kids)∧Below Q.heap.size Q aa):=
     fun Q co=>QS (fun k R=>by
      simp[DB]at R;rcases R with(R|R)|R
      ·have:=ap.res.1.lt;omega
      ·exact(ap.row.lt k R.symm).2
      ·have:=eK.out k R;have:=ap.res.1.lt;omega) dp Q co b4
    clear ep b5;generalize f j=fB at eq dr ds dp;have e5:=hid hx;clear hx;have er:Dl y.kids∧y.kids.length≤1000:=by
     obtain⟨az,a1,a6,a7,a8,ba,bb,O⟩:=y;rw[A7]at b4;exact⟨b4.2.2,b4.2.1⟩
    obtain⟨az,a1,a6,a7,a8,ba,bb,O⟩:=y;obtain⟨e6,e7,e8,e9,fa,fb,fc,fd,fe⟩:=dr.nine;go_wp2_with fail
    refine(ds.out _ (nt _ _)).mono ?_;rintro cB H ⟨⟨h',rfl,es,bd⟩,ab⟩
    have eu:=(ap.below ab).more (e:=⟨h'.ak,h'.ck,O⟩) ⟨(Cj.1 es).2.2.2,by
     rcases bd with q|⟨bi,Z,cB,c3,c4⟩
     ·exact .inl q
     ·exact .inr ⟨bi,Z,by have:=ap.res.1.lt;omega,c3,c4⟩,er.1,er.2⟩
    have ff:∀j,Fz H ge j:=fun j=>(ab.frozen (p:=(aD ge j)) b2).trans (en j);have du:=eq.out.on (CQ ab)
    have ev:=eu.store e3 du.2 (dp.on (CQ ab)) es;have dw:(CZ H ge (j*9+1) (.mk az a1 a6 a7 a8 ba bb O) h').heap.size=H.heap.size:=by simp[CZ]
    have bu:=ev.below ((nt _ _).alloc (nl _) (.cells #[.slice h'.ak O.length h'.ck] 48));have b6:=cell_one_new (CZ H ge (j*9+1) (.mk az a1 a6 a7 a8 ba bb O) h') (.slice h'.ak O.length h'.ck) 48;rw[dw]at b6;have eB:((CZ H ge (j*9+1) (.mk az a1 a6 a7 a8 ba bb O) h').alloc (.cells #[.slice h'.ak O.length h'.ck] 48)).heap.size=H.heap.size+1:=by rw[nv,dw]
    have b7:=hid eB;clear eB;have dx:=bu.row;have dy:G+2≤((CZ H ge (j*9+1) (.mk az a1 a6 a7 a8 ba bb O) h').alloc (.cells #[.slice h'.ak O.length h'.ck] 48)).heap.size:=by have:=bu.res.1.lt;omega
    have fC:V.length≤2001:=by
     have ak:V.length≤ms (V.map (·.ks)):=by have:=Ow (V.map (·.ks));rwa [rk]at this
     rw[dm.out,Iu]at ak;have bf:=aj J j;have fD:=Lm J;have fE:=bg.out;omega
    obtain⟨fg,q1,q2,fh,q4,q5,q6,q7,fi⟩:=(du.on (Ci _ _)).nine;have bk:Ao (.mk az a1 a6 a7 a8 ba bb O) h'=(AY az a1 a6 a7 a8 ba bb O h'):=rfl;rw[bk];obtain⟨fj,fl,fm,fo,fp⟩:=Eb Tryz.infoS;clear e6 e7 e8 e9 fa fb fc fd fe dr ds bk eu ev du dw;simp only[CZ]at bu b6 dx dy b7;have dz:Hid _:=bu;clear bu;go_wp2_with (at_builtin;refine Ea _ rfl (.tmp 40) (.tmp 47) 81 rfl (G+2) 48 fj nL 1 24 underlying81 fl fm fo fp rfl (by decide) _ V.length (pv V) rfl dx (some (aD H.heap.size 0)) 1 1 [.slice h'.ak O.length h'.ck] rfl rfl (.inr ⟨_,rfl,b6⟩) (fun u eE=>by simp at eE;subst eE;rfl) (by unfold maxLen;omega) (by omega) dy ?_)
    intro eF eO eG eH eI;have d0:eF.ownBlock=u3.ownBlock∨∃s,eF.ownBlock=some s∧H.heap.size+1≤s:=by
     rcases eI with q|q
     ·exact .inl q
     ·exact .inr ⟨_,q,by first|exact nl _|(rw[b7.out])⟩
    rw[←b7.out]at d0
    have fq:=(dz.out.push (e:=⟨h'.ak,h'.ck,O⟩) eG eH d0 (dz.out.pend _ nJ)).sub (Q':=⟨some (aD ge 0),dk,J⟩::(V++[⟨h'.ak,h'.ck,O⟩])) (fun q Y=>by
     rcases nX.1 Y with Z|Z
     ·rw[Z];simp
     ·rcases rd.1 Z with Z|Z
      ·simp[Z]
      ·simp at Z;rw[Z];simp)
    clear eG eH eI d0 b7 dz b6 dx dy fg q1 q2 fh q4 q5 q6 q7 fi ff en;go_wp2;go_roundw
    case rel=>
     refine⟨j+1,V++[⟨h'.ak,h'.ck,O⟩],by omega,by go_num,?_,fq⟩;show _=_;rw[rA,dm.out,rv,e5.out];simp[Nd.kids]
    case measure=>simp[intOf];omega
end Go.Proofs.YtgppjbhaimmlpaaGreatDoor
namespace Go.Proofs.YtgppjbhaimmlpaaGreatDoor
open Go.RowKit Go.Shelf Go.Proofs.Tryz
attribute [local go_sem] Oper.semAt_some
def EL(n₀:Nat)(S:Nat→Bool):Nat→Bool:=fun k=>(k==n₀||k==n₀+1+1+1+1)||S k
theorem Jk{A:World}{l:Nat}{o:Obj}{S:Nat→Bool}(G:A.heap[l]? =some o)(H:o.isCells=false)(F:Obj):AR (Ag A.cell? S) (Ag (A.putObj l F).cell? S):=fun q v h=>by
 have I:=JZ h;rw[Co I]at h⊢;exact Oh G H F _ _ h
theorem Su{c:AJ}{S S':Nat→Bool}(h:∀k,S k=false→S' k=false):AR (Ag c S) (Ag c S'):=fun q v F=>by
 have G:=JZ F;rw[Co G]at F;rw[Co (h _ G)];exact F
structure Kq (S:Nat→Bool) (w A:World) (xs:List Nd) (nf:List BA) (st:Loop) (i:Nat):Prop where
 low:Below w.heap.size w A
 eb:∃v,Boxed A w.heap.size 100 v∧(0<i→EP (Ag A.cell? (EL w.heap.size S)) v (AP xs (nf.take (i-1))))
 dk:A.heap[w.heap.size+1+1+1]? =some (.deferred (some []))
 lk:A.heap[w.heap.size+1+1+1+1]? =some (.loop st)
theorem Kq.keep{w A B:World}{xs:List Nd}{nf:List BA}{st:Loop}{i:Nat}{S:Nat→Bool}(h:Kq S w A xs nf st i)(hb:Below A.heap.size A B):Kq S w B xs nf st i:=by
 obtain⟨v,F,G⟩:=h.eb;refine⟨h.low.trans (hb.mono h.low.size),⟨v,En F hb,fun H=>(G H).on (CQ hb)⟩,?_,?_⟩
 ·exact(hb.block _ (nI.1 h.dk).1).trans h.dk
 ·exact(hb.block _ (nI.1 h.lk).1).trans h.lk
theorem QM(w:World)(a an:Option Addr)(n cap m nj:Nat):
 Calls prog 100 #[.slice a n cap,.slice an m nj] w fun e w'=>e=.returned (.func (.func 142) #[] #[pO w.heap.size 0,pO (w.heap.size+1) 0])∧w'=(w.alloc (.cells #[.slice a n cap] 30)).alloc (.cells #[.slice an m nj] 40):=by
 go_enter func100,ntmps100;go_wp2;go_ret;exact⟨rfl,rfl⟩
theorem SQ{w:World}{S:Nat→Bool}(a7:∀k,S k=true→k<w.heap.size){a:Option Addr}{cap:Nat}{xs:List Nd}{an:Option Addr}{nj:Nat}{nf:List BA}(hx:Ch (Ag w.cell? S) a xs)(J:A0 (Ag w.cell? S) an nf)(bp:xs.length≤1000)(bs:nf.length≤1000)(bu:DC (BD xs)):
 Calls prog 50 #[.slice a xs.length cap,.slice an nf.length nj] w fun e w'=>∃v,e=.returned v∧EP (Ag w'.cell? S) v (AP xs nf)∧Below w.heap.size w w':=by
 refine(rX (n:=0)).1 ?_;refine callsIn_of_wp_marks func50 rfl trivial ?_ rfl;simp only[ntmps50,List.size_toArray,n3,nQ,Nat.reduceAdd,Nat.reduceSub,r9,r8,List.push_toArray,List.append_toArray,ru,n9];gi_wp2_with fail
 refine⟨trivial,rfl,CallsIn.mono (rX.2 (QM _ a an xs.length cap nf.length nj)) ?_⟩;rintro e I ⟨rfl,O⟩;rw[nv];have a8:Below w.heap.size w I:=by rw[O];exact(bN.alloc (by rw[nv];omega) _).alloc (by rw[nv,nv];omega) _
 have ba:I.heap.size=w.heap.size+1+1+1:=by rw[O,nv,nv,nv]
 have bb:Boxed I w.heap.size 100 nL:=by rw[O];exact((Boxed.new w _ _).alloc _).alloc _
 have bd:Boxed I (w.heap.size+1) 30 (.slice a xs.length cap):=by
  rw[O];have:=(Boxed.new (w.alloc (.cells #[nL] 100)) 30 (.slice a xs.length cap)).alloc (.cells #[.slice an nf.length nj] 40);rwa [nv]at this
 have be:Boxed I (w.heap.size+1+1) 40 (.slice an nf.length nj):=by
  rw[O];have:=Boxed.new ((w.alloc (.cells #[nL] 100)).alloc (.cells #[.slice a xs.length cap] 30)) 40 (.slice an nf.length nj);rwa [nv,nv]at this
 clear O;gi_wp2_with fail
 refine Ns (gf:=142) (lb:=#[pO (w.heap.size+1) 0,pO (w.heap.size+1+1) 0]) rfl (enters_of func142 (by kernel_rfl) rfl) ?_;intro fn rec bv Q V bf Z aa;rw[ba]at V bf Z aa⊢;have Y:Below I.heap.size I Q:=by rw[ba];exact V
 have bg:Kq S w Q xs nf (rec .ready none) 0:=⟨a8.trans (V.mono (by omega)),⟨_,En bb Y,fun h=>by omega⟩,aa,Z⟩;have ab:∀k,w.heap.size≤k→S k=false:=fun k F=>by
  cases hh:S k with
  |false=>rfl
  |true=>have:=a7 k hh;omega
 have bi:AR (Ag w.cell? S) (Ag Q.cell? (EL w.heap.size S)):=Cb fun k F J=>⟨by simp[EL,J];omega,bg.low.block k F⟩;have bx:Ag Q.cell? (EL w.heap.size S) (aD (w.heap.size+1) 0)=some (.slice a xs.length cap):=by rw[Co (by simp[EL];exact ab _ (by show w.heap.size≤w.heap.size+1;omega))];exact(En bd Y).cell
 have bA:Ag Q.cell? (EL w.heap.size S) (aD (w.heap.size+1+1) 0)=some (.slice an nf.length nj):=by rw[Co (by simp[EL];exact⟨by omega,ab _ (by omega)⟩)];exact(En be Y).cell
 clear a8 V Y bf Z aa bb bd be
 refine(P1 (w.heap.size+1) (w.heap.size+1+1) a cap xs an nj nf (w.heap.size+1+1+1+1) (fun i S' A=>S'=EL w.heap.size S∧Kq S w A xs nf (rec .ready none) i) (fun _=>False) Q (EL w.heap.size S) bx bA (hx.on bi) (J.on bi) bp bs bu
  (fun i S' A h k F=>by
   rw[h.1]at F;simp[EL]at F;obtain⟨v,bB,_⟩:=h.2.eb;rcases F with(e|e)|e
   ·rw[e];exact bB.lt
   ·rw[e];exact(nI.1 h.2.lk).1
   ·exact nG (a7 k e) h.2.low.size)
  (fun i S' A B h hb=>⟨h.1,h.2.keep hb⟩) ?rounds ⟨rfl,bg⟩).mono ?after
 case rounds=>
  rintro i S' v A bY ⟨rfl,G⟩ R;have ad:Hid _:=R;obtain⟨H,vc,D,rfl,_⟩:=R;obtain⟨v0,bC,_⟩:=G.eb;have ak:=FY bC G.lk (.loop (rec .busy none));have b0:=ak.cell;have b1:=ak.frozen;refine M7 bv G.lk rfl ?_;gi_wp2
  refine⟨G.lk,?_⟩;gi_wp2
  have bF:=(nI.1 G.lk).1;have ao:((A.putObj (w.heap.size+1+1+1+1) (.loop (rec .busy none))).setCell (aD w.heap.size 0) (.slice H D.length vc)).heap[w.heap.size+1+1+1+1]? =some (.loop (rec .busy none)):=by
   rw[re _ _ _ _ (by show w.heap.size+1+1+1+1≠w.heap.size;omega)];exact World.putObj_heap_same bF
  have bk:∀k,EL w.heap.size S k=false→(((A.putObj (w.heap.size+1+1+1+1) (.loop (rec .busy none))).setCell (aD w.heap.size 0) (.slice H D.length vc)).putObj (w.heap.size+1+1+1+1) (.loop (rec .ready none))).heap[k]? =A.heap[k]?:=fun k F=>by
   simp[EL]at F;rw[World.putObj_heap_other F.1.2,re _ _ _ _ (by show k≠w.heap.size;exact F.1.1),World.putObj_heap_other F.1.2]
  have T:AR (Ag A.cell? (EL w.heap.size S)) (Ag (((A.putObj (w.heap.size+1+1+1+1) (.loop (rec .busy none))).setCell (aD w.heap.size 0) (.slice H D.length vc)).putObj (w.heap.size+1+1+1+1) (.loop (rec .ready none))).cell? (EL w.heap.size S)):=Cb fun k _ J=>⟨J,bk k J⟩;have bG:Below w.heap.size A (((A.putObj (w.heap.size+1+1+1+1) (.loop (rec .busy none))).setCell (aD w.heap.size 0) (.slice H D.length vc)).putObj (w.heap.size+1+1+1+1) (.loop (rec .ready none))):=by
   have bl:=(Fr (l:=w.heap.size+1+1+1+1) G.low.size (by omega) (.loop (rec .busy none))).setCell (p:=(aD w.heap.size 0)) (nl _) (.slice H D.length vc);exact bl.trans (Fr (nO G.low.size bl.size) (by omega) _)
  exact⟨ao,rfl,_,⟨rfl,⟨G.low.trans bG,⟨_,FY (ak.set _) ao _,fun _=>EP.on ad.out T⟩,(bk _ (by simp[EL];exact⟨by omega,ab _ (by omega)⟩)).trans G.dk,World.putObj_heap_same (nI.1 ao).1⟩⟩,T⟩
 case after=>
  rintro e W2 ⟨⟨v,rfl⟩,(⟨S',rfl,h⟩|h)⟩;rotate_left
  ·exact h.elim
  refine⟨⟨_,rfl⟩,.inl ⟨h.lk,?_⟩⟩;obtain⟨v,hb,R⟩:=h.eb;have ap:=R (by omega);rw[Nat.add_sub_cancel,List.take_length]at ap;have bn:=FY hb h.lk (.loop (rec .exhausted none));have az:(W2.putObj (w.heap.size+1+1+1+1) (.loop (rec .exhausted none))).heap[w.heap.size+1+1+1]? =some (.deferred (some [])):=(World.putObj_heap_other (by omega)).trans h.dk;have T:=Jk (S:=S) h.lk rfl (.loop (rec .exhausted none));have a1:=(ap.on (Su (S':=S) fun k F=>by simp[EL]at F;exact F.2)).on T;have a6:=h.low.trans (Fr (l:=w.heap.size+1+1+1+1) h.low.size (by omega) (.loop (rec .exhausted none)));clear T ap R hb;generalize W2.putObj (w.heap.size+1+1+1+1) (.loop (rec .exhausted none))=bo at bn az a1 a6⊢;have ad:Hid _:=a1;obtain⟨H,vc,D,rfl,_⟩:=a1;have b2:=bn.cell;gi_wp2
  refine⟨by simp,.inl ⟨_,_,rfl,run_takeDeferred az,?_⟩⟩;have bH:EP (Ag (bo.putObj (w.heap.size+1+1+1) (.deferred none)).cell? S) (.slice H D.length vc) (AP xs nf):=EP.on (c:=Ag bo.cell? S) ad.out (Jk az rfl _);exact⟨_,results_tmp rfl _ _ _,.slice H D.length vc,rfl,bH,a6.trans (Fr (l:=w.heap.size+1+1+1) a6.size (by omega) _)⟩
end Go.Proofs.YtgppjbhaimmlpaaGreatDoor
namespace Go.Proofs.YtgppjbhaimmlpaaGreatDoor
open Go.RowKit Go.Proofs.Tryz
def EZ(l:List (Nd×Nat)):Prop:=∀q∈l,A7 q.1
theorem YU{x:Nd}(h:A7 x):Dl x.kids:=by
 obtain⟨k,m,u,g,o,nh,d,ks⟩:=x;rw[A7]at h;exact h.2.2
theorem EZ.kid{l:List (Nd×Nat)}(h:EZ l)(nm:BA):EZ (Bc nm l):=fun q G=>by
 obtain⟨p,H,e⟩:=rC.1 G;obtain⟨y,F,rfl⟩:=nY.1 e;have I:=h p H;unfold CV at F;split at F
 ·cases F
 ·obtain⟨J,O,rfl⟩:=nY.1 F
  obtain⟨n,z⟩:=J;exact J2 (YU I) O
theorem EZ.sh{l:List (Nd×Nat)}(h:EZ l):EZ (A8 l):=fun q F=>h q (Hx l q F)
theorem MI{xs:List Nd}(h:EZ (BD xs)):∀nf:List BA,EZ (AP xs nf):=by
 intro nf;unfold AP;generalize F:A8 (BD xs)=l;have G:EZ l:=by rw[←F];exact h.sh
 clear F;induction nf generalizing l with
 |nil=>exact G
 |cons n r H=>rw[rK];exact H _ (G.kid n).sh
theorem EC{w:World}{b c i:Nat}(F:c≠b)(u0 u1 u2 u3 u4 u5 u6 u7:Value):((((((((w.setCell (aD b 0) u0).setCell (aD b 1) u1).setCell (aD b 2) u2).setCell (aD b 3) u3).setCell (aD b 4) u4).setCell (aD b 5) u5).setCell (aD b 6) u6).setCell (aD b 7) u7).cell? (aD c i)=w.cell? (aD c i):=by
 have e:∀(v:World) (j:Nat) (u:Value),(v.setCell (aD b j) u).cell? (aD c i)=v.cell? (aD c i):=fun v j u=>nz _ _ _ _ (fun e=>F (by cases e;rfl));rw[e,e,e,e,e,e,e,e]
end Go.Proofs.YtgppjbhaimmlpaaGreatDoor
