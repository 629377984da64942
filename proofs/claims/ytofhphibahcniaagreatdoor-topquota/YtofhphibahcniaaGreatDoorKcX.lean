/-
  TopQuota: Kc Ua Wj Wl Mi Mj Uc Ud.
-/
import Derived.Test.YtofhphibahcniaaGreatDoorApX
import Derived.Test.YtofhphibahcniaaGreatDoorWoX
import Derived.Test.YtofhphibahcniaaGreatDoorMaX
import Derived.Deep.LoopGhost
import Derived.WalkSmall
import Derived.Outline
import Derived.Deep.RegionHeld3
import Derived.Deep.QuietTactic
import Derived.BigQuiet
set_option maxRecDepth 100000
set_option maxHeartbeats 16000000
namespace Go.Proofs.YtofhphibahcniaaGreatDoor
open Go.RowKit Go.Proofs.Tryz
theorem cD(r:Rg)(w:World):Calls prog 114 #[.agg #[iN r.i,iN r.o,iN r.n]] w fun e w'=>e=.returned (.tuple #[iN r.i,iN r.o])∧Below w.heap.size w w':=by
 go_enter func114,ntmps114;go_wp2;go_quiet (fail)
 go_wp2;go_ret2;exact⟨rfl,rz bN _⟩
theorem Yb(r:Rg)(w:World):Calls prog 217 #[.agg #[iN r.i,iN r.o,iN r.n]] w fun e w'=>e=.returned (.tuple #[iN r.o,iN r.i])∧Below w.heap.size w w':=by
 go_enter func217,ntmps217;go_wp2;go_quiet (fail)
 go_wp2;go_ret2;exact⟨rfl,rz bN _⟩
def CY(F G:Rg→Int):List Rg→Int→Option Int
 |[],_=>none
 |r::l,x=>if F r≤x∧x-F r<r.n then some (G r+x-F r)else CY F G l x
theorem NI{F G:Rg→Int}{r:Rg}{l:List Rg}{x:Int}(H:F r≤x)(I:x-F r<r.n):CY F G (r::l) x=some (G r+x-F r):=by
 unfold CY;rw[nD ⟨H,I⟩]
theorem JY{F G:Rg→Int}{r:Rg}{l:List Rg}{x:Int}(h:¬(F r≤x∧x-F r<r.n)):CY F G (r::l) x=CY F G l x:=by
 rw[CY,nC h]
def F6(rs:List Rg)(x:Int):Option Int:=if CZ rs=0 then CY (·.i) (·.o) rs x else none
def Ie(rs:List Rg)(x:Int):Option Int:=if CZ rs=0 then CY (·.o) (·.i) rs x else none
def Gn(o:Option Int):Value:=.tuple #[.int .i64 (o.getD 0),.bool o.isSome]
theorem SA{o:Option Int}{v:Int}(h:o=some v):Ending.returned (.tuple #[.int .i64 v,.bool true])=.returned (Gn o):=by subst h;rfl
theorem Lz{o:Option Int}(h:o=none):Ending.returned (.tuple #[.int .i64 0,.bool false])=.returned (Gn o):=by subst h;rfl
theorem Uq{o F:Option Int}(h:o=F):Ending.returned (.tuple #[.int .i64 (o.getD 0),.bool o.isSome])=.returned (Gn F):=by subst h;rfl
theorem U7{rs:List Rg}:∀n k,mF rs k n=0→∀j,k≤j→j<k+n→Ew rs j=0
 |0,k,_,j,h1,h2=>by omega
 |n+1,k,h,j,h1,h2=>by
  by_cases e:Ew rs k=0
  ·rw[VL e]at h
   by_cases F:j=k
   ·subst F;exact e
   ·exact U7 n (k+1) h j (by omega) (by omega)
  ·rw[Ko e]at h;exact absurd h e
theorem YK{rs:List Rg}(h:CZ rs=0):rs.length≤4∧∀j,j<rs.length→Ew rs j=0:=by
 unfold CZ at h;by_cases F:4<rs.length
 ·rw[nD F]at h;omega
 ·rw[nC F]at h
  exact⟨by omega,fun j G=>U7 _ _ h j (nN _) (by omega)⟩
theorem Ke{rs:List Rg}(h:CZ rs=0):∀r∈rs,r.bd:=by
 intro r G;obtain⟨k,F⟩:=n5 G;have H:=(ny.1 F).1;exact Pb (Qi F ((YK h).2 k H))
theorem bT(a:Option Addr)(cap:Nat)(rs:List Rg)(x:Int)(w:World)(ay:rs.length≤100)(az:rs.length≤cap)(a1:∀r∈rs,r.ok)(hx:A2 x)(h:Rgs w a rs)(o:Option Int)(O:Hid ((if CZ rs=0 then CY (·.i) (·.o) rs x else none)=o)):
 Calls prog 113 #[.slice a rs.length cap,iN x,.func (.func 114) #[] #[]] w fun e w'=>e=.returned (Gn o)∧Below w.heap.size w w':=by
 obtain⟨bn,bo⟩:=hx;by_cases I:CZ rs=0
 ·have Q:Hid (o=CY (·.i) (·.o) rs x):=O.out.symm.trans (nD I)
  have a6:=hid I;clear I O;go_enter func113,ntmps113;go_wp2_with fail
  refine(Jp a cap rs _ ay az a1 h).mono ?_;rintro e bd ⟨rfl,R⟩;rw[Co a6.out];go_wp2_with fail
  go_loopw [17] (fun i wr=>∃k:Nat,k≤rs.length∧i=iN k∧Hid (CY (·.i) (·.o) rs x=CY (·.i) (·.o) (rs.drop k) x)∧Below w.heap.size w wr) (fun i _=>rs.length-(intOf i).toNat)
  case atStart=>exact⟨0,nN _,rfl,rfl,R⟩
  case round=>
   obtain⟨k,bp,rfl,T,G⟩:=hrel;clear R;by_cases a7:k<rs.length
   ·rcases h with rfl|⟨b,aa,rfl,a8⟩
    ·simp at a7
    ·obtain⟨r,V⟩:∃r,rs[k]? =some r:=⟨rs[k],by simp[a7]⟩
     obtain⟨ab,ba,bb⟩:=a8 k r V;have Y:b<w.heap.size:=bL ab;have bs:=nH Y G.size;obtain⟨bu,bv,t3,t4,t5,bx,bA,bB⟩:=Ke a6.out r (nE V);have ad:Hid (rs.drop k=r::rs.drop (k+1)):=by
      obtain⟨be,rfl⟩:=ny.1 V;exact nO be
     have bC:(k:Int)<(rs.length:Int):=by omega
     obtain⟨H,Z,J⟩:=r;dsimp only at*;have bf:=(G.cell (p:=(aD b (aa+k*3))) Y).trans ab;have q1:=(G.cell (p:=(aD b (aa+k*3+1))) Y).trans ba;have q2:=(G.cell (p:=(aD b (aa+k*3+2))) Y).trans bb;clear ab ba bb V a8;go_wp2_with fail
     refine(cD ⟨H,Z,J⟩ _).mono ?_;rintro e bF ⟨rfl,ak⟩;have RB:=(Fe.new wr H Z J).below ak;have ao:=(G.alloc G.size (.cells #[iN H,iN Z,iN J] 65)).trans (ak.mono (by have:=G.size;simp;omega));clear bf q1 q2 ak;obtain⟨bg,bi,bk,bG⟩:=id RB;dsimp only at bg bi bk;by_cases g1:H≤x
     ·by_cases ap:x-H<J
      ·have F:Hid (CY (·.i) (·.o) rs x=some (Z+x-H)):=T.out.trans (by rw[ad.out];exact NI g1 ap)
       go_wp2;go_ret2;exact⟨SA (Q.out.trans F.out),ao⟩
      ·have F:Hid (CY (·.i) (·.o) rs x=CY (·.i) (·.o) (rs.drop (k+1)) x):=T.out.trans (by rw[ad.out];exact JY (fun e=>ap e.2))
       have bH:decide (x-H<J)=false:=by simpa using ap
       go_wp2;go_roundw
       case rel=>exact⟨k+1,by omega,by go_num,F.out,ao⟩
       case measure=>simp[intOf];omega
     ·have F:Hid (CY (·.i) (·.o) rs x=CY (·.i) (·.o) (rs.drop (k+1)) x):=T.out.trans (by rw[ad.out];exact JY (fun e=>g1 e.1))
      have bY:decide (H≤x)=false:=by simpa using g1
      go_wp2;go_roundw
      case rel=>exact⟨k+1,by omega,by go_num,F.out,ao⟩
      case measure=>simp[intOf];omega
   ·have F:Hid (CY (·.i) (·.o) rs x=none):=T.out.trans (by rw[n7 (by omega)];rfl)
    go_wp2;go_ret2;exact⟨Lz (Q.out.trans F.out),G⟩
 ·have Q:Hid (o=none):=O.out.symm.trans (nC I)
  obtain⟨n,ar⟩:∃n,CZ rs=n:=⟨_,rfl⟩;have F:=hid ar;have bl:n≠0:=ar▸I;clear ar I O;go_enter func113,ntmps113;go_wp2_with fail
  refine(Jp a cap rs _ ay az a1 h).mono ?_;rintro e bd ⟨rfl,R⟩;rw[AG F.out bl];go_wp2;go_ret2;exact⟨Lz Q.out,R⟩
theorem M7(a:Option Addr)(cap:Nat)(rs:List Rg)(x:Int)(w:World)(G:rs.length≤100)(H:rs.length≤cap)(I:∀r∈rs,r.ok)(hx:A2 x)(h:Rgs w a rs):
 Calls prog 65 #[.slice a rs.length cap,iN x] w fun e w'=>e=.returned (Gn (F6 rs x))∧Below w.heap.size w w':=by
 obtain⟨o,F⟩:=AQ (F6 rs x);go_enter func65,ntmps65;go_wp2_with fail
 refine(bT a cap rs x _ G H I hx h o F).mono ?_;rintro e O ⟨rfl,J⟩;unfold Gn;go_wp2;go_ret2;exact⟨Uq F.out.symm,J⟩
theorem XH(a:Option Addr)(cap:Nat)(rs:List Rg)(x:Int)(w:World)(ay:rs.length≤100)(az:rs.length≤cap)(a1:∀r∈rs,r.ok)(hx:A2 x)(h:Rgs w a rs)(o:Option Int)(O:Hid ((if CZ rs=0 then CY (·.o) (·.i) rs x else none)=o)):
 Calls prog 113 #[.slice a rs.length cap,iN x,.func (.func 217) #[] #[]] w fun e w'=>e=.returned (Gn o)∧Below w.heap.size w w':=by
 obtain⟨bn,bo⟩:=hx;by_cases I:CZ rs=0
 ·have Q:Hid (o=CY (·.o) (·.i) rs x):=O.out.symm.trans (nD I)
  have a6:=hid I;clear I O;go_enter func113,ntmps113;go_wp2_with fail
  refine(Jp a cap rs _ ay az a1 h).mono ?_;rintro e bd ⟨rfl,R⟩;rw[Co a6.out];go_wp2_with fail
  go_loopw [17] (fun i wr=>∃k:Nat,k≤rs.length∧i=iN k∧Hid (CY (·.o) (·.i) rs x=CY (·.o) (·.i) (rs.drop k) x)∧Below w.heap.size w wr) (fun i _=>rs.length-(intOf i).toNat)
  case atStart=>exact⟨0,nN _,rfl,rfl,R⟩
  case round=>
   obtain⟨k,bp,rfl,T,G⟩:=hrel;clear R;by_cases a7:k<rs.length
   ·rcases h with rfl|⟨b,aa,rfl,a8⟩
    ·simp at a7
    ·obtain⟨r,V⟩:∃r,rs[k]? =some r:=⟨rs[k],by simp[a7]⟩
     obtain⟨ab,ba,bb⟩:=a8 k r V;have Y:b<w.heap.size:=bL ab;have bs:=nH Y G.size;obtain⟨bu,bv,t3,t4,t5,bx,bA,bB⟩:=Ke a6.out r (nE V);have ad:Hid (rs.drop k=r::rs.drop (k+1)):=by
      obtain⟨be,rfl⟩:=ny.1 V;exact nO be
     have bC:(k:Int)<(rs.length:Int):=by omega
     obtain⟨Z,H,J⟩:=r;dsimp only at*;have bf:=(G.cell (p:=(aD b (aa+k*3))) Y).trans ab;have q1:=(G.cell (p:=(aD b (aa+k*3+1))) Y).trans ba;have q2:=(G.cell (p:=(aD b (aa+k*3+2))) Y).trans bb;clear ab ba bb V a8;go_wp2_with fail
     refine(Yb ⟨Z,H,J⟩ _).mono ?_;rintro e bF ⟨rfl,ak⟩;have RB:=(Fe.new wr Z H J).below ak;have ao:=(G.alloc G.size (.cells #[iN Z,iN H,iN J] 65)).trans (ak.mono (by have:=G.size;simp;omega));clear bf q1 q2 ak;obtain⟨bg,bi,bk,bG⟩:=id RB;dsimp only at bg bi bk;by_cases g1:H≤x
     ·by_cases ap:x-H<J
      ·have F:Hid (CY (·.o) (·.i) rs x=some (Z+x-H)):=T.out.trans (by rw[ad.out];exact NI g1 ap)
       go_wp2;go_ret2;exact⟨SA (Q.out.trans F.out),ao⟩
      ·have F:Hid (CY (·.o) (·.i) rs x=CY (·.o) (·.i) (rs.drop (k+1)) x):=T.out.trans (by rw[ad.out];exact JY (fun e=>ap e.2))
       have bH:decide (x-H<J)=false:=by simpa using ap
       go_wp2;go_roundw
       case rel=>exact⟨k+1,by omega,by go_num,F.out,ao⟩
       case measure=>simp[intOf];omega
     ·have F:Hid (CY (·.o) (·.i) rs x=CY (·.o) (·.i) (rs.drop (k+1)) x):=T.out.trans (by rw[ad.out];exact JY (fun e=>g1 e.1))
      have bY:decide (H≤x)=false:=by simpa using g1
      go_wp2;go_roundw
      case rel=>exact⟨k+1,by omega,by go_num,F.out,ao⟩
      case measure=>simp[intOf];omega
   ·have F:Hid (CY (·.o) (·.i) rs x=none):=T.out.trans (by rw[n7 (by omega)];rfl)
    go_wp2;go_ret2;exact⟨Lz (Q.out.trans F.out),G⟩
 ·have Q:Hid (o=none):=O.out.symm.trans (nC I)
  obtain⟨n,ar⟩:∃n,CZ rs=n:=⟨_,rfl⟩;have F:=hid ar;have bl:n≠0:=ar▸I;clear ar I O;go_enter func113,ntmps113;go_wp2_with fail
  refine(Jp a cap rs _ ay az a1 h).mono ?_;rintro e bd ⟨rfl,R⟩;rw[AG F.out bl];go_wp2;go_ret2;exact⟨Lz Q.out,R⟩
theorem WA(a:Option Addr)(cap:Nat)(rs:List Rg)(x:Int)(w:World)(G:rs.length≤100)(H:rs.length≤cap)(I:∀r∈rs,r.ok)(hx:A2 x)(h:Rgs w a rs):
 Calls prog 212 #[.slice a rs.length cap,iN x] w fun e w'=>e=.returned (Gn (Ie rs x))∧Below w.heap.size w w':=by
 obtain⟨o,F⟩:=AQ (Ie rs x);go_enter func212,ntmps212;go_wp2_with fail
 refine(XH a cap rs x _ G H I hx h o F).mono ?_;rintro e O ⟨rfl,J⟩;unfold Gn;go_wp2;go_ret2;exact⟨Uq F.out.symm,J⟩
theorem NH(m:BA)(x y:Nd):∀ks:Ar,Cg m y (Cg m x ks)=Cg m y ks
 |[]=>rfl
 |(n,z)::l=>by
  by_cases h:n=m
  ·simp[Cg,h]
  ·simp[Cg,h,NH m x y l]
theorem RD{m:BA}{x y:Nd}:∀{ks:Ar},fk m ks=none→Cg m y (C0 m x ks)=C0 m y ks
 |[],_=>by simp[C0,Cg]
 |(n,z)::l,h=>by
  rw[fk]at h;split at h
  ·cases h
  ·rename_i hn
   by_cases F:AZ m n=true
   ·simp[C0,F,Cg]
   ·simp[C0,F,Cg,hn,RD h]
theorem Nm(x:Nd)(a b:Ar):(x.with a).with b=x.with b:=by obtain⟨k,m,u,g,o,nh,d,ks⟩:=x;rfl
theorem Lp(c:Option Nd)(m:BA){l:List BA}(F:l≠[])(x:Nd):AV c (m::l) x=if x.kind≠2 then .error 7 else match fk m x.kids with
 |none=>.error 5
 |some y=>(AV c l y).map fun z=>x.with (Cg m z x.kids):=by
 cases l with
 |nil=>exact absurd rfl F
 |cons G l=>exact JG c m G l x
theorem Q9{x:Nd}{c:Option Nd}{G:List BA}(J:G≠[]):∀{l:List BA} {n r:Nd},AV (some x) l n=.ok r→AV c (l++G) r=(match AV c G x with|.error f=>.error f|.ok y=>AV (some y) l n)
 |[],n,r,h=>by rw[AV]at h;cases h
 |[m],n,r,h=>by
  rw[IP]at h;by_cases F:n.kind≠2
  ·rw[nD F]at h;cases h
  rw[nC F]at h;simp only[EJ]at h;by_cases H:AY m=false
  ·rw[nD H]at h;cases h
  rw[nC H]at h;have e:r=n.with (if fk m n.kids=none then C0 m x n.kids else Cg m x n.kids):=by cases h;rfl
  have O:fk m (if fk m n.kids=none then C0 m x n.kids else Cg m x n.kids)=some x:=by
   split
   ·exact U3 ‹_›
   ·exact OM ‹_›
  rw[List.singleton_append,Lp c m J,e,Nu,nC F,K1,O];dsimp only;cases AV c G x with
  |error f=>rfl
  |ok y=>
   dsimp only;rw[IP,nC F];simp only[EJ];rw[nC H];show Except.ok _=Except.ok _;dsimp only;rw[Nm];congr 2;split
   ·exact RD ‹_›
   ·exact NH _ _ _ _
 |m::I::l,n,r,h=>by
  rw[JG]at h;by_cases F:n.kind≠2
  ·rw[nD F]at h;cases h
  rw[nC F]at h;cases hf:fk m n.kids with
  |none=>rw[hf]at h;cases h
  |some y=>
   rw[hf]at h;dsimp only at h;cases hc:AV (some x) (I::l) y with
   |error f=>rw[hc]at h;cases h
   |ok z=>
    rw[hc]at h;have e:r=n.with (Cg m z n.kids):=by cases h;rfl
    have Q:=Q9 (c:=c) J hc;show AV c (m::((I::l)++G)) r=_;rw[Lp c m (by simp),e,Nu,nC F,K1,OM (by rw[hf];simp)];dsimp only;rw[Q];cases AV c G x with
    |error f=>rfl
    |ok v=>
     dsimp only;rw[JG,nC F,hf];dsimp only;cases AV (some v) (I::l) y with
     |error f=>rfl
     |ok v=>show Except.ok _=Except.ok _;dsimp only;rw[Nm,NH]
theorem Ru(m:BA):∀(l:List BA) (x:Nd),BU (l++[m]) x=(BU l x).bind fun y=>if y.kind≠2 then none else fk m y.kids
 |[],x=>by
  rw[ru,JC,BU];simp only[Option.bind_some];split
  ·rfl
  ·cases fk m x.kids<;>simp[BU]
 |n::l,x=>by
  rw[n9,JC,JC];split
  ·rfl
  ·cases fk n x.kids with
   |none=>rfl
   |some y=>exact Ru m l y
theorem Lw{x:Nd}{m:BA}:∀{l:List BA} {n d:Nd},BU l n=some d→d.kind=2→(AY m=false→AV (some x) (l++[m]) n=.error 4)∧(¬AY m=false→∃r,AV (some x) (l++[m]) n=.ok r)
 |[],n,d,h,hd=>by
  rw[BU]at h;cases h;rw[ru,IP,nC (by simp[hd])];simp only[EJ];exact⟨fun e=>by rw[nD e];rfl,fun e=>by rw[nC e];exact⟨_,rfl⟩⟩
 |a::l,n,d,h,hd=>by
  rw[JC]at h;by_cases F:n.kind≠2
  ·rw[nD F]at h;cases h
  rw[nC F]at h;cases hf:fk a n.kids with
  |none=>rw[hf]at h;cases h
  |some y=>
   rw[hf]at h;obtain⟨G,H⟩:=Lw (x:=x) (m:=m) (l:=l) h hd;rw[n9,Lp _ a (by simp),nC F,hf];dsimp only;refine⟨fun e=>by rw[G e];rfl,fun e=>?_⟩;obtain⟨r,I⟩:=H e;rw[I];exact⟨_,rfl⟩
def Ct:List (Nd×BA)→Nd
 |[]=>zN
 |[p]=>p.1
 |p::q::r=>p.1.with [(q.2,Ct (q::r))]
theorem Rp{z:Nd}{m:BA}:∀{L:List (Nd×BA)},L≠[]→(∀p∈L,p.1.kind=2∧p.1.kids=[])→AV (some z) (L.tail.map Prod.snd++[m]) (Ct L)=if AY m=false then .error 4 else .ok (Ct (L++[(z,m)]))
 |[],h,_=>absurd rfl h
 |[p],_,h=>by
  obtain⟨F,G⟩:=h p (nK ..);rw[List.tail_cons,List.map_nil,ru,Ct,IP,nC (by simp[F]),G];simp only[EJ];split
  ·rfl
  ·simp[fk,C0,Ct];rfl
 |p::q::r,_,h=>by
  obtain⟨F,G⟩:=h p (nK ..);have H:=Rp (z:=z) (m:=m) (L:=q::r) (by simp) (fun p I=>h p (n2 _ I));rw[List.tail_cons]at H;show AV (some z) (q.2::(r.map Prod.snd++[m])) (p.1.with [(q.2,Ct (q::r))])=_;rw[Lp _ _ (by simp),Nu,nC (by simp[F]),K1];simp only[fk,if_true,H];split
  ·rfl
  ·show Except.ok _=Except.ok _
   simp only[Cg,if_true,Nm];rfl
def Bm(F:Bool)(us gs:List Rg):Nd→Option Nd
 |.mk k m u g o nh d ks=>match(if F=true then F6 us u else Ie us u),(if F=true then F6 gs g else Ie gs g)with
  |some G,some g'=>some (.mk k m G g' o nh d ks)
  |_,_=>none
def CP:Nd→Nd
 |.mk k m u g _ nh d _=>.mk k m u g false nh d []
theorem L3{F:Bool}{us gs:List Rg}{x y:Nd}(h:Bm F us gs x=some y):y.kind=x.kind∧y.kids=x.kids:=by
 obtain⟨k,m,u,g,o,nh,d,ks⟩:=x;rw[Bm]at h;split at h
 ·cases h;exact⟨rfl,rfl⟩
 ·cases h
theorem Yu(x:Nd):(CP x).kind=x.kind:=by obtain⟨k,m,u,g,o,nh,d,ks⟩:=x;rfl
theorem Nt(x:Nd):(CP x).kids=[]:=by obtain⟨k,m,u,g,o,nh,d,ks⟩:=x;rfl
def Cb(us gs:List Rg):List (Nd×BA)→Except Int (List (Nd×BA))
 |[]=>.ok []
 |(x,m)::r=>match Bm true us gs x with
  |none=>.error 11
  |some y=>if AY m=false then .error 4 else match Cb us gs r with
   |.error f=>.error f
   |.ok L=>.ok ((y,m)::L)
theorem J8{us gs:List Rg}{x:Nd}{m:BA}:∀A:List (Nd×BA),Cb us gs (A++[(x,m)])=(match Cb us gs A with|.error f=>.error f|.ok L=>(match Bm true us gs x with|none=>.error 11|some y=>if AY m=false then .error 4 else .ok (L++[(y,m)])))
 |[]=>by simp[Cb]
 |(a,n)::r=>by
  rw[n9,Cb,Cb,J8 r];cases Bm true us gs a with
  |none=>rfl
  |some y=>
   dsimp only;split
   ·rfl
   ·cases Cb us gs r with
    |error f=>rfl
    |ok L=>
     dsimp only;cases Bm true us gs x with
     |none=>rfl
     |some z=>
      dsimp only;by_cases F:AY m=false
      ·rw[nD F,nD F]
      ·rw[nC F,nC F];rfl
theorem OL{us gs:List Rg}:∀{A L:List (Nd×BA)},Cb us gs A=.ok L→L.map Prod.snd=A.map Prod.snd∧(∀p∈A,AY p.2=true)∧((∀p∈A,p.1.kind=2∧p.1.kids=[])→∀p∈L,p.1.kind=2∧p.1.kids=[])
 |[],L,h=>by cases h;exact⟨rfl,fun p F=>(by cases F),fun _ p F=>by cases F⟩
 |(x,m)::r,L,h=>by
  rw[Cb]at h;cases hm:Bm true us gs x with
  |none=>rw[hm]at h;cases h
  |some y=>
   rw[hm]at h;dsimp only at h;by_cases G:AY m=false
   ·rw[nD G]at h;cases h
   rw[nC G]at h;cases hb:Cb us gs r with
   |error f=>rw[hb]at h;cases h
   |ok K=>
    rw[hb]at h;cases h;obtain⟨J,O,Q⟩:=OL hb;refine⟨by simp[J],fun p F=>?_,fun H p F=>?_⟩
    ·rcases nY.1 F with rfl|F
     ·simpa using G
     ·exact O p F
    ·rcases nY.1 F with rfl|F
     ·have e:=L3 hm
      have I:=H (x,m) (nK ..);exact⟨e.1.trans I.1,e.2.trans I.2⟩
     ·exact Q (fun p F=>H p (n2 _ F)) p F
structure Pn where
 a:Option Addr
 c:Nat
 ks:Ar
def pv(P:List Pn):List Value:=P.map fun e=>.slice e.a e.ks.length e.c
theorem Zg(P:List Pn):(pv P).length=P.length*1:=by simp[pv]
def ms:List Ar→Nat
 |[]=>0
 |k::l=>(1+2*cntL k)+ms l
theorem IF:∀a b:List Ar,ms (a++b)=ms a+ms b
 |[],b=>by simp[ms]
 |k::a,b=>by simp[ms,IF a b];omega
theorem OW:∀l:List Ar,l.length≤ms l
 |[]=>nn _
 |k::l=>by have:=OW l;simp[ms];omega
theorem Te(x:Nd):cnt x=cntL x.kids+1:=by obtain⟨k,m,u,g,o,nh,d,ks⟩:=x;rw[cnt];rfl
theorem LO:∀ks:Ar,ms (ks.map fun p=>p.2.kids)+ks.length=2*cntL ks
 |[]=>rfl
 |(n,x)::l=>by
  have:=LO l;have:=Te x;simp[ms,cntL];omega
theorem cI(ks:Ar)(j:Nat):ms ((ks.take j).map fun p=>p.2.kids)≤ms (ks.map fun p=>p.2.kids):=by
 have h:ks.map (fun p=>p.2.kids)=(ks.take j).map (fun p=>p.2.kids)++(ks.drop j).map (fun p=>p.2.kids):=by rw[←rA,ry]
 rw[h,IF];omega
def DJ(F:Nat)(v:Value)(S:Nat→Bool):Nat→Bool:=fun k=>(k==F+1||some k==v.ownBlock)||S k
theorem IX{F k:Nat}{v:Value}{S:Nat→Bool}:DJ F v S k=false↔k≠F+1∧some k≠v.ownBlock∧S k=false:=by simp[DJ,and_assoc]
theorem bE{c F:AH}{b p:Nat}{y:Nd}{G H:Hd}(I:Bi c b p y G)(J:Ah c y G)(O:Ah c y H)(Q:Bi F b p y H)
 (R:∀q,q≠(aD b (p+5))→q≠(aD b (p+7))→F q=c q) {a:Option Addr} {ks:Ar} (T:ks.length≤1000) (h:Ea c a ks):Ea F a ks:=
 have hx:Ah c (.mk 0 0 0 0 false [] ⟨#[]⟩ ks) ⟨none,0,a,ks.length⟩:=Cq.2 ⟨.inl rfl,⟨nn _,by simp⟩,⟨nn _,by show ks.length≤_;omega⟩,h⟩
 (Cq.1 (Sq I J O Q R hx)).2.2.2
def Ky(base:Nat)(w:World)(S:Nat→Bool)(e:Pn):Prop:=Ea (Ag w.cell? S) e.a e.ks∧GJ base w e.a e.ks∧DI e.ks∧e.ks.length≤1000
structure Dv (W wr:World) (S:Nat→Bool) (nb:Nat) (x:Nd) (h0:Hd) (v:Value) (P Q:List Pn):Prop where
 row:wr.ownsRow (nb+2) 52 1 v P.length (pv P)
 box:Ch wr nb x h0
 res:Av wr (nb+1) zN zH
 tree:Ah (Ag wr.cell? (DJ nb v S)) x h0
 pend:∀e∈Q,Ky (nb+2) wr (DJ nb v S) e
 low:Below W.heap.size W wr
 sz:W.heap.size=nb
theorem Av.but{w w':World}{b G:Nat}{x:Nd}{h:Hd}(F:Av w b x h)(hb:Ao G w w')(H:b≠G):Av w' b x h:=
 ⟨F.1.but hb H,fun j=>(hb.frozen (p:=(aD b j)) F.1.lt H).trans (F.2 j)⟩
theorem Dv.below{W wr w':World}{S:Nat→Bool}{G:Nat}{x:Nd}{H:Hd}{v:Value}{P I:List Pn}(h:Dv W wr S G x H v P I)(hb:Below wr.heap.size wr w'):Dv W w' S G x H v P I:=
 ⟨QP h.row hb,h.box.below hb,h.res.below hb,h.tree.on (CN hb),fun e F=>⟨(h.pend e F).1.on (CN hb),(h.pend e F).2.1.below hb,(h.pend e F).2.2⟩,h.low.trans (hb.mono h.low.size),h.sz⟩
theorem Dv.sub{W wr:World}{S:Nat→Bool}{F:Nat}{x:Nd}{G:Hd}{v:Value}{P H Q':List Pn}(h:Dv W wr S F x G v P H)(I:∀e∈Q',e∈H):Dv W wr S F x G v P Q':=
 ⟨h.row,h.box,h.res,h.tree,fun e J=>h.pend e (I e J),h.low,h.sz⟩
theorem Dv.pop{W wr:World}{S:Nat→Bool}{F G n cap:Nat}{x:Nd}{H:Hd}{P:List Pn}{e:Pn}{I:List Pn}(J:P.length=n)(h:Dv W wr S F x H (sL G 0 (n+1) cap) (P++[e]) I):Dv W wr S F x H (sL G 0 n cap) P I:=by
 subst J;refine⟨?_,h.box,h.res,h.tree,h.pend,h.low,h.sz⟩;have:=h.row;rw[show(P++[e]).length=P.length+1 by simp,show pv (P++[e])=pv P++pv [e] by simp[pv]]at this;exact ownsRow_pop (Zg P) this
theorem Dv.store{W w:World}{S:Nat→Bool}{F g p:Nat}{x y:Nd}{T I h':Hd}{v:Value}{P V:List Pn}(h:Dv W w S F x T v P V)(bb:F+2≤g)
 (H:Bi (Ag w.cell? (DJ F v S)) g p y I) (Y:Ah (Ag w.cell? (DJ F v S)) y I) (Z:Ah (Ag w.cell? (DJ F v S)) y h'):Dv W (CU w g p y h') S F x T v P V:=by
 have G:DJ F v S g=false:=by
  obtain⟨k,m,u,J,o,nh,d,ks⟩:=y;exact IJ H.1
 have ap:=IX.1 G;have aa:Bi w.cell? g p y I:=H.on (Ci _ _);have hb:Ao g w (CU w g p y h'):=LX;have ab:Bi (Ag (CU w g p y h').cell? (DJ F v S)) g p y h':=by
  have:=Km (x:=y) (h:=h') aa;obtain⟨k,m,u,J,o,nh,d,ks⟩:=y;obtain⟨ar,O,Q,ad,R,ay,az,a1⟩:=this;exact⟨(Ck G).trans ar,(Ck G).trans O,(Ck G).trans Q,(Ck G).trans ad,(Ck G).trans R,(Ck G).trans ay,(Ck G).trans az,(Ck G).trans a1⟩
 have ak:∀q,q≠(aD g (p+5))→q≠(aD g (p+7))→Ag (CU w g p y h').cell? (DJ F v S) q=Ag w.cell? (DJ F v S) q:=by
  intro q a6 a7;cases hq:DJ F v S q.block with
  |true=>simp[Ag,hq]
  |false=>rw[Ck hq,Ck hq];exact Z1 aa q a6 a7
 refine⟨Hy h.row fun k ao=>hb.block k (h.row.lt k ao).2 (fun e=>ap.2.1 (by rw[←e];exact ao.symm)),h.box.but hb (by omega),h.res.but hb (by omega),Sq H Y Z ab ak h.tree,?_,?_,h.sz⟩
 ·intro e a8
  obtain⟨q1,q2,ba,q4⟩:=h.pend e a8;refine⟨bE H Y Z ab ak q4 q1,?_,ba,q4⟩;rcases q2 with q2|⟨J,O,Q,ad,R⟩
  ·exact .inl q2
  ·exact .inr ⟨J,O,Q,by have:=hb.size;omega,fun j=>(Nl _).trans (R j)⟩
 ·exact h.low.trans (hb.below (B:=W.heap.size) (by have:=h.sz;omega) h.low.size)
theorem Dv.push{W w w':World}{S:Nat→Bool}{G:Nat}{x:Nd}{Q:Hd}{v J:Value}{P ao:List Pn}{e:Pn}(h:Dv W w S G x Q v P ao)(a1:w'.ownsRow (G+2) 52 1 J (P.length+1) (pv P++pv [e]))(I:w.grownBy w' v.ownBlock)(R:J.ownBlock=v.ownBlock∨∃s,J.ownBlock=some s∧w.heap.size≤s)
 (a6:Ky (G+2) w (DJ G v S) e):Dv W w' S G x Q J (P++[e]) (e::ao):=by
 have step:AR (Ag w.cell? (DJ G v S)) (Ag w'.cell? (DJ G J S)):=by
  refine BN fun k ap a7=>?_;obtain⟨a8,ar,ba⟩:=IX.1 a7
  refine⟨IX.2 ⟨a8,?_,ba⟩,I.block k ap ar⟩;rcases R with R|⟨s,R,bo⟩
  ·rw[R];exact ar
  ·rw[R];intro e;simp at e;omega
 have bb:∀k,k<G+2→w'.heap[k]? =w.heap[k]?:=by
  intro k ap;have bp:=h.res.1.lt;refine I.block k (by omega) (fun e=>?_);have:=(h.row.lt k e.symm).1;omega
 have Y:Below (G+2) w w':=⟨I.os,I.tape,I.output,I.size,bb⟩;have F:∀q:Addr,q.block<G+2→w'.cell? q=w.cell? q:=fun q bd=>Y.cell bd;refine⟨by rw[show(P++[e]).length=P.length+1 by simp,show pv (P++[e])=pv P++pv [e] by simp[pv]];exact a1,?_,?_,h.tree.on step,?_,?_,h.sz⟩
 ·have:=h.box
  obtain⟨k,m,u,g,o,nh,d,ks⟩:=x;obtain⟨Z,H,T,O,V,aa,ab,ad⟩:=this;exact⟨(F _ (by simp)).trans Z,(F _ (by simp)).trans H,(F _ (by simp)).trans T,(F _ (by simp)).trans O,(F _ (by simp)).trans V,(F _ (by simp)).trans aa,(F _ (by simp)).trans ab,(F _ (by simp)).trans ad⟩
 ·obtain⟨⟨Z,H,T,O,V,aa,ab,ad⟩,be⟩:=h.res
  exact⟨⟨(F _ (by simp)).trans Z,(F _ (by simp)).trans H,(F _ (by simp)).trans T,(F _ (by simp)).trans O,(F _ (by simp)).trans V,(F _ (by simp)).trans aa,(F _ (by simp)).trans ab,(F _ (by simp)).trans ad⟩,fun j=>(Y.frozen (by simp)).trans (be j)⟩
 ·have ay:∀e,Ky (G+2) w (DJ G v S) e→Ky (G+2) w' (DJ G J S) e:=by
   rintro e ⟨q1,q2,bf,q4⟩;refine⟨q1.on step,?_,bf,q4⟩;rcases q2 with q2|⟨ak,H,T,O,V⟩
   ·exact .inl q2
   ·rcases q1 with q1|⟨b,bs,bg,f,bi⟩
    ·exact .inl q1
    ·by_cases Q:e.ks=[]
     ·exact .inl Q
     ·refine .inr ⟨ak,H,T,nH O I.size,fun j=>?_⟩
      have bk:some ak≠v.ownBlock:=by
       have bl:0<e.ks.length:=ri.2 Q;have hx:=(bi 0 e.ks[0].1 e.ks[0].2 (nt bl)).1.1;have:=(IX.1 (IJ hx)).2.1;rw[bg]at H;simp at H;rw[←H.1];exact this
      exact(World.frozen?_of_block (w:=w) (I.block ak O bk)).trans (V j)
  intro az bn;rcases nY.1 bn with H|H
  ·rw[H];exact ay e a6
  ·exact ay az (h.pend az H)
 ·exact h.low.trans (Y.mono (by have:=h.sz;omega))
theorem NO{w w':World}{S:Nat→Bool}(hb:Below w.heap.size w w')(H:∀k,k<w.heap.size→S k=false):AR w.cell? (Ag w'.cell? S):=by
 intro q v F;have G:q.block<w.heap.size:=bL F;rw[Ck (H _ G)];exact(hb.cell G).trans F
theorem Dv.more{W wr:World}{S:Nat→Bool}{F:Nat}{x:Nd}{H:Hd}{v:Value}{P I:List Pn}{e:Pn}(h:Dv W wr S F x H v P I)(J:Ky (F+2) wr (DJ F v S) e):Dv W wr S F x H v P (e::I):=
 ⟨h.row,h.box,h.res,h.tree,fun q O=>by rcases nY.1 O with G|G;exact G▸J;exact h.pend q G,h.low,h.sz⟩
theorem Tryz.infoS:(prog.info? 52).map (fun i=>(i.zero,i.size,i.bytes))=some (some (.slice none 0 0),1,24):=by kernel_rfl
theorem Dv.start{W F:World}{S:Nat→Bool}{G:Nat}{x:Nd}{J:Hd}{H:Option Addr}{ck n:Nat}{ks:Ar}(R:W.heap.size=G)(T:ks.length=n)(V:Ch F G x J)(O:Av F (G+1) zN zH)(Y:Ah (Ag F.cell? (fun k=>(k==G||k==G+1)||S k)) x J)(Q:Below W.heap.size W F)
 (Z:Ea (Ag F.cell? (fun k=>(k==G||k==G+1)||S k)) H ks) (hF:GJ (G+2) F H ks) (aa:DI ks) (ab:ks.length≤1000):
 Dv W (F.alloc (.cells #[.slice H n ck] 52)) S G x J (sL F.heap.size 0 1 1) [⟨H,ck,ks⟩] [⟨H,ck,ks⟩]:=by
 have ao:=O.1.lt;have hb:Below F.heap.size F (F.alloc (.cells #[.slice H n ck] 52)):=bN;have step:AR (Ag F.cell? (fun k=>(k==G||k==G+1)||S k)) (Ag (F.alloc (.cells #[.slice H n ck] 52)).cell? (DJ G (sL F.heap.size 0 1 1) S)):=by
  refine BN fun k ad I=>⟨IX.2 ⟨by simp at I;exact I.1.2,?_,by simp at I;exact I.2⟩,hb.block k ad⟩;intro e;simp[Value.ownBlock]at e;omega
 refine⟨⟨by simp[pv],.inr ⟨F.heap.size,1,#[.slice H n ck],rfl,by omega,heap_alloc_new F _,by simp,by decide,rfl,by simp[pv,T]⟩⟩,V.below hb,O.below hb,Y.on step,?_,Q.trans (hb.mono Q.size),R⟩;intro e ak;have:e=⟨H,ck,ks⟩:=by simpa using ak
 subst this;exact⟨Z.on step,hF.below hb,aa,ab⟩
theorem ka{W:World}{S:Nat→Bool}(b6:∀k,S k=true→k<W.heap.size){x:Nd}{h:Hd}(d1:Ah (Ag W.cell? S) x h)(b7:Be x)(e3:cnt x≤1000):
 Calls prog 18 #[Al x h] W fun e aa=>(∃h',e=.returned (Al x h')∧Ah (Ag aa.cell? S) x h')∧Below W.heap.size W aa:=by
 obtain⟨k,m,u,g,o,nh,d,ks⟩:=x;have b9:=b7;rw[Be]at b9;rw[cnt]at e3;have d2:=Av.new W k m u g o nh d ks h;have cb:Below W.heap.size W (W.alloc (As k m u g o nh d ks h)):=bN;have cd:=Av.zero (W.alloc (As k m u g o nh d ks h));rw[nw]at cd;have cf:=d2.below ((nv _ _).alloc (nn _) AJ);have bs:Below W.heap.size W ((W.alloc (As k m u g o nh d ks h)).alloc AJ):=cb.alloc cb.size _;have bu:W.heap.size+2=((W.alloc (As k m u g o nh d ks h)).alloc AJ).heap.size:=by simp
 have d3:Hid (∀Q,Below ((W.alloc (As k m u g o nh d ks h)).alloc AJ).heap.size ((W.alloc (As k m u g o nh d ks h)).alloc AJ) Q→cL 38 #[Al (.mk k m u g o nh d ks) h] Q fun e aa=>(∃h',e=.returned (Al (.mk k m u g o nh d ks) h')∧Ah (Ag aa.cell? (fun k=>(k==W.heap.size||k==W.heap.size+1)||S k)) (.mk k m u g o nh d ks) h'∧GJ Q.heap.size aa h'.ak ks)∧Below Q.heap.size Q aa):=
  fun Q cg=>Ry (S:=fun k=>(k==W.heap.size||k==W.heap.size+1)||S k) (fun k R=>by
   rw[←bu];simp at R;rcases R with R|R
   ·omega
   ·have:=b6 k R;omega) (d1.on (BN fun k R ad=>⟨by simp[ad];omega,bs.block k R⟩)) Q cg b7
 have e4:=hid b6;clear b6;show cL 18 #[(A5 k m u g o nh d ks h)] _ _;obtain⟨⟨bv,bx,bA,bB,bC,bF,bG,bH⟩,ch⟩:=id cf;clear d2 cb d1 b7;go_enter func18,ntmps18;go_wp2_with fail
 refine(d3.out _ (nv _ _)).mono ?_;rintro e H ⟨⟨F,rfl,cl,ba⟩,ab⟩;rw[←bu]at ba;have bY:=cf.below ab;have co:=cd.below ab;have cp:=bs.trans (ab.mono bs.size);have e5:W.heap.size+2≤H.heap.size:=by rw[bu];exact ab.size
 clear bv bx bA bB bC bF bG bH ch cf cd bs ab bu d3;generalize e6:W.heap.size=G at bY co cl ba e5⊢
 have cr:=bY.store (.mk k m u g o nh d ks) F;have bb:Ao G H (Au H G (.mk k m u g o nh d ks) F):=Cz;have d4:=co.but bb (by omega);have d5:=cp.trans (bb.below (B:=W.heap.size) (by omega) cp.size);have step:AR (Ag H.cell? (fun k=>(k==G||k==G+1)||S k)) (Ag (Au H G (.mk k m u g o nh d ks) F).cell? (fun k=>(k==G||k==G+1)||S k)):=BN fun q Y ad=>⟨ad,bb.block q Y (by simp at ad;exact ad.1.1)⟩;have cu:=cl.on step
 have d6:GJ (G+2) (Au H G (.mk k m u g o nh d ks) F) F.ak ks:=by
  rcases ba with e|⟨bf,Z,cx,c3,c4⟩
  ·exact .inl e
  ·exact .inr ⟨bf,Z,cx,by have:=bb.size;omega,fun j=>(bb.frozen (p:=(aD bf j)) c3 (by show bf≠G;omega)).trans (c4 j)⟩
 have T:=Dv.start (ck:=F.ck) e6 rfl cr.1 d4 cu d5 (Cq.1 cu).2.2.2 d6 b9.2.2 b9.2.1;obtain⟨⟨bv,bx,bA,bB,bC,bF,bG,bH⟩,ch⟩:=id bY;obtain⟨⟨z0,c5,c6,z3,z4,z5,c8,c9⟩,da⟩:=id cr;have bg:Al (.mk k m u g o nh d ks) F=(A5 k m u g o nh d ks F):=rfl;rw[bg];generalize d7:Au H G (.mk k m u g o nh d ks) F=d8 at T z0 c5 c6 z3 z4 z5 c8 c9 da;clear cl ba co cp bY cr bb d4 d5 step cu d6;simp only[Au]at d7;go_wp2;clear d7 bv bx bA bB bC bF bG bH ch z0 c5 c6 z3 z4 z5 c8 c9 da bg;generalize d8.alloc (.cells #[.slice F.ak ks.length F.ck] 52)=gz at T⊢;generalize d8.heap.size=bi at T⊢;go_loopg [3] (1+2*cntL ks) (fun gk v wr=>∃P:List Pn,Hid (ms (P.map (·.ks))≤gk)∧gk≤2001∧Dv W wr S G (.mk k m u g o nh d ks) F v P P)
 case atStart=>exact⟨[⟨F.ak,F.ck,ks⟩],by show _≤_;simp[ms],by omega,T⟩
 case round=>
  obtain⟨P,db,gC,T⟩:=hrel;rcases List.eq_nil_or_concat P with rfl|⟨I,e,d9⟩
  ·obtain⟨a,cap,bk,_,_,_⟩:=Df T.row
   simp only[nR]at bk;subst bk;have e7:=T.box;obtain⟨bv,bx,bA,bB,bC,bF,bG,bH⟩:=e7;have dd:=T.res;obtain⟨⟨z0,c5,c6,z3,z4,z5,c8,c9⟩,da⟩:=id dd;have ea:=dd.store (.mk k m u g o nh d ks) F;have de:Ao (G+1) wr (Au wr (G+1) (.mk k m u g o nh d ks) F):=Cz;have eb:=T.low.trans (de.below (B:=W.heap.size) (by omega) T.low.size);have step:AR (Ag wr.cell? (DJ G (.slice a 0 cap) S)) (Ag (Au wr (G+1) (.mk k m u g o nh d ks) F).cell? S):=BN fun q Y ad=>⟨(IX.1 ad).2.2,de.block q Y (IX.1 ad).1⟩;have ec:=T.tree.on step
   generalize bl:Au wr (G+1) (.mk k m u g o nh d ks) F=e8 at ea eb ec;have e9:=hid bl;clear bl de step T dd;go_wp2;have bl:=e9.out;simp only[Au]at bl;rw[bl];obtain⟨fa,fb,fc,fd,fe,ff,fg,fh⟩:=ea.1;refine nG (v:=Al (.mk k m u g o nh d ks) F) (by simp[results,results18,go_sem,Al,fa,fb,fc,fd,fe,ff,fg,fh]) rfl ⟨⟨F,rfl,ec⟩,eb⟩
  ·rw[List.concat_eq_append]at d9
   subst d9;obtain⟨a,cap,bk,ed,gD,fl⟩:=Df T.row;have dg:(I++[e]).length=I.length+1:=by simp
   rw[dg]at bk ed;rcases fl with⟨_,fr,_⟩|⟨bi,rfl,ee,b0,ef,_⟩
   ·rw[dg]at fr;omega
   subst bk;have b1:Ce wr bi I.length (.slice e.a e.ks.length e.c):=ef _ _ (by simp[pv]);have fs:I.length≤2001:=by
    have ak:=db.out;rw[rA,IF]at ak;have bd:=OW (I.map (·.ks));simp at bd;omega
   have be:Hid (ms (I.map (·.ks))+(1+2*cntL e.ks)≤gk):=by
    show _≤_;have ak:=db.out;rw[rA,IF]at ak;simp[ms]at ak;omega
   have ao:Dv W wr S G (.mk k m u g o nh d ks) F (.slice (some ⟨bi,0,none⟩) I.length cap) I (e::I):=(T.pop rfl).sub (fun q Y=>by simp at Y⊢;rcases Y with h|h;exact .inr h;exact .inl h);obtain⟨_,bn,eg,fv⟩:=ao.pend e (by simp);clear T db ef dg;have dj:I.length≤cap:=by omega
   clear ed;generalize fx:I.length=n at b1 fs ao dj⊢;clear fx;have ej:IntKind.i64.wrap ((n:Int)+1-1)=(n:Int):=(EG (by omega) (by omega)).trans (by omega);obtain⟨gE,dk,J⟩:=e;dsimp only at b1 be bn eg fv;rcases bn with rfl|⟨ge,rfl,fY,_,_⟩
   ·go_wp2
    clear b1 dj ej ee b0;generalize Value.slice (some (aD bi 0)) n cap=v0 at ao⊢;go_loopw [27,3] (fun i v w'=>i=iN 0∧v=v0∧wr=w') (fun _ _ _=>0)
    case atStart=>exact⟨rfl,rfl,rfl⟩
    case round=>
     obtain⟨rfl,rfl,rfl⟩:=hrel;go_wp2;go_roundg (ms (I.map (·.ks)))
     case measure=>have bd:=be.out;omega
     case rel=>exact⟨I,nn _,by have bd:=be.out;omega,ao.sub (fun q Y=>by simp[Y])⟩
   go_wp2;clear b1 dj ej ee b0;generalize Value.slice (some (aD bi 0)) n cap=v0 at ao⊢;go_loopw [27,3] (fun i v wr=>∃(j:Nat) (V:List Pn),j≤J.length∧i=iN j∧Hid (V.map (·.ks)=I.map (·.ks)++(J.take j).map (fun p=>p.2.kids))∧Dv W wr S G (.mk k m u g o nh d ks) F v V (⟨some (aD ge 0),dk,J⟩::V)) (fun i _ _=>J.length-(intOf i).toNat)
   case atStart=>exact⟨0,I,nN _,rfl,by show _=_;simp,ao⟩
   case round=>
    obtain⟨j,V,gG,rfl,dm,ap⟩:=hrel;clear ao;by_cases bo:j<J.length;rotate_left
    ·have f0:decide ((j:Int)<(J.length:Int))=false:=nB (by omega)
     have ek:Hid (V.map (·.ks)=I.map (·.ks)++J.map (fun p=>p.2.kids)):=by
      have:=dm.out;rw[n1 (by omega)]at this;exact this
     go_wp2;go_roundg (ms (V.map (·.ks)))
     case measure=>
      rw[ek.out,IF];have ak:=LO J;have bd:=be.out;omega
     case rel=>
      refine⟨V,nn _,?_,ap.sub (fun q Y=>by simp[Y])⟩;rw[ek.out,IF];have ak:=LO J;have bd:=be.out;omega
    have f0:(j:Int)<(J.length:Int):=by omega
    obtain⟨⟨nm,y⟩,hx⟩:∃p,J[j]? =some p:=⟨J[j],by simp[bo]⟩;obtain⟨el,bn,_,_⟩:=ap.pend ⟨some (aD ge 0),dk,J⟩ (by simp);dsimp only at el bn;have b2:=Ka eg hx;rcases bn with dn|⟨gH,em,_,b0,en⟩
    ·rw[dn]at bo;simp at bo
    simp only[nV,rc,and_true]at em;subst em;rcases el with dn|⟨gI,gJ,eo,f,ep⟩
    ·rw[dn]at bo;simp at bo
    simp only[nV,rc]at eo;obtain⟨rfl,rfl,_⟩:=eo;obtain⟨b3,dp⟩:=ep j nm y hx;rw[nU]at b3;have eq:=hid b3;have dr:Dq wr.cell? ge (j*9) nm y (f j):=b3.on (Ci _ _)
    have ds:Hid (∀Q,Below wr.heap.size wr Q→cL 38 #[Al y (f j)] Q fun e aa=>(∃h',e=.returned (Al y h')∧Ah (Ag aa.cell? (DJ G u3 S)) y h'∧GJ Q.heap.size aa h'.ak y.kids)∧Below Q.heap.size Q aa):=
     fun Q cg=>Ry (fun k R=>by
      simp[DJ]at R;rcases R with(R|R)|R
      ·have:=ap.res.1.lt;omega
      ·exact(ap.row.lt k R.symm).2
      ·have:=e4.out k R;have:=ap.res.1.lt;omega) dp Q cg b2
    clear ep b3;generalize f j=gK at eq dr ds dp;have f1:=hid hx;clear hx;have er:DI y.kids∧y.kids.length≤1000:=by
     obtain⟨ar,ay,az,a1,a6,a7,a8,O⟩:=y;rw[Be]at b2;exact⟨b2.2.2,b2.2.1⟩
    obtain⟨ar,ay,az,a1,a6,a7,a8,O⟩:=y;obtain⟨f2,f3,f4,f5,f7,f8,f9,ga,gb⟩:=dr.nine;go_wp2_with fail
    refine(ds.out _ (nv _ _)).mono ?_;rintro cx H ⟨⟨h',rfl,es,ba⟩,ab⟩
    have eu:=(ap.below ab).more (e:=⟨h'.ak,h'.ck,O⟩) ⟨(Cq.1 es).2.2.2,by
     rcases ba with q|⟨bf,Z,cx,c3,c4⟩
     ·exact .inl q
     ·exact .inr ⟨bf,Z,by have:=ap.res.1.lt;omega,c3,c4⟩,er.1,er.2⟩
    have gg:∀j,Fz H ge j:=fun j=>(ab.frozen (p:=(aD ge j)) b0).trans (en j);have du:=eq.out.on (CN ab)
    have ev:=eu.store fY du.2 (dp.on (CN ab)) es;have dw:(CU H ge (j*9+1) (.mk ar ay az a1 a6 a7 a8 O) h').heap.size=H.heap.size:=by simp[CU]
    have bp:=ev.below ((nv _ _).alloc (nn _) (.cells #[.slice h'.ak O.length h'.ck] 52));have b4:=cell_one_new (CU H ge (j*9+1) (.mk ar ay az a1 a6 a7 a8 O) h') (.slice h'.ak O.length h'.ck) 52;rw[dw]at b4;have eB:((CU H ge (j*9+1) (.mk ar ay az a1 a6 a7 a8 O) h').alloc (.cells #[.slice h'.ak O.length h'.ck] 52)).heap.size=H.heap.size+1:=by rw[nw,dw]
    have b5:=hid eB;clear eB;have dx:=bp.row;have dy:G+2≤((CU H ge (j*9+1) (.mk ar ay az a1 a6 a7 a8 O) h').alloc (.cells #[.slice h'.ak O.length h'.ck] 52)).heap.size:=by have:=bp.res.1.lt;omega
    have gL:V.length≤2001:=by
     have ak:V.length≤ms (V.map (·.ks)):=by have:=OW (V.map (·.ks));rwa [rk]at this
     rw[dm.out,IF]at ak;have bd:=cI J j;have gM:=LO J;have gN:=be.out;omega
    obtain⟨gl,q1,q2,go,q4,q5,q6,q7,gq⟩:=(du.on (Ci _ _)).nine;have bg:Al (.mk ar ay az a1 a6 a7 a8 O) h'=(A5 ar ay az a1 a6 a7 a8 O h'):=rfl;rw[bg];obtain⟨gr,gu,gv,gw,gx⟩:=DC Tryz.infoS;clear f2 f3 f4 f5 f7 f8 f9 ga gb dr ds bg eu ev du dw;simp only[CU]at bp b4 dx dy b5;have dz:Hid _:=bp;clear bp;go_wp2_with (at_builtin;refine DZ _ rfl (.tmp 40) (.tmp 47) 87 rfl (G+2) 52 gr nL 1 24 underlying87 gu gv gw gx rfl (by decide) _ V.length (pv V) rfl dx (some (aD H.heap.size 0)) 1 1 [.slice h'.ak O.length h'.ck] rfl rfl (.inr ⟨_,rfl,b4⟩) (fun u eE=>by simp at eE;subst eE;rfl) (by unfold maxLen;omega) (by omega) dy ?_)
    intro eL e8 e0 e1 e2;have d0:eL.ownBlock=u3.ownBlock∨∃s,eL.ownBlock=some s∧H.heap.size+1≤s:=by
     rcases e2 with q|q
     ·exact .inl q
     ·exact .inr ⟨_,q,by first|exact nn _|(rw[b5.out])⟩
    rw[←b5.out]at d0
    have gy:=(dz.out.push (e:=⟨h'.ak,h'.ck,O⟩) e0 e1 d0 (dz.out.pend _ nK)).sub (Q':=⟨some (aD ge 0),dk,J⟩::(V++[⟨h'.ak,h'.ck,O⟩])) (fun q Y=>by
     rcases nY.1 Y with Z|Z
     ·rw[Z];simp
     ·rcases rd.1 Z with Z|Z
      ·simp[Z]
      ·simp at Z;rw[Z];simp)
    clear e0 e1 e2 d0 b5 dz b4 dx dy gl q1 q2 go q4 q5 q6 q7 gq gg en;go_wp2;go_roundw
    case rel=>
     refine⟨j+1,V++[⟨h'.ak,h'.ck,O⟩],by omega,by go_num,?_,gy⟩;show _=_;rw[rA,dm.out,rv,f1.out];simp[Nd.kids]
    case measure=>simp[intOf];omega
end Go.Proofs.YtofhphibahcniaaGreatDoor
namespace Go.Proofs.YtofhphibahcniaaGreatDoor
open Go.RowKit Go.Shelf Go.Proofs.Tryz
attribute [local go_sem] Oper.semAt_some
def EO(n₀:Nat)(S:Nat→Bool):Nat→Bool:=fun k=>(k==n₀||k==n₀+1+1+1+1)||S k
theorem JA{A:World}{l:Nat}{o:Obj}{S:Nat→Bool}(G:A.heap[l]? =some o)(H:o.isCells=false)(F:Obj):AR (Ag A.cell? S) (Ag (A.putObj l F).cell? S):=fun q v h=>by
 have I:=IJ h;rw[Ck I]at h⊢;exact OJ G H F _ _ h
theorem Tf{c:AH}{S S':Nat→Bool}(h:∀k,S k=false→S' k=false):AR (Ag c S) (Ag c S'):=fun q v F=>by
 have G:=IJ F;rw[Ck G]at F;rw[Ck (h _ G)];exact F
structure KJ (S:Nat→Bool) (w A:World) (xs:List Nd) (nf:List BA) (st:Loop) (i:Nat):Prop where
 low:Below w.heap.size w A
 eb:∃v,Boxed A w.heap.size 131 v∧(0<i→ES (Ag A.cell? (EO w.heap.size S)) v (AI xs (nf.take (i-1))))
 dk:A.heap[w.heap.size+1+1+1]? =some (.deferred (some []))
 lk:A.heap[w.heap.size+1+1+1+1]? =some (.loop st)
theorem KJ.keep{w A B:World}{xs:List Nd}{nf:List BA}{st:Loop}{i:Nat}{S:Nat→Bool}(h:KJ S w A xs nf st i)(hb:Below A.heap.size A B):KJ S w B xs nf st i:=by
 obtain⟨v,F,G⟩:=h.eb;refine⟨h.low.trans (hb.mono h.low.size),⟨v,Et F hb,fun H=>(G H).on (CN hb)⟩,?_,?_⟩
 ·exact(hb.block _ (nJ.1 h.dk).1).trans h.dk
 ·exact(hb.block _ (nJ.1 h.lk).1).trans h.lk
theorem Rt(w:World)(a an:Option Addr)(n cap m nj:Nat):
 Calls prog 126 #[.slice a n cap,.slice an m nj] w fun e w'=>e=.returned (.func (.func 162) #[] #[pO w.heap.size 0,pO (w.heap.size+1) 0])∧w'=(w.alloc (.cells #[.slice a n cap] 30)).alloc (.cells #[.slice an m nj] 42):=by
 go_enter func126,ntmps126;go_wp2;go_ret;exact⟨rfl,rfl⟩
theorem Ty{w:World}{S:Nat→Bool}(a1:∀k,S k=true→k<w.heap.size){a:Option Addr}{cap:Nat}{xs:List Nd}{an:Option Addr}{nj:Nat}{nf:List BA}(hx:Cn (Ag w.cell? S) a xs)(J:AW (Ag w.cell? S) an nf)(bn:xs.length≤1000)(bo:nf.length≤1000)(bp:DL (BJ xs)):
 Calls prog 75 #[.slice a xs.length cap,.slice an nf.length nj] w fun e w'=>∃v,e=.returned v∧ES (Ag w'.cell? S) v (AI xs nf)∧Below w.heap.size w w':=by
 refine(rX (n:=0)).1 ?_;refine callsIn_of_wp_marks func75 rfl trivial ?_ rfl;simp only[ntmps75,List.size_toArray,n3,nR,Nat.reduceAdd,Nat.reduceSub,r9,r8,List.push_toArray,List.append_toArray,ru,n9];gi_wp2_with fail
 refine⟨trivial,rfl,CallsIn.mono (rX.2 (Rt _ a an xs.length cap nf.length nj)) ?_⟩;rintro e I ⟨rfl,O⟩;rw[nw];have a6:Below w.heap.size w I:=by rw[O];exact(bN.alloc (by rw[nw];omega) _).alloc (by rw[nw,nw];omega) _
 have a7:I.heap.size=w.heap.size+1+1+1:=by rw[O,nw,nw,nw]
 have a8:Boxed I w.heap.size 131 nL:=by rw[O];exact((Boxed.new w _ _).alloc _).alloc _
 have ba:Boxed I (w.heap.size+1) 30 (.slice a xs.length cap):=by
  rw[O];have:=(Boxed.new (w.alloc (.cells #[nL] 131)) 30 (.slice a xs.length cap)).alloc (.cells #[.slice an nf.length nj] 42);rwa [nw]at this
 have bb:Boxed I (w.heap.size+1+1) 42 (.slice an nf.length nj):=by
  rw[O];have:=Boxed.new ((w.alloc (.cells #[nL] 131)).alloc (.cells #[.slice a xs.length cap] 30)) 42 (.slice an nf.length nj);rwa [nw,nw]at this
 clear O;gi_wp2_with fail
 refine Oa (gf:=162) (lb:=#[pO (w.heap.size+1) 0,pO (w.heap.size+1+1) 0]) rfl (enters_of func162 (by kernel_rfl) rfl) ?_;intro fn rec bs Q V bd Z aa;rw[a7]at V bd Z aa⊢;have Y:Below I.heap.size I Q:=by rw[a7];exact V
 have be:KJ S w Q xs nf (rec .ready none) 0:=⟨a6.trans (V.mono (by omega)),⟨_,Et a8 Y,fun h=>by omega⟩,aa,Z⟩;have ab:∀k,w.heap.size≤k→S k=false:=fun k F=>by
  cases hh:S k with
  |false=>rfl
  |true=>have:=a1 k hh;omega
 have bf:AR (Ag w.cell? S) (Ag Q.cell? (EO w.heap.size S)):=BN fun k F J=>⟨by simp[EO,J];omega,be.low.block k F⟩;have bu:Ag Q.cell? (EO w.heap.size S) (aD (w.heap.size+1) 0)=some (.slice a xs.length cap):=by rw[Ck (by simp[EO];exact ab _ (by show w.heap.size≤w.heap.size+1;omega))];exact(Et ba Y).cell
 have bv:Ag Q.cell? (EO w.heap.size S) (aD (w.heap.size+1+1) 0)=some (.slice an nf.length nj):=by rw[Ck (by simp[EO];exact⟨by omega,ab _ (by omega)⟩)];exact(Et bb Y).cell
 clear a6 V Y bd Z aa a8 ba bb
 refine(Qy (w.heap.size+1) (w.heap.size+1+1) a cap xs an nj nf (w.heap.size+1+1+1+1) (fun i S' A=>S'=EO w.heap.size S∧KJ S w A xs nf (rec .ready none) i) (fun _=>False) Q (EO w.heap.size S) bu bv (hx.on bf) (J.on bf) bn bo bp
  (fun i S' A h k F=>by
   rw[h.1]at F;simp[EO]at F;obtain⟨v,bx,_⟩:=h.2.eb;rcases F with(e|e)|e
   ·rw[e];exact bx.lt
   ·rw[e];exact(nJ.1 h.2.lk).1
   ·exact nH (a1 k e) h.2.low.size)
  (fun i S' A B h hb=>⟨h.1,h.2.keep hb⟩) ?rounds ⟨rfl,be⟩).mono ?after
 case rounds=>
  rintro i S' v A bG ⟨rfl,G⟩ R;have ad:Hid _:=R;obtain⟨H,vc,D,rfl,_⟩:=R;obtain⟨v0,bA,_⟩:=G.eb;have ak:=F8 bA G.lk (.loop (rec .busy none));have bH:=ak.cell;have bY:=ak.frozen;refine NJ bs G.lk rfl ?_;gi_wp2
  refine⟨G.lk,?_⟩;gi_wp2
  have bB:=(nJ.1 G.lk).1;have ao:((A.putObj (w.heap.size+1+1+1+1) (.loop (rec .busy none))).setCell (aD w.heap.size 0) (.slice H D.length vc)).heap[w.heap.size+1+1+1+1]? =some (.loop (rec .busy none)):=by
   rw[re _ _ _ _ (by show w.heap.size+1+1+1+1≠w.heap.size;omega)];exact World.putObj_heap_same bB
  have bg:∀k,EO w.heap.size S k=false→(((A.putObj (w.heap.size+1+1+1+1) (.loop (rec .busy none))).setCell (aD w.heap.size 0) (.slice H D.length vc)).putObj (w.heap.size+1+1+1+1) (.loop (rec .ready none))).heap[k]? =A.heap[k]?:=fun k F=>by
   simp[EO]at F;rw[World.putObj_heap_other F.1.2,re _ _ _ _ (by show k≠w.heap.size;exact F.1.1),World.putObj_heap_other F.1.2]
  have T:AR (Ag A.cell? (EO w.heap.size S)) (Ag (((A.putObj (w.heap.size+1+1+1+1) (.loop (rec .busy none))).setCell (aD w.heap.size 0) (.slice H D.length vc)).putObj (w.heap.size+1+1+1+1) (.loop (rec .ready none))).cell? (EO w.heap.size S)):=BN fun k _ J=>⟨J,bg k J⟩;have bC:Below w.heap.size A (((A.putObj (w.heap.size+1+1+1+1) (.loop (rec .busy none))).setCell (aD w.heap.size 0) (.slice H D.length vc)).putObj (w.heap.size+1+1+1+1) (.loop (rec .ready none))):=by
   have bi:=(Fq (l:=w.heap.size+1+1+1+1) G.low.size (by omega) (.loop (rec .busy none))).setCell (p:=(aD w.heap.size 0)) (nn _) (.slice H D.length vc);exact bi.trans (Fq (nP G.low.size bi.size) (by omega) _)
  exact⟨ao,rfl,_,⟨rfl,⟨G.low.trans bC,⟨_,F8 (ak.set _) ao _,fun _=>ES.on ad.out T⟩,(bg _ (by simp[EO];exact⟨by omega,ab _ (by omega)⟩)).trans G.dk,World.putObj_heap_same (nJ.1 ao).1⟩⟩,T⟩
 case after=>
  rintro e W2 ⟨⟨v,rfl⟩,(⟨S',rfl,h⟩|h)⟩;rotate_left
  ·exact h.elim
  refine⟨⟨_,rfl⟩,.inl ⟨h.lk,?_⟩⟩;obtain⟨v,hb,R⟩:=h.eb;have ap:=R (by omega);rw[Nat.add_sub_cancel,List.take_length]at ap;have bk:=F8 hb h.lk (.loop (rec .exhausted none));have ar:(W2.putObj (w.heap.size+1+1+1+1) (.loop (rec .exhausted none))).heap[w.heap.size+1+1+1]? =some (.deferred (some [])):=(World.putObj_heap_other (by omega)).trans h.dk;have T:=JA (S:=S) h.lk rfl (.loop (rec .exhausted none));have ay:=(ap.on (Tf (S':=S) fun k F=>by simp[EO]at F;exact F.2)).on T;have az:=h.low.trans (Fq (l:=w.heap.size+1+1+1+1) h.low.size (by omega) (.loop (rec .exhausted none)));clear T ap R hb;generalize W2.putObj (w.heap.size+1+1+1+1) (.loop (rec .exhausted none))=bl at bk ar ay az⊢;have ad:Hid _:=ay;obtain⟨H,vc,D,rfl,_⟩:=ay;have b0:=bk.cell;gi_wp2
  refine⟨by simp,.inl ⟨_,_,rfl,run_takeDeferred ar,?_⟩⟩;have bF:ES (Ag (bl.putObj (w.heap.size+1+1+1) (.deferred none)).cell? S) (.slice H D.length vc) (AI xs nf):=ES.on (c:=Ag bl.cell? S) ad.out (JA ar rfl _);exact⟨_,results_tmp rfl _ _ _,.slice H D.length vc,rfl,bF,az.trans (Fq (l:=w.heap.size+1+1+1) az.size (by omega) _)⟩
end Go.Proofs.YtofhphibahcniaaGreatDoor
namespace Go.Proofs.YtofhphibahcniaaGreatDoor
open Go.RowKit Go.Proofs.Tryz
def E0(l:List (Nd×Nat)):Prop:=∀q∈l,Be q.1
theorem ZU{x:Nd}(h:Be x):DI x.kids:=by
 obtain⟨k,m,u,g,o,nh,d,ks⟩:=x;rw[Be]at h;exact h.2.2
theorem E0.kid{l:List (Nd×Nat)}(h:E0 l)(nm:BA):E0 (Bz nm l):=fun q G=>by
 obtain⟨p,H,e⟩:=rC.1 G;obtain⟨y,F,rfl⟩:=n0.1 e;have I:=h p H;unfold Dr at F;split at F
 ·cases F
 ·obtain⟨J,O,rfl⟩:=n0.1 F
  obtain⟨n,z⟩:=J;exact Ka (ZU I) O
theorem E0.sh{l:List (Nd×Nat)}(h:E0 l):E0 (Bq l):=fun q F=>h q (H5 l q F)
theorem Nf{xs:List Nd}(h:E0 (BJ xs)):∀nf:List BA,E0 (AI xs nf):=by
 intro nf;unfold AI;generalize F:Bq (BJ xs)=l;have G:E0 l:=by rw[←F];exact h.sh
 clear F;induction nf generalizing l with
 |nil=>exact G
 |cons n r H=>rw[rK];exact H _ (G.kid n).sh
theorem QY{w:World}{b c i:Nat}(F:c≠b)(u0 u1 u2 u3 u4 u5 u6 u7:Value):((((((((w.setCell (aD b 0) u0).setCell (aD b 1) u1).setCell (aD b 2) u2).setCell (aD b 3) u3).setCell (aD b 4) u4).setCell (aD b 5) u5).setCell (aD b 6) u6).setCell (aD b 7) u7).cell? (aD c i)=w.cell? (aD c i):=by
 have e:∀(v:World) (j:Nat) (u:Value),(v.setCell (aD b j) u).cell? (aD c i)=v.cell? (aD c i):=fun v j u=>nA _ _ _ _ (fun e=>F (by cases e;rfl));rw[e,e,e,e,e,e,e,e]
structure CO where
 ua:Option Addr
 ga:Option Addr
 uc:Nat
 gc:Nat
 us:List Rg
 gs:List Rg
def CO.v(M:CO):Value:=.agg #[.slice M.ua M.us.length M.uc,.slice M.ga M.gs.length M.gc]
structure Ek (W:World) (M:CO):Prop where
 u:Rgs W M.ua M.us
 g:Rgs W M.ga M.gs
 ul:M.us.length≤100
 gl:M.gs.length≤100
 cu:M.us.length≤M.uc
 cg:M.gs.length≤M.gc
 ou:∀r∈M.us,r.ok
 og:∀r∈M.gs,r.ok
theorem Ek.below{W F:World}{M:CO}(h:Ek W M)(hb:Below W.heap.size W F):Ek F M:=⟨h.u.below hb,h.g.below hb,h.ul,h.gl,h.cu,h.cg,h.ou,h.og⟩
def Ez:Nd→Prop
 |.mk _ _ u g _ _ _ _=>A2 u∧A2 g
theorem J3(v:Int):Gn (some v)=.tuple #[.int .i64 v,.bool true]:=rfl
theorem J5:Gn none=.tuple #[.int .i64 0,.bool false]:=rfl
theorem eI{c:AH}{k m u g F G:Int}{o:Bool}{nh:List Kv}{d:BA}{ks:Ar}{h:Hd}(H:Ah c (.mk k m u g o nh d ks) h):Ah c (.mk k m F G o nh d ks) h:=Cq.2 (Cq.1 H)
theorem cY{k m u g F G:Int}{o:Bool}{nh:List Kv}{d:BA}{ks:Ar}(h:Be (.mk k m u g o nh d ks)):Be (.mk k m F G o nh d ks):=by rw[Be]at h⊢;exact h
theorem cF{k m u g F G:Int}{o:Bool}{nh:List Kv}{d:BA}{ks:Ar}:cnt (.mk k m F G o nh d ks)=cnt (.mk k m u g o nh d ks):=by rw[cnt,cnt]
theorem Av.ids{w:World}{b:Nat}{k m u g:Int}{o:Bool}{nh:List Kv}{d:BA}{ks:Ar}{h:Hd}(H:Av w b (.mk k m u g o nh d ks) h)(F G:Int):Av ((w.setCell ⟨b,2,none⟩ (.int .i64 F)).setCell ⟨b,3,none⟩ (.int .i64 G)) b (.mk k m F G o nh d ks) h:=by
 obtain⟨⟨I,J,O,Q,R,T,V,Y⟩,Z⟩:=H;refine⟨⟨?_,?_,?_,?_,?_,?_,?_,?_⟩,fun j=>?_⟩;all_goals first|(simp[go_sem,I,J,O,Q,R,T,V,Y];done)|(simp[go_sem,Z j];done)
theorem P8(W A B C:World)(G H:Option Addr)(I J uc gc:Nat)(k m u g:Int)(o:Bool)(nh:List Kv)(d:BA)(ks:Ar)(h:Hd)
 (F:A=W.alloc (.cells #[.slice G I uc,.slice H J gc] 24)) (O:B=A.alloc (.cells #[.int .i64 k,.int .i64 m,.int .i64 u,.int .i64 g,.bool o,.slice h.aa nh.length h.ca,.string d,.slice h.ak ks.length h.ck] 54)) (Q:C=B.alloc (.cells #[.int .i64 0,.int .i64 0,.int .i64 0,.int .i64 0,.bool false,.slice none 0 0,.string ⟨#[]⟩,.slice none 0 0] 54)):
 C.cell? ⟨W.heap.size,0,none⟩=some (.slice G I uc)∧C.cell? ⟨W.heap.size,1,none⟩=some (.slice H J gc)∧Av C (W.heap.size+1) (.mk k m u g o nh d ks) h∧Av C (W.heap.size+1+1) zN zH∧Below W.heap.size W C∧C.heap.size=W.heap.size+1+1+1:=by
 have T:A.heap.size=W.heap.size+1:=by rw[F,nw]
 have V:B.heap.size=W.heap.size+1+1:=by rw[O,nw,T]
 have ak:C.heap.size=W.heap.size+1+1+1:=by rw[Q,nw,V]
 have Y:Below W.heap.size W A:=by rw[F];exact(nv _ _).alloc (nn _) _
 have Z:Below A.heap.size A B:=by rw[O];exact(nv _ _).alloc (nn _) _
 have R:Below B.heap.size B C:=by rw[Q];exact(nv _ _).alloc (nn _) _
 have c0:A.cell? ⟨W.heap.size,0,none⟩=some (.slice G I uc):=by rw[F];exact nl _ _ _ _ rfl
 have c1:A.cell? ⟨W.heap.size,1,none⟩=some (.slice H J gc):=by rw[F];exact nl _ _ _ _ rfl
 have aa:AR A.cell? C.cell?:=(Aj Z).trans (Aj R);have ab:=Av.new A k m u g o nh d ks h;rw[←O,T]at ab;have ad:=Av.zero B;rw[←Q,V]at ad;exact⟨aa _ _ c0,aa _ _ c1,ab.below R,ad,(Y.trans (Z.mono Y.size)).trans (R.mono (by omega)),ak⟩
def fW(F G:Option Int)(k m:Int)(o:Bool)(nh:List Kv)(d:BA)(ks:Ar):Option Nd:=match F,G with
 |some H,some g'=>some (.mk k m H g' o nh d ks)
 |_,_=>none
def Jh(W F:World)(S:Nat→Bool)(e:Ending):Option Nd→Prop
 |none=>e=.returned (.tuple #[Al zN zH,.iface 78 (.int .i64 11)])∧Below W.heap.size W F
 |some y=>(∃h',e=.returned (.tuple #[Al y h',.nilIface])∧Ah (Ag F.cell? S) y h')∧Below W.heap.size W F
theorem X8{W:World}{S:Nat→Bool}(c3:∀k,S k=true→k<W.heap.size){x:Nd}{h:Hd}(c4:Ah (Ag W.cell? S) x h)(c5:Be x)(c6:cnt x≤1000)(hid:Ez x){M:CO}(c8:Ek W M):
 Calls prog 64 #[M.v,Al x h,.func (.func 65) #[] #[]] W fun e c9=>Jh W c9 S e (Bm true M.us M.gs x):=by
 obtain⟨k,m,u,g,o,nh,d,ks⟩:=x;obtain⟨bn,bo,uc,gc,us,gs⟩:=M;obtain⟨bu,bv,bx,bA,bB,bC,bF,bG⟩:=c8;dsimp only at bu bv bx bA bB bC bF bG;obtain⟨da,db⟩:=hid;obtain⟨bp,b5⟩:∃bp,Hid (F6 us u=bp):=⟨_,rfl⟩;obtain⟨bi,b6⟩:∃bi,Hid (F6 gs g=bi):=⟨_,rfl⟩;have b7:Hid (Bm true us gs (.mk k m u g o nh d ks)=fW bp bi k m o nh d ks):=by show _=_;rw[←b5.out,←b6.out];rfl
 rw[b7.out];clear b7;obtain⟨c0,c1,J,RB,O,dd⟩:=P8 W _ _ _ bn bo us.length gs.length uc gc k m u g o nh d ks h rfl rfl rfl;have bH:Hid _:=M7 bn uc us u (((W.alloc (.cells #[.slice bn us.length uc,.slice bo gs.length gc] 24)).alloc (.cells #[.int .i64 k,.int .i64 m,.int .i64 u,.int .i64 g,.bool o,.slice h.aa nh.length h.ca,.string d,.slice h.ak ks.length h.ck] 54)).alloc (.cells #[.int .i64 0,.int .i64 0,.int .i64 0,.int .i64 0,.bool false,.slice none 0 0,.string ⟨#[]⟩,.slice none 0 0] 54)) bx bB bF da (bu.below O);rw[b5.out]at bH;obtain⟨Q,R,T,V,Y,Z,f6,aa⟩:=J.1;show Calls prog 64 #[.agg #[.slice bn us.length uc,.slice bo gs.length gc],.agg #[.int .i64 k,.int .i64 m,.int .i64 u,.int .i64 g,.bool o,.slice h.aa nh.length h.ca,.string d,.slice h.ak ks.length h.ck],.func (.func 65) #[] #[]] W _;go_enter func64,ntmps64;go_wp2_with fail
 refine np bH.out ?_;rintro e b9 ⟨rfl,bf⟩;have az:=O.trans (bf.mono O.size);have J:=J.below bf;have RB:=RB.below bf;have c1:=Aj bf _ _ c1;have bk:Hid _:=M7 bo gc gs g b9 bA bC bG db (bv.below az);rw[b6.out]at bk;have dj:W.heap.size+1+1+1≤b9.heap.size:=by have:=bf.size;omega
 clear Q R T V Y Z f6 aa c0 bH O bf bu bv bx bA bB bC bF bG dd;obtain⟨Q,R,T,V,Y,Z,f6,aa⟩:=J.1;cases bp with
 |none=>
  rw[J5];go_wp2_with fail
  refine np bk.out ?_;rintro e G ⟨rfl,ak⟩;have ao:=az.trans (ak.mono az.size);have J:=J.below ak;have RB:=RB.below ak;clear Q R T V Y Z f6 aa c1 bk az;cases bi with
  |none=>
   rw[J5];obtain⟨⟨Q,R,T,V,Y,Z,f6,aa⟩,F⟩:=RB;have z0:=F 0;have bY:=F 1;have b0:=F 2;have z3:=F 3;have z4:=F 4;have z5:=F 5;have b1:=F 6;have b2:=F 7;have ap:=Av.store (w:=G) (b:=(W.heap.size+1+1)) (y:=zN) (h':=zH) ⟨⟨Q,R,T,V,Y,Z,f6,aa⟩,F⟩ zN zH;have O:Below W.heap.size W (Au G (W.heap.size+1+1) zN zH):=ao.trans (Cz.below (by omega) ao.size);go_wp2;obtain⟨ar,ay⟩:∃ar,Hid (Au G (W.heap.size+1+1) zN zH=ar):=⟨_,rfl⟩;rw[ay.out]at ap O;have ab:=ay.out;simp only[Au,zN,zH]at ab;simp only[nR]at ab;rw[ab];obtain⟨a1,a6,a7,a8,ba,bb,bd,be⟩:=ap.1;refine nG (v:=.tuple #[Al zN zH,.iface 78 (.int .i64 11)]) (by simp[results,results64,go_sem,Al,zN,zH,a1,a6,a7,a8,ba,bb,bd,be]) rfl ⟨rfl,O⟩
  |some H=>
   rw[J3];obtain⟨⟨Q,R,T,V,Y,Z,f6,aa⟩,F⟩:=RB;have z0:=F 0;have bY:=F 1;have b0:=F 2;have z3:=F 3;have z4:=F 4;have z5:=F 5;have b1:=F 6;have b2:=F 7;have ap:=Av.store (w:=G) (b:=(W.heap.size+1+1)) (y:=zN) (h':=zH) ⟨⟨Q,R,T,V,Y,Z,f6,aa⟩,F⟩ zN zH;have O:Below W.heap.size W (Au G (W.heap.size+1+1) zN zH):=ao.trans (Cz.below (by omega) ao.size);go_wp2;obtain⟨ar,ay⟩:∃ar,Hid (Au G (W.heap.size+1+1) zN zH=ar):=⟨_,rfl⟩;rw[ay.out]at ap O;have ab:=ay.out;simp only[Au,zN,zH]at ab;simp only[nR]at ab;rw[ab];obtain⟨a1,a6,a7,a8,ba,bb,bd,be⟩:=ap.1;refine nG (v:=.tuple #[Al zN zH,.iface 78 (.int .i64 11)]) (by simp[results,results64,go_sem,Al,zN,zH,a1,a6,a7,a8,ba,bb,bd,be]) rfl ⟨rfl,O⟩
 |some I=>
  rw[J3];go_wp2_with fail
  refine np bk.out ?_;rintro e G ⟨rfl,ak⟩;have ao:=az.trans (ak.mono az.size);have J:=J.below ak;have RB:=RB.below ak;clear Q R T V Y Z f6 aa c1 bk az;cases bi with
  |none=>
   rw[J5];obtain⟨⟨Q,R,T,V,Y,Z,f6,aa⟩,F⟩:=RB;have z0:=F 0;have bY:=F 1;have b0:=F 2;have z3:=F 3;have z4:=F 4;have z5:=F 5;have b1:=F 6;have b2:=F 7;have ap:=Av.store (w:=G) (b:=(W.heap.size+1+1)) (y:=zN) (h':=zH) ⟨⟨Q,R,T,V,Y,Z,f6,aa⟩,F⟩ zN zH;have O:Below W.heap.size W (Au G (W.heap.size+1+1) zN zH):=ao.trans (Cz.below (by omega) ao.size);go_wp2;obtain⟨ar,ay⟩:∃ar,Hid (Au G (W.heap.size+1+1) zN zH=ar):=⟨_,rfl⟩;rw[ay.out]at ap O;have ab:=ay.out;simp only[Au,zN,zH]at ab;simp only[nR]at ab;rw[ab];obtain⟨a1,a6,a7,a8,ba,bb,bd,be⟩:=ap.1;refine nG (v:=.tuple #[Al zN zH,.iface 78 (.int .i64 11)]) (by simp[results,results64,go_sem,Al,zN,zH,a1,a6,a7,a8,ba,bb,bd,be]) rfl ⟨rfl,O⟩
  |some H=>
   rw[J3];have bs:Below W.heap.size W ((G.setCell ⟨(W.heap.size+1),2,none⟩ (.int .i64 I)).setCell ⟨(W.heap.size+1),3,none⟩ (.int .i64 H)):=(ao.setCell (p:=⟨(W.heap.size+1),2,none⟩) (by show W.heap.size≤W.heap.size+1;omega) _).setCell (p:=⟨(W.heap.size+1),3,none⟩) (by show W.heap.size≤W.heap.size+1;omega) _;have de:=J.ids I H;have cb:Av ((G.setCell ⟨(W.heap.size+1),2,none⟩ (.int .i64 I)).setCell ⟨(W.heap.size+1),3,none⟩ (.int .i64 H)) (W.heap.size+1+1) zN zH:=(RB.other (by show W.heap.size+1≠W.heap.size+1+1;omega) _).other (by show W.heap.size+1≠W.heap.size+1+1;omega) _;have cd:((G.setCell ⟨(W.heap.size+1),2,none⟩ (.int .i64 I)).setCell ⟨(W.heap.size+1),3,none⟩ (.int .i64 H)).heap.size=G.heap.size:=by simp
   have cf:Hid _:=ka (W:=((G.setCell ⟨(W.heap.size+1),2,none⟩ (.int .i64 I)).setCell ⟨(W.heap.size+1),3,none⟩ (.int .i64 H))) (S:=(fun k=>k==W.heap.size||k==W.heap.size+1||k==W.heap.size+1+1||S k)) (x:=(.mk k m I H o nh d ks)) (h:=h) (fun q bg=>by
    rw[cd];have dk:=ak.size;simp at bg;rcases bg with((e|e)|e)|e
    ·omega
    ·omega
    ·omega
    ·have:=c3 q e;omega) ((eI c4).on (BN fun q bg bl=>⟨by simp[bl];omega,bs.block q bg⟩)) (cY c5) (by rw[cF (u:=u) (g:=g)];exact c6)
   have dg:=J.2 2;have g1:=J.2 3;obtain⟨Q,R,T,V,Y,Z,f6,aa⟩:=J.1;go_wp2_with fail
   refine np cf.out ?_;rintro e b3 ⟨⟨hx,rfl,cg⟩,b4⟩;have ad:=cb.below b4;have ch:=bs.trans (b4.mono bs.size);have cl:=ad.store (.mk k m I H o nh d ks) hx;have co:Below W.heap.size W (Au b3 (W.heap.size+1+1) (.mk k m I H o nh d ks) hx):=ch.trans (Cz.below (by omega) ch.size)
   have cp:Hid (Ah (Ag (Au b3 (W.heap.size+1+1) (.mk k m I H o nh d ks) hx).cell? S) (.mk k m I H o nh d ks) hx):=cg.on (BN fun q bg bl=>by
    simp at bl;exact⟨bl.2,Cz.block q bg bl.1.2⟩)
   clear Q R T V Y Z f6 aa dg g1 cf J de RB cb cg b4 bs ak ao cd;have z0:=ad.2 0;have bY:=ad.2 1;have b0:=ad.2 2;have z3:=ad.2 3;have z4:=ad.2 4;have z5:=ad.2 5;have b1:=ad.2 6;have b2:=ad.2 7;obtain⟨Q,R,T,V,Y,Z,f6,aa⟩:=ad.1;rw[show Al (.mk k m I H o nh d ks) hx=.agg #[.int .i64 k,.int .i64 m,.int .i64 I,.int .i64 H,.bool o,.slice hx.aa nh.length hx.ca,.string d,.slice hx.ak ks.length hx.ck]from rfl];go_wp2;obtain⟨cr,cu⟩:∃cr,Hid (Au b3 (W.heap.size+1+1) (.mk k m I H o nh d ks) hx=cr):=⟨_,rfl⟩;rw[cu.out]at cl co cp;have cx:=cu.out;simp only[Au]at cx;rw[cx];obtain⟨a1,a6,a7,a8,ba,bb,bd,be⟩:=cl.1;refine nG (v:=.tuple #[Al (.mk k m I H o nh d ks) hx,.nilIface]) (by simp[results,results64,go_sem,Al,a1,a6,a7,a8,ba,bb,bd,be]) rfl ⟨⟨hx,rfl,cp.out⟩,co⟩
theorem Jn{W:World}{S:Nat→Bool}(bC:∀k,S k=true→k<W.heap.size){x:Nd}{h:Hd}(bd:Ah (Ag W.cell? S) x h)(be:Be x)(bf:cnt x≤1000)(hid:Ez x){M:CO}(bg:Ek W M):
 Calls prog 37 #[M.v,Al x h] W fun e ao=>Jh W ao S e (Bm true M.us M.gs x):=by
 obtain⟨bi,ap⟩:=AQ (Bm true M.us M.gs x);rw[ap.out];obtain⟨k,m,u,g,o,nh,d,ks⟩:=x;obtain⟨H,I,uc,gc,us,gs⟩:=M;obtain⟨c0,c1,bk,RB,F,bF⟩:=P8 W _ _ _ H I us.length gs.length uc gc k m u g o nh d ks h rfl rfl rfl;have bl:Hid (cL 64 #[.agg #[.slice H us.length uc,.slice I gs.length gc],(A5 k m u g o nh d ks h),.func (.func 65) #[] #[]] (((W.alloc (.cells #[.slice H us.length uc,.slice I gs.length gc] 24)).alloc (As k m u g o nh d ks h)).alloc AJ) fun e ao=>Jh (((W.alloc (.cells #[.slice H us.length uc,.slice I gs.length gc] 24)).alloc (As k m u g o nh d ks h)).alloc AJ) ao (fun k=>k==W.heap.size+1+1||S k) e bi):=by
  have:=X8 (W:=(((W.alloc (.cells #[.slice H us.length uc,.slice I gs.length gc] 24)).alloc (As k m u g o nh d ks h)).alloc AJ)) (S:=fun k=>k==W.heap.size+1+1||S k) (M:=⟨H,I,uc,gc,us,gs⟩) (h:=h) (fun q O=>by
   rw[bF];simp at O;rcases O with e|e
   ·omega
   ·have:=bC q e;omega) (bd.on (BN fun q O T=>⟨by simp[T];omega,F.block q O⟩)) be bf hid (bg.below F)
  rw[ap.out]at this;exact this
 obtain⟨V,Y,Z,aa,ab,ad,f6,ak⟩:=bk.1;show cL 37 #[.agg #[.slice H us.length uc,.slice I gs.length gc],(A5 k m u g o nh d ks h)] W _;clear bg ap bd be bf hid;go_enter func37,ntmps37;go_wp2_with fail
 refine np bl.out ?_;intro e Q bn;clear V Y Z aa ab ad f6 ak c0 c1 bl bk;cases bi with
 |none=>
  obtain⟨rfl,J⟩:=bn;have RB:=RB.below J;have R:=F.trans (J.mono F.size);rw[show Al zN zH=.agg #[iN 0,iN 0,iN 0,iN 0,.bool false,nL,.string ⟨#[]⟩,nL]from rfl];clear J F;obtain⟨⟨V,Y,Z,aa,ab,ad,f6,ak⟩,G⟩:=RB;have z0:=G 0;have bG:=G 1;have bH:=G 2;have z3:=G 3;have z4:=G 4;have z5:=G 5;have bY:=G 6;have b0:=G 7;have bo:=Av.store (w:=Q) (b:=(W.heap.size+1+1)) (y:=zN) (h':=zH) ⟨⟨V,Y,Z,aa,ab,ad,f6,ak⟩,G⟩ zN zH;have F:Below W.heap.size W (Au Q (W.heap.size+1+1) zN zH):=R.trans (Cz.below (by omega) R.size);go_wp2;obtain⟨b1,bp⟩:=AQ (Au Q (W.heap.size+1+1) zN zH);rw[bp.out]at bo F;have ar:=bp.out;simp only[Au,zN,zH]at ar;simp only[nR]at ar;rw[ar];obtain⟨ay,az,a1,a6,a7,a8,ba,bb⟩:=bo.1;refine nG (v:=.tuple #[Al zN zH,.iface 78 (iN 11)]) (by simp[results,results37,go_sem,Al,zN,zH,ay,az,a1,a6,a7,a8,ba,bb]) rfl ⟨rfl,F⟩
 |some y=>
  obtain⟨⟨hx,rfl,bs⟩,J⟩:=bn;obtain⟨k,m,u,g,o,nh,d,ks⟩:=y;have RB:=RB.below J;have R:=F.trans (J.mono F.size);have bu:=RB.store (.mk k m u g o nh d ks) hx;have bv:Below W.heap.size W (Au Q (W.heap.size+1+1) (.mk k m u g o nh d ks) hx):=R.trans (Cz.below (by omega) R.size)
  have bx:Hid (Ah (Ag (Au Q (W.heap.size+1+1) (.mk k m u g o nh d ks) hx).cell? S) (.mk k m u g o nh d ks) hx):=bs.on (BN fun q O T=>by
   simp at T;exact⟨T.2,Cz.block q O T.1⟩)
  clear bs J F R;have z0:=RB.2 0;have bG:=RB.2 1;have bH:=RB.2 2;have z3:=RB.2 3;have z4:=RB.2 4;have z5:=RB.2 5;have bY:=RB.2 6;have b0:=RB.2 7;obtain⟨V,Y,Z,aa,ab,ad,f6,ak⟩:=RB.1;rw[show Al (.mk k m u g o nh d ks) hx=(A5 k m u g o nh d ks hx)from rfl];go_wp2;obtain⟨b2,bA⟩:=AQ (Au Q (W.heap.size+1+1) (.mk k m u g o nh d ks) hx);rw[bA.out]at bu bv bx;have bB:=bA.out;simp only[Au]at bB;rw[bB];obtain⟨ay,az,a1,a6,a7,a8,ba,bb⟩:=bu.1;refine nG (v:=.tuple #[Al (.mk k m u g o nh d ks) hx,.nilIface]) (by simp[results,results37,go_sem,Al,ay,az,a1,a6,a7,a8,ba,bb]) rfl ⟨⟨hx,rfl,bx.out⟩,bv⟩
end Go.Proofs.YtofhphibahcniaaGreatDoor
