/-
  TopOwned: Wo Wp Mh Fa Fc Nc Ka Abc.
-/
import Derived.Test.YtgppjbhaimmlpaaGreatDoorApX
import Derived.Test.YtgppjbhaimmlpaaGreatDoorMaX
import Derived.Test.YtgppjbhaimmlpaaGreatDoorMcX
import Derived.Deep.RegionHeld3
set_option maxRecDepth 100000
set_option maxHeartbeats 16000000
namespace Go.Proofs.YtgppjbhaimmlpaaGreatDoor
open Go.RowKit Go.Proofs.Tryz
theorem Zk(L:BU)(k:Nat):BH (L.take k)=(BH L).take (k*9):=by
 by_cases F:k≤L.length
 ·have h:=KD (L.take k) (L.drop k)
  rw[ry]at h;have G:(BH (L.take k)).length=k*9:=by rw[Hl,rF,Nat.min_eq_left F]
  conv=>rhs;rw[h,←G,List.take_left]
 ·have H:L.take k=L:=n1 (by omega)
  have I:(BH L).take (k*9)=BH L:=n1 (by rw[Hl];omega);rw[H,I]
theorem Za(L:BU)(k:Nat):BH (L.drop k)=(BH L).drop (k*9):=by
 by_cases F:k≤L.length
 ·have h:=KD (L.take k) (L.drop k)
  rw[ry]at h;have G:(BH (L.take k)).length=k*9:=by rw[Hl,rF,Nat.min_eq_left F]
  conv=>rhs;rw[h,←G,List.drop_left]
 ·have H:L.drop k=[]:=n7 (by omega)
  have I:(BH L).drop (k*9)=[]:=n7 (by rw[Hl];omega);rw[H,I];rfl
theorem Cu.take{c:AJ}{a:Option Addr}{L:BU}(h:Cu c a L)(k:Nat):Cu c a (L.take k):=by
 obtain⟨G,H⟩:=h;refine⟨?_,fun e I=>H e (List.mem_of_mem_take I)⟩;rcases G with rfl|⟨b,J,O,Q⟩
 ·exact .inl (by simp)
 ·refine .inr ⟨b,J,O,fun j u F=>Q j u ?_⟩
  rw[Zk,rL]at F;split at F
  ·exact F
  ·cases F
theorem Cu.drop{c:AJ}{a:Option Addr}{L:BU}(h:Cu c a L)(k:Nat):Cu c (a.map (·.add (k*9))) (L.drop k):=by
 obtain⟨G,H⟩:=h;refine⟨?_,fun e I=>H e (List.mem_of_mem_drop I)⟩;rcases G with rfl|⟨b,J,rfl,O⟩
 ·exact .inl (by simp)
 ·refine .inr ⟨b,J+k*9,by simp[DV],fun j u F=>?_⟩
  rw[Za,rM]at F;have:=O _ u F;rw[←Nat.add_assoc]at this;exact this
theorem Cu.none{c:AJ}{a:Option Addr}{L:BU}(h:L.length=0):Cu c a L:=by
 have:=nW h;subst this;exact⟨.inl rfl,fun e F=>by cases F⟩
def EJ(m:BA)(x:Nd)(h:Hd)(L:BU):BU:=
 if Bl m (bare L) 0<0 then L.take (DY m (bare L))++([(m,x,h)]++L.drop (DY m (bare L)))else L.take (Bl m (bare L) 0).toNat++([(m,x,h)]++L.drop ((Bl m (bare L) 0).toNat+1))
def Fk(m:BA)(L:BU):BU:=L.take (Bl m (bare L) 0).toNat++L.drop ((Bl m (bare L) 0).toNat+1)
theorem ZA(m:BA)(x:Nd)(h:Hd)(L:BU):bare (EJ m x h L)=Ko m x (bare L):=by
 unfold EJ Ko;split<;>simp[bare]
theorem Y9(m:BA)(L:BU):bare (Fk m L)=Km m (bare L):=by
 unfold Fk Km;rw[Wc,Xr,XU]
theorem Z8{m:BA}{x:Nd}{h:Hd}{L:BU}{e:BA×Nd×Hd}(F:e∈EJ m x h L):e=(m,x,h)∨e∈L:=by
 unfold EJ at F;split at F
 all_goals
  rcases rd.1 F with q|q
  ·exact .inr (List.mem_of_mem_take q)
  ·rcases rd.1 q with q|q
   ·exact .inl (by simpa using q)
   ·exact .inr (List.mem_of_mem_drop q)
theorem aQ{m:BA}{L:BU}{e:BA×Nd×Hd}(F:e∈Fk m L):e∈L:=by
 unfold Fk at F;rcases rd.1 F with q|q
 ·exact List.mem_of_mem_take q
 ·exact List.mem_of_mem_drop q
theorem aZ(m:BA)(x:Nd)(h:Hd)(L:BU):(EJ m x h L).length≤L.length+1:=by
 unfold EJ;split<;>simp<;>omega
theorem av(m:BA)(L:BU):(Fk m L).length≤L.length:=by
 unfold Fk;simp;omega
def Ed(c:Option (Nd×Hd))(m:BA)(L:BU):Except Int BU:=match c with
 |some p=>if AQ m=false then .error 4 else .ok (EJ m p.1 p.2 L)
 |none=>if Bl m (bare L) 0<0 then .error 5 else .ok (Fk m L)
theorem RJ(c:Option (Nd×Hd))(m:BA)(L:BU):FM (c.map (·.1)) m (bare L)=match Ed c m L with|.error f=>.error f|.ok M=>.ok (bare M):=by
 cases c with
 |none=>simp only[FM,Ed,Option.map];split<;>simp[Y9]
 |some p=>simp only[FM,Ed,Option.map];split<;>simp[ZA]
def U7(c:Option (Nd×Hd))(m:BA)(L:BU)(w w':World)(e:Ending):Prop:=
 ((∃f,Ed c m L=.error f∧f≠0∧e=.returned (.tuple #[.slice none 0 0,.iface 74 (.int .i64 f)]))∨∃M v,Ed c m L=.ok M∧e=.returned (.tuple #[v,.nilIface])∧w'.ownsRow w.heap.size 73 9 v M.length (BH M))∧Below w.heap.size w w'
theorem YV(G:Nat)(A B C:Pt)(L:BU)(w:World)(I:L=A.l++(B.l++C.l))(J:L.length≤1000)
 (O:w.cell? (aD G 0)=some (.slice A.a A.l.length A.c)) (Q:w.cell? (aD G 1)=some (.slice B.a B.l.length B.c)) (R:w.cell? (aD G 2)=some (.slice C.a C.l.length C.c))
 (T:Cu w.cell? A.a A.l) (V:Cu w.cell? B.a B.l) (Y:Cu w.cell? C.a C.l):
 Calls prog 163 #[sL G 0 3 3] w fun e w'=>(∃v,e=.returned v∧w'.ownsRow w.heap.size 73 9 v L.length (BH L))∧Below w.heap.size w w':=by
 have H:C9 [A,B,C]=L:=by rw[I];simp[C9]
 have:=PA G 3 [A,B,C] w (by simp) (by rw[H];exact J) (by
  intro i p F;match i with
  |0=>simp at F;subst F;exact⟨O,T⟩
  |1=>simp at F;subst F;exact⟨Q,V⟩
  |2=>simp at F;subst F;exact⟨R,Y⟩
  |j+3=>simp at F)
 rw[H]at this;exact this
theorem Yu(G:Nat)(A B:Pt)(L:BU)(w:World)(I:L=A.l++B.l)(J:L.length≤1000)
 (O:w.cell? (aD G 0)=some (.slice A.a A.l.length A.c)) (Q:w.cell? (aD G 1)=some (.slice B.a B.l.length B.c))
 (R:Cu w.cell? A.a A.l) (T:Cu w.cell? B.a B.l):
 Calls prog 163 #[sL G 0 2 2] w fun e w'=>(∃v,e=.returned v∧w'.ownsRow w.heap.size 73 9 v L.length (BH L))∧Below w.heap.size w w':=by
 have H:C9 [A,B]=L:=by rw[I];simp[C9]
 have:=PA G 2 [A,B] w (by simp) (by rw[H];exact J) (by
  intro i p F;match i with
  |0=>simp at F;subst F;exact⟨O,R⟩
  |1=>simp at F;subst F;exact⟨Q,T⟩
  |j+2=>simp at F)
 rw[H]at this;exact this
theorem Ys(a:Option Addr)(cap:Nat)(L:BU)(m:BA)(w:World)(ap:L.length≤1000)(ba:L.length≤cap)(bb:cap≤9223372036854775807)(h:Cu w.cell? a L):
 Calls prog 162 #[.slice a L.length cap,.string m] w fun e w'=>U7 none m L w w' e:=by
 have T:=fun W (Q:Cu W.cell? a L)=>JT a cap (bare L) m W (by rw[ER];exact ap) (IB Q);rw[ER]at T
 have R:=hid T;clear T;have az:=Hw m (bare L) 0;rcases az with⟨V,_⟩|⟨p,x,H,hx,_⟩
 ·have Y:Hid (Bl m (bare L) 0=-1):=V
  have Z:Hid (Ed none m L=.error 5):=by show _=_;simp[Ed,V]
  clear V;go_enter func162,ntmps162;go_wp2_with fail
  refine nn (R.out _ h) ?_;rintro e F ⟨rfl,I⟩;rw[Y.out];clear R;go_wp2;go_ret2;exact⟨.inl ⟨5,Z.out,by decide,rfl⟩,I⟩
 ·rw[nT]at H
  have bd:p<L.length:=by have:=(nw.1 hx).1;rwa [ER]at this
  have Y:=hid H;have ab:Hid (Fk m L=L.take p++L.drop (p+1)):=by show _=_;unfold Fk;rw[H];rfl
  have Z:Hid (Ed none m L=.ok (Fk m L)):=by
   show _=_;simp only[Ed];rw[H,nB (by omega)]
  have ad:Hid ((Fk m L).length≤1000):=by have:=av m L;show _≤_;omega
  clear H hx;have be:(0:Int)≤(p:Int):=by omega
  have bf:(p:Int)≤(L.length:Int):=by omega
  have bg:(p:Int)≤(cap:Int):=by omega
  have bi:(p:Int)+1≤(L.length:Int):=by omega
  have bk:(0:Int)≤(p:Int)+1:=by omega
  have bl:IntKind.i64.wrap ((p:Int)+1)=(p:Int)+1:=Ez (by omega) (by omega);have ak:(L.take p).length=p:=by simp;omega
  have ao:Hid (∀(W:World) (J:Nat),Cu W.cell? a L→Ce W J 0 (.slice a p cap)→Ce W J 1 (.slice (if cap=p+1 then a else a.map (·.add ((p+1)*9))) (L.length-(p+1)) (cap-(p+1)))→cL 163 #[sL J 0 2 2] W fun e w'=>(∃v,e=.returned v∧w'.ownsRow W.heap.size 73 9 v (Fk m L).length (BH (Fk m L)))∧Below W.heap.size W w'):=by
   intro W J Q a1 a6;have O:Cu W.cell? (if cap=p+1 then a else a.map (·.add ((p+1)*9))) (L.drop (p+1)):=by
    split
    ·exact Cu.none (by simp;omega)
    ·exact Q.drop (p+1)
   exact Yu J ⟨a,cap,L.take p⟩ ⟨if cap=p+1 then a else a.map (·.add ((p+1)*9)),cap-(p+1),L.drop (p+1)⟩ (Fk m L) W ab.out ad.out (by rw[ak];exact a1) (by rw[show(L.drop (p+1)).length=L.length-(p+1) by simp];exact a6) (Q.take p) O
  clear ak ab ad;go_enter func162,ntmps162;go_wp2_with fail
  refine nn (R.out _ h) ?_;rintro e F ⟨rfl,I⟩;rw[Y.out];clear R;have c0:Ce (F.drew.alloc (.cells #[.slice a p cap,.slice (if cap=p+1 then a else a.map (·.add ((p+1)*9))) (L.length-(p+1)) (cap-(p+1))] 48)) F.heap.size 0 (.slice a p cap):=aC;have c1:Ce (F.drew.alloc (.cells #[.slice a p cap,.slice (if cap=p+1 then a else a.map (·.add ((p+1)*9))) (L.length-(p+1)) (cap-(p+1))] 48)) F.heap.size 1 (.slice (if cap=p+1 then a else a.map (·.add ((p+1)*9))) (L.length-(p+1)) (cap-(p+1))):=aC;have G:Below w.heap.size w (F.drew.alloc (.cells #[.slice a p cap,.slice (if cap=p+1 then a else a.map (·.add ((p+1)*9))) (L.length-(p+1)) (cap-(p+1))] 48)):=(rz I 1).alloc I.size _;have O:=h.on (Aj G);go_wp2_with fail
  go_region_held3 (fun _=>True) (trivial) (first|(go_at_call 163;refine(ao.out _ _ O c0 c1).mono ?_;rintro e bn ⟨⟨v,rfl,g1⟩,aa⟩;generalize(if cap=p+1 then a else a.map (·.add ((p+1)*9)))=bo at O c0 c1 G aa g1⊢))
  all_goals
   have a7:=G.trans (aa.mono G.size);have a8:=g1.mono G.size;clear G aa I O c0 c1 ao g1;go_wp2;go_ret2;exact⟨.inr ⟨_,_,Z.out,rfl,a8⟩,a7⟩
theorem YH(a:Option Addr)(cap H:Nat)(x:Nd)(hx:Hd)(L:BU)(m:BA)(w:World)(cA:L.length≤900)(cB:L.length≤cap)(c3:cap≤9223372036854775807)(h:Cu w.cell? a L)(Z:Cc w H x hx)(b2:Ah w.cell? x hx):
 Calls prog 166 #[.slice a L.length cap,.string m,pO H 0] w fun e w'=>U7 (some (x,hx)) m L w w' e:=by
 obtain⟨t,a1⟩:∃t,AQ m=t:=⟨_,rfl⟩;have bk:=hid a1;cases t
 ·have bb:Hid (Ed (some (x,hx)) m L=.error 4):=by show _=_;simp[Ed,a1]
  clear a1;go_enter func166,ntmps166;go_wp2_with fail
  refine(Gc m _).mono ?_;rintro e w' ⟨rfl,rfl⟩;rw[bk.out];go_wp2;go_ret2;exact⟨.inl ⟨4,bb.out,by decide,rfl⟩,nt _ _⟩
 have bb:Hid (Ed (some (x,hx)) m L=.ok (EJ m x hx L)):=by show _=_;simp[Ed,a1]
 have bl:Hid ((EJ m x hx L).length≤1000):=by have:=aZ m x hx L;show _≤_;omega
 clear a1;have bd:Hid (∀W,Cu W.cell? a L→cL 137 #[.slice a L.length cap,.string m] W fun e w'=>e=.returned (iN (Bl m (bare L) 0))∧Below W.heap.size W w'):=by
  intro W ao;have:=JT a cap (bare L) m W (by rw[ER];omega) (IB ao);rwa [ER]at this
 have bn:Hid (∀W,Cu W.cell? a L→cL 167 #[.slice a L.length cap,.string m] W fun e w'=>e=.returned (iN (DY m (bare L)))∧Below W.heap.size W w'):=by
  intro W ao;have:=XZ a cap (bare L) m W (by rw[ER];omega) (IB ao);rwa [ER]at this
 obtain⟨k,G,u,g,o,nh,d,ks⟩:=x
 have be:Hid (∀(W:World) (ap az p q:Nat),p≤L.length→q≤L.length→EJ m (.mk k G u g o nh d ks) hx L=L.take p++([(m,.mk k G u g o nh d ks,hx)]++L.drop q)→Cu W.cell? a L→Ah W.cell? (.mk k G u g o nh d ks) hx→Dd W.cell? az 0 m (.mk k G u g o nh d ks) hx→Ce W ap 0 (.slice a p cap)→Ce W ap 1 (sL az 0 1 1)→Ce W ap 2 (.slice (if cap=q then a else a.map (·.add (q*9))) (L.length-q) (cap-q))→
  cL 163 #[sL ap 0 3 3] W fun e w'=>(∃v,e=.returned v∧w'.ownsRow W.heap.size 73 9 v (EJ m (.mk k G u g o nh d ks) hx L).length (BH (EJ m (.mk k G u g o nh d ks) hx L)))∧Below W.heap.size W w'):=by
  intro W ap az p q J c4 b6 ao b7 b9 bf cb cf;have O:Cu W.cell? (if cap=q then a else a.map (·.add (q*9))) (L.drop q):=by
   split
   ·exact Cu.none (by simp;omega)
   ·exact ao.drop q
  have cg:Cu W.cell? (some (aD az 0)) [(m,.mk k G u g o nh d ks,hx)]:=by
   refine⟨.inr ⟨az,0,rfl,fun j v ch=>?_⟩,fun e b3=>by simp at b3;subst b3;exact b7⟩;exact Ji.1 b9 j v (by simpa [BH]using ch)
  exact YV ap ⟨a,cap,L.take p⟩ ⟨some (aD az 0),1,[(m,.mk k G u g o nh d ks,hx)]⟩ ⟨if cap=q then a else a.map (·.add (q*9)),cap-q,L.drop q⟩ _ W b6 bl.out (by rw[show(L.take p).length=p by simp;omega];exact bf) cb (by rw[show(L.drop q).length=L.length-q by simp];exact cf) (ao.take p) cg O
 rcases Hw m (bare L) 0 with⟨bo,_⟩|⟨p,x,J,b4,_⟩
 ·have bp:Hid (Bl m (bare L) 0=-1):=bo
  obtain⟨p,J⟩:∃p,DY m (bare L)=p:=⟨_,rfl⟩;have bs:Hid (EJ m (.mk k G u g o nh d ks) hx L=L.take p++([(m,.mk k G u g o nh d ks,hx)]++L.drop p)):=by
   show _=_;unfold EJ;rw[nC (by rw[bo];decide),J]
  have bg:p≤L.length:=by have:=aW m (bare L);rw[ER]at this;omega
  have bu:=bg;have cl:=hid J;clear bo J bl;have co:(0:Int)≤(p:Int):=by omega
  have cp:(p:Int)≤(L.length:Int):=by omega
  have cq:(p:Int)≤(cap:Int):=by omega
  go_enter func166,ntmps166;go_wp2_with fail
  refine(Gc m _).mono ?_;rintro e w' ⟨rfl,rfl⟩;rw[bk.out];go_wp2_with fail
  refine nn (bd.out _ h) ?_;rintro e c5 ⟨rfl,bi⟩;rw[bp.out];have bf:=h.on (Aj bi);go_wp2_with fail
  refine nn (bn.out _ bf) ?_;rintro e F ⟨rfl,b5⟩;rw[cl.out];have Q:=bi.trans (b5.mono bi.size);clear bd bn bi b5 bf;have cr:F.drew.heap.size=F.heap.size:=rfl;have R:Below w.heap.size w (F.drew.alloc (.cells #[.string m,iN k,iN G,iN u,iN g,.bool o,.slice hx.aa nh.length hx.ca,.string d,.slice hx.ak ks.length hx.ck] 73)):=(rz Q 1).alloc Q.size _;have I:Below w.heap.size w ((F.drew.alloc (.cells #[.string m,iN k,iN G,iN u,iN g,.bool o,.slice hx.aa nh.length hx.ca,.string d,.slice hx.ak ks.length hx.ck] 73)).alloc (.cells #[.slice a p cap,sL F.heap.size 0 1 1,.slice (if cap=p then a else a.map (·.add (p*9))) (L.length-p) (cap-p)] 48)):=R.alloc R.size _;have kd:Dd ((F.drew.alloc (.cells #[.string m,iN k,iN G,iN u,iN g,.bool o,.slice hx.aa nh.length hx.ca,.string d,.slice hx.ak ks.length hx.ck] 73)).alloc (.cells #[.slice a p cap,sL F.heap.size 0 1 1,.slice (if cap=p then a else a.map (·.add (p*9))) (L.length-p) (cap-p)] 48)).cell? F.heap.size 0 m (.mk k G u g o nh d ks) hx:=by
   have hb:=(nt _ (F.drew.alloc (.cells #[.string m,iN k,iN G,iN u,iN g,.bool o,.slice hx.aa nh.length hx.ca,.string d,.slice hx.ak ks.length hx.ck] 73))).alloc (nl _) (.cells #[.slice a p cap,sL F.heap.size 0 1 1,.slice (if cap=p then a else a.map (·.add (p*9))) (L.length-p) (cap-p)] 48);refine Dd.below ?_ hb;exact⟨aC,aC,aC,aC,aC,aC,aC,aC,aC⟩
  have T:∀i v,(#[.slice a p cap,sL F.heap.size 0 1 1,.slice (if cap=p then a else a.map (·.add (p*9))) (L.length-p) (cap-p)]:Array Value)[i]? =some v→Ce ((F.drew.alloc (.cells #[.string m,iN k,iN G,iN u,iN g,.bool o,.slice hx.aa nh.length hx.ca,.string d,.slice hx.ak ks.length hx.ck] 73)).alloc (.cells #[.slice a p cap,sL F.heap.size 0 1 1,.slice (if cap=p then a else a.map (·.add (p*9))) (L.length-p) (cap-p)] 48)) (F.heap.size+1) i v:=by
   intro i v bv;have e:((F.drew.alloc (.cells #[.string m,iN k,iN G,iN u,iN g,.bool o,.slice hx.aa nh.length hx.ca,.string d,.slice hx.ak ks.length hx.ck] 73)).alloc (.cells #[.slice a p cap,sL F.heap.size 0 1 1,.slice (if cap=p then a else a.map (·.add (p*9))) (L.length-p) (cap-p)] 48)).cell? (aD ((F.drew.alloc (.cells #[.string m,iN k,iN G,iN u,iN g,.bool o,.slice hx.aa nh.length hx.ca,.string d,.slice hx.ak ks.length hx.ck] 73)).heap.size) i)=(#[.slice a p cap,sL F.heap.size 0 1 1,.slice (if cap=p then a else a.map (·.add (p*9))) (L.length-p) (cap-p)]:Array Value)[i]?:=aC;rw[nv]at e;exact e.trans bv
  have aa:=T 0 _ rfl;have ab:=T 1 _ rfl;have ad:=T 2 _ rfl;have O:=h.on (Aj I);have ak:=b2.ab I;have a6:=Z.below Q;have a7:=a6;have a8:=Z.below R;have V:=Z.below I;obtain⟨bx,bA,bB,bC,bF,bG,bH,bY⟩:=a6;clear T;go_wp2_with fail
  go_region_held3 (fun w'=>Ce w' H 0 (iN k)∧Ce w' H 1 (iN G)∧Ce w' H 2 (iN u)∧Ce w' H 3 (iN g)∧Ce w' H 4 (.bool o)∧Ce w' H 5 (.slice hx.aa nh.length hx.ca)∧Ce w' H 6 (.string d)∧Ce w' H 7 (.slice hx.ak ks.length hx.ck)) (first|exact a7|exact a8|exact V|exact ba) (first|(go_at_call 163;refine(be.out _ _ _ p (p) bg bu bs.out O ak kd aa ab ad).mono ?_;rintro e cu ⟨⟨v,rfl,g1⟩,Y⟩;have ba:=V.below Y;generalize(if cap=p then a else a.map (·.add (p*9)))=cx at O ak kd aa ab ad I Y g1 V⊢))
  all_goals
   have b0:=I.trans (Y.mono I.size);have b1:=g1.mono I.size;clear a7 a8 V ba R I Y Q O ak kd aa ab ad be g1 bx bA bB bC bF bG bH bY Z;go_wp2;go_ret2;exact⟨.inr ⟨_,_,bb.out,rfl,b1⟩,b0⟩
 ·rw[nT]at J
  have c6:p<L.length:=by have:=(nw.1 b4).1;rwa [ER]at this
  have bp:=hid J;have bs:Hid (EJ m (.mk k G u g o nh d ks) hx L=L.take p++([(m,.mk k G u g o nh d ks,hx)]++L.drop (p+1))):=by
   show _=_;unfold EJ;rw[nB (by rw[J];omega),J];rfl
  have bg:p≤L.length:=by omega
  have bu:p+1≤L.length:=by omega
  clear J b4 bl;have co:(0:Int)≤(p:Int):=by omega
  have cp:(p:Int)≤(L.length:Int):=by omega
  have cq:(p:Int)≤(cap:Int):=by omega
  have c8:(p:Int)+1≤(L.length:Int):=by omega
  have c9:(0:Int)≤(p:Int)+1:=by omega
  have da:IntKind.i64.wrap ((p:Int)+1)=(p:Int)+1:=Ez (by omega) (by omega);have db:decide ((p:Int)<0)=false:=nA (by omega);go_enter func166,ntmps166;go_wp2_with fail
  refine(Gc m _).mono ?_;rintro e w' ⟨rfl,rfl⟩;rw[bk.out];go_wp2_with fail
  refine nn (bd.out _ h) ?_;rintro e F ⟨rfl,Q⟩;rw[bp.out];clear bd bn;have cr:F.drew.heap.size=F.heap.size:=rfl;have R:Below w.heap.size w (F.drew.alloc (.cells #[.string m,iN k,iN G,iN u,iN g,.bool o,.slice hx.aa nh.length hx.ca,.string d,.slice hx.ak ks.length hx.ck] 73)):=(rz Q 1).alloc Q.size _;have I:Below w.heap.size w ((F.drew.alloc (.cells #[.string m,iN k,iN G,iN u,iN g,.bool o,.slice hx.aa nh.length hx.ca,.string d,.slice hx.ak ks.length hx.ck] 73)).alloc (.cells #[.slice a p cap,sL F.heap.size 0 1 1,.slice (if cap=p+1 then a else a.map (·.add ((p+1)*9))) (L.length-(p+1)) (cap-(p+1))] 48)):=R.alloc R.size _;have kd:Dd ((F.drew.alloc (.cells #[.string m,iN k,iN G,iN u,iN g,.bool o,.slice hx.aa nh.length hx.ca,.string d,.slice hx.ak ks.length hx.ck] 73)).alloc (.cells #[.slice a p cap,sL F.heap.size 0 1 1,.slice (if cap=p+1 then a else a.map (·.add ((p+1)*9))) (L.length-(p+1)) (cap-(p+1))] 48)).cell? F.heap.size 0 m (.mk k G u g o nh d ks) hx:=by
   have hb:=(nt _ (F.drew.alloc (.cells #[.string m,iN k,iN G,iN u,iN g,.bool o,.slice hx.aa nh.length hx.ca,.string d,.slice hx.ak ks.length hx.ck] 73))).alloc (nl _) (.cells #[.slice a p cap,sL F.heap.size 0 1 1,.slice (if cap=p+1 then a else a.map (·.add ((p+1)*9))) (L.length-(p+1)) (cap-(p+1))] 48);refine Dd.below ?_ hb;exact⟨aC,aC,aC,aC,aC,aC,aC,aC,aC⟩
  have T:∀i v,(#[.slice a p cap,sL F.heap.size 0 1 1,.slice (if cap=p+1 then a else a.map (·.add ((p+1)*9))) (L.length-(p+1)) (cap-(p+1))]:Array Value)[i]? =some v→Ce ((F.drew.alloc (.cells #[.string m,iN k,iN G,iN u,iN g,.bool o,.slice hx.aa nh.length hx.ca,.string d,.slice hx.ak ks.length hx.ck] 73)).alloc (.cells #[.slice a p cap,sL F.heap.size 0 1 1,.slice (if cap=p+1 then a else a.map (·.add ((p+1)*9))) (L.length-(p+1)) (cap-(p+1))] 48)) (F.heap.size+1) i v:=by
   intro i v bv;have e:((F.drew.alloc (.cells #[.string m,iN k,iN G,iN u,iN g,.bool o,.slice hx.aa nh.length hx.ca,.string d,.slice hx.ak ks.length hx.ck] 73)).alloc (.cells #[.slice a p cap,sL F.heap.size 0 1 1,.slice (if cap=p+1 then a else a.map (·.add ((p+1)*9))) (L.length-(p+1)) (cap-(p+1))] 48)).cell? (aD ((F.drew.alloc (.cells #[.string m,iN k,iN G,iN u,iN g,.bool o,.slice hx.aa nh.length hx.ca,.string d,.slice hx.ak ks.length hx.ck] 73)).heap.size) i)=(#[.slice a p cap,sL F.heap.size 0 1 1,.slice (if cap=p+1 then a else a.map (·.add ((p+1)*9))) (L.length-(p+1)) (cap-(p+1))]:Array Value)[i]?:=aC;rw[nv]at e;exact e.trans bv
  have aa:=T 0 _ rfl;have ab:=T 1 _ rfl;have ad:=T 2 _ rfl;have O:=h.on (Aj I);have ak:=b2.ab I;have a6:=Z.below Q;have a7:=a6;have a8:=Z.below R;have V:=Z.below I;obtain⟨bx,bA,bB,bC,bF,bG,bH,bY⟩:=a6;clear T;go_wp2_with fail
  go_region_held3 (fun w'=>Ce w' H 0 (iN k)∧Ce w' H 1 (iN G)∧Ce w' H 2 (iN u)∧Ce w' H 3 (iN g)∧Ce w' H 4 (.bool o)∧Ce w' H 5 (.slice hx.aa nh.length hx.ca)∧Ce w' H 6 (.string d)∧Ce w' H 7 (.slice hx.ak ks.length hx.ck)) (first|exact a7|exact a8|exact V|exact ba) (first|(go_at_call 163;refine(be.out _ _ _ p (p+1) bg bu bs.out O ak kd aa ab ad).mono ?_;rintro e cu ⟨⟨v,rfl,g1⟩,Y⟩;have ba:=V.below Y;generalize(if cap=p+1 then a else a.map (·.add ((p+1)*9)))=cx at O ak kd aa ab ad I Y g1 V⊢))
  all_goals
   have b0:=I.trans (Y.mono I.size);have b1:=g1.mono I.size;clear a7 a8 V ba R I Y Q O ak kd aa ab ad be g1 bx bA bB bC bF bG bH bY Z;go_wp2;go_ret2;exact⟨.inr ⟨_,_,bb.out,rfl,b1⟩,b0⟩
def A0(c:AJ)(a:Option Addr)(l:List BA):Prop:=l=[]∨∃b F,a=some ⟨b,F,none⟩∧∀i s,l[i]? =some s→c ⟨b,F+i,none⟩=some (.string s)
theorem A0.on{c F:AJ}{a:Option Addr}{l:List BA}(h:A0 c a l)(hb:AR c F):A0 F a l:=by
 rcases h with h|⟨b,G,H,I⟩
 ·exact .inl h
 ·exact .inr ⟨b,G,H,fun i s J=>hb _ _ (I i s J)⟩
theorem Nd.eta(x:Nd):x.with x.kids=x:=by obtain⟨k,m,u,g,o,nh,d,ks⟩:=x;rfl
def EN(F:Nat)(S:Nat→Bool):Nat→Bool:=fun k=>k==F+1||S k
theorem Ju{F k:Nat}{S:Nat→Bool}:EN F S k=false↔k≠F+1∧S k=false:=by simp[EN]
theorem LM{W w':World}{S:Nat→Bool}{F:Nat}(hb:Below W.heap.size W w')(I:W.heap.size=F):AR (Ag W.cell? S) (Ag w'.cell? (EN F S)):=Cb fun k G H=>⟨Ju.2 ⟨by omega,H⟩,hb.block k G⟩
theorem YI{c:AJ}{S:Nat→Bool}{b p:Nat}{x:Nd}{h:Hd}(F:S b=false)(G:Bj c b p x h):Bj (Ag c S) b p x h:=Fe.2 fun q u H=>(Co F).trans (Fe.1 G q u H)
structure EX (W wr:World) (S:Nat→Bool) (nb:Nat) (x0:Nd) (c:Option Nd) (l ni:List BA) (ab ap:Nat) (y:Nd) (hy:Hd):Prop where
 low:Below W.heap.size W wr
 sz:W.heap.size=nb
 res:As wr (nb+1) zN zH
 atc:Bj wr.cell? ab ap y hy
 fz:∀q,wr.frozen? ⟨ab,q,none⟩=false
 ge:nb≤ab
 ne:ab≠nb+1
 hS:∀k,S k=true→k<W.heap.size
 tree:Ah (Ag W.cell? S) y hy
 wand:∃plug:Nd→Nd,(AG c l x0=(AG c ni y).map plug)∧∀w',Below W.heap.size W w'→(∀q v,wr.cell? q=some v→(∀i,i<8→q≠⟨ab,ap+i,none⟩)→w'.cell? q=some v)→∀z hz,Bj w'.cell? ab ap z hz→Ah (Ag w'.cell? (EN nb S)) z hz→∃hr,Cc w' nb (plug z) hr∧Ah (Ag w'.cell? (EN nb S)) (plug z) hr
theorem Bj.lt{w:World}{b p:Nat}{x:Nd}{h:Hd}(F:Bj w.cell? b p x h):b<w.heap.size:=by
 obtain⟨k,m,u,g,o,nh,d,ks⟩:=x;exact bL F.1
theorem EX.start{W wr:World}{S:Nat→Bool}{F:Nat}{x0:Nd}{c:Option Nd}{l:List BA}{h:Hd}(H:Below W.heap.size W wr)(I:W.heap.size=F)(J:As wr (F+1) zN zH)(G:As wr F x0 h)(O:∀k,S k=true→k<W.heap.size)(Q:Ah (Ag W.cell? S) x0 h):EX W wr S F x0 c l l F 0 x0 h:=by
 refine⟨H,I,J,G.1.at,G.2,nl _,by omega,O,Q,id,?_,?_⟩
 ·cases AG c l x0<;>rfl
 ·intro w' _ _ z R T V
  exact⟨R,T.box,V⟩
theorem Sc{w:World}{b p:Nat}{y:Nd}{F:Hd}(h:Bj w.cell? b p y F)(G:At)(H:Option Addr)(ck:Nat):Bj (w.setCell (aD b (p+7)) (.slice H G.length ck)).cell? b p (y.with G) ⟨F.aa,F.ca,H,ck⟩:=by
 obtain⟨k,m,u,g,o,nh,d,ks⟩:=y;obtain⟨I,J,O,Q,R,T,V,Y⟩:=h;have e:∀o,o≠p+7→(w.setCell (aD b (p+7)) (.slice H G.length ck)).cell? (aD b o)=w.cell? (aD b o):=fun o Z=>nz _ _ _ _ (fun e=>Z (Addr.mk.inj e).2.1.symm);exact⟨(e _ (by omega)).trans I,(e _ (by omega)).trans J,(e _ (by omega)).trans O,(e _ (by omega)).trans Q,(e _ (by omega)).trans R,(e _ (by omega)).trans T,(e _ (by omega)).trans V,nH _ _ _ Y⟩
theorem ZT{c:Option Nd}{m F:BA}{ni:List BA}{y z:Nd}{p:Nat}(H:y.kind=2)(G:Bl m y.kids 0=(p:Int))(I:y.kids[p]? =some (m,z)):AG c (m::F::ni) y=(AG c (F::ni) z).map fun q=>y.with (y.kids.set p (m,q)):=by
 rw[AG,nB (by simp[H]),nB (by rw[G];omega),G];have e:y.kid p=z:=by unfold Nd.kid;rw[I]
 simp only[Int.toNat_natCast];rw[e]
theorem EX.step{W wr J:World}{S:Nat→Bool}{ab:Nat}{x0:Nd}{c:Option Nd}{l ni:List BA}{m ad:BA}{F G:Nat}{y z:Nd}{ak:Hd}{L:BU}{base g p ck:Nat}{Y:Hd}(h:EX W wr S ab x0 c l (m::ad::ni) F G y ak)(hb:Below wr.heap.size wr J)(cr:wr.heap.size≤base)
 (ao:bare L=y.kids) (bd:∀e∈L,Ah (Ag W.cell? S) e.2.1 e.2.2) (bp:y.kind=2) (bs:Bl m y.kids 0=(p:Int)) (Z:L[p]? =some (m,z,Y)) (bu:J.ownsRow base 73 9 (sL g 0 y.kids.length ck) y.kids.length (BH L)):
 EX W (J.setCell (aD F (G+7)) (sL g 0 y.kids.length ck)) S ab x0 c l (ad::ni) g (p*9+1) z Y:=by
 obtain⟨bv,bx,bA⟩:=h.wand;have cu:=h.atc.lt;obtain⟨a0,c0,Q,bB,bC,bF⟩:=Ei bu;simp only[ro,true_and]at Q;obtain⟨rfl,rfl⟩:=Q;rcases bF with⟨e,_⟩|⟨cx,e,cA,cB,bG,bH⟩
 ·cases e
 simp only[nU,rc,and_true]at e;subst e;have H:g≠F:=by omega
 have c3:W.heap.size≤g:=by have:=h.low.size;omega
 have ap:EN ab S g=false:=Ju.2 ⟨by have:=h.res.1.lt;omega,by
  cases hs:S g with
  |false=>rfl
  |true=>have:=h.hS g hs;omega⟩
 have bY:y.kids[p]? =some (m,z):=by
  rw[←ao];unfold bare;rw[n4,Z];rfl
 have be:∀q:Addr,q≠(aD F (G+7))→(J.setCell (aD F (G+7)) (sL g 0 y.kids.length ck)).cell? q=J.cell? q:=fun q R=>nz _ _ _ _ (fun e=>R e.symm);have bf:∀j u,(BH L)[j]? =some u→Ce (J.setCell (aD F (G+7)) (sL g 0 y.kids.length ck)) g j u:=fun j u az=>(be _ (fun e=>H (Addr.mk.inj e).1)).trans (bG j u az)
 have b0:Below W.heap.size W (J.setCell (aD F (G+7)) (sL g 0 y.kids.length ck)):=(h.low.trans (hb.mono h.low.size)).setCell (p:=(aD F (G+7))) (by show W.heap.size≤F;have:=h.ge;have:=h.sz;omega) _;refine⟨b0,h.sz,(h.res.below hb).other (p:=(aD F (G+7))) h.ne _,?_,fun q=>by rw[rJ];exact bH q,by have:=h.sz;omega,by have:=h.res.1.lt;omega,h.hS,bd _ (nD Z),?_⟩
 ·refine Fe.2 fun q u R=>?_
  have:=Jm L p m z Y Z (q+1) u (by simpa using R);have:=bf _ _ this;rw[show p*9+1+q=p*9+(q+1) by omega];exact this
 ·refine⟨fun q=>bv (y.with (y.kids.set p (m,q))),?_,?_⟩
  ·rw[bx,ZT bp bs bY]
   cases AG c (ad::ni) z<;>rfl
  ·intro w' a1 R V bg b1 b2
   have bi:=Sc (h.atc.below hb) y.kids (some (aD g 0)) ck;rw[Nd.eta]at bi;refine bA w' a1 ?_ (y.with (y.kids.set p (m,V))) ⟨ak.aa,ak.ca,some (aD g 0),ck⟩ ?_ ?_
   ·intro q v Q a6
    have a7:q.block<wr.heap.size:=bL Q;refine R q v ?_ (fun i I e=>?_)
    ·rw[be q (a6 7 (by omega))];exact(hb.cell a7).trans Q
    ·rw[e]at a7;simp at a7;omega
   ·have O:∀q v,(J.setCell (aD F (G+7)) (sL g 0 y.kids.length ck)).cell? q=some v→q.block≠g→w'.cell? q=some v:=fun q v Q b3=>R q v Q (fun i I e=>b3 (by rw[e]))
    obtain⟨k,b4,u,b5,o,nh,d,ks⟩:=y;obtain⟨b6,T,b7,b9,cb,cf,cg,ch⟩:=bi;have aa:(ks.set p (m,V)).length=ks.length:=List.length_set;refine⟨O _ _ b6 H.symm,O _ _ T H.symm,O _ _ b7 H.symm,O _ _ b9 H.symm,O _ _ cb H.symm,O _ _ cf H.symm,O _ _ cg H.symm,?_⟩;show w'.cell? _=some (.slice _ (ks.set p (m,V)).length _);rw[aa];exact O _ _ ch H.symm
   ·have cl:=h.tree
    obtain⟨k,b4,u,b5,o,nh,d,ks⟩:=y;obtain⟨co,cp,t3,_⟩:=Cj.1 cl;have aa:(ks.set p (m,V)).length=ks.length:=List.length_set;refine Cj.2 ⟨co.on (LM a1 h.sz),cp,⟨by show(ks.set p (m,V)).length≤ck;rw[aa];exact bB,bC⟩,.inr ⟨g,0,rfl,fun i=>if i=p then bg else((L[i]?).map (fun e=>e.2.2)).getD bg,?_⟩⟩;intro i n a8 I;dsimp only;change(ks.set p (m,V))[i]? =some (n,a8)at I;have bk:i<ks.length:=by have:=(nw.1 I).1;rwa [aa]at this
    have bl:i<L.length:=by have:=nV List.length ao;rw[ER]at this;show i<L.length;rw[this];exact bk
    have bn:∀j u,(BH L)[j]? =some u→(∀q,q<8→j≠p*9+1+q)→Ce w' g j u:=fun j u az a6=>R _ _ (bf j u az) (fun q cq e=>a6 q cq (Addr.mk.inj e).2.1);by_cases bo:i=p
    ·subst bo
     rw[List.getElem?_set_self bk]at I;simp only[nU,Prod.mk.injEq]at I;obtain⟨rfl,rfl⟩:=I;rw[nC rfl,nT];refine⟨⟨?_,YI ap b1⟩,b2⟩;rw[Co ap];refine bn _ _ (by have:=Jm L i m z Y Z 0 _ rfl;simpa using this) (fun q ba e=>by omega)
    ·rw[List.getElem?_set_ne (by omega)]at I
     have bb:L[i]? =some (n,a8,L[i].2.2):=by
      have T:(bare L)[i]? =some (n,a8):=by rw[ao];exact I
      unfold bare at T;rw[n4,np bl]at T;simp at T;rw[np bl];congr 1;exact Prod.ext T.1 (Prod.ext T.2 rfl)
     rw[nB bo,bb];simp only[r0,Option.getD_some];rw[nT];refine⟨Ji.2 fun q u ba=>?_,(bd _ (nD bb)).on (LM a1 h.sz)⟩;rw[Co ap];have c4:q<9:=by have:=(nw.1 ba).1;simp[DT]at this;omega
     exact bn _ _ (Jm L i _ _ _ bb q u ba) (fun r c5 e=>by omega)
theorem EX.fin{W wr I:World}{S:Nat→Bool}{O:Nat}{x0:Nd}{c:Option Nd}{l:List BA}{m:BA}{F G:Nat}{y:Nd}{T:Hd}{M:BU}{base n ck:Nat}{H:Option Addr}(h:EX W wr S O x0 c l [m] F G y T)(hb:Below wr.heap.size wr I)(bg:wr.heap.size≤base)
 (ab:∀e∈M,Ah (Ag W.cell? S) e.2.1 e.2.2) (J:y.kind=2) (ad:FM c m y.kids=.ok (bare M)) (V:M.length=n) (ak:I.ownsRow base 73 9 (.slice H n ck) n (BH M)):
 ∃r Q,AG c l x0=.ok r∧Cc (I.setCell (aD F (G+7)) (.slice H n ck)) O r Q∧Ah (Ag (I.setCell (aD F (G+7)) (.slice H n ck)).cell? (EN O S)) r Q∧Below W.heap.size W (I.setCell (aD F (G+7)) (.slice H n ck))∧As (I.setCell (aD F (G+7)) (.slice H n ck)) (O+1) zN zH:=by
 subst V;obtain⟨bi,ao,ap⟩:=h.wand;have bk:=h.atc.lt;have R:Below W.heap.size W (I.setCell (aD F (G+7)) (.slice H M.length ck)):=(h.low.trans (hb.mono h.low.size)).setCell (p:=(aD F (G+7))) (by show W.heap.size≤F;have:=h.ge;have:=h.sz;omega) _;have az:=KU ak (p:=(aD F (G+7))) (show F<base by omega) (.slice H M.length ck)
 obtain⟨bl,bn,Y,a1,a6,a7,_⟩:=Po (S:=EN O S) (fun k J=>by
  simp[EN]at J;rcases J with J|J
  ·have:=h.res.1.lt;omega
  ·have:=h.hS k J;have:=h.low.size;omega) az (fun e a8=>(ab e a8).on (LM R h.sz))
 simp only[ro,true_and]at Y;obtain⟨rfl,rfl⟩:=Y;have Z:=Sc (h.atc.below hb) (bare M) H ck;rw[ER]at Z;have ba:Ah (Ag (I.setCell (aD F (G+7)) (.slice H M.length ck)).cell? (EN O S)) (y.with (bare M)) ⟨T.aa,T.ca,H,ck⟩:=by
  have bb:=h.tree;obtain⟨k,bo,u,bp,o,nh,d,ks⟩:=y;obtain⟨bd,be,t3,_⟩:=Cj.1 bb;exact Cj.2 ⟨bd.on (LM R h.sz),be,⟨by rw[ER];exact a1,a6⟩,IB a7⟩
 obtain⟨Q,g1,bf⟩:=ap _ R (fun q v aa V=>(nz _ _ _ _ (fun e=>V 7 (by omega) e.symm)).trans ((hb.cell (bL aa)).trans aa)) _ _ Z ba;refine⟨_,Q,?_,g1,bf,R,(h.res.below hb).other (p:=(aD F (G+7))) h.ne _⟩;rw[ao,AG,nB (by simp[J]),ad];rfl
end Go.Proofs.YtgppjbhaimmlpaaGreatDoor
namespace Go.Proofs.YtgppjbhaimmlpaaGreatDoor
open Go.RowKit Go.Shelf Go.Proofs.Tryz
attribute [local go_sem] Oper.semAt_some
def AP(xs:List Nd)(nf:List BA):List (Nd×Nat):=nf.foldl (fun l nm=>A8 (Bc nm l)) (A8 (BD xs))
theorem I5{xs:List Nd}{nf:List BA}{i:Nat}{nm:BA}(h:nf[i]? =some nm):AP xs (nf.take (i+1))=A8 (Bc nm (AP xs (nf.take i))):=by
 unfold AP;rw[rv,h];simp
theorem Ms{xs:List Nd}(h:DC (BD xs)):∀nf:List BA,DC (AP xs nf):=by
 intro nf;unfold AP;generalize F:A8 (BD xs)=l;have G:DC l:=by rw[←F];exact h.sh
 clear F;induction nf generalizing l with
 |nil=>exact G
 |cons n r H=>rw[rK];exact H _ (G.kid n).sh
theorem P1(a6 Y:Nat)(a:Option Addr)(cap:Nat)(xs:List Nd)(an:Option Addr)(nj:Nat)(nf:List BA)(l:Nat)(F:Nat→(Nat→Bool)→World→Prop)(a7:World→Prop)(W:World)(S:Nat→Bool)
 (bx:Ag W.cell? S (aD a6 0)=some (.slice a xs.length cap)) (Z:Ag W.cell? S (aD Y 0)=some (.slice an nf.length nj)) (hx:Ch (Ag W.cell? S) a xs) (J:A0 (Ag W.cell? S) an nf) (bA:xs.length≤1000) (bB:nf.length≤1000) (a8:DC (BD xs))
 (ba:∀i S A,F i S A→∀k,S k=true→k<A.heap.size) (bb:∀i S A B,F i S A→Below A.heap.size A B→F i S B)
 (bd:∀i S v A,i≤nf.length→F i S A→EP (Ag A.cell? S) v (AP xs (nf.take i))→YieldAt Fence.wide 0 prog l #[v] A fun e B=>(e=.returned (.bool true)∧∃S',F (i+1) S' B∧AR (Ag A.cell? S) (Ag B.cell? S'))∨(e=.returned (.bool false)∧a7 B))
 (be:F 0 S W):
 CallsIn Fence.wide 0 prog 142 #[.func (.yield l) #[] #[],.pointer (some ⟨a6,0,none⟩),.pointer (some ⟨Y,0,none⟩)] W fun e B=>(∃v,e=.returned v)∧((∃S',F (nf.length+1) S' B)∨a7 B):=by
 refine callsIn_of_wp func142 rfl trivial ?_ rfl;simp only[ntmps142,List.size_toArray,n3,nQ,Nat.reduceAdd,Nat.reduceSub,r9,r8,List.push_toArray,List.append_toArray,ru,n9];have aa:Hid _:=bd;have cg:Hid _:=hx;have bf:Hid _:=J;have ch:Hid _:=Z;have bC:Hid _:=a8;obtain⟨N,ab⟩:=A3 nf.length;have bF:=Ci _ _ _ _ bx;have bg:Ce W Y 0 (.slice an N nj):=by rw[←ab.out];exact Ci _ _ _ _ Z
 rw[ab.out]at bB aa⊢;have bi:Hid _:=WP (S:=S) (w:=W.alloc (.cells #[.slice a xs.length cap] 30)) (ba _ _ _ be) hx bA rfl;clear bd hx J Z a8;gi_wp2_with fail
 refine⟨trivial,rfl,CallsIn.mono (rX.2 (WQ W a xs.length cap)) ?_⟩;rintro e cl ⟨rfl,rfl⟩;gi_wp2_with fail
 refine⟨trivial,rfl,CallsIn.mono (rX.2 bi.out) ?_⟩;rintro e bG ⟨v0,rfl,bk,ad⟩;have co:=Aj ad _ _ bg;have bH:=bb _ _ _ _ be ad;have bY:AR (Ag W.cell? S) (Ag bG.cell? S):=CQ ad;have b0:=hid bk;clear bi bk bF bg;gi_wp2_with fail
 gi_loopw [4,6,12] (fun v _ i wr=>∃(j:Nat) (S':Nat→Bool),j≤N∧i=iN j∧F j S' wr∧Hid (EP (Ag wr.cell? S') v (AP xs (nf.take j)))∧Hid (AR (Ag W.cell? S) (Ag wr.cell? S'))) (fun _ _ i _=>N-(intOf i).toNat)
 case atStart=>exact⟨0,S,nM _,rfl,bH,b0,bY⟩
 case round=>
  obtain⟨j,S',cp,rfl,bl,O,ak⟩:=hrel;by_cases b1:j<N;rotate_left
  ·obtain rfl:j=N:=by omega
   have b2:=nA (by omega);obtain⟨fn,tmps,assign,body,b3,G⟩:=aa.out j S' _ wr (by omega) bl O.out;have ao:Hid _:=G;clear G;gi_wp2
   refine⟨rfl,RoundIn.mono ao.out ?_⟩;rintro e Q (⟨rfl,H,R,_⟩|⟨rfl,ap⟩)
   ·gi_wp2
    go_end0
    exact⟨⟨_,rfl⟩,.inl ⟨H,R⟩⟩
   ·gi_wp2
    go_end0
    exact⟨⟨_,rfl⟩,.inr ap⟩
  ·have b2:decide ((j:Int)<(N:Int))=true:=nE (by omega)
   obtain⟨nm,T⟩:∃nm,nf[j]? =some nm:=⟨_,np (by rw[ab.out];exact b1)⟩;obtain⟨cq,cr,rfl,bn⟩:∃b bo,an=some (aD b bo)∧∀i s,nf[i]? =some s→Ag W.cell? S (aD b (bo+i))=some (.string s):=by
    rcases bf.out with e|e
    ·subst e;simp at T
    ·exact e
   have cu:=Ci _ _ _ _ (ak.out _ _ (bn j nm T));obtain⟨fn,tmps,assign,body,b3,G⟩:=aa.out j S' _ wr (by omega) bl O.out;have ao:Hid _:=G;have b4:Hid _:=T;obtain⟨az,vc,D,rfl,g1,b5,g3,g4,bp⟩:=O.out;have I:Hid (Dx (Ag wr.cell? S') az D∧(∀s∈D,Cx (Ag wr.cell? S') s)∧D.map Sp.pr=AP xs (nf.take j)):=⟨g3,g4,bp⟩;clear G T bn g1 b5 g3 g4 bp bf;gi_wp2
   refine⟨rfl,RoundIn.mono ao.out ?_⟩;rintro e Q (⟨rfl,H,R,V⟩|⟨rfl,ap⟩);rotate_left
   ·gi_wp2
    refine nF (results_none rfl _ _ _) rfl ?_;exact⟨⟨_,rfl⟩,.inr ap⟩
   have bs:Hid _:=V;have bu:Hid _:=JL (A:=Q) (S:=H) (cap:=vc) (w:=(Q.alloc (.cells #[.slice az D.length vc] 100)).alloc (.cells #[.string nm] 9)) (ba _ _ _ R) nm (I.out.1.on V) (fun s J=>(I.out.2.1 s J).on V) (by rw[I.out.2.2];exact Ms bC.out _) rfl;clear V;gi_wp2_with fail
   refine⟨trivial,rfl,CallsIn.mono (rX.2 (JJ Q az D.length vc nm)) ?_⟩;rintro e cx ⟨rfl,rfl⟩;gi_wp2_with fail
   refine⟨trivial,rfl,CallsIn.mono (rX.2 bu.out) ?_⟩;rintro e b6 ⟨cA,rfl,a1,bv⟩;rw[I.out.2.2,←I5 b4.out]at a1;have b7:Hid _:=a1;have b9:Hid (AR (Ag W.cell? S) (Ag b6.cell? H)):=fun q u cb=>CQ bv _ _ (bs.out _ _ (ak.out _ _ cb));have cf:=bb _ _ _ _ R bv
   clear a1 bu I bs ak O;gi_wp2
   go_roundw
   case rel=>exact⟨j+1,H,by omega,by go_num,cf,b7.out,b9.out⟩
   case measure=>(simp[intOf];try omega)
end Go.Proofs.YtgppjbhaimmlpaaGreatDoor
namespace Go.Proofs.YtgppjbhaimmlpaaGreatDoor
open Go.RowKit Go.Proofs.Tryz
abbrev AU:=List (Nd×Nat)
def Ee(nm:BA):At→Option Nd
 |[]=>none
 |p::l=>if p.1=nm then some p.2 else Ee nm l
theorem SU{nm:BA}:∀{ks:At},(∀p∈ks,p.1≠nm)→Ee nm ks=none
 |[],_=>rfl
 |p::l,h=>by rw[Ee,nB (h p (nJ ..)),SU fun q F=>h q (n2 _ F)]
theorem SM{nm:BA}{x:Nd}:∀{ks:At} {j:Nat},ks[j]? =some (nm,x)→(∀q,q<j→∀p,ks[q]? =some p→p.1≠nm)→Ee nm ks=some x
 |[],j,h,_=>by simp at h
 |p::l,0,h,_=>by simp at h;rw[Ee,nC (by rw[h])];rw[h]
 |p::l,j+1,h,k=>by
  rw[Ee,nB (k 0 (by omega) p rfl)];exact SM (j:=j) (by simpa using h) fun q H F G=>k (q+1) (by omega) F (by simpa using G)
theorem Jp(nm:BA)(x:Nd):CV nm x=Ee nm x.dirKs:=by
 obtain⟨k,m,u,g,o,nh,d,ks⟩:=x;unfold CV He;show(if(if k=2 then Bl nm ks 0 else-1)<0 then none else(ks[((if k=2 then Bl nm ks 0 else-1):Int).toNat]?).map (·.2))=Ee nm (if k=2 then ks else []);by_cases F:k=2
 ·rw[nC F,nC F]
  rcases Hw nm ks 0 with⟨H,G⟩|⟨j,y,H,G,I⟩
  ·rw[H,SU G];rfl
  ·rw[H,SM G I,nB (by omega),Int.toNat_natCast,nT,G];rfl
 ·rw[nB F,nB F];rfl
theorem Lg{nm:BA}{y:Nd}:∀{ks:At},Ee nm ks=some y→(nm,y)∈ks
 |[],h=>by cases h
 |p::l,h=>by
  rw[Ee]at h;split at h
  ·rename_i e;cases h;rw[←e];exact nJ ..
  ·exact n2 _ (Lg h)
theorem KQ{x:Nd}{p:BA×Nd}(h:p∈x.dirKs):p∈x.kids:=by
 unfold Nd.dirKs at h;split at h
 ·exact h
 ·cases h
def Gl(l:List BA):Prop:=l.Pairwise (fun a b=>AX a b=true)
def Ia(nm:BA):List BA→List BA
 |[]=>[nm]
 |x::r=>if AX x nm=true then x::Ia nm r else if x=nm then x::r else nm::x::r
theorem Nm(nm:BA):∀{l:List BA} {x:BA},x∈Ia nm l↔x=nm∨x∈l
 |[],x=>by simp[Ia]
 |y::r,x=>by
  rw[Ia];split
  ·rw[nX,Nm nm,nX]
   constructor
   ·rintro(h|h|h)
    ·exact .inr (.inl h)
    ·exact .inl h
    ·exact .inr (.inr h)
   ·rintro(h|h|h)
    ·exact .inr (.inl h)
    ·exact .inl h
    ·exact .inr (.inr h)
  ·split
   ·rename_i e
    subst e;simp
   ·simp
theorem Qw(nm:BA):∀{l:List BA},Gl l→Gl (Ia nm l)
 |[],_=>by simp[Ia,Gl]
 |y::r,h=>by
  obtain⟨G,I⟩:=rq.1 h;rw[Ia];split
  ·rename_i hl
   refine rq.2 ⟨fun z F=>?_,Qw nm I⟩;rcases(Nm nm).1 F with e|e
   ·rw[e];exact hl
   ·exact G z e
  ·rename_i hl
   split
   ·exact h
   ·rename_i hne
    have H:AX nm y=true:=by
     rcases It y nm with h|h|h
     ·exact absurd h hl
     ·exact absurd h hne
     ·exact h
    refine rq.2 ⟨fun z F=>?_,h⟩;rcases nX.1 F with e|e
    ·rw[e];exact H
    ·exact F5 H (G z e)
theorem RP:∀{a b:List BA},Gl a→Gl b→(∀x,x∈a↔x∈b)→a=b
 |[],[],_,_,_=>rfl
 |[],y::b,_,_,h=>by have:=(h y).2 (nJ ..);cases this
 |x::a,[],_,_,h=>by have:=(h x).1 (nJ ..);cases this
 |x::a,y::b,ha,hb,h=>by
  obtain⟨H,a2⟩:=rq.1 ha;obtain⟨I,O⟩:=rq.1 hb;have Q:x=y:=by
   rcases nX.1 ((h x).1 (nJ ..))with e|e
   ·exact e
   ·rcases nX.1 ((h y).2 (nJ ..))with G|G
    ·exact G.symm
    ·have R:=I x e
     have J:=H y G;rw[JQ R]at J;cases J
  subst Q;congr 1;refine RP a2 O fun z=>?_;constructor
  ·intro F
   rcases nX.1 ((h z).1 (n2 _ F))with e|e
   ·subst e;have:=H z F;rw[Hn]at this;cases this
   ·exact e
  ·intro F
   rcases nX.1 ((h z).2 (n2 _ F))with e|e
   ·subst e;have:=I z F;rw[Hn]at this;cases this
   ·exact e
theorem Wn{l:List BA}(h:Gl l):l.Nodup:=List.Pairwise.imp (fun h=>GX h) h
def U9(l:AU):List BA:=l.flatMap fun q=>q.1.kids.map (·.1)
def Cv(l:AU)(nm:BA):AU:=A8 (Bc nm l)
def IU(l:AU)(F:List BA)(r:List BA):List BA:=r.foldl (fun F nm=>if(Cv l nm).isEmpty=true then F else Ia nm F) F
theorem SP(l:AU):∀(r H:List BA) (x:BA),x∈IU l H r↔x∈H∨(x∈r∧Cv l x≠[])
 |[],H,x=>by simp[IU]
 |nm::r,H,x=>by
  unfold IU;rw[rK];show x∈IU l _ r↔_;rw[SP l r];by_cases h:(Cv l nm).isEmpty=true
  ·rw[nC h]
   have h':Cv l nm=[]:=List.isEmpty_iff.1 h;constructor
   ·rintro(F|⟨F,G⟩)
    ·exact .inl F
    ·exact .inr ⟨n2 _ F,G⟩
   ·rintro(F|⟨F,G⟩)
    ·exact .inl F
    ·rcases nX.1 F with e|e
     ·rw[e]at G;exact absurd h' G
     ·exact .inr ⟨e,G⟩
  ·rw[nB h,Nm]
   have h':Cv l nm≠[]:=fun e=>h (List.isEmpty_iff.2 e);constructor
   ·rintro((F|F)|⟨F,G⟩)
    ·exact .inr ⟨by rw[F];exact nJ ..,by rw[F];exact h'⟩
    ·exact .inl F
    ·exact .inr ⟨n2 _ F,G⟩
   ·rintro(F|⟨F,G⟩)
    ·exact .inl (.inr F)
    ·rcases nX.1 F with e|e
     ·exact .inl (.inl e)
     ·exact .inr ⟨e,G⟩
theorem Qi(l:AU):∀(r F:List BA),Gl F→Gl (IU l F r)
 |[],F,h=>h
 |nm::r,F,h=>by
  unfold IU;rw[rK];refine Qi l r _ ?_;split
  ·exact h
  ·exact Qw nm h
def DF(l:AU):List BA:=IU l [] (U9 l)
theorem P8(l:AU):Gl (DF l):=Qi l _ _ List.Pairwise.nil
theorem ZX{l:AU}{nm:BA}(h:Cv l nm≠[]):nm∈U9 l:=by
 cases hk:Bc nm l with
 |nil=>exact absurd (by unfold Cv;rw[hk];rfl) h
 |cons q r=>
  have G:q∈Bc nm l:=by rw[hk];exact nJ ..
  obtain⟨p,H,e⟩:=rC.1 G;obtain⟨y,F,_⟩:=nY.1 e;rw[Jp]at F;exact List.mem_flatMap.2 ⟨p,H,rx.2 ⟨_,KQ (Lg F),rfl⟩⟩
theorem QQ{l:AU}{nm:BA}:nm∈DF l↔Cv l nm≠[]:=by
 unfold DF;rw[SP];constructor
 ·rintro(h|h)
  ·cases h
  ·exact h.2
 ·intro h;exact .inr ⟨ZX h,h⟩
def tot:AU→Nat
 |[]=>0
 |q::r=>cnt q.1+tot r
theorem Zd(x:Nd):0<cnt x:=by obtain⟨k,m,u,g,o,nh,d,ks⟩:=x;rw[cnt];omega
theorem Ln:∀l:AU,l.length≤tot l
 |[]=>nl _
 |q::r=>by have:=Ln r;have:=Zd q.1;simp[tot];omega
theorem Ss:∀l:AU,tot (DZ l)≤tot l
 |[]=>nl _
 |q::r=>by
  have F:=Ss r;rw[DZ];split
  ·simp[tot]
  split
  ·simp[tot]
  ·simp[tot];omega
theorem TE:∀l:AU,tot (A8 l)≤tot l
 |[]=>nl _
 |q::r=>by
  rw[A8];split
  ·simp[tot]
  ·exact Ss _
def oc:Option Nd→Nat
 |none=>0
 |some y=>cnt y
theorem NC:∀N:List BA,(N.map fun _=>0).sum=0
 |[]=>rfl
 |n::N=>by simp only[rh,List.sum_cons];rw[NC N]
theorem QV(g h:BA→Nat):∀N:List BA,(N.map fun n=>g n+h n).sum=(N.map g).sum+(N.map h).sum
 |[]=>rfl
 |n::N=>by simp only[rh,List.sum_cons];rw[QV g h N];omega
theorem Ui(a:BA)(c:Nat)(g:BA→Nat):∀N:List BA,N.Nodup→(N.map fun n=>if a=n then c else g n).sum≤c+((N.filter fun n=>decide (a≠n)).map g).sum
 |[],_=>by simp
 |n::N,h=>by
  obtain⟨I,J⟩:=List.nodup_cons.1 h;rw[rh,List.sum_cons];by_cases e:a=n
  ·rw[nC e]
   have H:∀m∈N,a≠m:=fun m F G=>I (by rw[←e,G];exact F);have O:(N.map fun n=>if a=n then c else g n)=N.map g:=List.map_congr_left fun m F=>nB (H m F)
   have G:(n::N).filter (fun n=>decide (a≠n))=N:=by
    rw[List.filter_cons,nB (by simp[e])];exact List.filter_eq_self.2 fun m F=>nE (H m F)
   rw[O,G];omega
  ·rw[nB e,List.filter_cons,nC (by simp[e]),rh,List.sum_cons]
   have:=Ui a c g N J;omega
theorem Tx:∀(ks:At) (N:List BA),N.Nodup→(N.map fun nm=>oc (Ee nm ks)).sum≤cntL ks
 |[],N,_=>by
  have:(N.map fun nm=>oc (Ee nm []))=N.map fun _=>0:=rfl;rw[this,NC]
  exact nM _
 |(a,y)::l,N,h=>by
  have e:(N.map fun nm=>oc (Ee nm ((a,y)::l)))=N.map fun nm=>if a=nm then cnt y else oc (Ee nm l):=by
   refine List.map_congr_left fun nm _=>?_;rw[Ee]
   split<;>rfl
  rw[e,cntL];have F:=Ui a (cnt y) (fun nm=>oc (Ee nm l)) N h;have G:=Tx l (N.filter fun n=>decide (a≠n)) (h.filter _);omega
theorem WA(nm:BA)(q:Nd×Nat)(l:AU):tot (Bc nm (q::l))=oc (CV nm q.1)+tot (Bc nm l):=by
 unfold Bc;rw[rr];cases h:CV nm q.1 with
 |none=>simp[oc]
 |some y=>simp[oc,tot]
theorem Qo(x:Nd):cntL x.dirKs+1≤cnt x:=by
 obtain⟨k,m,u,g,o,nh,d,ks⟩:=x;rw[cnt];show cntL (if k=2 then ks else [])+1≤_;split
 ·omega
 ·rw[cntL];omega
theorem SK:∀(l:AU) (N:List BA),N.Nodup→(N.map fun nm=>tot (Bc nm l)).sum+l.length≤tot l
 |[],N,_=>by
  have:(N.map fun nm=>tot (Bc nm []))=N.map fun _=>0:=rfl;rw[this,NC]
  simp[tot]
 |q::l,N,h=>by
  have e:(N.map fun nm=>tot (Bc nm (q::l)))=N.map fun nm=>oc (Ee nm q.1.dirKs)+tot (Bc nm l):=List.map_congr_left fun nm _=>by rw[WA,Jp]
  rw[e,QV];have F:=Tx q.1.dirKs N h;have G:=SK l N h;have H:=Qo q.1;simp only[tot,n3];omega
theorem Ux(g h:BA→Nat)(F:∀n,g n≤h n):∀N:List BA,(N.map g).sum≤(N.map h).sum
 |[]=>nl _
 |n::N=>by have:=Ux g h F N;have:=F n;simp only[rh,List.sum_cons];omega
theorem Tz(l:AU)(N:List BA)(h:N.Nodup):(N.map fun nm=>tot (Cv l nm)).sum+l.length≤tot l:=by
 have F:=SK l N h;have G:=Ux (fun nm=>tot (Cv l nm)) (fun nm=>tot (Bc nm l)) (fun nm=>TE _) N;omega
theorem YC(l:AU)(nm:BA):tot (Cv l nm)+l.length≤tot l:=by
 have:=Tz l [nm] (by simp);simpa using this
theorem XK(l:AU):(DF l).length≤tot l:=by
 have h:=Tz l (DF l) (Wn (P8 l));have H:∀N:List BA,(∀nm∈N,Cv l nm≠[])→N.length≤(N.map fun nm=>tot (Cv l nm)).sum:=by
  intro N;induction N with
  |nil=>intro _;exact nl _
  |cons n N I=>
   intro G;have J:=I fun nm F=>G nm (n2 _ F);have O:0<tot (Cv l n):=nG (ri.2 (G n (nJ ..))) (Ln _)
   simp only[rh,List.sum_cons,n3];omega
 have:=H (DF l) fun nm F=>QQ.1 F;omega
theorem Rm(x:Nd)(ks:At):(x.with ks).opq=x.opq:=by obtain⟨k,m,u,g,o,nh,d,ks⟩:=x;rfl
theorem Yf{x:Nd}(h:x.kind≠2)(nm:BA):CV nm x=none:=by
 rw[Jp];unfold Nd.dirKs;rw[nB h];rfl
theorem X3(nm:BA)(q:Nd×Nat):Bc nm [q]=((CV nm q.1).map fun y=>(y,q.2)).toList:=by
 unfold Bc;rw[rr];cases h:CV nm q.1<;>simp
theorem Zr(nf:List BA):nf.foldl (fun l nm=>A8 (Bc nm l)) ([]:AU)=[]:=by
 induction nf with
 |nil=>rfl
 |cons nm r F=>exact F
def fk(m:BA):At→Option Nd
 |[]=>none
 |(n,x)::l=>if n=m then some x else fk m l
def BQ(m:BA)(z:Nd):At→At
 |[]=>[]
 |(n,x)::l=>if n=m then(m,z)::l else(n,x)::BQ m z l
def Cy(m:BA)(z:Nd):At→At
 |[]=>[(m,z)]
 |(n,x)::l=>if AX m n=true then(m,z)::(n,x)::l else(n,x)::Cy m z l
def DA(m:BA):At→At
 |[]=>[]
 |(n,x)::l=>if n=m then l else(n,x)::DA m l
theorem Hp(m:BA):∀(ks:At) (i:Nat),(Bl m ks i=-1∧fk m ks=none)∨∃j y,Bl m ks i=((i+j:Nat):Int)∧ks[j]? =some (m,y)∧fk m ks=some y∧(∀z,ks.set j (m,z)=BQ m z ks)∧ks.take j++ks.drop (j+1)=DA m ks∧∀z,ks.take j++(m,z)::ks.drop (j+1)=BQ m z ks
 |[],i=>.inl ⟨by rw[Bl],rfl⟩
 |(n,x)::l,i=>by
  rw[Bl,fk];by_cases h:n=m
  ·rw[nC h,nC h]
   refine .inr ⟨0,x,by simp,by simp[h],rfl,fun z=>by simp[BQ,h],by simp[DA,h],fun z=>by simp[BQ,h]⟩
  ·rw[nB h,nB h]
   rcases Hp m l (i+1)with⟨F,G⟩|⟨j,y,F,G,H,I,J,O⟩
   ·exact .inl ⟨F,G⟩
   ·refine .inr ⟨j+1,y,by rw[F];congr 1;omega,by simpa using G,H,fun z=>by simp[BQ,h,I z],by simp[DA,h,←J],fun z=>by simp[BQ,h,←O z]⟩
theorem RN{m:BA}{ks:At}:Bl m ks 0<0↔fk m ks=none:=by
 rcases Hp m ks 0 with⟨F,G⟩|⟨j,y,F,_,H,_⟩
 ·rw[F,G];simp
 ·rw[F,H];simp
theorem TI(m:BA)(x:Nd):∀ks:At,ks.take (DY m ks)++(m,x)::ks.drop (DY m ks)=Cy m x ks
 |[]=>rfl
 |(n,y)::l=>by
  have e:DY m ((n,y)::l)=if AX m n=true then 0 else DY m l+1:=by
   unfold DY;rw[List.findIdx_cons];cases AX m n<;>simp
  rw[e,Cy];by_cases h:AX m n=true
  ·rw[nC h,nC h];rfl
  ·rw[nB h,nB h,←TI m x l];simp
theorem cw(m:BA)(x:Nd)(ks:At):Ko m x ks=if fk m ks=none then Cy m x ks else BQ m x ks:=by
 unfold Ko;rcases Hp m ks 0 with⟨F,G⟩|⟨j,y,F,_,H,_,_,I⟩
 ·rw[nC (by rw[F];decide),nC G,TI]
 ·rw[nB (by rw[F];omega),nB (by rw[H];simp),F]
  have e:((0+j:Nat):Int).toNat=j:=by simp
  rw[e,I]
theorem cG{m:BA}{ks:At}(h:fk m ks≠none):Km m ks=DA m ks:=by
 unfold Km;rcases Hp m ks 0 with⟨F,G⟩|⟨j,y,F,_,I,_,H,_⟩
 ·exact absurd G h
 ·rw[F]
  have e:((0+j:Nat):Int).toNat=j:=by simp
  rw[e,H]
theorem CJ(m:BA)(l:List BA)(x:Nd):AV (m::l) x=if x.kind≠2 then none else match fk m x.kids with
 |none=>none
 |some y=>AV l y:=by
 rw[AV];by_cases F:x.kind≠2
 ·rw[nC (.inl F),nC F]
 ·rw[nB F]
  rcases Hp m x.kids 0 with⟨G,H⟩|⟨j,y,G,H,I,_⟩
  ·rw[nC (.inr (by rw[G];decide)),H]
  ·rw[nB (fun q=>by rcases q with q|q;exact F q;rw[G]at q;omega),I,G]
   have e:((0+j:Nat):Int).toNat=j:=by simp
   have J:x.kid j=y:=by unfold Nd.kid;rw[H]
   rw[e,J]
theorem Gg(c:Option Nd)(m I:BA)(l:List BA)(x:Nd):AG c (m::I::l) x=if x.kind≠2 then .error 7 else match fk m x.kids with
 |none=>.error 5
 |some y=>(AG c (I::l) y).map fun z=>x.with (BQ m z x.kids):=by
 rw[AG];by_cases F:x.kind≠2
 ·rw[nC F,nC F]
 ·rw[nB F,nB F]
  rcases Hp m x.kids 0 with⟨G,H⟩|⟨j,y,G,H,J,O,_⟩
  ·rw[nC (by rw[G];decide),H]
  ·rw[nB (by rw[G];omega),J,G]
   have e:((0+j:Nat):Int).toNat=j:=by simp
   have Q:x.kid j=y:=by unfold Nd.kid;rw[H]
   rw[e,Q];congr 1;funext z
   rw[O]
def Dy(c:Option Nd)(m:BA)(ks:At):Except Int At:=match c with
 |some x=>if AQ m=false then .error 4 else .ok (if fk m ks=none then Cy m x ks else BQ m x ks)
 |none=>if fk m ks=none then .error 5 else .ok (DA m ks)
theorem bm(c:Option Nd)(m:BA)(ks:At):FM c m ks=Dy c m ks:=by
 cases c with
 |some x=>simp only[FM,Dy,cw]
 |none=>
  simp only[FM,Dy];by_cases h:fk m ks=none
  ·rw[nC h,nC (RN.2 h)]
  ·rw[nB h,nB (fun q=>h (RN.1 q)),cG h]
theorem Gf(c:Option Nd)(m:BA)(x:Nd):AG c [m] x=if x.kind≠2 then .error 7 else(Dy c m x.kids).map x.with:=by rw[AG,bm]
theorem FH(x:Nd)(ks:At):(x.with ks).kids=ks:=by obtain⟨k,m,u,g,o,nh,d,F⟩:=x;rfl
theorem FZ(x:Nd)(ks:At):(x.with ks).kind=x.kind:=by obtain⟨k,m,u,g,o,nh,d,F⟩:=x;rfl
theorem Js{m:BA}{z:Nd}:∀{ks:At},fk m ks≠none→fk m (BQ m z ks)=some z
 |[],h=>absurd rfl h
 |(n,x)::l,h=>by
  rw[BQ];by_cases e:n=m
  ·rw[nC e,fk,nC rfl]
  ·rw[nB e,fk,nB e];exact Js (by rw[fk,nB e]at h;exact h)
theorem M4{m F:BA}{z:Nd}(G:F≠m):∀ks:At,fk F (BQ m z ks)=fk F ks
 |[]=>rfl
 |(n,x)::l=>by
  rw[BQ];by_cases e:n=m
  ·rw[nC e,fk,fk,nB (fun q=>G q.symm),nB (fun q=>G (by rw[←q,e]))]
  ·rw[nB e,fk,fk,M4 G l]
theorem Ol{m:BA}{z:Nd}:∀{ks:At},fk m ks=none→fk m (Cy m z ks)=some z
 |[],_=>by rw[Cy,fk,nC rfl]
 |(n,x)::l,h=>by
  have F:n≠m:=fun e=>by rw[fk,nC e]at h;cases h
  rw[Cy];by_cases e:AX m n=true
  ·rw[nC e,fk,nC rfl]
  ·rw[nB e,fk,nB F];exact Ol (by rw[fk,nB F]at h;exact h)
theorem Ql{m F:BA}{z:Nd}(G:F≠m):∀ks:At,fk F (Cy m z ks)=fk F ks
 |[]=>by show(if m=F then some z else none)=none;rw[nB (fun q=>G q.symm)]
 |(n,x)::l=>by
  rw[Cy];by_cases e:AX m n=true
  ·rw[nC e,fk,nB (fun q=>G q.symm)]
  ·rw[nB e,fk,fk,Ql G l]
theorem Qk{m F:BA}(G:F≠m):∀ks:At,fk F (DA m ks)=fk F ks
 |[]=>rfl
 |(n,x)::l=>by
  rw[DA];by_cases e:n=m
  ·rw[nC e,fk,nB (fun q=>G (by rw[←q,e]))]
  ·rw[nB e,fk,fk,Qk G l]
theorem SD{x:Nd}:∀{l:List BA} {n r:Nd},AG (some x) l n=.ok r→AV l r=some x
 |[],n,r,h=>by rw[AG]at h;cases h
 |[m],n,r,h=>by
  rw[Gf]at h;by_cases G:n.kind≠2
  ·rw[nC G]at h;cases h
  rw[nB G]at h;simp only[Dy]at h;by_cases H:AQ m=false
  ·rw[nC H]at h;cases h
  rw[nB H]at h;simp only[Except.map,rE]at h;subst h;rw[CJ,FZ,nB G,FH];by_cases F:fk m n.kids=none
  ·rw[nC F,Ol F];rfl
  ·rw[nB F,Js F];rfl
 |m::I::l,n,r,h=>by
  rw[Gg]at h;by_cases G:n.kind≠2
  ·rw[nC G]at h;cases h
  rw[nB G]at h;cases F:fk m n.kids with
  |none=>rw[F]at h;cases h
  |some y=>
   rw[F]at h;simp only at h;cases hc:AG (some x) (I::l) y with
   |error f=>rw[hc]at h;cases h
   |ok z=>
    rw[hc]at h;simp only[Except.map,rE]at h;subst h;rw[CJ,FZ,nB G,FH,Js (by rw[F];simp)];exact SD hc
theorem Qj{c:Option Nd}:∀{l F:List BA} {n r:Nd},AG c l n=.ok r→¬l<+:F→¬F<+:l→AV F r=AV F n
 |l,[],n,r,h,_,h2=>absurd (List.nil_prefix) h2
 |[],o::F,n,r,h,h1,_=>absurd (List.nil_prefix) h1
 |[m],o::F,n,r,h,h1,h2=>by
  have H:o≠m:=fun e=>h1 (by rw[e];exact⟨F,rfl⟩);rw[Gf]at h
  by_cases G:n.kind≠2
  ·rw[nC G]at h;cases h
  rw[nB G]at h;cases hl:Dy c m n.kids with
  |error f=>rw[hl]at h;cases h
  |ok ks=>
   rw[hl]at h;simp only[Except.map,rE]at h;subst h;rw[CJ,CJ,FZ,FH];have:fk o ks=fk o n.kids:=by
    cases c with
    |some x=>
     simp only[Dy]at hl;by_cases I:AQ m=false
     ·rw[nC I]at hl;cases hl
     rw[nB I]at hl;simp only[rE]at hl;subst hl;split
     ·exact Ql H _
     ·exact M4 H _
    |none=>
     simp only[Dy]at hl;by_cases I:fk m n.kids=none
     ·rw[nC I]at hl;cases hl
     rw[nB I]at hl;simp only[rE]at hl;subst hl;exact Qk H _
   rw[this]
 |m::J::l,o::F,n,r,h,h1,h2=>by
  rw[Gg]at h;by_cases G:n.kind≠2
  ·rw[nC G]at h;cases h
  rw[nB G]at h;cases hf:fk m n.kids with
  |none=>rw[hf]at h;cases h
  |some y=>
   rw[hf]at h;simp only at h;cases hc:AG c (J::l) y with
   |error f=>rw[hc]at h;cases h
   |ok z=>
    rw[hc]at h;simp only[Except.map,rE]at h;subst h;rw[CJ,CJ,FZ,nB G,nB G,FH];by_cases H:o=m
    ·subst H
     rw[Js (by rw[hf];simp),hf];exact Qj hc (fun q=>h1 (List.cons_prefix_cons.2 ⟨rfl,q⟩)) (fun q=>h2 (List.cons_prefix_cons.2 ⟨rfl,q⟩))
    ·rw[M4 H]
theorem Yo{c:Option Nd}{l:List BA}{n:Nd}{f:Int}(h:AG c l n=.error f):0<f∧f≤7:=by
 revert n;induction l with
 |nil=>intro n h;rw[AG]at h;simp only[rS]at h;omega
 |cons m l H=>
  intro n h;cases l with
  |nil=>
   rw[Gf]at h;by_cases F:n.kind≠2
   ·rw[nC F]at h;simp only[rS]at h;omega
   rw[nB F]at h;cases c with
   |some x=>
    simp only[Dy]at h;by_cases G:AQ m=false
    ·rw[nC G]at h;simp only[Except.map,rS]at h;omega
    ·rw[nB G]at h;cases h
   |none=>
    simp only[Dy]at h;by_cases G:fk m n.kids=none
    ·rw[nC G]at h;simp only[Except.map,rS]at h;omega
    ·rw[nB G]at h;cases h
  |cons I l=>
   rw[Gg]at h;by_cases F:n.kind≠2
   ·rw[nC F]at h;simp only[rS]at h;omega
   rw[nB F]at h;cases hf:fk m n.kids with
   |none=>rw[hf]at h;simp only[rS]at h;omega
   |some y=>
    rw[hf]at h;simp only at h;cases hc:AG c (I::l) y with
    |ok z=>rw[hc]at h;cases h
    |error g=>rw[hc]at h;simp only[Except.map,rS]at h;subst h;exact H hc
structure Rg where
 i:Int
 o:Int
 n:Int
def AZ(x:Int):Prop:=-9223372036854775808≤x∧x≤9223372036854775807
def Rg.ok(r:Rg):Prop:=AZ r.i∧AZ r.o∧AZ r.n
def Rgs(w:World)(a:Option Addr)(rs:List Rg):Prop:=
 rs=[]∨∃b F,a=some ⟨b,F,none⟩∧∀k r,rs[k]? =some r→w.cell? ⟨b,F+k*3,none⟩=some (.int .i64 r.i)∧w.cell? ⟨b,F+k*3+1,none⟩=some (.int .i64 r.o)∧w.cell? ⟨b,F+k*3+2,none⟩=some (.int .i64 r.n)
theorem Rgs.below{w w':World}{a:Option Addr}{rs:List Rg}(h:Rgs w a rs)(hb:Below w.heap.size w w'):Rgs w' a rs:=by
 rcases h with h|⟨b,F,I,J⟩
 ·exact .inl h
 ·refine .inr ⟨b,F,I,fun k r O=>?_⟩
  obtain⟨H,Q,R⟩:=J k r O;have G:b<w.heap.size:=bL H;exact⟨(hb.cell (p:=(aD b (F+k*3))) G).trans H,(hb.cell (p:=(aD b (F+k*3+1))) G).trans Q,(hb.cell (p:=(aD b (F+k*3+2))) G).trans R⟩
def Fi(w:World)(b:Nat)(r:Rg):Prop:=
 w.cell? ⟨b,0,none⟩=some (.int .i64 r.i)∧w.cell? ⟨b,1,none⟩=some (.int .i64 r.o)∧w.cell? ⟨b,2,none⟩=some (.int .i64 r.n)∧∀o,w.frozen? ⟨b,o,none⟩=false
theorem Fi.new(w:World)(i o n:Int):Fi (w.alloc (.cells #[iN i,iN o,iN n] 62)) w.heap.size ⟨i,o,n⟩:=
 ⟨aC,aC,aC,fun _=>nP _ _ _ _ rfl⟩
theorem Fi.lt{w:World}{b:Nat}{r:Rg}(h:Fi w b r):b<w.heap.size:=ny _ _ h.1
theorem Fi.below{w w':World}{b:Nat}{r:Rg}(h:Fi w b r)(hb:Below w.heap.size w w'):Fi w' b r:=by
 have F:=h.lt;obtain⟨G,H,I,J⟩:=h;exact⟨(hb.cell (p:=(aD b 0)) F).trans G,(hb.cell (p:=(aD b 1)) F).trans H,(hb.cell (p:=(aD b 2)) F).trans I,fun o=>(hb.frozen (p:=(aD b o)) F).trans (J o)⟩
theorem Fi.alloc{w:World}{b:Nat}{r:Rg}(h:Fi w b r)(o:Obj):Fi (w.alloc o) b r:=h.below ((nt _ _).alloc (nl _) _)
def FP(f n:Int):Bool:=decide (0≤f∧1≤n∧n-1≤65535-f)
def GD(a n b m:Int):Bool:=decide (a<b+m∧b<a+n)
def Fh(r:Rg):Bool:=FP r.i r.n&&FP r.o r.n
def Fw(p r:Rg):Bool:=GD p.i p.n r.i r.n||GD p.o p.n r.o r.n
def Rg.bd(r:Rg):Prop:=0≤r.i∧r.i≤65535∧0≤r.o∧r.o≤65535∧1≤r.n∧r.n≤65536∧r.i+r.n≤65536∧r.o+r.n≤65536
theorem OH{r:Rg}(h:Fh r=true):r.bd:=by
 simp[Fh,FP]at h;unfold Rg.bd;omega
theorem MA(f n:Int)(I:AZ f)(J:AZ n)(w:World):Calls prog 109 #[iN f,iN n] w fun e w'=>e=.returned (.bool (FP f n))∧w=w':=by
 obtain⟨Q,R⟩:=I;obtain⟨T,V⟩:=J;by_cases G:0≤f
 ·by_cases H:1≤n
  ·have F:Hid (FP f n=decide (n-1≤65535-f)):=by show _=_;simp[FP,G,H]
   go_enter func109,ntmps109;go_wp2;go_ret;exact⟨Bf F.out.symm,rfl⟩
  ·have O:decide (1≤n)=false:=by simpa using H
   have F:Hid (FP f n=false):=by show _=_;simp[FP];omega
   go_enter func109,ntmps109;go_wp2;go_ret;exact⟨Bf F.out.symm,rfl⟩
 ·have O:decide (0≤f)=false:=by simpa using G
  have F:Hid (FP f n=false):=by show _=_;simp[FP];omega
  go_enter func109,ntmps109;go_wp2;go_ret;exact⟨Bf F.out.symm,rfl⟩
theorem Nr(a n b m:Int)(G:0≤a)(H:a≤65535)(I:1≤n)(J:n≤65536)(O:0≤b)(Q:b≤65535)(R:1≤m)(T:m≤65536)(w:World):
 Calls prog 110 #[iN a,iN n,iN b,iN m] w fun e w'=>e=.returned (.bool (GD a n b m))∧w=w':=by
 by_cases g1:a<b+m
 ·have F:Hid (GD a n b m=decide (b<a+n)):=by show _=_;simp[GD,g1]
  go_enter func110,ntmps110;go_wp2;go_ret;exact⟨Bf F.out.symm,rfl⟩
 ·have V:decide (a<b+m)=false:=by simpa using g1
  have F:Hid (GD a n b m=false):=by show _=_;simp[GD];omega
  go_enter func110,ntmps110;go_wp2;go_ret;exact⟨Bf F.out.symm,rfl⟩
abbrev Mk(F G ca lwa:Option Addr)(uc gc cc lwn lwc:Nat)(us gs:List Rg)(cs:List Int)(H I ck q:Int):Value:=.agg #[.slice F us.length uc,.slice G gs.length gc,.int .i64 H,.int .i64 I,.slice ca cs.length cc,.int .i64 ck,.int .i64 q,.slice lwa lwn lwc]
abbrev A4(F G ca lwa:Option Addr)(uc gc cc lwn lwc:Nat)(us gs:List Rg)(cs:List Int)(H I ck q:Int):Obj:=.cells #[.slice F us.length uc,.slice G gs.length gc,.int .i64 H,.int .i64 I,.slice ca cs.length cc,.int .i64 ck,.int .i64 q,.slice lwa lwn lwc] 29
end Go.Proofs.YtgppjbhaimmlpaaGreatDoor
