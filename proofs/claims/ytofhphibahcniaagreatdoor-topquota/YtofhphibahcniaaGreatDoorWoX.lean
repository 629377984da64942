/-
  TopQuota: Wo Wp Mh Fa Fc Nc Ka Abc Kb.
-/
import Derived.Test.YtofhphibahcniaaGreatDoorApX
import Derived.Test.YtofhphibahcniaaGreatDoorMaX
import Derived.Test.YtofhphibahcniaaGreatDoorMcX
import Derived.Deep.RegionHeld3
set_option maxRecDepth 100000
set_option maxHeartbeats 16000000
namespace Go.Proofs.YtofhphibahcniaaGreatDoor
open Go.RowKit Go.Proofs.Tryz
theorem aI(L:BH)(k:Nat):Bn (L.take k)=(Bn L).take (k*9):=by
 by_cases F:k≤L.length
 ·have h:=J0 (L.take k) (L.drop k)
  rw[ry]at h;have G:(Bn (L.take k)).length=k*9:=by rw[Ht,rF,Nat.min_eq_left F]
  conv=>rhs;rw[h,←G,List.take_left]
 ·have H:L.take k=L:=n1 (by omega)
  have I:(Bn L).take (k*9)=Bn L:=n1 (by rw[Ht];omega);rw[H,I]
theorem am(L:BH)(k:Nat):Bn (L.drop k)=(Bn L).drop (k*9):=by
 by_cases F:k≤L.length
 ·have h:=J0 (L.take k) (L.drop k)
  rw[ry]at h;have G:(Bn (L.take k)).length=k*9:=by rw[Ht,rF,Nat.min_eq_left F]
  conv=>rhs;rw[h,←G,List.drop_left]
 ·have H:L.drop k=[]:=n7 (by omega)
  have I:(Bn L).drop (k*9)=[]:=n7 (by rw[Ht];omega);rw[H,I];rfl
theorem Cv.take{c:AH}{a:Option Addr}{L:BH}(h:Cv c a L)(k:Nat):Cv c a (L.take k):=by
 obtain⟨G,H⟩:=h;refine⟨?_,fun e I=>H e (List.mem_of_mem_take I)⟩;rcases G with rfl|⟨b,J,O,Q⟩
 ·exact .inl (by simp)
 ·refine .inr ⟨b,J,O,fun j u F=>Q j u ?_⟩
  rw[aI,rL]at F;split at F
  ·exact F
  ·cases F
theorem Cv.drop{c:AH}{a:Option Addr}{L:BH}(h:Cv c a L)(k:Nat):Cv c (a.map (·.add (k*9))) (L.drop k):=by
 obtain⟨G,H⟩:=h;refine⟨?_,fun e I=>H e (List.mem_of_mem_drop I)⟩;rcases G with rfl|⟨b,J,rfl,O⟩
 ·exact .inl (by simp)
 ·refine .inr ⟨b,J+k*9,by simp[D2],fun j u F=>?_⟩
  rw[am,rM]at F;have:=O _ u F;rw[←Nat.add_assoc]at this;exact this
theorem Cv.none{c:AH}{a:Option Addr}{L:BH}(h:L.length=0):Cv c a L:=by
 have:=nX h;subst this;exact⟨.inl rfl,fun e F=>by cases F⟩
def EM(m:BA)(x:Nd)(h:Hd)(L:BH):BH:=
 if BD m (bare L) 0<0 then L.take (D7 m (bare L))++([(m,x,h)]++L.drop (D7 m (bare L)))else L.take (BD m (bare L) 0).toNat++([(m,x,h)]++L.drop ((BD m (bare L) 0).toNat+1))
def Fg(m:BA)(L:BH):BH:=L.take (BD m (bare L) 0).toNat++L.drop ((BD m (bare L) 0).toNat+1)
theorem aZ(m:BA)(x:Nd)(h:Hd)(L:BH):bare (EM m x h L)=KD m x (bare L):=by
 unfold EM KD;split<;>simp[bare]
theorem al(m:BA)(L:BH):bare (Fg m L)=KA m (bare L):=by
 unfold Fg KA;rw[Xd,Yt,YW]
theorem cy{m:BA}{x:Nd}{h:Hd}{L:BH}{e:BA×Nd×Hd}(F:e∈EM m x h L):e=(m,x,h)∨e∈L:=by
 unfold EM at F;split at F
 all_goals
  rcases rd.1 F with q|q
  ·exact .inr (List.mem_of_mem_take q)
  ·rcases rd.1 q with q|q
   ·exact .inl (by simpa using q)
   ·exact .inr (List.mem_of_mem_drop q)
theorem dv{m:BA}{L:BH}{e:BA×Nd×Hd}(F:e∈Fg m L):e∈L:=by
 unfold Fg at F;rcases rd.1 F with q|q
 ·exact List.mem_of_mem_take q
 ·exact List.mem_of_mem_drop q
theorem dI(m:BA)(x:Nd)(h:Hd)(L:BH):(EM m x h L).length≤L.length+1:=by
 unfold EM;split<;>simp<;>omega
theorem cP(m:BA)(L:BH):(Fg m L).length≤L.length:=by
 unfold Fg;simp;omega
def Ep(c:Option (Nd×Hd))(m:BA)(L:BH):Except Int BH:=match c with
 |some p=>if AY m=false then .error 4 else .ok (EM m p.1 p.2 L)
 |none=>if BD m (bare L) 0<0 then .error 5 else .ok (Fg m L)
theorem ZO(c:Option (Nd×Hd))(m:BA)(L:BH):GM (c.map (·.1)) m (bare L)=match Ep c m L with|.error f=>.error f|.ok M=>.ok (bare M):=by
 cases c with
 |none=>simp only[GM,Ep,Option.map];split<;>simp[al]
 |some p=>simp only[GM,Ep,Option.map];split<;>simp[aZ]
def Kw(c:Option (Nd×Hd))(m:BA)(L:BH)(w w':World)(e:Ending):Prop:=
 ((∃f,Ep c m L=.error f∧f≠0∧e=.returned (.tuple #[.slice none 0 0,.iface 78 (.int .i64 f)]))∨∃M v,Ep c m L=.ok M∧e=.returned (.tuple #[v,.nilIface])∧w'.ownsRow w.heap.size 89 9 v M.length (Bn M))∧Below w.heap.size w w'
theorem ZY(G:Nat)(A B C:Pt)(L:BH)(w:World)(I:L=A.l++(B.l++C.l))(J:L.length≤1000)
 (O:w.cell? (aD G 0)=some (.slice A.a A.l.length A.c)) (Q:w.cell? (aD G 1)=some (.slice B.a B.l.length B.c)) (R:w.cell? (aD G 2)=some (.slice C.a C.l.length C.c))
 (T:Cv w.cell? A.a A.l) (V:Cv w.cell? B.a B.l) (Y:Cv w.cell? C.a C.l):
 Calls prog 172 #[sL G 0 3 3] w fun e w'=>(∃v,e=.returned v∧w'.ownsRow w.heap.size 89 9 v L.length (Bn L))∧Below w.heap.size w w':=by
 have H:Dj [A,B,C]=L:=by rw[I];simp[Dj]
 have:=P9 G 3 [A,B,C] w (by simp) (by rw[H];exact J) (by
  intro i p F;match i with
  |0=>simp at F;subst F;exact⟨O,T⟩
  |1=>simp at F;subst F;exact⟨Q,V⟩
  |2=>simp at F;subst F;exact⟨R,Y⟩
  |j+3=>simp at F)
 rw[H]at this;exact this
theorem Zu(G:Nat)(A B:Pt)(L:BH)(w:World)(I:L=A.l++B.l)(J:L.length≤1000)
 (O:w.cell? (aD G 0)=some (.slice A.a A.l.length A.c)) (Q:w.cell? (aD G 1)=some (.slice B.a B.l.length B.c))
 (R:Cv w.cell? A.a A.l) (T:Cv w.cell? B.a B.l):
 Calls prog 172 #[sL G 0 2 2] w fun e w'=>(∃v,e=.returned v∧w'.ownsRow w.heap.size 89 9 v L.length (Bn L))∧Below w.heap.size w w':=by
 have H:Dj [A,B]=L:=by rw[I];simp[Dj]
 have:=P9 G 2 [A,B] w (by simp) (by rw[H];exact J) (by
  intro i p F;match i with
  |0=>simp at F;subst F;exact⟨O,R⟩
  |1=>simp at F;subst F;exact⟨Q,T⟩
  |j+2=>simp at F)
 rw[H]at this;exact this
theorem Zs(a:Option Addr)(cap:Nat)(L:BH)(m:BA)(w:World)(ap:L.length≤1000)(a7:L.length≤cap)(a8:cap≤9223372036854775807)(h:Cv w.cell? a L):
 Calls prog 171 #[.slice a L.length cap,.string m] w fun e w'=>Kw none m L w w' e:=by
 have T:=fun W (Q:Cv W.cell? a L)=>Lf a cap (bare L) m W (by rw[E7];exact ap) (IQ Q);rw[E7]at T
 have R:=hid T;clear T;have ar:=IR m (bare L) 0;rcases ar with⟨V,_⟩|⟨p,x,H,hx,_⟩
 ·have Y:Hid (BD m (bare L) 0=-1):=V
  have Z:Hid (Ep none m L=.error 5):=by show _=_;simp[Ep,V]
  clear V;go_enter func171,ntmps171;go_wp2_with fail
  refine np (R.out _ h) ?_;rintro e F ⟨rfl,I⟩;rw[Y.out];clear R;go_wp2;go_ret2;exact⟨.inl ⟨5,Z.out,by decide,rfl⟩,I⟩
 ·rw[nU]at H
  have ba:p<L.length:=by have:=(ny.1 hx).1;rwa [E7]at this
  have Y:=hid H;have ab:Hid (Fg m L=L.take p++L.drop (p+1)):=by show _=_;unfold Fg;rw[H];rfl
  have Z:Hid (Ep none m L=.ok (Fg m L)):=by
   show _=_;simp only[Ep];rw[H,nC (by omega)]
  have ad:Hid ((Fg m L).length≤1000):=by have:=cP m L;show _≤_;omega
  clear H hx;have bb:(0:Int)≤(p:Int):=by omega
  have bd:(p:Int)≤(L.length:Int):=by omega
  have be:(p:Int)≤(cap:Int):=by omega
  have bf:(p:Int)+1≤(L.length:Int):=by omega
  have bg:(0:Int)≤(p:Int)+1:=by omega
  have bi:IntKind.i64.wrap ((p:Int)+1)=(p:Int)+1:=EG (by omega) (by omega);have ak:(L.take p).length=p:=by simp;omega
  have ao:Hid (∀(W:World) (J:Nat),Cv W.cell? a L→Ce W J 0 (.slice a p cap)→Ce W J 1 (.slice (if cap=p+1 then a else a.map (·.add ((p+1)*9))) (L.length-(p+1)) (cap-(p+1)))→cL 172 #[sL J 0 2 2] W fun e w'=>(∃v,e=.returned v∧w'.ownsRow W.heap.size 89 9 v (Fg m L).length (Bn (Fg m L)))∧Below W.heap.size W w'):=by
   intro W J Q ay az;have O:Cv W.cell? (if cap=p+1 then a else a.map (·.add ((p+1)*9))) (L.drop (p+1)):=by
    split
    ·exact Cv.none (by simp;omega)
    ·exact Q.drop (p+1)
   exact Zu J ⟨a,cap,L.take p⟩ ⟨if cap=p+1 then a else a.map (·.add ((p+1)*9)),cap-(p+1),L.drop (p+1)⟩ (Fg m L) W ab.out ad.out (by rw[ak];exact ay) (by rw[show(L.drop (p+1)).length=L.length-(p+1) by simp];exact az) (Q.take p) O
  clear ak ab ad;go_enter func171,ntmps171;go_wp2_with fail
  refine np (R.out _ h) ?_;rintro e F ⟨rfl,I⟩;rw[Y.out];clear R;have c0:Ce (F.drew.alloc (.cells #[.slice a p cap,.slice (if cap=p+1 then a else a.map (·.add ((p+1)*9))) (L.length-(p+1)) (cap-(p+1))] 52)) F.heap.size 0 (.slice a p cap):=aC;have c1:Ce (F.drew.alloc (.cells #[.slice a p cap,.slice (if cap=p+1 then a else a.map (·.add ((p+1)*9))) (L.length-(p+1)) (cap-(p+1))] 52)) F.heap.size 1 (.slice (if cap=p+1 then a else a.map (·.add ((p+1)*9))) (L.length-(p+1)) (cap-(p+1))):=aC;have G:Below w.heap.size w (F.drew.alloc (.cells #[.slice a p cap,.slice (if cap=p+1 then a else a.map (·.add ((p+1)*9))) (L.length-(p+1)) (cap-(p+1))] 52)):=(rz I 1).alloc I.size _;have O:=h.on (Aj G);go_wp2_with fail
  go_region_held3 (fun _=>True) (trivial) (first|(go_at_call 172;refine(ao.out _ _ O c0 c1).mono ?_;rintro e bk ⟨⟨v,rfl,g1⟩,aa⟩;generalize(if cap=p+1 then a else a.map (·.add ((p+1)*9)))=bl at O c0 c1 G aa g1⊢))
  all_goals
   have a1:=G.trans (aa.mono G.size);have a6:=g1.mono G.size;clear G aa I O c0 c1 ao g1;go_wp2;go_ret2;exact⟨.inr ⟨_,_,Z.out,rfl,a6⟩,a1⟩
theorem ZG(a:Option Addr)(cap H:Nat)(x:Nd)(hx:Hd)(L:BH)(m:BA)(w:World)(cu:L.length≤900)(cx:L.length≤cap)(c3:cap≤9223372036854775807)(h:Cv w.cell? a L)(Z:Ch w H x hx)(b0:Ah w.cell? x hx):
 Calls prog 178 #[.slice a L.length cap,.string m,pO H 0] w fun e w'=>Kw (some (x,hx)) m L w w' e:=by
 obtain⟨t,ay⟩:∃t,AY m=t:=⟨_,rfl⟩;have bg:=hid ay;cases t
 ·have a8:Hid (Ep (some (x,hx)) m L=.error 4):=by show _=_;simp[Ep,ay]
  clear ay;go_enter func178,ntmps178;go_wp2_with fail
  refine(Ge m _).mono ?_;rintro e w' ⟨rfl,rfl⟩;rw[bg.out];go_wp2;go_ret2;exact⟨.inl ⟨4,a8.out,by decide,rfl⟩,nv _ _⟩
 have a8:Hid (Ep (some (x,hx)) m L=.ok (EM m x hx L)):=by show _=_;simp[Ep,ay]
 have bi:Hid ((EM m x hx L).length≤1000):=by have:=dI m x hx L;show _≤_;omega
 clear ay;have ba:Hid (∀W,Cv W.cell? a L→cL 145 #[.slice a L.length cap,.string m] W fun e w'=>e=.returned (iN (BD m (bare L) 0))∧Below W.heap.size W w'):=by
  intro W ao;have:=Lf a cap (bare L) m W (by rw[E7];omega) (IQ ao);rwa [E7]at this
 have bk:Hid (∀W,Cv W.cell? a L→cL 179 #[.slice a L.length cap,.string m] W fun e w'=>e=.returned (iN (D7 m (bare L)))∧Below W.heap.size W w'):=by
  intro W ao;have:=Y2 a cap (bare L) m W (by rw[E7];omega) (IQ ao);rwa [E7]at this
 obtain⟨k,G,u,g,o,nh,d,ks⟩:=x
 have bb:Hid (∀(W:World) (ap ar p q:Nat),p≤L.length→q≤L.length→EM m (.mk k G u g o nh d ks) hx L=L.take p++([(m,.mk k G u g o nh d ks,hx)]++L.drop q)→Cv W.cell? a L→Ah W.cell? (.mk k G u g o nh d ks) hx→Dq W.cell? ar 0 m (.mk k G u g o nh d ks) hx→Ce W ap 0 (.slice a p cap)→Ce W ap 1 (sL ar 0 1 1)→Ce W ap 2 (.slice (if cap=q then a else a.map (·.add (q*9))) (L.length-q) (cap-q))→
  cL 172 #[sL ap 0 3 3] W fun e w'=>(∃v,e=.returned v∧w'.ownsRow W.heap.size 89 9 v (EM m (.mk k G u g o nh d ks) hx L).length (Bn (EM m (.mk k G u g o nh d ks) hx L)))∧Below W.heap.size W w'):=by
  intro W ap ar p q J c4 b4 ao b5 b6 bd b7 b9;have O:Cv W.cell? (if cap=q then a else a.map (·.add (q*9))) (L.drop q):=by
   split
   ·exact Cv.none (by simp;omega)
   ·exact ao.drop q
  have cb:Cv W.cell? (some (aD ar 0)) [(m,.mk k G u g o nh d ks,hx)]:=by
   refine⟨.inr ⟨ar,0,rfl,fun j v cd=>?_⟩,fun e b1=>by simp at b1;subst b1;exact b5⟩;exact Jz.1 b6 j v (by simpa [Bn]using cd)
  exact ZY ap ⟨a,cap,L.take p⟩ ⟨some (aD ar 0),1,[(m,.mk k G u g o nh d ks,hx)]⟩ ⟨if cap=q then a else a.map (·.add (q*9)),cap-q,L.drop q⟩ _ W b4 bi.out (by rw[show(L.take p).length=p by simp;omega];exact bd) b7 (by rw[show(L.drop q).length=L.length-q by simp];exact b9) (ao.take p) cb O
 rcases IR m (bare L) 0 with⟨bl,_⟩|⟨p,x,J,b2,_⟩
 ·have bn:Hid (BD m (bare L) 0=-1):=bl
  obtain⟨p,J⟩:∃p,D7 m (bare L)=p:=⟨_,rfl⟩;have bo:Hid (EM m (.mk k G u g o nh d ks) hx L=L.take p++([(m,.mk k G u g o nh d ks,hx)]++L.drop p)):=by
   show _=_;unfold EM;rw[nD (by rw[bl];decide),J]
  have be:p≤L.length:=by have:=dG m (bare L);rw[E7]at this;omega
  have bp:=be;have cf:=hid J;clear bl J bi;have cg:(0:Int)≤(p:Int):=by omega
  have ch:(p:Int)≤(L.length:Int):=by omega
  have cl:(p:Int)≤(cap:Int):=by omega
  go_enter func178,ntmps178;go_wp2_with fail
  refine(Ge m _).mono ?_;rintro e w' ⟨rfl,rfl⟩;rw[bg.out];go_wp2_with fail
  refine np (ba.out _ h) ?_;rintro e c5 ⟨rfl,bf⟩;rw[bn.out];have bd:=h.on (Aj bf);go_wp2_with fail
  refine np (bk.out _ bd) ?_;rintro e F ⟨rfl,b3⟩;rw[cf.out];have Q:=bf.trans (b3.mono bf.size);clear ba bk bf b3 bd;have co:F.drew.heap.size=F.heap.size:=rfl;have R:Below w.heap.size w (F.drew.alloc (.cells #[.string m,iN k,iN G,iN u,iN g,.bool o,.slice hx.aa nh.length hx.ca,.string d,.slice hx.ak ks.length hx.ck] 89)):=(rz Q 1).alloc Q.size _;have I:Below w.heap.size w ((F.drew.alloc (.cells #[.string m,iN k,iN G,iN u,iN g,.bool o,.slice hx.aa nh.length hx.ca,.string d,.slice hx.ak ks.length hx.ck] 89)).alloc (.cells #[.slice a p cap,sL F.heap.size 0 1 1,.slice (if cap=p then a else a.map (·.add (p*9))) (L.length-p) (cap-p)] 52)):=R.alloc R.size _;have kd:Dq ((F.drew.alloc (.cells #[.string m,iN k,iN G,iN u,iN g,.bool o,.slice hx.aa nh.length hx.ca,.string d,.slice hx.ak ks.length hx.ck] 89)).alloc (.cells #[.slice a p cap,sL F.heap.size 0 1 1,.slice (if cap=p then a else a.map (·.add (p*9))) (L.length-p) (cap-p)] 52)).cell? F.heap.size 0 m (.mk k G u g o nh d ks) hx:=by
   have hb:=(nv _ (F.drew.alloc (.cells #[.string m,iN k,iN G,iN u,iN g,.bool o,.slice hx.aa nh.length hx.ca,.string d,.slice hx.ak ks.length hx.ck] 89))).alloc (nn _) (.cells #[.slice a p cap,sL F.heap.size 0 1 1,.slice (if cap=p then a else a.map (·.add (p*9))) (L.length-p) (cap-p)] 52);refine Dq.below ?_ hb;exact⟨aC,aC,aC,aC,aC,aC,aC,aC,aC⟩
  have T:∀i v,(#[.slice a p cap,sL F.heap.size 0 1 1,.slice (if cap=p then a else a.map (·.add (p*9))) (L.length-p) (cap-p)]:Array Value)[i]? =some v→Ce ((F.drew.alloc (.cells #[.string m,iN k,iN G,iN u,iN g,.bool o,.slice hx.aa nh.length hx.ca,.string d,.slice hx.ak ks.length hx.ck] 89)).alloc (.cells #[.slice a p cap,sL F.heap.size 0 1 1,.slice (if cap=p then a else a.map (·.add (p*9))) (L.length-p) (cap-p)] 52)) (F.heap.size+1) i v:=by
   intro i v bs;have e:((F.drew.alloc (.cells #[.string m,iN k,iN G,iN u,iN g,.bool o,.slice hx.aa nh.length hx.ca,.string d,.slice hx.ak ks.length hx.ck] 89)).alloc (.cells #[.slice a p cap,sL F.heap.size 0 1 1,.slice (if cap=p then a else a.map (·.add (p*9))) (L.length-p) (cap-p)] 52)).cell? (aD ((F.drew.alloc (.cells #[.string m,iN k,iN G,iN u,iN g,.bool o,.slice hx.aa nh.length hx.ca,.string d,.slice hx.ak ks.length hx.ck] 89)).heap.size) i)=(#[.slice a p cap,sL F.heap.size 0 1 1,.slice (if cap=p then a else a.map (·.add (p*9))) (L.length-p) (cap-p)]:Array Value)[i]?:=aC;rw[nw]at e;exact e.trans bs
  have aa:=T 0 _ rfl;have ab:=T 1 _ rfl;have ad:=T 2 _ rfl;have O:=h.on (Aj I);have ak:=b0.ab I;have az:=Z.below Q;have a1:=az;have a6:=Z.below R;have V:=Z.below I;obtain⟨bu,bv,bx,bA,bB,bC,bF,bG⟩:=az;clear T;go_wp2_with fail
  go_region_held3 (fun w'=>Ce w' H 0 (iN k)∧Ce w' H 1 (iN G)∧Ce w' H 2 (iN u)∧Ce w' H 3 (iN g)∧Ce w' H 4 (.bool o)∧Ce w' H 5 (.slice hx.aa nh.length hx.ca)∧Ce w' H 6 (.string d)∧Ce w' H 7 (.slice hx.ak ks.length hx.ck)) (first|exact a1|exact a6|exact V|exact a7) (first|(go_at_call 172;refine(bb.out _ _ _ p (p) be bp bo.out O ak kd aa ab ad).mono ?_;rintro e cp ⟨⟨v,rfl,g1⟩,Y⟩;have a7:=V.below Y;generalize(if cap=p then a else a.map (·.add (p*9)))=cr at O ak kd aa ab ad I Y g1 V⊢))
  all_goals
   have bH:=I.trans (Y.mono I.size);have bY:=g1.mono I.size;clear a1 a6 V a7 R I Y Q O ak kd aa ab ad bb g1 bu bv bx bA bB bC bF bG Z;go_wp2;go_ret2;exact⟨.inr ⟨_,_,a8.out,rfl,bY⟩,bH⟩
 ·rw[nU]at J
  have c6:p<L.length:=by have:=(ny.1 b2).1;rwa [E7]at this
  have bn:=hid J;have bo:Hid (EM m (.mk k G u g o nh d ks) hx L=L.take p++([(m,.mk k G u g o nh d ks,hx)]++L.drop (p+1))):=by
   show _=_;unfold EM;rw[nC (by rw[J];omega),J];rfl
  have be:p≤L.length:=by omega
  have bp:p+1≤L.length:=by omega
  clear J b2 bi;have cg:(0:Int)≤(p:Int):=by omega
  have ch:(p:Int)≤(L.length:Int):=by omega
  have cl:(p:Int)≤(cap:Int):=by omega
  have c8:(p:Int)+1≤(L.length:Int):=by omega
  have c9:(0:Int)≤(p:Int)+1:=by omega
  have da:IntKind.i64.wrap ((p:Int)+1)=(p:Int)+1:=EG (by omega) (by omega);have db:decide ((p:Int)<0)=false:=nB (by omega);go_enter func178,ntmps178;go_wp2_with fail
  refine(Ge m _).mono ?_;rintro e w' ⟨rfl,rfl⟩;rw[bg.out];go_wp2_with fail
  refine np (ba.out _ h) ?_;rintro e F ⟨rfl,Q⟩;rw[bn.out];clear ba bk;have co:F.drew.heap.size=F.heap.size:=rfl;have R:Below w.heap.size w (F.drew.alloc (.cells #[.string m,iN k,iN G,iN u,iN g,.bool o,.slice hx.aa nh.length hx.ca,.string d,.slice hx.ak ks.length hx.ck] 89)):=(rz Q 1).alloc Q.size _;have I:Below w.heap.size w ((F.drew.alloc (.cells #[.string m,iN k,iN G,iN u,iN g,.bool o,.slice hx.aa nh.length hx.ca,.string d,.slice hx.ak ks.length hx.ck] 89)).alloc (.cells #[.slice a p cap,sL F.heap.size 0 1 1,.slice (if cap=p+1 then a else a.map (·.add ((p+1)*9))) (L.length-(p+1)) (cap-(p+1))] 52)):=R.alloc R.size _;have kd:Dq ((F.drew.alloc (.cells #[.string m,iN k,iN G,iN u,iN g,.bool o,.slice hx.aa nh.length hx.ca,.string d,.slice hx.ak ks.length hx.ck] 89)).alloc (.cells #[.slice a p cap,sL F.heap.size 0 1 1,.slice (if cap=p+1 then a else a.map (·.add ((p+1)*9))) (L.length-(p+1)) (cap-(p+1))] 52)).cell? F.heap.size 0 m (.mk k G u g o nh d ks) hx:=by
   have hb:=(nv _ (F.drew.alloc (.cells #[.string m,iN k,iN G,iN u,iN g,.bool o,.slice hx.aa nh.length hx.ca,.string d,.slice hx.ak ks.length hx.ck] 89))).alloc (nn _) (.cells #[.slice a p cap,sL F.heap.size 0 1 1,.slice (if cap=p+1 then a else a.map (·.add ((p+1)*9))) (L.length-(p+1)) (cap-(p+1))] 52);refine Dq.below ?_ hb;exact⟨aC,aC,aC,aC,aC,aC,aC,aC,aC⟩
  have T:∀i v,(#[.slice a p cap,sL F.heap.size 0 1 1,.slice (if cap=p+1 then a else a.map (·.add ((p+1)*9))) (L.length-(p+1)) (cap-(p+1))]:Array Value)[i]? =some v→Ce ((F.drew.alloc (.cells #[.string m,iN k,iN G,iN u,iN g,.bool o,.slice hx.aa nh.length hx.ca,.string d,.slice hx.ak ks.length hx.ck] 89)).alloc (.cells #[.slice a p cap,sL F.heap.size 0 1 1,.slice (if cap=p+1 then a else a.map (·.add ((p+1)*9))) (L.length-(p+1)) (cap-(p+1))] 52)) (F.heap.size+1) i v:=by
   intro i v bs;have e:((F.drew.alloc (.cells #[.string m,iN k,iN G,iN u,iN g,.bool o,.slice hx.aa nh.length hx.ca,.string d,.slice hx.ak ks.length hx.ck] 89)).alloc (.cells #[.slice a p cap,sL F.heap.size 0 1 1,.slice (if cap=p+1 then a else a.map (·.add ((p+1)*9))) (L.length-(p+1)) (cap-(p+1))] 52)).cell? (aD ((F.drew.alloc (.cells #[.string m,iN k,iN G,iN u,iN g,.bool o,.slice hx.aa nh.length hx.ca,.string d,.slice hx.ak ks.length hx.ck] 89)).heap.size) i)=(#[.slice a p cap,sL F.heap.size 0 1 1,.slice (if cap=p+1 then a else a.map (·.add ((p+1)*9))) (L.length-(p+1)) (cap-(p+1))]:Array Value)[i]?:=aC;rw[nw]at e;exact e.trans bs
  have aa:=T 0 _ rfl;have ab:=T 1 _ rfl;have ad:=T 2 _ rfl;have O:=h.on (Aj I);have ak:=b0.ab I;have az:=Z.below Q;have a1:=az;have a6:=Z.below R;have V:=Z.below I;obtain⟨bu,bv,bx,bA,bB,bC,bF,bG⟩:=az;clear T;go_wp2_with fail
  go_region_held3 (fun w'=>Ce w' H 0 (iN k)∧Ce w' H 1 (iN G)∧Ce w' H 2 (iN u)∧Ce w' H 3 (iN g)∧Ce w' H 4 (.bool o)∧Ce w' H 5 (.slice hx.aa nh.length hx.ca)∧Ce w' H 6 (.string d)∧Ce w' H 7 (.slice hx.ak ks.length hx.ck)) (first|exact a1|exact a6|exact V|exact a7) (first|(go_at_call 172;refine(bb.out _ _ _ p (p+1) be bp bo.out O ak kd aa ab ad).mono ?_;rintro e cp ⟨⟨v,rfl,g1⟩,Y⟩;have a7:=V.below Y;generalize(if cap=p+1 then a else a.map (·.add ((p+1)*9)))=cr at O ak kd aa ab ad I Y g1 V⊢))
  all_goals
   have bH:=I.trans (Y.mono I.size);have bY:=g1.mono I.size;clear a1 a6 V a7 R I Y Q O ak kd aa ab ad bb g1 bu bv bx bA bB bC bF bG Z;go_wp2;go_ret2;exact⟨.inr ⟨_,_,a8.out,rfl,bY⟩,bH⟩
def AW(c:AH)(a:Option Addr)(l:List BA):Prop:=l=[]∨∃b F,a=some ⟨b,F,none⟩∧∀i s,l[i]? =some s→c ⟨b,F+i,none⟩=some (.string s)
theorem AW.on{c F:AH}{a:Option Addr}{l:List BA}(h:AW c a l)(hb:AR c F):AW F a l:=by
 rcases h with h|⟨b,G,H,I⟩
 ·exact .inl h
 ·exact .inr ⟨b,G,H,fun i s J=>hb _ _ (I i s J)⟩
theorem Nd.eta(x:Nd):x.with x.kids=x:=by obtain⟨k,m,u,g,o,nh,d,ks⟩:=x;rfl
def FD(F:Nat)(S:Nat→Bool):Nat→Bool:=fun k=>k==F+1||S k
theorem Mj{F k:Nat}{S:Nat→Bool}:FD F S k=false↔k≠F+1∧S k=false:=by simp[FD]
theorem Mi{W w':World}{S:Nat→Bool}{F:Nat}(hb:Below W.heap.size W w')(I:W.heap.size=F):AR (Ag W.cell? S) (Ag w'.cell? (FD F S)):=BN fun k G H=>⟨Mj.2 ⟨by omega,H⟩,hb.block k G⟩
theorem ZH{c:AH}{S:Nat→Bool}{b p:Nat}{x:Nd}{h:Hd}(F:S b=false)(G:Bi c b p x h):Bi (Ag c S) b p x h:=Ec.2 fun q u H=>(Ck F).trans (Ec.1 G q u H)
structure Gj (W wr:World) (S:Nat→Bool) (nb:Nat) (x0:Nd) (c:Option Nd) (l ni:List BA) (ab ap:Nat) (y:Nd) (hy:Hd):Prop where
 low:Below W.heap.size W wr
 sz:W.heap.size=nb
 res:Av wr (nb+1) zN zH
 atc:Bi wr.cell? ab ap y hy
 fz:∀q,wr.frozen? ⟨ab,q,none⟩=false
 ge:nb≤ab
 ne:ab≠nb+1
 hS:∀k,S k=true→k<W.heap.size
 tree:Ah (Ag W.cell? S) y hy
 wand:∃plug:Nd→Nd,(AV c l x0=(AV c ni y).map plug)∧∀w',Below W.heap.size W w'→(∀q v,wr.cell? q=some v→(∀i,i<8→q≠⟨ab,ap+i,none⟩)→w'.cell? q=some v)→∀z hz,Bi w'.cell? ab ap z hz→Ah (Ag w'.cell? (FD nb S)) z hz→∃hr,Ch w' nb (plug z) hr∧Ah (Ag w'.cell? (FD nb S)) (plug z) hr
theorem Bi.lt{w:World}{b p:Nat}{x:Nd}{h:Hd}(F:Bi w.cell? b p x h):b<w.heap.size:=by
 obtain⟨k,m,u,g,o,nh,d,ks⟩:=x;exact bL F.1
theorem Gj.start{W wr:World}{S:Nat→Bool}{F:Nat}{x0:Nd}{c:Option Nd}{l:List BA}{h:Hd}(H:Below W.heap.size W wr)(I:W.heap.size=F)(J:Av wr (F+1) zN zH)(G:Av wr F x0 h)(O:∀k,S k=true→k<W.heap.size)(Q:Ah (Ag W.cell? S) x0 h):Gj W wr S F x0 c l l F 0 x0 h:=by
 refine⟨H,I,J,G.1.at,G.2,nn _,by omega,O,Q,id,?_,?_⟩
 ·cases AV c l x0<;>rfl
 ·intro w' _ _ z R T V
  exact⟨R,T.box,V⟩
theorem SR{w:World}{b p:Nat}{y:Nd}{F:Hd}(h:Bi w.cell? b p y F)(G:Ar)(H:Option Addr)(ck:Nat):Bi (w.setCell (aD b (p+7)) (.slice H G.length ck)).cell? b p (y.with G) ⟨F.aa,F.ca,H,ck⟩:=by
 obtain⟨k,m,u,g,o,nh,d,ks⟩:=y;obtain⟨I,J,O,Q,R,T,V,Y⟩:=h;have e:∀o,o≠p+7→(w.setCell (aD b (p+7)) (.slice H G.length ck)).cell? (aD b o)=w.cell? (aD b o):=fun o Z=>nA _ _ _ _ (fun e=>Z (Addr.mk.inj e).2.1.symm);exact⟨(e _ (by omega)).trans I,(e _ (by omega)).trans J,(e _ (by omega)).trans O,(e _ (by omega)).trans Q,(e _ (by omega)).trans R,(e _ (by omega)).trans T,(e _ (by omega)).trans V,nI _ _ _ Y⟩
theorem bS{c:Option Nd}{m F:BA}{ni:List BA}{y z:Nd}{p:Nat}(H:y.kind=2)(G:BD m y.kids 0=(p:Int))(I:y.kids[p]? =some (m,z)):AV c (m::F::ni) y=(AV c (F::ni) z).map fun q=>y.with (y.kids.set p (m,q)):=by
 rw[AV,nC (by simp[H]),nC (by rw[G];omega),G];have e:y.kid p=z:=by unfold Nd.kid;rw[I]
 simp only[Int.toNat_natCast];rw[e]
theorem Gj.step{W wr J:World}{S:Nat→Bool}{ab:Nat}{x0:Nd}{c:Option Nd}{l ni:List BA}{m ad:BA}{F G:Nat}{y z:Nd}{ak:Hd}{L:BH}{base g p ck:Nat}{Y:Hd}(h:Gj W wr S ab x0 c l (m::ad::ni) F G y ak)(hb:Below wr.heap.size wr J)(co:wr.heap.size≤base)
 (ao:bare L=y.kids) (ba:∀e∈L,Ah (Ag W.cell? S) e.2.1 e.2.2) (bn:y.kind=2) (bo:BD m y.kids 0=(p:Int)) (Z:L[p]? =some (m,z,Y)) (bp:J.ownsRow base 89 9 (sL g 0 y.kids.length ck) y.kids.length (Bn L)):
 Gj W (J.setCell (aD F (G+7)) (sL g 0 y.kids.length ck)) S ab x0 c l (ad::ni) g (p*9+1) z Y:=by
 obtain⟨bs,bu,bv⟩:=h.wand;have cp:=h.atc.lt;obtain⟨a0,c0,Q,bx,bA,bB⟩:=Df bp;simp only[rp,true_and]at Q;obtain⟨rfl,rfl⟩:=Q;rcases bB with⟨e,_⟩|⟨cr,e,cu,cx,bC,bF⟩
 ·cases e
 simp only[nV,rc,and_true]at e;subst e;have H:g≠F:=by omega
 have c3:W.heap.size≤g:=by have:=h.low.size;omega
 have ap:FD ab S g=false:=Mj.2 ⟨by have:=h.res.1.lt;omega,by
  cases hs:S g with
  |false=>rfl
  |true=>have:=h.hS g hs;omega⟩
 have bG:y.kids[p]? =some (m,z):=by
  rw[←ao];unfold bare;rw[n4,Z];rfl
 have bb:∀q:Addr,q≠(aD F (G+7))→(J.setCell (aD F (G+7)) (sL g 0 y.kids.length ck)).cell? q=J.cell? q:=fun q R=>nA _ _ _ _ (fun e=>R e.symm);have bd:∀j u,(Bn L)[j]? =some u→Ce (J.setCell (aD F (G+7)) (sL g 0 y.kids.length ck)) g j u:=fun j u ar=>(bb _ (fun e=>H (Addr.mk.inj e).1)).trans (bC j u ar)
 have bH:Below W.heap.size W (J.setCell (aD F (G+7)) (sL g 0 y.kids.length ck)):=(h.low.trans (hb.mono h.low.size)).setCell (p:=(aD F (G+7))) (by show W.heap.size≤F;have:=h.ge;have:=h.sz;omega) _;refine⟨bH,h.sz,(h.res.below hb).other (p:=(aD F (G+7))) h.ne _,?_,fun q=>by rw[rJ];exact bF q,by have:=h.sz;omega,by have:=h.res.1.lt;omega,h.hS,ba _ (nE Z),?_⟩
 ·refine Ec.2 fun q u R=>?_
  have:=JB L p m z Y Z (q+1) u (by simpa using R);have:=bd _ _ this;rw[show p*9+1+q=p*9+(q+1) by omega];exact this
 ·refine⟨fun q=>bs (y.with (y.kids.set p (m,q))),?_,?_⟩
  ·rw[bu,bS bn bo bG]
   cases AV c (ad::ni) z<;>rfl
  ·intro w' ay R V be bY b0
   have bf:=SR (h.atc.below hb) y.kids (some (aD g 0)) ck;rw[Nd.eta]at bf;refine bv w' ay ?_ (y.with (y.kids.set p (m,V))) ⟨ak.aa,ak.ca,some (aD g 0),ck⟩ ?_ ?_
   ·intro q v Q az
    have a1:q.block<wr.heap.size:=bL Q;refine R q v ?_ (fun i I e=>?_)
    ·rw[bb q (az 7 (by omega))];exact(hb.cell a1).trans Q
    ·rw[e]at a1;simp at a1;omega
   ·have O:∀q v,(J.setCell (aD F (G+7)) (sL g 0 y.kids.length ck)).cell? q=some v→q.block≠g→w'.cell? q=some v:=fun q v Q b1=>R q v Q (fun i I e=>b1 (by rw[e]))
    obtain⟨k,b2,u,b3,o,nh,d,ks⟩:=y;obtain⟨b4,T,b5,b6,b7,b9,cb,cd⟩:=bf;have aa:(ks.set p (m,V)).length=ks.length:=List.length_set;refine⟨O _ _ b4 H.symm,O _ _ T H.symm,O _ _ b5 H.symm,O _ _ b6 H.symm,O _ _ b7 H.symm,O _ _ b9 H.symm,O _ _ cb H.symm,?_⟩;show w'.cell? _=some (.slice _ (ks.set p (m,V)).length _);rw[aa];exact O _ _ cd H.symm
   ·have cf:=h.tree
    obtain⟨k,b2,u,b3,o,nh,d,ks⟩:=y;obtain⟨cg,ch,t3,_⟩:=Cq.1 cf;have aa:(ks.set p (m,V)).length=ks.length:=List.length_set;refine Cq.2 ⟨cg.on (Mi ay h.sz),ch,⟨by show(ks.set p (m,V)).length≤ck;rw[aa];exact bx,bA⟩,.inr ⟨g,0,rfl,fun i=>if i=p then be else((L[i]?).map (fun e=>e.2.2)).getD be,?_⟩⟩;intro i n a6 I;dsimp only;change(ks.set p (m,V))[i]? =some (n,a6)at I;have bg:i<ks.length:=by have:=(ny.1 I).1;rwa [aa]at this
    have bi:i<L.length:=by have:=nW List.length ao;rw[E7]at this;show i<L.length;rw[this];exact bg
    have bk:∀j u,(Bn L)[j]? =some u→(∀q,q<8→j≠p*9+1+q)→Ce w' g j u:=fun j u ar az=>R _ _ (bd j u ar) (fun q cl e=>az q cl (Addr.mk.inj e).2.1);by_cases bl:i=p
    ·subst bl
     rw[List.getElem?_set_self bg]at I;simp only[nV,Prod.mk.injEq]at I;obtain⟨rfl,rfl⟩:=I;rw[nD rfl,nU];refine⟨⟨?_,ZH ap bY⟩,b0⟩;rw[Ck ap];refine bk _ _ (by have:=JB L i m z Y Z 0 _ rfl;simpa using this) (fun q a7 e=>by omega)
    ·rw[List.getElem?_set_ne (by omega)]at I
     have a8:L[i]? =some (n,a6,L[i].2.2):=by
      have T:(bare L)[i]? =some (n,a6):=by rw[ao];exact I
      unfold bare at T;rw[n4,nt bi]at T;simp at T;rw[nt bi];congr 1;exact Prod.ext T.1 (Prod.ext T.2 rfl)
     rw[nC bl,a8];simp only[r0,Option.getD_some];rw[nU];refine⟨Jz.2 fun q u a7=>?_,(ba _ (nE a8)).on (Mi ay h.sz)⟩;rw[Ck ap];have c4:q<9:=by have:=(ny.1 a7).1;simp[D1]at this;omega
     exact bk _ _ (JB L i _ _ _ a8 q u a7) (fun r c5 e=>by omega)
theorem Gj.fin{W wr I:World}{S:Nat→Bool}{O:Nat}{x0:Nd}{c:Option Nd}{l:List BA}{m:BA}{F G:Nat}{y:Nd}{T:Hd}{M:BH}{base n ck:Nat}{H:Option Addr}(h:Gj W wr S O x0 c l [m] F G y T)(hb:Below wr.heap.size wr I)(be:wr.heap.size≤base)
 (ab:∀e∈M,Ah (Ag W.cell? S) e.2.1 e.2.2) (J:y.kind=2) (ad:GM c m y.kids=.ok (bare M)) (V:M.length=n) (ak:I.ownsRow base 89 9 (.slice H n ck) n (Bn M)):
 ∃r Q,AV c l x0=.ok r∧Ch (I.setCell (aD F (G+7)) (.slice H n ck)) O r Q∧Ah (Ag (I.setCell (aD F (G+7)) (.slice H n ck)).cell? (FD O S)) r Q∧Below W.heap.size W (I.setCell (aD F (G+7)) (.slice H n ck))∧Av (I.setCell (aD F (G+7)) (.slice H n ck)) (O+1) zN zH:=by
 subst V;obtain⟨bf,ao,ap⟩:=h.wand;have bg:=h.atc.lt;have R:Below W.heap.size W (I.setCell (aD F (G+7)) (.slice H M.length ck)):=(h.low.trans (hb.mono h.low.size)).setCell (p:=(aD F (G+7))) (by show W.heap.size≤F;have:=h.ge;have:=h.sz;omega) _;have ar:=Lj ak (p:=(aD F (G+7))) (show F<base by omega) (.slice H M.length ck)
 obtain⟨bi,bk,Y,ay,az,a1,_⟩:=MW (S:=FD O S) (fun k J=>by
  simp[FD]at J;rcases J with J|J
  ·have:=h.res.1.lt;omega
  ·have:=h.hS k J;have:=h.low.size;omega) ar (fun e a6=>(ab e a6).on (Mi R h.sz))
 simp only[rp,true_and]at Y;obtain⟨rfl,rfl⟩:=Y;have Z:=SR (h.atc.below hb) (bare M) H ck;rw[E7]at Z;have a7:Ah (Ag (I.setCell (aD F (G+7)) (.slice H M.length ck)).cell? (FD O S)) (y.with (bare M)) ⟨T.aa,T.ca,H,ck⟩:=by
  have a8:=h.tree;obtain⟨k,bl,u,bn,o,nh,d,ks⟩:=y;obtain⟨ba,bb,t3,_⟩:=Cq.1 a8;exact Cq.2 ⟨ba.on (Mi R h.sz),bb,⟨by rw[E7];exact ay,az⟩,IQ a1⟩
 obtain⟨Q,g1,bd⟩:=ap _ R (fun q v aa V=>(nA _ _ _ _ (fun e=>V 7 (by omega) e.symm)).trans ((hb.cell (bL aa)).trans aa)) _ _ Z a7;refine⟨_,Q,?_,g1,bd,R,(h.res.below hb).other (p:=(aD F (G+7))) h.ne _⟩;rw[ao,AV,nC (by simp[J]),ad];rfl
end Go.Proofs.YtofhphibahcniaaGreatDoor
namespace Go.Proofs.YtofhphibahcniaaGreatDoor
open Go.RowKit Go.Shelf Go.Proofs.Tryz
attribute [local go_sem] Oper.semAt_some
def AI(xs:List Nd)(nf:List BA):List (Nd×Nat):=nf.foldl (fun l nm=>Bq (Bz nm l)) (Bq (BJ xs))
theorem Jm{xs:List Nd}{nf:List BA}{i:Nat}{nm:BA}(h:nf[i]? =some nm):AI xs (nf.take (i+1))=Bq (Bz nm (AI xs (nf.take i))):=by
 unfold AI;rw[rv,h];simp
theorem MV{xs:List Nd}(h:DL (BJ xs)):∀nf:List BA,DL (AI xs nf):=by
 intro nf;unfold AI;generalize F:Bq (BJ xs)=l;have G:DL l:=by rw[←F];exact h.sh
 clear F;induction nf generalizing l with
 |nil=>exact G
 |cons n r H=>rw[rK];exact H _ (G.kid n).sh
theorem Qy(az Y:Nat)(a:Option Addr)(cap:Nat)(xs:List Nd)(an:Option Addr)(nj:Nat)(nf:List BA)(l:Nat)(F:Nat→(Nat→Bool)→World→Prop)(a1:World→Prop)(W:World)(S:Nat→Bool)
 (bu:Ag W.cell? S (aD az 0)=some (.slice a xs.length cap)) (Z:Ag W.cell? S (aD Y 0)=some (.slice an nf.length nj)) (hx:Cn (Ag W.cell? S) a xs) (J:AW (Ag W.cell? S) an nf) (bv:xs.length≤1000) (bx:nf.length≤1000) (a6:DL (BJ xs))
 (a7:∀i S A,F i S A→∀k,S k=true→k<A.heap.size) (a8:∀i S A B,F i S A→Below A.heap.size A B→F i S B)
 (ba:∀i S v A,i≤nf.length→F i S A→ES (Ag A.cell? S) v (AI xs (nf.take i))→YieldAt Fence.wide 0 prog l #[v] A fun e B=>(e=.returned (.bool true)∧∃S',F (i+1) S' B∧AR (Ag A.cell? S) (Ag B.cell? S'))∨(e=.returned (.bool false)∧a1 B))
 (bb:F 0 S W):
 CallsIn Fence.wide 0 prog 162 #[.func (.yield l) #[] #[],.pointer (some ⟨az,0,none⟩),.pointer (some ⟨Y,0,none⟩)] W fun e B=>(∃v,e=.returned v)∧((∃S',F (nf.length+1) S' B)∨a1 B):=by
 refine callsIn_of_wp func162 rfl trivial ?_ rfl;simp only[ntmps162,List.size_toArray,n3,nR,Nat.reduceAdd,Nat.reduceSub,r9,r8,List.push_toArray,List.append_toArray,ru,n9];have aa:Hid _:=ba;have cb:Hid _:=hx;have bd:Hid _:=J;have cd:Hid _:=Z;have bA:Hid _:=a6;obtain⟨N,ab⟩:=AQ nf.length;have bB:=Ci _ _ _ _ bu;have be:Ce W Y 0 (.slice an N nj):=by rw[←ab.out];exact Ci _ _ _ _ Z
 rw[ab.out]at bx aa⊢;have bf:Hid _:=XT (S:=S) (w:=W.alloc (.cells #[.slice a xs.length cap] 30)) (a7 _ _ _ bb) hx bv rfl;clear ba hx J Z a6;gi_wp2_with fail
 refine⟨trivial,rfl,CallsIn.mono (rX.2 (XU W a xs.length cap)) ?_⟩;rintro e cf ⟨rfl,rfl⟩;gi_wp2_with fail
 refine⟨trivial,rfl,CallsIn.mono (rX.2 bf.out) ?_⟩;rintro e bC ⟨v0,rfl,bg,ad⟩;have cg:=Aj ad _ _ be;have bF:=a8 _ _ _ _ bb ad;have bG:AR (Ag W.cell? S) (Ag bC.cell? S):=CN ad;have bH:=hid bg;clear bf bg bB be;gi_wp2_with fail
 gi_loopw [4,6,12] (fun v _ i wr=>∃(j:Nat) (S':Nat→Bool),j≤N∧i=iN j∧F j S' wr∧Hid (ES (Ag wr.cell? S') v (AI xs (nf.take j)))∧Hid (AR (Ag W.cell? S) (Ag wr.cell? S'))) (fun _ _ i _=>N-(intOf i).toNat)
 case atStart=>exact⟨0,S,nN _,rfl,bF,bH,bG⟩
 case round=>
  obtain⟨j,S',ch,rfl,bi,O,ak⟩:=hrel;by_cases bY:j<N;rotate_left
  ·obtain rfl:j=N:=by omega
   have b0:=nB (by omega);obtain⟨fn,tmps,assign,body,b1,G⟩:=aa.out j S' _ wr (by omega) bi O.out;have ao:Hid _:=G;clear G;gi_wp2
   refine⟨rfl,RoundIn.mono ao.out ?_⟩;rintro e Q (⟨rfl,H,R,_⟩|⟨rfl,ap⟩)
   ·gi_wp2
    go_end0
    exact⟨⟨_,rfl⟩,.inl ⟨H,R⟩⟩
   ·gi_wp2
    go_end0
    exact⟨⟨_,rfl⟩,.inr ap⟩
  ·have b0:decide ((j:Int)<(N:Int))=true:=nF (by omega)
   obtain⟨nm,T⟩:∃nm,nf[j]? =some nm:=⟨_,nt (by rw[ab.out];exact bY)⟩;obtain⟨cl,co,rfl,bk⟩:∃b bl,an=some (aD b bl)∧∀i s,nf[i]? =some s→Ag W.cell? S (aD b (bl+i))=some (.string s):=by
    rcases bd.out with e|e
    ·subst e;simp at T
    ·exact e
   have cp:=Ci _ _ _ _ (ak.out _ _ (bk j nm T));obtain⟨fn,tmps,assign,body,b1,G⟩:=aa.out j S' _ wr (by omega) bi O.out;have ao:Hid _:=G;have b2:Hid _:=T;obtain⟨ar,vc,D,rfl,g1,b3,g3,g4,bn⟩:=O.out;have I:Hid (DH (Ag wr.cell? S') ar D∧(∀s∈D,CB (Ag wr.cell? S') s)∧D.map Sp.pr=AI xs (nf.take j)):=⟨g3,g4,bn⟩;clear G T bk g1 b3 g3 g4 bn bd;gi_wp2
   refine⟨rfl,RoundIn.mono ao.out ?_⟩;rintro e Q (⟨rfl,H,R,V⟩|⟨rfl,ap⟩);rotate_left
   ·gi_wp2
    refine nG (results_none rfl _ _ _) rfl ?_;exact⟨⟨_,rfl⟩,.inr ap⟩
   have bo:Hid _:=V;have bp:Hid _:=J1 (A:=Q) (S:=H) (cap:=vc) (w:=(Q.alloc (.cells #[.slice ar D.length vc] 131)).alloc (.cells #[.string nm] 9)) (a7 _ _ _ R) nm (I.out.1.on V) (fun s J=>(I.out.2.1 s J).on V) (by rw[I.out.2.2];exact MV bA.out _) rfl;clear V;gi_wp2_with fail
   refine⟨trivial,rfl,CallsIn.mono (rX.2 (JZ Q ar D.length vc nm)) ?_⟩;rintro e cr ⟨rfl,rfl⟩;gi_wp2_with fail
   refine⟨trivial,rfl,CallsIn.mono (rX.2 bp.out) ?_⟩;rintro e b4 ⟨cu,rfl,ay,bs⟩;rw[I.out.2.2,←Jm b2.out]at ay;have b5:Hid _:=ay;have b6:Hid (AR (Ag W.cell? S) (Ag b4.cell? H)):=fun q u b7=>CN bs _ _ (bo.out _ _ (ak.out _ _ b7));have b9:=a8 _ _ _ _ R bs
   clear ay bp I bo ak O;gi_wp2
   go_roundw
   case rel=>exact⟨j+1,H,by omega,by go_num,b9,b5.out,b6.out⟩
   case measure=>(simp[intOf];try omega)
end Go.Proofs.YtofhphibahcniaaGreatDoor
namespace Go.Proofs.YtofhphibahcniaaGreatDoor
open Go.RowKit Go.Proofs.Tryz
abbrev BM:=List (Nd×Nat)
def Ee(nm:BA):Ar→Option Nd
 |[]=>none
 |p::l=>if p.1=nm then some p.2 else Ee nm l
theorem TF{nm:BA}:∀{ks:Ar},(∀p∈ks,p.1≠nm)→Ee nm ks=none
 |[],_=>rfl
 |p::l,h=>by rw[Ee,nC (h p (nK ..)),TF fun q F=>h q (n2 _ F)]
theorem Tu{nm:BA}{x:Nd}:∀{ks:Ar} {j:Nat},ks[j]? =some (nm,x)→(∀q,q<j→∀p,ks[q]? =some p→p.1≠nm)→Ee nm ks=some x
 |[],j,h,_=>by simp at h
 |p::l,0,h,_=>by simp at h;rw[Ee,nD (by rw[h])];rw[h]
 |p::l,j+1,h,k=>by
  rw[Ee,nC (k 0 (by omega) p rfl)];exact Tu (j:=j) (by simpa using h) fun q H F G=>k (q+1) (by omega) F (by simpa using G)
theorem Ki(nm:BA)(x:Nd):Dr nm x=Ee nm x.dirKs:=by
 obtain⟨k,m,u,g,o,nh,d,ks⟩:=x;unfold Dr Hl;show(if(if k=2 then BD nm ks 0 else-1)<0 then none else(ks[((if k=2 then BD nm ks 0 else-1):Int).toNat]?).map (·.2))=Ee nm (if k=2 then ks else []);by_cases F:k=2
 ·rw[nD F,nD F]
  rcases IR nm ks 0 with⟨H,G⟩|⟨j,y,H,G,I⟩
  ·rw[H,TF G];rfl
  ·rw[H,Tu G I,nC (by omega),Int.toNat_natCast,nU,G];rfl
 ·rw[nC F,nC F];rfl
theorem LE{nm:BA}{y:Nd}:∀{ks:Ar},Ee nm ks=some y→(nm,y)∈ks
 |[],h=>by cases h
 |p::l,h=>by
  rw[Ee]at h;split at h
  ·rename_i e;cases h;rw[←e];exact nK ..
  ·exact n2 _ (LE h)
theorem Lg{x:Nd}{p:BA×Nd}(h:p∈x.dirKs):p∈x.kids:=by
 unfold Nd.dirKs at h;split at h
 ·exact h
 ·cases h
def Gm(l:List BA):Prop:=l.Pairwise (fun a b=>AZ a b=true)
def Ih(nm:BA):List BA→List BA
 |[]=>[nm]
 |x::r=>if AZ x nm=true then x::Ih nm r else if x=nm then x::r else nm::x::r
theorem N0(nm:BA):∀{l:List BA} {x:BA},x∈Ih nm l↔x=nm∨x∈l
 |[],x=>by simp[Ih]
 |y::r,x=>by
  rw[Ih];split
  ·rw[nY,N0 nm,nY]
   constructor
   ·rintro(h|h|h)
    ·exact .inr (.inl h)
    ·exact .inl h
    ·exact .inr (.inr h)
   ·rintro(h|h|h)
    ·exact .inr (.inl h)
    ·exact .inl h
    ·exact .inr (.inr h)
  ·split
   ·rename_i e
    subst e;simp
   ·simp
theorem Rf(nm:BA):∀{l:List BA},Gm l→Gm (Ih nm l)
 |[],_=>by simp[Ih,Gm]
 |y::r,h=>by
  obtain⟨G,I⟩:=rr.1 h;rw[Ih];split
  ·rename_i hl
   refine rr.2 ⟨fun z F=>?_,Rf nm I⟩;rcases(N0 nm).1 F with e|e
   ·rw[e];exact hl
   ·exact G z e
  ·rename_i hl
   split
   ·exact h
   ·rename_i hne
    have H:AZ nm y=true:=by
     rcases IE y nm with h|h|h
     ·exact absurd h hl
     ·exact absurd h hne
     ·exact h
    refine rr.2 ⟨fun z F=>?_,h⟩;rcases nY.1 F with e|e
    ·rw[e];exact H
    ·exact GE H (G z e)
theorem SD:∀{a b:List BA},Gm a→Gm b→(∀x,x∈a↔x∈b)→a=b
 |[],[],_,_,_=>rfl
 |[],y::b,_,_,h=>by have:=(h y).2 (nK ..);cases this
 |x::a,[],_,_,h=>by have:=(h x).1 (nK ..);cases this
 |x::a,y::b,ha,hb,h=>by
  obtain⟨H,a2⟩:=rr.1 ha;obtain⟨I,O⟩:=rr.1 hb;have Q:x=y:=by
   rcases nY.1 ((h x).1 (nK ..))with e|e
   ·exact e
   ·rcases nY.1 ((h y).2 (nK ..))with G|G
    ·exact G.symm
    ·have R:=I x e
     have J:=H y G;rw[J4 R]at J;cases J
  subst Q;congr 1;refine SD a2 O fun z=>?_;constructor
  ·intro F
   rcases nY.1 ((h z).1 (n2 _ F))with e|e
   ·subst e;have:=H z F;rw[Hv]at this;cases this
   ·exact e
  ·intro F
   rcases nY.1 ((h z).2 (n2 _ F))with e|e
   ·subst e;have:=I z F;rw[Hv]at this;cases this
   ·exact e
theorem Xr{l:List BA}(h:Gm l):l.Nodup:=List.Pairwise.imp (fun h=>Ia h) h
def VT(l:BM):List BA:=l.flatMap fun q=>q.1.kids.map (·.1)
def CK(l:BM)(nm:BA):BM:=Bq (Bz nm l)
def I9(l:BM)(F:List BA)(r:List BA):List BA:=r.foldl (fun F nm=>if(CK l nm).isEmpty=true then F else Ih nm F) F
theorem Tx(l:BM):∀(r H:List BA) (x:BA),x∈I9 l H r↔x∈H∨(x∈r∧CK l x≠[])
 |[],H,x=>by simp[I9]
 |nm::r,H,x=>by
  unfold I9;rw[rK];show x∈I9 l _ r↔_;rw[Tx l r];by_cases h:(CK l nm).isEmpty=true
  ·rw[nD h]
   have h':CK l nm=[]:=List.isEmpty_iff.1 h;constructor
   ·rintro(F|⟨F,G⟩)
    ·exact .inl F
    ·exact .inr ⟨n2 _ F,G⟩
   ·rintro(F|⟨F,G⟩)
    ·exact .inl F
    ·rcases nY.1 F with e|e
     ·rw[e]at G;exact absurd h' G
     ·exact .inr ⟨e,G⟩
  ·rw[nC h,N0]
   have h':CK l nm≠[]:=fun e=>h (List.isEmpty_iff.2 e);constructor
   ·rintro((F|F)|⟨F,G⟩)
    ·exact .inr ⟨by rw[F];exact nK ..,by rw[F];exact h'⟩
    ·exact .inl F
    ·exact .inr ⟨n2 _ F,G⟩
   ·rintro(F|⟨F,G⟩)
    ·exact .inl (.inr F)
    ·rcases nY.1 F with e|e
     ·exact .inl (.inl e)
     ·exact .inr ⟨e,G⟩
theorem QZ(l:BM):∀(r F:List BA),Gm F→Gm (I9 l F r)
 |[],F,h=>h
 |nm::r,F,h=>by
  unfold I9;rw[rK];refine QZ l r _ ?_;split
  ·exact h
  ·exact Rf nm h
def CS(l:BM):List BA:=I9 l [] (VT l)
theorem QJ(l:BM):Gm (CS l):=QZ l _ _ List.Pairwise.nil
theorem bV{l:BM}{nm:BA}(h:CK l nm≠[]):nm∈VT l:=by
 cases hk:Bz nm l with
 |nil=>exact absurd (by unfold CK;rw[hk];rfl) h
 |cons q r=>
  have G:q∈Bz nm l:=by rw[hk];exact nK ..
  obtain⟨p,H,e⟩:=rC.1 G;obtain⟨y,F,_⟩:=n0.1 e;rw[Ki]at F;exact List.mem_flatMap.2 ⟨p,H,rx.2 ⟨_,Lg (LE F),rfl⟩⟩
theorem Rx{l:BM}{nm:BA}:nm∈CS l↔CK l nm≠[]:=by
 unfold CS;rw[Tx];constructor
 ·rintro(h|h)
  ·cases h
  ·exact h.2
 ·intro h;exact .inr ⟨bV h,h⟩
def tot:BM→Nat
 |[]=>0
 |q::r=>cnt q.1+tot r
theorem SU(x:Nd):0<cnt x:=by obtain⟨k,m,u,g,o,nh,d,ks⟩:=x;rw[cnt];omega
theorem LP:∀l:BM,l.length≤tot l
 |[]=>nn _
 |q::r=>by have:=LP r;have:=SU q.1;simp[tot];omega
theorem Td:∀l:BM,tot (Ey l)≤tot l
 |[]=>nn _
 |q::r=>by
  have F:=Td r;rw[Ey];split
  ·simp[tot]
  split
  ·simp[tot]
  ·simp[tot];omega
theorem Ut:∀l:BM,tot (Bq l)≤tot l
 |[]=>nn _
 |q::r=>by
  rw[Bq];split
  ·simp[tot]
  ·exact Td _
def oc:Option Nd→Nat
 |none=>0
 |some y=>cnt y
theorem Oh:∀N:List BA,(N.map fun _=>0).sum=0
 |[]=>rfl
 |n::N=>by simp only[rh,List.sum_cons];rw[Oh N]
theorem RI(g h:BA→Nat):∀N:List BA,(N.map fun n=>g n+h n).sum=(N.map g).sum+(N.map h).sum
 |[]=>rfl
 |n::N=>by simp only[rh,List.sum_cons];rw[RI g h N];omega
theorem UZ(a:BA)(c:Nat)(g:BA→Nat):∀N:List BA,N.Nodup→(N.map fun n=>if a=n then c else g n).sum≤c+((N.filter fun n=>decide (a≠n)).map g).sum
 |[],_=>by simp
 |n::N,h=>by
  obtain⟨I,J⟩:=List.nodup_cons.1 h;rw[rh,List.sum_cons];by_cases e:a=n
  ·rw[nD e]
   have H:∀m∈N,a≠m:=fun m F G=>I (by rw[←e,G];exact F);have O:(N.map fun n=>if a=n then c else g n)=N.map g:=List.map_congr_left fun m F=>nC (H m F)
   have G:(n::N).filter (fun n=>decide (a≠n))=N:=by
    rw[List.filter_cons,nC (by simp[e])];exact List.filter_eq_self.2 fun m F=>nF (H m F)
   rw[O,G];omega
  ·rw[nC e,List.filter_cons,nD (by simp[e]),rh,List.sum_cons]
   have:=UZ a c g N J;omega
theorem Uo:∀(ks:Ar) (N:List BA),N.Nodup→(N.map fun nm=>oc (Ee nm ks)).sum≤cntL ks
 |[],N,_=>by
  have:(N.map fun nm=>oc (Ee nm []))=N.map fun _=>0:=rfl;rw[this,Oh]
  exact nN _
 |(a,y)::l,N,h=>by
  have e:(N.map fun nm=>oc (Ee nm ((a,y)::l)))=N.map fun nm=>if a=nm then cnt y else oc (Ee nm l):=by
   refine List.map_congr_left fun nm _=>?_;rw[Ee]
   split<;>rfl
  rw[e,cntL];have F:=UZ a (cnt y) (fun nm=>oc (Ee nm l)) N h;have G:=Uo l (N.filter fun n=>decide (a≠n)) (h.filter _);omega
theorem XE(nm:BA)(q:Nd×Nat)(l:BM):tot (Bz nm (q::l))=oc (Dr nm q.1)+tot (Bz nm l):=by
 unfold Bz;rw[rt];cases h:Dr nm q.1 with
 |none=>simp[oc]
 |some y=>simp[oc,tot]
theorem Ra(x:Nd):cntL x.dirKs+1≤cnt x:=by
 obtain⟨k,m,u,g,o,nh,d,ks⟩:=x;rw[cnt];show cntL (if k=2 then ks else [])+1≤_;split
 ·omega
 ·rw[cntL];omega
theorem Ts:∀(l:BM) (N:List BA),N.Nodup→(N.map fun nm=>tot (Bz nm l)).sum+l.length≤tot l
 |[],N,_=>by
  have:(N.map fun nm=>tot (Bz nm []))=N.map fun _=>0:=rfl;rw[this,Oh]
  simp[tot]
 |q::l,N,h=>by
  have e:(N.map fun nm=>tot (Bz nm (q::l)))=N.map fun nm=>oc (Ee nm q.1.dirKs)+tot (Bz nm l):=List.map_congr_left fun nm _=>by rw[XE,Ki]
  rw[e,RI];have F:=Uo q.1.dirKs N h;have G:=Ts l N h;have H:=Ra q.1;simp only[tot,n3];omega
theorem Vk(g h:BA→Nat)(F:∀n,g n≤h n):∀N:List BA,(N.map g).sum≤(N.map h).sum
 |[]=>nn _
 |n::N=>by have:=Vk g h F N;have:=F n;simp only[rh,List.sum_cons];omega
theorem Us(l:BM)(N:List BA)(h:N.Nodup):(N.map fun nm=>tot (CK l nm)).sum+l.length≤tot l:=by
 have F:=Ts l N h;have G:=Vk (fun nm=>tot (CK l nm)) (fun nm=>tot (Bz nm l)) (fun nm=>Ut _) N;omega
theorem ZA(l:BM)(nm:BA):tot (CK l nm)+l.length≤tot l:=by
 have:=Us l [nm] (by simp);simpa using this
theorem YL(l:BM):(CS l).length≤tot l:=by
 have h:=Us l (CS l) (Xr (QJ l));have H:∀N:List BA,(∀nm∈N,CK l nm≠[])→N.length≤(N.map fun nm=>tot (CK l nm)).sum:=by
  intro N;induction N with
  |nil=>intro _;exact nn _
  |cons n N I=>
   intro G;have J:=I fun nm F=>G nm (n2 _ F);have O:0<tot (CK l n):=nH (ri.2 (G n (nK ..))) (LP _)
   simp only[rh,List.sum_cons,n3];omega
 have:=H (CS l) fun nm F=>Rx.1 F;omega
theorem aP(nf:List BA):nf.foldl (fun l nm=>Bq (Bz nm l)) ([]:BM)=[]:=by
 induction nf with
 |nil=>rfl
 |cons nm r F=>exact F
def fk(m:BA):Ar→Option Nd
 |[]=>none
 |(n,x)::l=>if n=m then some x else fk m l
def Cg(m:BA)(z:Nd):Ar→Ar
 |[]=>[]
 |(n,x)::l=>if n=m then(m,z)::l else(n,x)::Cg m z l
def C0(m:BA)(z:Nd):Ar→Ar
 |[]=>[(m,z)]
 |(n,x)::l=>if AZ m n=true then(m,z)::(n,x)::l else(n,x)::C0 m z l
def Eo(m:BA):Ar→Ar
 |[]=>[]
 |(n,x)::l=>if n=m then l else(n,x)::Eo m l
theorem Hx(m:BA):∀(ks:Ar) (i:Nat),(BD m ks i=-1∧fk m ks=none)∨∃j y,BD m ks i=((i+j:Nat):Int)∧ks[j]? =some (m,y)∧fk m ks=some y∧(∀z,ks.set j (m,z)=Cg m z ks)∧ks.take j++ks.drop (j+1)=Eo m ks∧∀z,ks.take j++(m,z)::ks.drop (j+1)=Cg m z ks
 |[],i=>.inl ⟨by rw[BD],rfl⟩
 |(n,x)::l,i=>by
  rw[BD,fk];by_cases h:n=m
  ·rw[nD h,nD h]
   refine .inr ⟨0,x,by simp,by simp[h],rfl,fun z=>by simp[Cg,h],by simp[Eo,h],fun z=>by simp[Cg,h]⟩
  ·rw[nC h,nC h]
   rcases Hx m l (i+1)with⟨F,G⟩|⟨j,y,F,G,H,I,J,O⟩
   ·exact .inl ⟨F,G⟩
   ·refine .inr ⟨j+1,y,by rw[F];congr 1;omega,by simpa using G,H,fun z=>by simp[Cg,h,I z],by simp[Eo,h,←J],fun z=>by simp[Cg,h,←O z]⟩
theorem SB{m:BA}{ks:Ar}:BD m ks 0<0↔fk m ks=none:=by
 rcases Hx m ks 0 with⟨F,G⟩|⟨j,y,F,_,H,_⟩
 ·rw[F,G];simp
 ·rw[F,H];simp
theorem Ux(m:BA)(x:Nd):∀ks:Ar,ks.take (D7 m ks)++(m,x)::ks.drop (D7 m ks)=C0 m x ks
 |[]=>rfl
 |(n,y)::l=>by
  have e:D7 m ((n,y)::l)=if AZ m n=true then 0 else D7 m l+1:=by
   unfold D7;rw[List.findIdx_cons];cases AZ m n<;>simp
  rw[e,C0];by_cases h:AZ m n=true
  ·rw[nD h,nD h];rfl
  ·rw[nC h,nC h,←Ux m x l];simp
theorem eS(m:BA)(x:Nd)(ks:Ar):KD m x ks=if fk m ks=none then C0 m x ks else Cg m x ks:=by
 unfold KD;rcases Hx m ks 0 with⟨F,G⟩|⟨j,y,F,_,H,_,_,I⟩
 ·rw[nD (by rw[F];decide),nD G,Ux]
 ·rw[nC (by rw[F];omega),nC (by rw[H];simp),F]
  have e:((0+j:Nat):Int).toNat=j:=by simp
  rw[e,I]
theorem eZ{m:BA}{ks:Ar}(h:fk m ks≠none):KA m ks=Eo m ks:=by
 unfold KA;rcases Hx m ks 0 with⟨F,G⟩|⟨j,y,F,_,I,_,H,_⟩
 ·exact absurd G h
 ·rw[F]
  have e:((0+j:Nat):Int).toNat=j:=by simp
  rw[e,H]
theorem JC(m:BA)(l:List BA)(x:Nd):BU (m::l) x=if x.kind≠2 then none else match fk m x.kids with
 |none=>none
 |some y=>BU l y:=by
 rw[BU];by_cases F:x.kind≠2
 ·rw[nD (.inl F),nD F]
 ·rw[nC F]
  rcases Hx m x.kids 0 with⟨G,H⟩|⟨j,y,G,H,I,_⟩
  ·rw[nD (.inr (by rw[G];decide)),H]
  ·rw[nC (fun q=>by rcases q with q|q;exact F q;rw[G]at q;omega),I,G]
   have e:((0+j:Nat):Int).toNat=j:=by simp
   have J:x.kid j=y:=by unfold Nd.kid;rw[H]
   rw[e,J]
theorem JG(c:Option Nd)(m I:BA)(l:List BA)(x:Nd):AV c (m::I::l) x=if x.kind≠2 then .error 7 else match fk m x.kids with
 |none=>.error 5
 |some y=>(AV c (I::l) y).map fun z=>x.with (Cg m z x.kids):=by
 rw[AV];by_cases F:x.kind≠2
 ·rw[nD F,nD F]
 ·rw[nC F,nC F]
  rcases Hx m x.kids 0 with⟨G,H⟩|⟨j,y,G,H,J,O,_⟩
  ·rw[nD (by rw[G];decide),H]
  ·rw[nC (by rw[G];omega),J,G]
   have e:((0+j:Nat):Int).toNat=j:=by simp
   have Q:x.kid j=y:=by unfold Nd.kid;rw[H]
   rw[e,Q];congr 1;funext z
   rw[O]
def EJ(c:Option Nd)(m:BA)(ks:Ar):Except Int Ar:=match c with
 |some x=>if AY m=false then .error 4 else .ok (if fk m ks=none then C0 m x ks else Cg m x ks)
 |none=>if fk m ks=none then .error 5 else .ok (Eo m ks)
theorem dL(c:Option Nd)(m:BA)(ks:Ar):GM c m ks=EJ c m ks:=by
 cases c with
 |some x=>simp only[GM,EJ,eS]
 |none=>
  simp only[GM,EJ];by_cases h:fk m ks=none
  ·rw[nD h,nD (SB.2 h)]
  ·rw[nC h,nC (fun q=>h (SB.1 q)),eZ h]
theorem IP(c:Option Nd)(m:BA)(x:Nd):AV c [m] x=if x.kind≠2 then .error 7 else(EJ c m x.kids).map x.with:=by rw[AV,dL]
theorem K1(x:Nd)(ks:Ar):(x.with ks).kids=ks:=by obtain⟨k,m,u,g,o,nh,d,F⟩:=x;rfl
theorem Nu(x:Nd)(ks:Ar):(x.with ks).kind=x.kind:=by obtain⟨k,m,u,g,o,nh,d,F⟩:=x;rfl
theorem OM{m:BA}{z:Nd}:∀{ks:Ar},fk m ks≠none→fk m (Cg m z ks)=some z
 |[],h=>absurd rfl h
 |(n,x)::l,h=>by
  rw[Cg];by_cases e:n=m
  ·rw[nD e,fk,nD rfl]
  ·rw[nC e,fk,nC e];exact OM (by rw[fk,nC e]at h;exact h)
theorem U3{m:BA}{z:Nd}:∀{ks:Ar},fk m ks=none→fk m (C0 m z ks)=some z
 |[],_=>by rw[C0,fk,nD rfl]
 |(n,x)::l,h=>by
  have F:n≠m:=fun e=>by rw[fk,nD e]at h;cases h
  rw[C0];by_cases e:AZ m n=true
  ·rw[nD e,fk,nD rfl]
  ·rw[nC e,fk,nC F];exact U3 (by rw[fk,nC F]at h;exact h)
theorem Zo{c:Option Nd}{l:List BA}{n:Nd}{f:Int}(h:AV c l n=.error f):0<f∧f≤7:=by
 revert n;induction l with
 |nil=>intro n h;rw[AV]at h;simp only[rS]at h;omega
 |cons m l H=>
  intro n h;cases l with
  |nil=>
   rw[IP]at h;by_cases F:n.kind≠2
   ·rw[nD F]at h;simp only[rS]at h;omega
   rw[nC F]at h;cases c with
   |some x=>
    simp only[EJ]at h;by_cases G:AY m=false
    ·rw[nD G]at h;simp only[Except.map,rS]at h;omega
    ·rw[nC G]at h;cases h
   |none=>
    simp only[EJ]at h;by_cases G:fk m n.kids=none
    ·rw[nD G]at h;simp only[Except.map,rS]at h;omega
    ·rw[nC G]at h;cases h
  |cons I l=>
   rw[JG]at h;by_cases F:n.kind≠2
   ·rw[nD F]at h;simp only[rS]at h;omega
   rw[nC F]at h;cases hf:fk m n.kids with
   |none=>rw[hf]at h;simp only[rS]at h;omega
   |some y=>
    rw[hf]at h;simp only at h;cases hc:AV c (I::l) y with
    |ok z=>rw[hc]at h;cases h
    |error g=>rw[hc]at h;simp only[Except.map,rS]at h;subst h;exact H hc
structure Rg where
 i:Int
 o:Int
 n:Int
def A2(x:Int):Prop:=-9223372036854775808≤x∧x≤9223372036854775807
def Rg.ok(r:Rg):Prop:=A2 r.i∧A2 r.o∧A2 r.n
def Rgs(w:World)(a:Option Addr)(rs:List Rg):Prop:=
 rs=[]∨∃b F,a=some ⟨b,F,none⟩∧∀k r,rs[k]? =some r→w.cell? ⟨b,F+k*3,none⟩=some (.int .i64 r.i)∧w.cell? ⟨b,F+k*3+1,none⟩=some (.int .i64 r.o)∧w.cell? ⟨b,F+k*3+2,none⟩=some (.int .i64 r.n)
theorem Rgs.below{w w':World}{a:Option Addr}{rs:List Rg}(h:Rgs w a rs)(hb:Below w.heap.size w w'):Rgs w' a rs:=by
 rcases h with h|⟨b,F,I,J⟩
 ·exact .inl h
 ·refine .inr ⟨b,F,I,fun k r O=>?_⟩
  obtain⟨H,Q,R⟩:=J k r O;have G:b<w.heap.size:=bL H;exact⟨(hb.cell (p:=(aD b (F+k*3))) G).trans H,(hb.cell (p:=(aD b (F+k*3+1))) G).trans Q,(hb.cell (p:=(aD b (F+k*3+2))) G).trans R⟩
def Fe(w:World)(b:Nat)(r:Rg):Prop:=
 w.cell? ⟨b,0,none⟩=some (.int .i64 r.i)∧w.cell? ⟨b,1,none⟩=some (.int .i64 r.o)∧w.cell? ⟨b,2,none⟩=some (.int .i64 r.n)∧∀o,w.frozen? ⟨b,o,none⟩=false
theorem Fe.new(w:World)(i o n:Int):Fe (w.alloc (.cells #[iN i,iN o,iN n] 65)) w.heap.size ⟨i,o,n⟩:=
 ⟨aC,aC,aC,fun _=>nQ _ _ _ _ rfl⟩
theorem Fe.lt{w:World}{b:Nat}{r:Rg}(h:Fe w b r):b<w.heap.size:=nz _ _ h.1
theorem Fe.below{w w':World}{b:Nat}{r:Rg}(h:Fe w b r)(hb:Below w.heap.size w w'):Fe w' b r:=by
 have F:=h.lt;obtain⟨G,H,I,J⟩:=h;exact⟨(hb.cell (p:=(aD b 0)) F).trans G,(hb.cell (p:=(aD b 1)) F).trans H,(hb.cell (p:=(aD b 2)) F).trans I,fun o=>(hb.frozen (p:=(aD b o)) F).trans (J o)⟩
theorem Fe.alloc{w:World}{b:Nat}{r:Rg}(h:Fe w b r)(o:Obj):Fe (w.alloc o) b r:=h.below ((nv _ _).alloc (nn _) _)
def FR(f n:Int):Bool:=decide (0≤f∧1≤n∧n-1≤65535-f)
def Hc(a n b m:Int):Bool:=decide (a<b+m∧b<a+n)
def Fc(r:Rg):Bool:=FR r.i r.n&&FR r.o r.n
def Ha(p r:Rg):Bool:=Hc p.i p.n r.i r.n||Hc p.o p.n r.o r.n
def Rg.bd(r:Rg):Prop:=0≤r.i∧r.i≤65535∧0≤r.o∧r.o≤65535∧1≤r.n∧r.n≤65536∧r.i+r.n≤65536∧r.o+r.n≤65536
theorem Pb{r:Rg}(h:Fc r=true):r.bd:=by
 simp[Fc,FR]at h;unfold Rg.bd;omega
theorem M4(f n:Int)(I:A2 f)(J:A2 n)(w:World):Calls prog 108 #[iN f,iN n] w fun e w'=>e=.returned (.bool (FR f n))∧w=w':=by
 obtain⟨Q,R⟩:=I;obtain⟨T,V⟩:=J;by_cases G:0≤f
 ·by_cases H:1≤n
  ·have F:Hid (FR f n=decide (n-1≤65535-f)):=by show _=_;simp[FR,G,H]
   go_enter func108,ntmps108;go_wp2;go_ret;exact⟨Bh F.out.symm,rfl⟩
  ·have O:decide (1≤n)=false:=by simpa using H
   have F:Hid (FR f n=false):=by show _=_;simp[FR];omega
   go_enter func108,ntmps108;go_wp2;go_ret;exact⟨Bh F.out.symm,rfl⟩
 ·have O:decide (0≤f)=false:=by simpa using G
  have F:Hid (FR f n=false):=by show _=_;simp[FR];omega
  go_enter func108,ntmps108;go_wp2;go_ret;exact⟨Bh F.out.symm,rfl⟩
theorem N5(a n b m:Int)(G:0≤a)(H:a≤65535)(I:1≤n)(J:n≤65536)(O:0≤b)(Q:b≤65535)(R:1≤m)(T:m≤65536)(w:World):
 Calls prog 109 #[iN a,iN n,iN b,iN m] w fun e w'=>e=.returned (.bool (Hc a n b m))∧w=w':=by
 by_cases g1:a<b+m
 ·have F:Hid (Hc a n b m=decide (b<a+n)):=by show _=_;simp[Hc,g1]
  go_enter func109,ntmps109;go_wp2;go_ret;exact⟨Bh F.out.symm,rfl⟩
 ·have V:decide (a<b+m)=false:=by simpa using g1
  have F:Hid (Hc a n b m=false):=by show _=_;simp[Hc];omega
  go_enter func109,ntmps109;go_wp2;go_ret;exact⟨Bh F.out.symm,rfl⟩
abbrev JP(F G ca lwa:Option Addr)(uc gc cc lwn lwc:Nat)(us gs:List Rg)(cs:List Int)(H I ck q:Int):Value:=.agg #[.slice F us.length uc,.slice G gs.length gc,.int .i64 H,.int .i64 I,.slice ca cs.length cc,.int .i64 ck,.int .i64 q,.slice lwa lwn lwc]
abbrev A0(F G ca lwa:Option Addr)(uc gc cc lwn lwc:Nat)(us gs:List Rg)(cs:List Int)(H I ck q:Int):Obj:=.cells #[.slice F us.length uc,.slice G gs.length gc,.int .i64 H,.int .i64 I,.slice ca cs.length cc,.int .i64 ck,.int .i64 q,.slice lwa lwn lwc] 29
def Ew(rs:List Rg)(k:Nat):Int:=match rs[k]? with
 |none=>0
 |some r=>if Fc r=false then 1 else if(rs.take k).any (fun p=>Ha p r)=true then 3 else 0
def mF(rs:List Rg):Nat→Nat→Int
 |_,0=>0
 |k,n+1=>if Ew rs k=0 then mF rs (k+1) n else Ew rs k
def CZ(rs:List Rg):Int:=if 4<rs.length then 2 else mF rs 0 rs.length
theorem VL{rs:List Rg}{k n:Nat}(h:Ew rs k=0):mF rs k (n+1)=mF rs (k+1) n:=by simp[mF,h]
theorem Ko{rs:List Rg}{k n:Nat}(h:¬Ew rs k=0):mF rs k (n+1)=Ew rs k:=by simp[mF,h]
theorem J7{rs:List Rg}{k:Nat}{r:Rg}(F:rs[k]? =some r)(h:Fc r=false):Ew rs k=1:=by simp[Ew,F,h]
theorem KZ{rs:List Rg}{k:Nat}{r:Rg}(F:rs[k]? =some r)(h:Fc r=true)(G:(rs.take k).any (fun p=>Ha p r)=true):Ew rs k=3:=by
 unfold Ew;rw[F];dsimp only;rw[nC (by rw[h];decide),nD G]
theorem Sv{rs:List Rg}{k:Nat}{r:Rg}(F:rs[k]? =some r)(h:Fc r=true)(G:(rs.take k).any (fun p=>Ha p r)=false):Ew rs k=0:=by
 unfold Ew;rw[F];dsimp only;rw[nC (by rw[h];decide),nC (by rw[G];decide)]
theorem Qi{rs:List Rg}{k:Nat}{r:Rg}(F:rs[k]? =some r)(h:Ew rs k=0):Fc r=true:=by
 by_cases hb:Fc r=false
 ·rw[J7 F hb]at h;omega
 ·simpa using hb
theorem Ws{F:Type}{l:List F}{k:Nat}{p:F}(h:l[k]? =some p):l.take (k+1)=l.take k++[p]:=by
 obtain⟨G,rfl⟩:=ny.1 h;exact List.take_succ_eq_append_getElem G
theorem Li{rs:List Rg}{f:Rg→Bool}{j k:Nat}(G:j<k)(h:(rs.take (j+1)).any f=true):(rs.take k).any f=true:=by
 rw[List.any_eq_true]at h⊢;obtain⟨x,hx,F⟩:=h;refine⟨x,?_,F⟩;have:rs.take (j+1)=(rs.take k).take (j+1):=by rw[List.take_take];congr 1;omega
 rw[this]at hx;exact List.mem_of_mem_take hx
theorem Jp(a:Option Addr)(cap:Nat)(rs:List Rg)(w:World)(c3:rs.length≤100)(c4:rs.length≤cap)(bH:∀r∈rs,r.ok)(h:Rgs w a rs):
 Calls prog 62 #[.slice a rs.length cap] w fun e w'=>e=.returned (Am (CZ rs))∧Below w.heap.size w w':=by
 by_cases bp:4<rs.length
 ·have bY:Hid (CZ rs=2):=nD bp
  go_enter func62,ntmps62;go_wp2;go_ret;exact⟨Cp (AG bY.out (by decide)).symm,nv _ _⟩
 have ad:Hid (CZ rs=mF rs 0 rs.length):=nC bp;have hd:decide (4<(rs.length:Int))=false:=by simp;omega
 go_enter func62,ntmps62;go_wp2;go_loopw [13] (fun i wr=>∃k:Nat,k≤rs.length∧i=iN k∧Hid (mF rs 0 rs.length=mF rs k (rs.length-k))∧Hid (∀j,j<k→Ew rs j=0)∧Below w.heap.size w wr) (fun i _=>rs.length-(intOf i).toNat)
 case atStart=>exact⟨0,nN _,rfl,rfl,fun j bs=>absurd bs (Nat.not_lt_zero _),nv _ _⟩
 case round=>
  obtain⟨k,c5,rfl,Z,bu,G⟩:=hrel;by_cases bv:k<rs.length
  ·rcases h with rfl|⟨b,aa,rfl,a8⟩
   ·simp at bv
   ·obtain⟨r,ar⟩:∃r,rs[k]? =some r:=⟨rs[k],by simp[bv]⟩
    obtain⟨ba,bx,bA⟩:=a8 k r ar;have R:b<w.heap.size:=bL ba;have bB:=nH R G.size;obtain⟨⟨c6,c8⟩,⟨c9,da⟩,⟨db,dd⟩⟩:=bH r (nE ar);have de:(k:Int)<(rs.length:Int):=by omega
    have ak:Hid (mF rs k (rs.length-k)=mF rs k ((rs.length-(k+1))+1)):=by show _=_;congr 1;omega
    obtain⟨H,I,F⟩:=r;dsimp only at*;have b0:=(G.cell (p:=(aD b (aa+k*3))) R).trans ba;have q1:=(G.cell (p:=(aD b (aa+k*3+1))) R).trans bx;have q2:=(G.cell (p:=(aD b (aa+k*3+2))) R).trans bA;have Q:=hid ar;have Y:=a8;clear ba bx bA ar a8;obtain⟨ay,az⟩:∃t,FR H F=t:=⟨_,rfl⟩;obtain⟨bb,a1⟩:∃t,FR I F=t:=⟨_,rfl⟩;have bd:ay=false∨ay=true∧bb=false∨ay=true∧bb=true:=by cases ay<;>cases bb<;>simp
    rcases bd with rfl|⟨rfl,rfl⟩|⟨rfl,rfl⟩
    ·have J:Hid (mF rs k (rs.length-k)=1):=ak.out.trans ((Ko (by rw[J7 Q.out (by simp[Fc,az])];decide)).trans (J7 Q.out (by simp[Fc,az])))
     clear Y;go_wp2_with (go_at_call 108;refine(M4 _ _ ⟨by omega,by omega⟩ ⟨by omega,by omega⟩ _).mono ?_;rintro e w' ⟨rfl,rfl⟩)
     go_ret;exact⟨Cp (AG (by rw[ad.out,Z.out,J.out]) (by decide)).symm,G.alloc G.size _⟩
    ·have J:Hid (mF rs k (rs.length-k)=1):=ak.out.trans ((Ko (by rw[J7 Q.out (by simp[Fc,a1])];decide)).trans (J7 Q.out (by simp[Fc,a1])))
     clear Y;go_wp2_with (go_at_call 108;refine(M4 _ _ ⟨by omega,by omega⟩ ⟨by omega,by omega⟩ _).mono ?_;rintro e w' ⟨rfl,rfl⟩)
     go_ret;exact⟨Cp (AG (by rw[ad.out,Z.out,J.out]) (by decide)).symm,G.alloc G.size _⟩
    ·have be:Fc ⟨H,I,F⟩=true:=by simp[Fc,az,a1]
     obtain⟨b1,b2,v3,v4,v5,b3,b4,b5⟩:=Pb be;dsimp only at b1 b2 v3 v4 v5 b3 b4 b5;have ab:=hid be;clear be;have dg:(k:Int)≤(cap:Int):=by omega
     go_wp2_with (go_at_call 108;refine(M4 _ _ ⟨by omega,by omega⟩ ⟨by omega,by omega⟩ _).mono ?_;rintro e w' ⟨rfl,rfl⟩)
     have RB:=Fe.new wr H I F;have bf:=G.alloc G.size (.cells #[iN H,iN I,iN F] 65);clear b0 q1 q2 G bB az a1;generalize wr.alloc (.cells #[iN H,iN I,iN F] 65)=dj at RB bf⊢;generalize wr.heap.size=b6 at RB⊢;go_loopw [37] (fun i bC=>∃j:Nat,j≤k∧i=iN j∧Hid ((rs.take j).any (fun p=>Ha p ⟨H,I,F⟩)=false)∧Below w.heap.size w bC∧Fe bC b6 ⟨H,I,F⟩) (fun i _=>k-(intOf i).toNat)
     case atStart=>exact⟨0,nN _,rfl,rfl,bf,RB⟩
     case round=>
      obtain⟨j,bs,rfl,bg,O,bi⟩:=hrel;clear bf RB;obtain⟨x0,b7,b9,dk⟩:=id bi;dsimp only at x0 b7 b9;have lb:=bi.lt;by_cases ao:j<k
      ·have cb:j<rs.length:=by omega
       obtain⟨p,a6⟩:∃p,rs[j]? =some p:=⟨rs[j],by simp[cb]⟩;obtain⟨bk,bl,bn⟩:=Y j p a6;obtain⟨cd,cf,t3,t4,t5,cg,ch,cl⟩:=Pb (Qi a6 (bu.out j ao));have T:Hid ((rs.take (j+1)).any (fun p=>Ha p ⟨H,I,F⟩)=Ha p ⟨H,I,F⟩):=by
        show _=_;rw[Ws a6,List.any_append,bg.out];simp
       obtain⟨bF,bG,bo⟩:=p;dsimp only at bk bl bn cd cf t3 t4 t5 cg ch cl;have z0:=(O.cell (p:=(aD b (aa+j*3))) R).trans bk;have dm:=(O.cell (p:=(aD b (aa+j*3+1))) R).trans bl;have dn:=(O.cell (p:=(aD b (aa+j*3+2))) R).trans bn;have bB:=nH R O.size;have dp:(j:Int)<(k:Int):=by omega
       clear bk bl bn a6;obtain⟨ap,co⟩:∃t,Hc bF bo H F=t:=⟨_,rfl⟩;obtain⟨a7,cp⟩:∃t,Hc bG bo I F=t:=⟨_,rfl⟩;have V:Hid (Ha ⟨bF,bG,bo⟩ ⟨H,I,F⟩=(ap||a7)):=by show _=_;simp[Ha,co,cp]
       have bd:ap=true∨ap=false∧a7=true∨ap=false∧a7=false:=by cases ap<;>cases a7<;>simp
       rcases bd with rfl|⟨rfl,rfl⟩|⟨rfl,rfl⟩
       ·have J:Hid (mF rs k (rs.length-k)=3):=ak.out.trans ((Ko (by rw[KZ Q.out ab.out (Li ao (by rw[T.out,V.out];rfl))];decide)).trans (KZ Q.out ab.out (Li ao (by rw[T.out,V.out];rfl))))
        clear Y T V;go_wp2_with (go_at_call 109;refine(N5 _ _ _ _ (by omega) (by omega) (by omega) (by omega) (by omega) (by omega) (by omega) (by omega) _).mono ?_;rintro e w' ⟨rfl,rfl⟩)
        go_ret;exact⟨Cp (AG (by rw[ad.out,Z.out,J.out]) (by decide)).symm,O.alloc O.size _⟩
       ·have J:Hid (mF rs k (rs.length-k)=3):=ak.out.trans ((Ko (by rw[KZ Q.out ab.out (Li ao (by rw[T.out,V.out];rfl))];decide)).trans (KZ Q.out ab.out (Li ao (by rw[T.out,V.out];rfl))))
        clear Y T V;go_wp2_with (go_at_call 109;refine(N5 _ _ _ _ (by omega) (by omega) (by omega) (by omega) (by omega) (by omega) (by omega) (by omega) _).mono ?_;rintro e w' ⟨rfl,rfl⟩)
        go_ret;exact⟨Cp (AG (by rw[ad.out,Z.out,J.out]) (by decide)).symm,O.alloc O.size _⟩
       ·have J:Hid ((rs.take (j+1)).any (fun p=>Ha p ⟨H,I,F⟩)=false):=by show _=_;rw[T.out,V.out];rfl
        clear Y T V;go_wp2_with (go_at_call 109;refine(N5 _ _ _ _ (by omega) (by omega) (by omega) (by omega) (by omega) (by omega) (by omega) (by omega) _).mono ?_;rintro e w' ⟨rfl,rfl⟩)
        go_roundw
        case rel=>exact⟨j+1,by omega,by go_num,J.out,O.alloc O.size _,bi.alloc _⟩
        case measure=>simp[intOf];omega
      ·have cr:j=k:=by omega
       subst cr;have J:=hid (ak.out.trans (VL (Sv Q.out ab.out bg.out)));have cu:Hid (∀i,i<j+1→Ew rs i=0):=by
        intro i dr;by_cases e:i=j
        ·subst e;exact Sv Q.out ab.out bg.out
        ·exact bu.out i (by omega)
       clear Y;go_wp2;go_roundw
       case rel=>exact⟨j+1,by omega,by go_num,Z.out.trans J.out,cu.out,O⟩
       case measure=>simp[intOf];omega
  ·have cx:rs.length-k=0:=by omega
   go_wp2;go_ret;exact⟨Cp (Co (by rw[ad.out,Z.out,cx];rfl)).symm,G⟩
end Go.Proofs.YtofhphibahcniaaGreatDoor
