/-
  TopOwned: Ve Vf Vh Vi Xw Wu Yt Xx Xy Xz Xzs Yc0 Cb.
-/
import Derived.Test.YtgppjbhaimmlpaaGreatDoorApX
import Derived.Test.YtgppjbhaimmlpaaGreatDoorXqX
import Derived.Lib.SlBytesRow
import Derived.Test.YtgppjbhaimmlpaaGreatDoorXoX
import Derived.Test.YtgppjbhaimmlpaaGreatDoorWrX
import Derived.Test.YtgppjbhaimmlpaaGreatDoorFiX
import Derived.Deep.OwnRows
import Derived.Laws.CopyOwn
import Derived.Deep.QuietTactic
import Derived.BigQuiet
set_option maxRecDepth 100000
set_option maxHeartbeats 16000000
namespace Go.Proofs.YtgppjbhaimmlpaaGreatDoor
open Go.RowKit Go.Proofs.Tryz
theorem SZ{n:Int}(h:CM n≠false):0≤n∧n≤65535:=by
 unfold CM at h;have F:(decide (0≤n)&&decide (n≤65535))=true:=by simpa using h
 rw[Bool.and_eq_true]at F;exact⟨rI F.1,rI F.2⟩
theorem aX{up F:Bool}{k m u g:Int}{o:Bool}{nh:List Kv}{d:BA}{ks:At}(h:D6 up F (.mk k m u g o nh d ks)=0):(1≤k∧k≤3)∧(0≤m∧m≤4095)∧(0≤u∧u≤65535)∧(0≤g∧g≤65535):=by
 rw[D6]at h;split at h
 ·omega
 rename_i h1;split at h
 ·omega
 rename_i h2;have G:CM u≠false:=fun e=>h2 (.inr (.inr (.inl e)));have H:CM g≠false:=fun e=>h2 (.inr (.inr (.inr e)))
 have I:¬(m<0∨4095<m):=fun e=>h2 (e.elim .inl (fun e=>.inr (.inl e)));exact⟨by omega,by omega,SZ G,SZ H⟩
mutual
theorem Te(up:Bool):∀(x:Nd) (F G:Nat),(CL up x F G).1=0→AB x→cnt x≤1000→IZ x
 |.mk k m u g o nh d ks,F,G,h,hl,hc=>by
  rw[CL]at h;split at h
  ·simp at h
  split at h
  ·rename_i h2;exact absurd h h2
  rename_i h1 h2;obtain⟨a,b,c,e⟩:=aX (Decidable.not_not.1 h2);rw[AB]at hl;rw[cnt]at hc;have J:=Hs ks;obtain⟨O,H⟩:=hl.1;rw[IZ];exact⟨by omega,by omega,c,e,⟨by omega,fun r I=>by have:=H r I;omega⟩,by omega,by omega,SN up none ks (F+1) (G+1) h hl.2.2 (by omega)⟩
theorem SN(up:Bool):∀(p:Option BA) (l:At) (F G:Nat),(CG up p l F G).1=0→Bt l→cntL l≤1000→Ic l
 |p,[],F,G,h,hl,hc=>by rw[Ic];trivial
 |p,(n,x)::l,F,G,h,hl,hc=>by
  rw[CG]at h;split at h
  ·simp at h
  split at h
  ·simp at h
  split at h
  ·rename_i h2;exact absurd h h2
  rename_i h1 h2 h3;rw[Bt]at hl;rw[cntL]at hc;rw[Ic];exact⟨by show n.size≤1000;omega,Te up x F G (Decidable.not_not.1 h3) hl.2.1 (by omega),SN up (some n) l F _ h hl.2.2 (by omega)⟩
end
theorem cF{up:Bool}{x:Nd}(h:DN up x=0)(F:AB x)(G:cnt x≤1000):IZ x:=by
 obtain⟨k,m,u,g,o,nh,d,ks⟩:=x;rw[DN]at h;split at h
 ·omega
 ·exact Te up _ 0 0 h F G
def Gt(l:List UInt8):BA:=⟨l.toArray⟩
theorem Ny(l:List UInt8):(Gt l).size=l.length:=by simp[Gt,ByteArray.size]
theorem ZN{w:World}{base:Nat}{v:Value}{n:Nat}{l:List UInt8}(F:w.ownsRow base 5 1 v n (bc l))(G:n=l.length)(Q:0<n):(convert 168 9 v).run prog w=.ok (.string (Gt l)) w:=by
 subst G;obtain⟨a,cap,rfl,_,_,H⟩:=Ei F;rcases H with⟨_,e,_⟩|⟨g,rfl,_,_,I,_⟩
 ·omega
 ·have:=Lib.run_convert_whole (P:=prog) w 168 5 9 underlying168 underlying5 underlying9 g 0 (Gt l) (fun i J=>by
   rw[nT];refine I i _ ?_;have O:i<l.length:=by rwa [Ny]at J
   simp[bc,Gt,np O];rfl) cap
  rwa [Ny]at this
theorem bz(x:Nd):0<(C0 x).length:=by
 obtain⟨k,m,u,g,o,nh,d,ks⟩:=x;rw[C0];simp
def FC(x:Nd):BA:=if DN true x=0 then Gt (C0 x)else⟨#[]⟩
theorem ci{w w':World}{F:Value}(h:Gr w w' (.slice none 0 0) F):Below w.heap.size w w':=⟨h.g.os,h.g.tape,h.g.output,h.g.size,fun k G=>h.g.block k G (by simp[Value.ownBlock])⟩
theorem WK{w:World}{x:Nd}{h:Hd}(bb:Ah w.cell? x h)(bd:AB x)(be:cnt x≤1000)(bf:(C0 x).length≤60000000):
 Calls prog 58 #[Ao x h] w fun e w'=>e=.returned (.tuple #[.string (FC x),Am (DN true x)])∧Below w.heap.size w w':=by
 have V:=hid bd;have Y:=hid be;have Z:=hid bb;obtain⟨G,H⟩:=A3 (DN true x);obtain⟨B,aa⟩:=A3 (FC x);obtain⟨I,J⟩:=A3 (C0 x);have bg:=bz x;have bu:=bf;rw[J.out]at bg bu;rw[aa.out,H.out];have bi:∀F:World,Below w.heap.size w F→Hid (cL 11 #[Ao x h,.bool true] F fun e bv=>e=.returned (Am G)∧Below F.heap.size F bv):=fun F hb=>by
  have:=KC true (Z.out.ab hb) V.out (by have:=Y.out;omega);rw[H.out]at this;exact this
 have bk:G=0→∀F:World,Below w.heap.size w F→Hid (cL 108 #[nL,Ao x h] F fun e w'=>∃O,e=.returned O∧w'.ownsRow F.heap.size 5 1 O I.length (bc I)∧Below F.heap.size F w'):=fun hF F hb=>by
  refine nn (ar (Z.out.ab hb) F nL 0 [] (cF (H.out.trans hF) V.out (by have:=Y.out;omega)) (nt _ _) (rB _ _ _ _) (by rw[J.out];omega)) ?_;rintro e w' ⟨O,rfl,bl,bx⟩;rw[J.out,nT,ru]at bl;exact⟨O,rfl,bl,ci bx⟩
 have bn:=hid bi;have ab:=hid bk;have Q:Hid (B=if G=0 then Gt I else⟨#[]⟩):=by show _=_;rw[←aa.out,FC,H.out,J.out]
 clear bb bd be bf bi bk V Y Z aa J;obtain⟨k,m,u,g,o,nh,d,ks⟩:=x;clear H;have ad:=Cc.new w k m u g o nh d ks h;have ak:Below w.heap.size w (w.alloc (Ap k m u g o nh d ks h)):=bN;show cL 58 #[(AY k m u g o nh d ks h)] _ _;go_enter func58,ntmps58;have bA:=ad;obtain⟨ao,ap,az,a1,a6,a7,a8,ba⟩:=bA;go_wp2_with fail
 refine nn (bn.out _ ak).out ?_;rintro e bB ⟨rfl,bo⟩;have bC:=ad.below bo;have R:=ak.trans (bo.mono ak.size);clear ad ao ap az a1 a6 a7 a8 ba bn;by_cases hF:G=0
 ·rw[Cr hF]
  have T:B=Gt I:=by rw[Q.out,nC hF]
  have bp:=ab.out hF bB R;have bs:Hid (G=0∧B=Gt I):=⟨hF,T⟩;clear hF T;clear ab Q;obtain⟨ao,ap,az,a1,a6,a7,a8,ba⟩:=bC;go_wp2_with fail
  refine nn bp.out ?_;rintro e bY ⟨v4,rfl,bF,bG⟩;have b0:=ZN bF rfl bg;clear ao ap az a1 a6 a7 a8 ba bp;go_wp2;go_ret2;exact⟨by rw[bs.out.2,bs.out.1];rfl,R.trans (bG.mono R.size)⟩
 ·have T:B=⟨#[]⟩:=by rw[Q.out,nB hF]
  rw[AH rfl hF];have bH:=hid hF;clear hF ab Q;go_wp2;go_ret2;exact⟨by rw[T,AH rfl bH.out];rfl,R⟩
theorem SI:∀{l:List Kv},(∀r∈l,r.n.size≤255∧r.v.size≤255)→(Dt l).length≤l.length*512
 |[],_=>by simp[Dt]
 |r::l,h=>by
  have G:=h r (nJ ..);have H:=SI (l:=l) fun q F=>h q (n2 _ F);rw[Dt]
  simp only[nK,n3,FG];omega
mutual
theorem J3:∀(x:Nd),AB x→(C0 x).length+256≤cnt x*140000
 |.mk k m u g o nh d ks,hl=>by
  rw[AB]at hl;have F:=SI hl.1.2;have G:=Ri ks hl.2.2;have H:=hl.1.1;have I:=hl.2.1;rw[C0,cnt];simp only[nK,n3,FG,Ks];omega
theorem Ri:∀(l:At),Bt l→(CN l).length≤cntL l*140000
 |[],_=>by simp[CN]
 |(n,x)::l,hl=>by
  rw[Bt]at hl;have F:=J3 x hl.2.1;have G:=Ri l hl.2.2;have H:=hl.1;rw[CN,cntL];simp only[nK,FG];omega
end
theorem Re{x:Nd}(F:(C0 x).length≤60000000):(FC x).size≤60000000:=by
 unfold FC;split
 ·rw[Ny];exact F
 ·show(0:Nat)≤_;omega
theorem Ya{w:World}{x:Nd}{h:Hd}(I:Ah w.cell? x h)(J:AB x)(O:cnt x≤1000)(G:(C0 x).length≤60000000):
 Calls prog 27 #[Ao x h] w fun e w'=>e=.returned (iN (FC x).size)∧Below w.heap.size w w':=by
 have a1:=Re G;have Q:∀F:World,Below w.heap.size w F→Hid (cL 58 #[Ao x h] F fun e T=>e=.returned (.tuple #[.string (FC x),Am (DN true x)])∧Below F.heap.size F T):=fun F hb=>WK (I.ab hb) J O G;have R:Hid _:=Q
 clear Q I J O G;generalize FC x=B at*;generalize Am (DN true x)=a6 at*;obtain⟨k,m,u,g,o,nh,d,ks⟩:=x;have V:=Cc.new w k m u g o nh d ks h;have H:Below w.heap.size w (w.alloc (Ap k m u g o nh d ks h)):=bN;show cL 27 #[(AY k m u g o nh d ks h)] _ _;go_enter func27,ntmps27;obtain⟨Y,Z,aa,ab,ad,ak,ao,ap⟩:=V;go_wp2_with fail
 refine nn (R.out _ H).out ?_;rintro e a7 ⟨rfl,az⟩;clear Y Z aa ab ad ak ao ap R;go_wp2;go_ret;exact⟨rfl,H.trans (az.mono H.size)⟩
def FR(x:Nd):Int:=((FC x).size+63) / 64
theorem Kw{w:World}{x:Nd}{h:Hd}(I:Ah w.cell? x h)(J:AB x)(O:cnt x≤1000)(G:(C0 x).length≤60000000):
 Calls prog 12 #[Ao x h] w fun e w'=>e=.returned (.int .i64 (FR x))∧Below w.heap.size w w':=by
 have a6:=Re G;have T:Hid (FR x=(((FC x).size:Int)+63) / 64):=rfl;have Q:∀F:World,Below w.heap.size w F→Hid (cL 27 #[Ao x h] F fun e V=>e=.returned (iN (FC x).size)∧Below F.heap.size F V):=fun F hb=>Ya (I.ab hb) J O G;have R:Hid _:=Q
 clear Q I J O G;generalize(FC x).size=z at*;generalize FR x=b at*;obtain⟨k,m,u,g,o,nh,d,ks⟩:=x;have Y:=Cc.new w k m u g o nh d ks h;have H:Below w.heap.size w (w.alloc (Ap k m u g o nh d ks h)):=bN;show cL 12 #[(AY k m u g o nh d ks h)] _ _;go_enter func12,ntmps12;obtain⟨Z,aa,ab,ad,ak,ao,ap,az⟩:=Y;go_wp2_with fail
 refine nn (R.out _ H).out ?_;rintro e a7 ⟨rfl,a1⟩;clear Z aa ab ad ak ao ap az R;go_wp2;go_ret;have e:b=((z:Int)+64-1) / 64:=by rw[T.out];omega
 exact⟨by rw[e];rfl,H.trans (a1.mono H.size)⟩
theorem Lt{b:Nat}{w w':World}(h:Au b w w'):AR (Ag w.cell? (fun k=>k==b)) w'.cell?:=fun q v F=>by
 unfold Ag at F;split at F
 ·cases F
 ·rename_i G
  have G:q.block≠b:=by simpa using G
  exact(h.cell (ny _ _ F) G).trans F
theorem TV{b:Nat}{w w':World}{a:Option Addr}{rs:List Rg}(h:Rgs w a rs)(hb:Au b w w')(Q:G0 a b):Rgs w' a rs:=by
 rcases h with h|⟨F,G,J,R⟩
 ·exact .inl h
 ·have H:F≠b:=Q _ J
  refine .inr ⟨F,G,J,fun k r T=>?_⟩;obtain⟨O,g1,V⟩:=R k r T;have I:F<w.heap.size:=ny w ⟨F,_,none⟩ O;exact⟨(hb.cell (p:=⟨F,G+k*3,none⟩) I H).trans O,(hb.cell (p:=⟨F,G+k*3+1,none⟩) I H).trans g1,(hb.cell (p:=⟨F,G+k*3+2,none⟩) I H).trans V⟩
theorem YP{b:Nat}{w w':World}{a:Option Addr}{G:List Int}(h:Bg w a G)(hb:Au b w w')(F:G=[]∨G0 a b):Bg w' a G:=by
 rcases F with F|F
 ·exact .inl F
 rcases h with h|⟨H,I,J,O⟩
 ·exact .inl h
 ·have Q:H≠b:=F _ J
  refine .inr ⟨H,I,J,fun i R=>?_⟩;have g:=O i R;exact(hb.cell (p:=⟨H,I+i,none⟩) (ny _ _ g) Q).trans g
theorem Zg{b:Nat}{w w':World}{M:CE}(h:DD w M)(hb:Au b w w')(F:G0 M.ua b)(G:G0 M.ga b):DD w' M:=⟨TV h.u hb F,TV h.g hb G,h.ul,h.gl,h.cu,h.cg,h.ou,h.og⟩
theorem A5.turn{w w':World}{b:Nat}{B F:Bx}(h:A5 w b B)(hb:Au b w w')(I:Kn w'.cell? b F)(J:∀o,8≤o→w'.cell? ⟨b,o,none⟩=none)(O:∀o,w'.frozen? ⟨b,o,none⟩=false)(G:F.M=B.M)(Q:Ch (Ag w.cell? (fun k=>k==b)) F.la F.xs)(R:F.xs.length≤F.lc∧F.lc≤9223372036854775807)(T:Bg w F.ca F.cs)(H:F.cs=[]∨G0 F.ca b)(V:F.cs.length≤F.cc∧F.cc≤9223372036854775807):A5 w' b F where
 cells:=I
 end8:=J
 fz:=O
 maps:=by rw[G];exact Zg h.maps hb h.au h.ag
 lay:=Q.on (Lt hb)
 lcap:=R
 grp:=YP T hb H
 gcap:=V
 au:=by rw[G];exact h.au
 ag:=by rw[G];exact h.ag
 ac:=H
theorem A5.put3{w:World}{b:Nat}{B:Bx}(h:A5 w b B){H lc:Nat}{F:List Nd}(J:Ch w.cell? (some ⟨H,0,none⟩) F)(O:F.length≤lc∧lc≤9223372036854775807):
 A5 (((w.setCell ⟨b,0,none⟩ (.slice B.M.ua B.M.us.length B.M.uc)).setCell ⟨b,1,none⟩ (.slice B.M.ga B.M.gs.length B.M.gc)).setCell ⟨b,2,none⟩ (.slice (some ⟨H,0,none⟩) F.length lc)) b {B with la:=some ⟨H,0,none⟩,lc:=lc,xs:=F}:=by
 obtain⟨c0,c1,c2,Q,R,T,V,c7⟩:=h.cells;obtain⟨Y,Z,aa⟩:=PT c0 c1 c2 (.slice B.M.ua B.M.us.length B.M.uc) (.slice B.M.ga B.M.gs.length B.M.gc) (.slice (some ⟨H,0,none⟩) F.length lc);have G:∀o,3≤o→(((w.setCell ⟨b,0,none⟩ (.slice B.M.ua B.M.us.length B.M.uc)).setCell ⟨b,1,none⟩ (.slice B.M.ga B.M.gs.length B.M.gc)).setCell ⟨b,2,none⟩ (.slice (some ⟨H,0,none⟩) F.length lc)).cell? ⟨b,o,none⟩=w.cell? ⟨b,o,none⟩:=fun o I=>by
  rw[nz _ _ _ _ (by intro e;injection e with _ e2;omega),nz _ _ _ _ (by intro e;injection e with _ e2;omega),nz _ _ _ _ (by intro e;injection e with _ e2;omega)]
 refine h.turn (Nj _ _ _) ⟨Y,Z,aa,(G 3 (by omega)).trans Q,(G 4 (by omega)).trans R,(G 5 (by omega)).trans T,(G 6 (by omega)).trans V,(G 7 (by omega)).trans c7⟩ (fun o I=>(G o (by omega)).trans (h.end8 o I)) (fun o=>by simp[h.fz o]) rfl ?_ O h.grp h.ac h.gcap
 exact UJ (fun k ab=>by
  have:k=b:=by simpa using ab
  rw[this];exact h.noStr) J
structure BS (B:Bx) (x0:Nd) (ni:List Nd):Prop where
 xs:B.xs=x0::ni
 fine:Cs B.M.us B.M.gs ni 60 x0
 ok:DN true x0=0
 low:∀x∈ni,DN false x=0∧AB x∧AM x
 len:ni.length≤4
 quo:FR x0≤B.q
 cred:CR B.u B.g B.cs B.k=0∧B.cs.length≤8
theorem UM{up:Bool}{x:Nd}(h:DN up x=0):cnt x≤60:=((Jw up x).1 h).2.2
theorem BS.sz{B:Bx}{x0:Nd}{ni:List Nd}(h:BS B x0 ni):Fo 60 x0 ni:=⟨h.fine.lil,h.fine.ids,h.fine.cnt,fun x hx=>⟨(h.low x hx).2.1,(h.low x hx).2.2,by have:=UM (h.low x hx).1;omega⟩,h.len⟩
theorem BS.lils{B:Bx}{x0:Nd}{ni:List Nd}(h:BS B x0 ni):∀x∈ni,AB x:=fun x hx=>(h.low x hx).2.1
theorem BS.vv{B:Bx}{x0:Nd}{ni:List Nd}(h:BS B x0 ni):∀x∈x0::ni,VV x:=fun x hx=>by
 rcases nX.1 hx with rfl|hx
 ·exact⟨_,_,((Jw _ _).1 h.ok).2.1⟩
 ·exact⟨_,_,((Jw _ _).1 (h.low x hx).1).2.1⟩
theorem BS.kind{B:Bx}{x0:Nd}{ni:List Nd}(h:BS B x0 ni):x0.kind=2:=((Jw _ _).1 h.ok).1
theorem YS{up:Bool}{G:Nat}{k m u g:Int}{o:Bool}{nh:List Kv}{d:BA}{ks:At}(h:Fb up G (.mk k m u g o nh d ks)):0≤m∧m≤4095:=by
 rw[Fb]at h;have F:=h.2.1;rw[D6]at F;split at F
 ·cases F
 ·split at F
  ·cases F
  ·rename_i hq
   omega
theorem XB{xs:List Nd}(h:∀x∈xs,AM x)(nf:List BA):EO (AP xs nf):=by
 unfold AP;have F:EO (A8 (BD xs)):=EO.sh fun q G=>h _ (Jg G);revert F
 generalize A8 (BD xs)=l;induction nf generalizing l with
 |nil=>exact fun h=>h
 |cons m N H=>exact fun h=>H _ (h.kid m).sh
theorem BS.good{B:Bx}{x0:Nd}{ni:List Nd}(h:BS B x0 ni):Ik B:=by
 have F:=h.sz.ok (by omega);rw[←h.xs]at F;have H:=h.vv;rw[←h.xs]at H;refine⟨F.len,F.small,F.lim,?_,fun nf q r G=>?_,fun nf q r G=>?_⟩
 ·rw[h.xs]
  show A8 ((x0,0)::ni.zipIdx 1)≠[];rw[J5 h.kind];simp
 ·have e:=XB (fun x hx=>F.ids x hx) nf q (by rw[G];exact nJ ..)
  obtain⟨⟨k,m,u,g,o,nh,d,ks⟩,ly⟩:=q;rw[AM]at e;exact⟨e.1,e.2.1⟩
 ·obtain⟨up,I,e⟩:=Si H nf q (by rw[G];exact nJ ..)
  obtain⟨⟨k,m,u,g,o,nh,d,ks⟩,ly⟩:=q;exact YS e
def Kg(H w:World)(M:CE)(x0:Nd)(ni:List Nd)(J:Value):Prop:=∃gf lb,J=.func (.func gf) #[] lb∧(∀args w,(callFunc gf args).run prog w=.ok (.enter gf args) w)∧
 ∀(W:World) (F G lc:Nat),Bw w W→w.heap.size≤F→w.heap.size≤G→Bd H W F G lc M x0 ni→
  Calls prog gf (#[.pointer (some ⟨F,0,none⟩)]++lb) W fun e O=>∃E I,e=.returned (Am E)∧Bd H O F G lc M I ni∧(E=0→Cs M.us M.gs ni 400 I)
def BI(G w':World)(b:Nat)(B:Bx)(ni:List Nd):Prop:=Au b G w'∧∃F H,A5 w' b F∧BS F H ni∧F.M=B.M∧F.q=B.q
def Es:List BA→List BA→Bool
 |[],_=>true
 |_::_,[]=>false
 |x::a,y::b=>if y=x then Es a b else false
theorem Oa:∀a b:List BA,Es a b=true↔a<+:b
 |[],b=>by simp[Es]
 |x::a,[]=>by simp[Es]
 |x::a,y::b=>by
  rw[Es,List.cons_prefix_cons,←Oa a b];by_cases h:y=x
  ·rw[nC h];simp[h]
  ·rw[nB h];simp;exact fun e=>absurd e.symm h
theorem YN{a b:List BA}(h:b.length<a.length):Es a b=false:=by
 cases hu:Es a b with
 |false=>rfl
 |true=>have:=((Oa a b).1 hu).length_le;omega
theorem YT{a b:List BA}{j:Nat}{x y:BA}(hx:a[j]? =some x)(F:b[j]? =some y):Es (a.drop j) (b.drop j)=if y=x then Es (a.drop (j+1)) (b.drop (j+1))else false:=by
 obtain⟨G,H⟩:=nw.1 hx;obtain⟨I,J⟩:=nw.1 F;rw[nN G,nN I,H,J,Es]
theorem Xq(a R:Option Addr)(c aa:Nat)(l F:List BA)(w:World)(_hl:l.length≤1000)(a1:F.length≤1000)(h:A0 w.cell? a l)(h':A0 w.cell? R F):
 Calls prog 133 #[.slice a l.length c,.slice R F.length aa] w fun e w'=>e=.returned (.bool (Es l F))∧w=w':=by
 by_cases ab:F.length<l.length
 ·have d:decide ((F.length:Int)<(l.length:Int))=true:=nE (by omega)
  have I:=hid (YN ab);go_enter func133,ntmps133;go_wp2;go_ret;exact⟨Bf I.out.symm,rfl⟩
 have d:=nA (by omega);obtain⟨J,I⟩:=A3 (Es l F);rw[I.out];have ad:=hid h;have ak:=hid h';clear h h';go_enter func133,ntmps133;go_wp2;go_loop [14] (fun i=>∃j:Nat,j≤l.length∧i=iN j∧Hid (J=Es (l.drop j) (F.drop j))) (fun i=>l.length-(intOf i).toNat)
 case atStart=>exact⟨0,nM _,rfl,I.out.symm⟩
 case round=>
  obtain⟨j,a6,rfl,O⟩:=hrel;by_cases T:j<l.length;rotate_left
  ·have ao:decide ((j:Int)<(l.length:Int))=false:=nA (by omega)
   have ap:Hid (J=true):=by show _=_;rw[O.out,n7 (by omega),Es]
   go_wp2;go_ret;exact⟨Bf ap.out.symm,rfl⟩
  have ao:(j:Int)<(l.length:Int):=by omega
  have a7:(j:Int)<(F.length:Int):=by omega
  obtain⟨x,hx⟩:∃s,l[j]? =some s:=⟨l[j],np _⟩;obtain⟨y,H⟩:∃s,F[j]? =some s:=⟨F[j]'(by omega),np _⟩;rcases ad.out with e|⟨b,a8,rfl,V⟩
  ·rw[e]at T;simp at T
  rcases ak.out with e|⟨ba,bb,rfl,Y⟩
  ·rw[e]at H;simp at H
  have bd:=V j x hx;have q1:=Y j y H;have Z:=hid (O.out.trans (YT hx H));clear V Y hx H O;by_cases G:y=x
  ·have az:(y.toList==x.toList)=true:=by rw[G];simp
   have Q:Hid (J=Es (l.drop (j+1)) (F.drop (j+1))):=by show _=_;rw[Z.out,nC G]
   clear G;go_wp2;go_round
   case rel=>exact⟨j+1,by omega,by go_num,Q.out⟩
   case measure=>simp[intOf];omega
  ·have az:(y.toList==x.toList)=false:=by simp;exact fun e=>G (I9 e)
   have Q:Hid (J=false):=by show _=_;rw[Z.out,nB G]
   clear G;go_wp2;go_ret;exact⟨Bf Q.out.symm,rfl⟩
theorem Ni:∀(N F:List BA) (x y:Nd),AV (N++F) x=some y→AV N x≠none
 |[],_,x,y,_=>by rw[AV];simp
 |m::N,F,x,y,h=>by
  rw[n9,CJ]at h;rw[CJ];by_cases G:x.kind=2
  ·rw[nB (by simp[G])]at h⊢
   cases hf:fk m x.kids with
   |none=>rw[hf]at h;cases h
   |some z=>rw[hf]at h;exact Ni N F z y h
  ·rw[nC G]at h;cases h
theorem Nn:∀{l:List BA} {m:BA} {x y:Nd},AV (l++[m]) x=some y→∃d,AV l x=some d∧d.kind=2
 |[],m,x,y,h=>by
  rw[ru,CJ]at h;by_cases F:x.kind=2
  ·exact⟨x,by rw[AV],F⟩
  ·rw[nC F]at h;cases h
 |n::l,m,x,y,h=>by
  rw[n9,CJ]at h;rw[CJ];by_cases F:x.kind=2
  ·rw[nB (by simp[F])]at h⊢
   cases hf:fk n x.kids with
   |none=>rw[hf]at h;cases h
   |some z=>rw[hf]at h;exact Nn h
  ·rw[nC F]at h;cases h
theorem aJ{us gs:List Rg}{x0:Nd}{ni:List Nd}{nf:List BA}{F:Nd}(J:∀s∈nf,AQ s=true)(h:DL us gs (x0::ni) nf x0=.ok F){G:List BA}{y:Nd}(H:AV G x0=some y)(O:¬G<+:nf):AV G F=some y:=by
 rcases(JR (fun _ _ i Q=>J _ (List.getElem_mem Q))).1 F h with⟨rfl,_⟩|⟨N,Y,L,rfl,R,T⟩
 ·exact H
 ·obtain⟨_,V⟩:=KM R
  rw[Qj T (fun I=>?_) (fun I=>O (I.trans (List.prefix_append _ _)))]
  ·exact H
  ·obtain⟨t,rfl⟩:=I
   exact Ni _ _ _ _ H V
theorem XN{us gs:List Rg}{x0:Nd}{ni:List Nd}{nf:List BA}{F:Nd}(I:∀s∈nf,AQ s=true)(h:DL us gs (x0::ni) nf x0=.ok F):∃y,AV nf F=some y∧y.kind≠3∧((F=x0∧∃r,AP (x0::ni) nf=(y,0)::r)∨AV nf x0=none∧y.kids=[]):=by
 obtain⟨y,G,J,H⟩:=Sj I h;refine⟨y,G,J,?_⟩;rcases(JR (fun _ _ i O=>I _ (List.getElem_mem O))).1 F h with⟨rfl,z,r,Q,g3⟩|⟨N,V,L,rfl,R,Y⟩
 ·rw[G]at g3
  cases g3;exact .inl ⟨rfl,r,Q⟩
 ·rcases H with rfl|H
  ·obtain⟨_,T⟩:=KM R
   exact absurd T (Ni _ _ _ _ G)
  ·exact .inr H
theorem SS{x:Nd}(h:VV x)(G:x.kind≠2):x.kids=[]:=by
 obtain⟨up,I,h⟩:=h;obtain⟨k,m,u,g,o,nh,d,ks⟩:=x;rw[Fb]at h;have F:=h.2.1;rw[D6]at F;have G:k≠2:=G;show ks=[];have H:ks.length=0:=by
  revert F;unfold IW;repeat' split
  all_goals first|(intro F;omega)|(intro F;simp at F)|(intro F;exact absurd F (by assumption))|(intro _;simp_all)
 exact rp.1 H
theorem Xy{us gs:List Rg}{x0 O T:Nd}{ni:List Nd}{fr F:List BA}(Q:∀s∈fr,AQ s=true)(a1:∀s∈F,AQ s=true)(a6:∀x∈ni,AB x){n:Nat}(hF:Cs us gs ni n x0)(a7:∀x∈x0::ni,VV x)
 (V:(Bo us gs x0 ni fr).1=0) (a8:(Bo us gs x0 ni fr).2=O) (ba:(Bo us gs O ni F.dropLast).1=0) (bb:(Bo us gs O ni F.dropLast).2=T) (bd:¬fr<+:F) (Y:fr≠[])
 {q:Nd×Nat} {r:AU} (Z:AP (x0::ni) fr=q::r) (be:q.1.kind=2→q.2=0∧(q.1.opq=true∨DX (x0::ni) fr=false)) {k m u g:Int} {o:Bool} {nh:List Kv} {d:BA} {ks:At} (G:(AV fr T).getD zN=.mk k m u g o nh d ks):
 k≠3∧∀H I,Ct us gs (.mk k m u g H nh d ks) I:=by
 have aa:=hF.up Q a6 V;have ab:=Lr Q V;rw[a8]at aa ab;have ad:∀s∈F.dropLast,AQ s=true:=fun s bf=>a1 s (List.dropLast_subset _ bf);have ak:=Lr ad ba
 rw[bb]at ak;obtain⟨y,J,R,bg⟩:=XN Q ab;have bi:=aJ ad ak J (fun h=>bd (h.trans (List.dropLast_prefix _)));rw[bi]at G;have G:y=.mk k m u g o nh d ks:=G;subst G;refine⟨R,fun H I=>?_⟩;rcases bg with⟨rfl,bp,ao⟩|⟨_,bk⟩
 ·rw[Z]at ao
  injection ao with hq _
  have bl:=K5 _ _ _ _ hF.own J;refine Q0 R bl ?_ H I;by_cases ap:k=2
  ·obtain⟨_,hd⟩:=be (by rw[hq];exact ap)
   rcases hd with hd|hd
   ·rw[hq]at hd
    exact .inr (.inl hd)
   ·obtain⟨l,az,rfl⟩:∃l az,fr=l++[az]:=⟨fr.dropLast,fr.getLast Y,(List.dropLast_concat_getLast Y).symm⟩
    obtain⟨bs,bn,bo⟩:=Nn J;rw[N1 bn bo]at hd;exact .inr (.inr (by simpa using hd))
  ·have:=Si a7 fr q (by rw[Z];exact nJ ..)
   rw[hq]at this;exact .inl (SS this ap)
 ·exact Q0 R (K5 _ _ _ _ aa.own J) (.inl bk) H I
theorem Z4{I w w':World}{M:CE}{F G:Nat}{x0:Nd}{ni:List Nd}(h:O2 w w' F G (x0::ni))(hb:Bw w w')(J:Bw I w)(T:DD I M):
 Bd I (w'.alloc (.cells #[.slice M.ua M.us.length M.uc,.slice M.ga M.gs.length M.gc,.slice (some ⟨F,0,none⟩) (ni.length+1) G] 64)) w'.heap.size F G M x0 ni:=by
 obtain⟨V,ak,O,Y,Z⟩:=h;have Q:F<w'.heap.size:=by
  rcases O with e|⟨b,ao,e,f,aa⟩
  ·cases e
  ·obtain⟨ab,_⟩:=aa 0 x0 rfl
   obtain⟨k,m,u,g,o,nh,d,ks⟩:=x0;injection e with e
   injection e with e1 e2
   subst e1;exact ny _ _ ab.1
 have H:Bw w' (w'.alloc (.cells #[.slice M.ua M.us.length M.uc,.slice M.ga M.gs.length M.gc,.slice (some ⟨F,0,none⟩) (ni.length+1) G] 64)):=(nt _ _).alloc (nl _) _;have R:=J.size;have ad:=hb.size;exact⟨(J.trans (hb.mono R)).trans (H.mono (nO R ad)),by omega,by omega,by omega,nk _ _ _ _ rfl,nk _ _ _ _ rfl,nk _ _ _ _ rfl,O.on (Aj H),V,GU Y (fun o=>H.cell (p:=⟨F,o,none⟩) Q),fun o=>(H.frozen (p:=⟨F,o,none⟩) Q).trans (Z o),T⟩
theorem I8{H w:World}{b:Nat}{B:Bx}{x0:Nd}{ni:List Nd}(h:A5 H b B)(bi:Bw H w)(Z:BS B x0 ni){bC:Value}(hF:Kg H w B.M x0 ni bC):
 Calls prog 80 #[.pointer (some ⟨b,0,none⟩),bC] w fun e w'=>(∃E,e=.returned (Am E))∧BI H w' b B ni:=by
 obtain⟨gf,lb,rfl,c3,bF⟩:=hF;have ao:=h.below bi;have c4:=h.lt;have bk:=ao.lay;have bl:=ao.cells.2.2.1;rw[Z.xs]at bk bl;have bG:=hid (Wm ao.cells.1 ao.cells.2.1 bl bk Z.len);have bH:Hid _:=bF;have ba:=hid h;have ap:=hid Z;have cg:=hid bi;clear bF Z h bi bk bl ao;go_enter func80,ntmps80;go_wp2_with fail
 refine nn bG.out ?_;rintro e bb ⟨⟨I,J,rfl,bn⟩,q2⟩;have bY:=Z4 (M:=B.M) bn q2 cg.out ba.out.maps;have b0:=bH.out _ bb.heap.size I J (q2.trans (((nt _ _).alloc (nl _) _:Bw bb (bb.alloc (.cells #[.slice B.M.ua B.M.us.length B.M.uc,.slice B.M.ga B.M.gs.length B.M.gc,.slice (some ⟨I,0,none⟩) (ni.length+1) J] 64))).mono q2.size)) q2.size bn.2.1 bY;have b1:=hid b0;clear b0 bY bn q2 bH bG;go_wp2_with fail
 refine nn b1.out ?_;rintro e c5 ⟨E,F,rfl,aa,bo⟩;generalize bb.heap.size=V at aa;clear b1;have bp:=hid aa;have bs:Hid (∀w',Bw H w'→BI H w' b B ni):=fun w' hb=>⟨Au.of_below hb,B,x0,ba.out.below hb,ap.out,rfl,rfl⟩;by_cases b2:E=0
 ·subst b2
  have b3:=bo rfl;have G:=hid b3;rw[show Am 0=Value.nilIface from rfl];have Y:=hid (Gy aa.c2 aa.lay);clear bo b3 aa;go_wp2_with fail
  refine nn Y.out ?_;rintro e c6 ⟨⟨c8,rfl,_,b4⟩,q4⟩;have bu:=hid (KC true b4 G.out.lil (by have:=G.out.cnt;omega));have b5:=hid (bp.out.below q4);obtain⟨az,bv⟩:∃az,Hid (DN true F=az):=⟨_,rfl⟩;rw[bv.out]at bu;clear Y b4 q4 bp;go_wp2_with fail
  refine nn bu.out ?_;rintro e bd ⟨rfl,q5⟩;have be:=b5.out.below q5;have ch:=hid be;clear bu q5 b5;by_cases hF:az=0
  ·subst hF
   rw[show Am 0=Value.nilIface from rfl];have b6:Bw bd bd.drew:=(nt _ _).drew;have a1:=be.below b6;have b7:=hid a1;have Y:=hid (Gy a1.c2 a1.lay);have b9:=ba.out.below a1.base;have ab:bd.drew.cell? ⟨b,7,none⟩=some (.int .i64 B.q):=b9.cells.2.2.2.2.2.2.2;clear be a1 b9 b6;obtain⟨Q,bf⟩:∃Q,Hid (FR F=Q):=⟨_,rfl⟩;have c9:Hid (0≤Q):=by show 0≤Q;rw[←bf.out];unfold FR;omega
   have Z:=ap.out;have cl:Hid (BI H bd b B ni→True):=fun _=>trivial;generalize cb:B.q=q at ab
   have co:=hid cb;clear cb Z cl;go_upto_region 8 with fail
   by_cases bx:q<Q
   ·have cp:decide (q<Q)=true:=nE bx
    go_region_held3 (fun w'=>w'.cell? ⟨b,7,none⟩=some (.int .i64 q)) (first|with_reducible exact ab|with_reducible exact ad|with_reducible exact bg) (first|(go_at_call 22;(with_reducible refine nn Y.out ?_);rintro e R ⟨⟨bA,rfl,_,a6⟩,q6⟩;have ad:R.cell? ⟨b,7,none⟩=some (.int .i64 q):=Ad q6 ab;have a7:Hid (Calls prog 12 #[Ao F bA] R fun e w'=>e=.returned (.int .i64 Q)∧Bw R w'):=(by have e:=Kw a6 G.out.lil (by have:=G.out.cnt;omega) (by have:=J3 F G.out.lil;have:=G.out.cnt;omega);rw[bf.out]at e;exact e);have bB:Hid (Bd H R V I J B.M F ni):=b7.out.below q6;clear Y a6 q6)|(go_at_call 12;(with_reducible refine nn a7.out ?_);rintro e O ⟨rfl,q7⟩;have bg:O.cell? ⟨b,7,none⟩=some (.int .i64 q):=Ad q7 ad;have T:Hid (Bd H O V I J B.M F ni):=bB.out.below q7;clear a7 q7))
    all_goals
     go_wp2;go_ret;exact⟨⟨12,rfl⟩,bs.out _ T.out.base⟩
   ·have cp:decide (q<Q)=false:=nA bx
    have cq:=hid bx;go_region_held3 (fun w'=>w'.cell? ⟨b,7,none⟩=some (.int .i64 q)) (first|with_reducible exact ab|with_reducible exact ad|with_reducible exact bg) (first|(go_at_call 22;(with_reducible refine nn Y.out ?_);rintro e R ⟨⟨bA,rfl,_,a6⟩,q6⟩;have ad:R.cell? ⟨b,7,none⟩=some (.int .i64 q):=Ad q6 ab;have a7:Hid (Calls prog 12 #[Ao F bA] R fun e w'=>e=.returned (.int .i64 Q)∧Bw R w'):=(by have e:=Kw a6 G.out.lil (by have:=G.out.cnt;omega) (by have:=J3 F G.out.lil;have:=G.out.cnt;omega);rw[bf.out]at e;exact e);have bB:Hid (Bd H R V I J B.M F ni):=b7.out.below q6;clear Y a6 q6)|(go_at_call 12;(with_reducible refine nn a7.out ?_);rintro e O ⟨rfl,q7⟩;have bg:O.cell? ⟨b,7,none⟩=some (.int .i64 q):=Ad q7 ad;have T:Hid (Bd H O V I J B.M F ni):=bB.out.below q7;clear a7 q7))
    all_goals
     have ak:=ba.out.below T.out.base;obtain⟨c0,c1,c2,cr,cu,cx,cA,c7⟩:=ak.cells;obtain⟨da,db,dd⟩:O.cell? ⟨V,0,none⟩=some (.slice B.M.ua B.M.us.length B.M.uc)∧O.cell? ⟨V,1,none⟩=some (.slice B.M.ga B.M.gs.length B.M.gc)∧O.cell? ⟨V,2,none⟩=some (.slice (some ⟨I,0,none⟩) (ni.length+1) J):=⟨T.out.c0,T.out.c1,T.out.c2⟩;have de:=ak.fz 0;have dg:=ak.fz 1;have dj:=ak.fz 2;have cf:A5 (((O.setCell ⟨b,0,none⟩ (.slice B.M.ua B.M.us.length B.M.uc)).setCell ⟨b,1,none⟩ (.slice B.M.ga B.M.gs.length B.M.gc)).setCell ⟨b,2,none⟩ (.slice (some ⟨I,0,none⟩) (ni.length+1) J)) b {B with la:=some ⟨I,0,none⟩,lc:=J,xs:=F::ni}:=ak.put3 T.out.lay T.out.cap;have cB:Hid (BI H (((O.setCell ⟨b,0,none⟩ (.slice B.M.ua B.M.us.length B.M.uc)).setCell ⟨b,1,none⟩ (.slice B.M.ga B.M.gs.length B.M.gc)).setCell ⟨b,2,none⟩ (.slice (some ⟨I,0,none⟩) (ni.length+1) J)) b B ni):=by
      refine⟨(Au.of_below T.out.base).trans (Nj _ _ _),_,F,cf,⟨rfl,⟨G.out.own,G.out.lil,G.out.ids,UM bv.out⟩,bv.out,ap.out.low,ap.out.len,?_,ap.out.cred⟩,rfl,rfl⟩;show FR F≤B.q;have:=cq.out;rw[bf.out,co.out];omega
     clear cf ak cr cu cx cA c7 ab ad bg;go_wp2;go_ret;exact⟨⟨0,rfl⟩,cB.out⟩
  ·have a8:=AH (n:=az) rfl hF
   rw[a8];clear be;go_wp2;go_ret;exact⟨⟨az,by rw[a8];rfl⟩,bs.out _ ch.out.base⟩
 ·have a8:=AH (n:=E) rfl b2
  rw[a8];clear aa bo;go_wp2;go_ret;exact⟨⟨E,by rw[a8];rfl⟩,bs.out _ bp.out.base⟩
theorem Ay{w:World}{F:Obj}{a:Addr}{v:Value}(h:w.cell? a=some v):(w.alloc F).cell? a=some v:=Ad ((nt _ _).alloc (nl _) _) h
theorem AW{w:World}{a p:Addr}{v:Value}(h:p.block≠a.block):(w.setCell a v).cell? p=w.cell? p:=nz _ _ _ _ (fun e=>h (by rw[←e]))
theorem AA{w:World}{b i j:Nat}{v:Value}(h:j≠i):(w.setCell ⟨b,i,none⟩ v).cell? ⟨b,j,none⟩=w.cell? ⟨b,j,none⟩:=nz _ _ _ _ (fun e=>by injection e with _ e2;omega)
theorem As.set1{w:World}{b:Nat}{k m u g:Int}{o:Bool}{nh:List Kv}{d:BA}{ks:At}{h:Hd}(G:As w b (.mk k m u g o nh d ks) h)(F:Int):As (w.setCell ⟨b,1,none⟩ (.int .i64 F)) b (.mk k F u g o nh d ks) h:=by
 obtain⟨⟨H,I,J,O,Q,R,T,V⟩,Y⟩:=G;exact⟨⟨(AA (by omega)).trans H,nH _ _ _ I,(AA (by omega)).trans J,(AA (by omega)).trans O,(AA (by omega)).trans Q,(AA (by omega)).trans R,(AA (by omega)).trans T,(AA (by omega)).trans V⟩,fun j=>by simp[Y j]⟩
theorem As.set2{w:World}{b:Nat}{k m u g:Int}{o:Bool}{nh:List Kv}{d:BA}{ks:At}{h:Hd}(G:As w b (.mk k m u g o nh d ks) h)(F:Int):As (w.setCell ⟨b,2,none⟩ (.int .i64 F)) b (.mk k m F g o nh d ks) h:=by
 obtain⟨⟨H,I,J,O,Q,R,T,V⟩,Y⟩:=G;exact⟨⟨(AA (by omega)).trans H,(AA (by omega)).trans I,nH _ _ _ J,(AA (by omega)).trans O,(AA (by omega)).trans Q,(AA (by omega)).trans R,(AA (by omega)).trans T,(AA (by omega)).trans V⟩,fun j=>by simp[Y j]⟩
theorem As.set3{w:World}{b:Nat}{k m u g:Int}{o:Bool}{nh:List Kv}{d:BA}{ks:At}{h:Hd}(G:As w b (.mk k m u g o nh d ks) h)(F:Int):As (w.setCell ⟨b,3,none⟩ (.int .i64 F)) b (.mk k m u F o nh d ks) h:=by
 obtain⟨⟨H,I,J,O,Q,R,T,V⟩,Y⟩:=G;exact⟨⟨(AA (by omega)).trans H,(AA (by omega)).trans I,(AA (by omega)).trans J,nH _ _ _ O,(AA (by omega)).trans Q,(AA (by omega)).trans R,(AA (by omega)).trans T,(AA (by omega)).trans V⟩,fun j=>by simp[Y j]⟩
theorem Jj{w:World}{b:Nat}{x:Nd}{h:Hd}(I:Cc w b x h)(J:∀o,8≤o→w.cell? ⟨b,o,none⟩=none):DE w.cell? b:=by
 obtain⟨k,m,u,g,o,nh,d,ks⟩:=x;obtain⟨O,q1,q2,Q,q4,q5,q6,q7⟩:=I;intro o s v F G;rcases Nat.lt_or_ge o 8 with H|H
 ·rcases(by omega:o=0∨o=1∨o=2∨o=3∨o=4∨o=5∨o=6∨o=7)with q|q|q|q|q|q|q|q<;>subst q
  ·rw[O]at F;cases F
  ·rw[q1]at F;cases F
  ·rw[q2]at F;cases F
  ·rw[Q]at F;cases F
  ·rw[q4]at F;cases F
  ·rw[q5]at F;cases F
  ·rw[q7]at G
   injection G with G
   subst G;exact fun h=>h
  ·rw[q7]at F;cases F
 ·rw[J o H]at F;cases F
def BV(w:World)(b:Nat):Prop:=As w b zN zH∧∀o,8≤o→w.cell? ⟨b,o,none⟩=none
theorem BV.new(w:World):BV (w.alloc (.cells #[.int .i64 0,.int .i64 0,.int .i64 0,.int .i64 0,.bool false,.slice none 0 0,.string ⟨#[]⟩,.slice none 0 0] 50)) w.heap.size:=⟨As.zero w,fun o F=>by
 rw[nk _ _ _ _ rfl];exact rG (by simpa using F)⟩
theorem BV.below{w w':World}{b:Nat}(h:BV w b)(hb:Bw w w'):BV w' b:=⟨h.1.below hb,fun o F=>(hb.cell (p:=⟨b,o,none⟩) h.1.1.lt).trans (h.2 o F)⟩
theorem BV.store{w:World}{b:Nat}(h:BV w b){x:Nd}{hd:Hd}(F:Ah w.cell? x hd):As (Ar w b x hd) b x hd∧Ah (Ar w b x hd).cell? x hd∧Au b w (Ar w b x hd)∧∀o,8≤o→(Ar w b x hd).cell? ⟨b,o,none⟩=none:=by
 refine⟨h.1.store x hd,?_,Cf,fun o G=>?_⟩
 ·rw[Gh]
  exact(GY (fun k H=>by
   have e:k=b:=by simpa using H
   subst e;exact Jj h.1.1 h.2) F).on Nz
 ·rw[Gh]
  exact(FK (fun j I e=>by injection e with _ e2;omega)).trans (h.2 o G)
theorem Kf{w w':World}{b:Nat}{x y:Nd}{h F:Hd}(hb:Au b w w')(G:Cc w b x h)(H:∀o,8≤o→w.cell? ⟨b,o,none⟩=none)(I:Ah w.cell? y F):Ah w'.cell? y F:=(GY (fun k J=>by
 have e:k=b:=by simpa using J
 subst e;exact Jj G H) I).on (Lt hb)
theorem KV{c:AJ}{k m u g F G H I:Int}{o J:Bool}{nh:List Kv}{d O:BA}{ks:At}{h:Hd}(Q:Ah c (.mk k m u g o nh d ks) h):Ah c (.mk F G H I J nh O ks) h:=Cj.2 (Cj.1 Q)
theorem ED{w:World}{b:Nat}{a:Addr}{v v0 G H v3 v4 v5 I J:Value}(F:a.block≠b)(h:w.cell? a=some v):((((((((w.setCell ⟨b,0,none⟩ v0).setCell ⟨b,1,none⟩ G).setCell ⟨b,2,none⟩ H).setCell ⟨b,3,none⟩ v3).setCell ⟨b,4,none⟩ v4).setCell ⟨b,5,none⟩ v5).setCell ⟨b,6,none⟩ I).setCell ⟨b,7,none⟩ J).cell? a=some v:=by
 rw[nz _ _ _ _ (fun e=>F (by rw[←e])),nz _ _ _ _ (fun e=>F (by rw[←e])),nz _ _ _ _ (fun e=>F (by rw[←e])),nz _ _ _ _ (fun e=>F (by rw[←e])),nz _ _ _ _ (fun e=>F (by rw[←e])),nz _ _ _ _ (fun e=>F (by rw[←e])),nz _ _ _ _ (fun e=>F (by rw[←e])),nz _ _ _ _ (fun e=>F (by rw[←e]))];exact h
theorem Cs.sz{us gs:List Rg}{ni:List Nd}{n:Nat}{F:Nd}(h:Cs us gs ni n F){x0:Nd}{m:Nat}(G:Fo m x0 ni):Fo n F ni:=⟨h.lil,h.ids,h.cnt,G.low,G.len⟩
def Jq(w:World)(us gs:List Rg)(G:Value):Prop:=∃gf lb,G=.func (.func gf) #[] lb∧(∀args w,(callFunc gf args).run prog w=.ok (.enter gf args) w)∧
 ∀(W:World) (nx:Nat) (x:Nd) (h:Hd),Bw w W→w.heap.size≤nx→As W nx x h→(∀o,8≤o→W.cell? ⟨nx,o,none⟩=none)→Ah W.cell? x h→AB x→AM x→
  Calls prog gf (#[.pointer (some ⟨nx,0,none⟩)]++lb) W fun e F=>(∃v,e=.returned v)∧∃y h',As F nx y h'∧Ah F.cell? y h'∧Fa us gs x y∧(AB y∧AM y∧cnt y≤cnt x)∧Au nx W F
theorem WO{bx w:World}{M:CE}{x0:Nd}{ni:List Nd}(dy:Bw bx w)(b2:Cs M.us M.gs ni 60 x0)(be:Fo 60 x0 ni){an:Option Addr}{nj:Nat}{nf:List BA}(b3:A0 bx.cell? an nf)(b4:∀s∈nf,AQ s=true)(dz:nf.length≤100)(b5:nf.length≤nj∧nj≤9223372036854775807){cB:Value}(d0:Jq bx M.us M.gs cB)
 {I ap:Nat} (b6:w.cell? ⟨I,0,none⟩=some (.slice an nf.length nj)) (b7:w.cell? ⟨ap,0,none⟩=some cB):
 Kg bx w M x0 ni (.func (.func 127) #[] #[.pointer (some ⟨I,0,none⟩),.pointer (some ⟨ap,0,none⟩)]):=by
 refine⟨_,_,rfl,fun args w=>by kernel_rfl,fun W c3 eU lc b9 eV cb c4=>?_⟩;obtain⟨gf,lb,rfl,eW,c5⟩:=d0;have c0:=Ad b9 b6;have c1:=Ad b9 b7;have d1:I<w.heap.size:=ny _ _ b6;have d2:ap<w.heap.size:=ny _ _ b7;have cf:=hid (J7 c4 be (by omega) b3 (by omega) b5);have c6:Hid (∀y,(Bo M.us M.gs x0 ni nf).1=0→Fa M.us M.gs ((AV nf (Bo M.us M.gs x0 ni nf).2).getD zN) y→AB y→AM y→cnt y≤60+nf.length→(Cn y nf (Bo M.us M.gs x0 ni nf).2).1=0→Cs M.us M.gs ni (60+nf.length+(60+nf.length)) (Cn y nf (Bo M.us M.gs x0 ni nf).2).2):=fun y az d3 d4 d5 d6 d7=>b2.alter b4 (fun x hx=>(be.low x hx).1) az d3 d4 d5 d6 d7;have bf:Hid ((Bo M.us M.gs x0 ni nf).1=0→Cs M.us M.gs ni (60+nf.length) (Bo M.us M.gs x0 ni nf).2):=fun az=>b2.up b4 (fun x hx=>(be.low x hx).1) az
 have d8:=hid be;have bg:=hid b3;have d9:=hid dy.size;have ea:=hid b5;have bi:=hid b9;have eb:Hid _:=c5;generalize Bo M.us M.gs x0 ni nf=P at*;obtain⟨E,O⟩:=P;dsimp only at cf c6 bf;have bk:=hid dz;clear c5 b2 be b3 b5 c4 b6 b7 b4;show Calls prog 127 #[.pointer (some ⟨c3,0,none⟩),.pointer (some ⟨I,0,none⟩),.pointer (some ⟨ap,0,none⟩)] W _;go_enter func127,ntmps127;go_wp2_with fail
 refine nn cf.out ?_;rintro e G ⟨rfl,bA,bB⟩;have c0:=((bB.below (B:=w.heap.size) cb bi.out.size).cell (p:=⟨I,0,none⟩) d1).trans c0;have c1:=((bB.below (B:=w.heap.size) cb bi.out.size).cell (p:=⟨ap,0,none⟩) d2).trans c1;have ec:=hid (bi.out.trans (bB.below (B:=w.heap.size) cb bi.out.size));have bl:=hid bA;clear cf bB bi;by_cases az:E=0
 ·subst az
  have a1:=bf.out rfl;have bf:Hid (∀w',Bw G w'→Calls prog 22 #[.pointer (some ⟨c3,0,none⟩)] w' fun e cg=>(∃h',e=.returned (Ao O h')∧Ah cg.cell? O h')∧Bw w' cg):=fun w' hb=>by
   have c8:=bl.out.below hb;refine nn (Gy c8.c2 c8.lay) ?_;rintro e cg ⟨⟨h',ed,_,ee⟩,ef⟩;exact⟨⟨h',ed,ee⟩,ef⟩
  have eg:=hid bg.out;have c9:=hid (bg.out.on (Aj bA.base));have aa:=c0;obtain⟨ba,ch⟩:∃ba,Hid ((AV nf O).getD zN=ba):=⟨_,rfl⟩;have bC:Hid (AB ba∧AM ba∧cnt ba≤60+nf.length):=by
   show _∧_;rw[←ch.out];cases hq:AV nf O with
   |none=>exact⟨by show AB zN;unfold zN;rw[AB,Bt];exact⟨⟨by decide,fun r ej=>by cases ej⟩,by decide,trivial⟩,by show AM zN;unfold zN;rw[AM,Bu];exact⟨by unfold AZ;omega,by unfold AZ;omega,trivial⟩,by show cnt zN≤_;have:cnt zN=1:=rfl;omega⟩
   |some y=>
    obtain⟨a,b,c⟩:=MZ hq a1.lil a1.ids;exact⟨a,b,by have:=a1.cnt;show cnt y≤_;omega⟩
  have da:Hid (cnt O≤800∧A7 O):=by
   have:=a1.cnt;have:=bk.out;exact⟨by omega,GB O (by omega) a1.lil⟩
  have ek:=hid a1;have el:Hid (nf.length≤1000):=by show _≤_;omega
  rw[show Am 0=Value.nilIface from rfl];have em:ap<G.heap.size:=ny _ _ c1;clear bA a1 bg c0;have bg:=hid c9.out;clear c9;obtain⟨bF,en⟩:∃b,Hid ((AV nf O).isSome=b):=⟨_,rfl⟩;obtain⟨k,m,u,g,o,nh,d,ks⟩:=ba;have cl:G.drew.cell? ⟨I,0,none⟩=some (.slice an nf.length nj):=aa;have bG:Hid (Bw G G.drew):=(nt _ _).drew;have bn:Hid (Bw G (G.alloc AO).drew):=((nt _ _).alloc (nl _) _).drew;have db:(G.alloc AO).drew.cell? ⟨I,0,none⟩=some (.slice an nf.length nj):=Ad bn.out aa;have co:=hid (bf.out _ bG.out);have cp:=hid (bf.out _ bn.out);have bH:Hid (∀(F:World) (Y:Hd),Bw G F→Ah F.cell? O Y→Calls prog 89 #[Ao O Y,.slice an nf.length nj] F fun e Z=>(∃h',e=.returned (.tuple #[(AY k m u g o nh d ks h'),.bool bF])∧Ah Z.cell? (.mk k m u g o nh d ks) h')∧Bw F Z):=fun F Y eo ak=>by
   have e:=KK ak an nj nf (bg.out.on (Aj eo)) el.out da.out.1 da.out.2;rw[ch.out,en.out]at e;exact e
  have bb:I<G.heap.size:=ny G ⟨I,0,none⟩ aa;go_upto_region 4 with fail
  go_region_held3 (fun w'=>w'.cell? ⟨I,0,none⟩=some (.slice an nf.length nj)) (first|with_reducible exact cl|with_reducible exact db|with_reducible exact bY|with_reducible exact a6|(with_reducible refine Ay ?_;with_reducible exact cl)|(with_reducible refine Ay ?_;with_reducible exact bY)|(with_reducible refine Ay ?_;with_reducible exact a6)|(with_reducible refine ED ?_ a6;show I≠_;have g4:=cq.out;omega)|(with_reducible refine ED ?_ a6;show I≠_;skip;omega)) (first|(go_at_call 22;(with_reducible refine nn co.out ?_);rintro e F ⟨⟨Y,rfl,ak⟩,q6⟩;have R:Hid (Bw G F):=bG.out.trans (q6.mono bG.out.size);have bY:F.cell? ⟨I,0,none⟩=some (.slice an nf.length nj):=(R.out.cell (p:=⟨I,0,none⟩) bb).trans aa;have bo:Hid (Calls prog 89 #[Ao O Y,.slice an nf.length nj] F fun e Z=>(∃h',e=.returned (.tuple #[(AY k m u g o nh d ks h'),.bool bF])∧Ah Z.cell? (.mk k m u g o nh d ks) h')∧Bw F Z):=bH.out F Y R.out ak;have dd:Hid (Calls prog 89 #[Ao O Y,.slice an nf.length nj] (F.alloc AO) fun e Z=>(∃h',e=.returned (.tuple #[(AY k m u g o nh d ks h'),.bool bF])∧Ah Z.cell? (.mk k m u g o nh d ks) h')∧Bw (F.alloc AO) Z):=bH.out _ Y (R.out.alloc R.out.size _) (ak.on (Aj ((nt _ _).alloc (nl _) _)));clear co cp ak q6)|(go_at_call 22;(with_reducible refine nn cp.out ?_);rintro e F ⟨⟨Y,rfl,ak⟩,q6⟩;have R:Hid (Bw G F):=bn.out.trans (q6.mono bn.out.size);have bY:F.cell? ⟨I,0,none⟩=some (.slice an nf.length nj):=(R.out.cell (p:=⟨I,0,none⟩) bb).trans aa;have bo:Hid (Calls prog 89 #[Ao O Y,.slice an nf.length nj] F fun e Z=>(∃h',e=.returned (.tuple #[(AY k m u g o nh d ks h'),.bool bF])∧Ah Z.cell? (.mk k m u g o nh d ks) h')∧Bw F Z):=bH.out F Y R.out ak;have ep:Hid (BV F G.heap.size):=((BV.new G).below ((nt _ _).drew)).below q6;clear co cp ak q6)|(go_at_call 89;(with_reducible refine nn bo.out ?_);rintro e H ⟨⟨Q,rfl,ao⟩,q7⟩;have V:Hid (Bw G H):=R.out.trans (q7.mono R.out.size);have a6:H.cell? ⟨I,0,none⟩=some (.slice an nf.length nj):=(V.out.cell (p:=⟨I,0,none⟩) bb).trans aa;have eq:Hid (Bw F H):=q7;have bd:Hid (Ah H.cell? (.mk k m u g o nh d ks) Q):=ao;have bp:Hid (BV H G.heap.size):=ep.out.below q7;obtain⟨⟨⟨z0,er,es,z3,z4,z5,eu,ev⟩,J⟩,_⟩:=id bp.out;have eB:=J 0;have bs:=J 1;have b0:=J 2;have cr:=J 3;have eE:=J 4;have eF:=J 5;have eG:=J 6;have eH:=J 7;clear J;clear bo ao q7)|(go_at_call 89;(with_reducible refine nn bo.out ?_);rintro e H ⟨⟨Q,rfl,ao⟩,q7⟩;have V:Hid (Bw G H):=R.out.trans (q7.mono R.out.size);have a6:H.cell? ⟨I,0,none⟩=some (.slice an nf.length nj):=(V.out.cell (p:=⟨I,0,none⟩) bb).trans aa;have eq:Hid (Bw F H):=q7;have bd:Hid (Ah H.cell? (.mk k m u g o nh d ks) Q):=ao;clear bo ao q7)|(go_at_call 89;(with_reducible refine nn dd.out ?_);rintro e H ⟨⟨Q,rfl,ao⟩,q7⟩;have V:Hid (Bw G H):=(R.out.alloc R.out.size _).trans (q7.mono (nO R.out.size ((nt _ _).alloc (nl _) _:Bw F _).size));have a6:H.cell? ⟨I,0,none⟩=some (.slice an nf.length nj):=(V.out.cell (p:=⟨I,0,none⟩) bb).trans aa;have bd:Hid (Ah H.cell? (.mk k m u g o nh d ks) Q):=ao;have bp:Hid (BV H F.heap.size):=(BV.new F).below q7;have cq:Hid (G.heap.size≤F.heap.size):=R.out.size;obtain⟨⟨⟨z0,er,es,z3,z4,z5,eu,ev⟩,J⟩,_⟩:=id bp.out;have eB:=J 0;have bs:=J 1;have b0:=J 2;have cr:=J 3;have eE:=J 4;have eF:=J 5;have eG:=J 6;have eH:=J 7;clear J;clear dd ao q7))
  all_goals
   first|(obtain⟨ab,a7,T,ad⟩:=BV.store bp.out bd.out;have T:=V.out.trans (T.below (B:=G.heap.size) cq.out V.out.size);generalize a8:Ar H F.heap.size (.mk k m u g o nh d ks) Q=cu at ab a7 T ad;simp only[Ar]at a8;rw[a8];clear a8;generalize bu:F.heap.size=nx at ab ad⊢;have bv:G.heap.size≤nx:=(by rw[←bu];exact cq.out);clear bu)|(obtain⟨ab,a7,T,ad⟩:=BV.store bp.out bd.out;have T:=V.out.trans (T.below (B:=G.heap.size) (nl _) V.out.size);generalize a8:Ar H G.heap.size (.mk k m u g o nh d ks) Q=cu at ab a7 T ad;simp only[Ar]at a8;rw[a8];clear a8;generalize bu:G.heap.size=nx at ab ad⊢;have bv:G.heap.size≤nx:=(by rw[←bu];exact(nl _));clear bu)|(obtain⟨ab,a7,T,ad⟩:As (H.alloc (Ap k m u g o nh d ks Q)) H.heap.size (.mk k m u g o nh d ks) Q∧Ah (H.alloc (Ap k m u g o nh d ks Q)).cell? (.mk k m u g o nh d ks) Q∧Bw G (H.alloc (Ap k m u g o nh d ks Q))∧(∀de,8≤de→(H.alloc (Ap k m u g o nh d ks Q)).cell? ⟨H.heap.size,de,none⟩=none):=⟨As.new H k m u g o nh d ks Q,bd.out.on (Aj ((nt _ _).alloc (nl _) _)),V.out.alloc V.out.size _,fun o eI=>(by rw[nk _ _ _ _ rfl];exact rG (by simpa using eI))⟩;have bv:=V.out.size;generalize H.alloc (Ap k m u g o nh d ks Q)=cu at ab a7 T ad⊢;generalize H.heap.size=nx at ab ad bv⊢)
   clear cl db bY a6 bG bn bH;have eX:=d9.out;have eY:=ec.out.size;have c1:=(T.cell (p:=⟨ap,0,none⟩) em).trans c1;have dg:=bl.out.base.trans (T.mono bl.out.base.size);have dj:=hid (eb.out cu nx (.mk k m u g o nh d ks) Q dg (by omega) ab ad a7 bC.out.1 bC.out.2.1);have cx:=hid T;have eJ:=hid bv;clear ab ad a7 T bd dg bv;go_wp2_with fail
   refine nn dj.out ?_;rintro e eZ ⟨⟨v,rfl⟩,y,e0,dk,dm,dn,⟨bs,b0,cr⟩,dp⟩;have dr:=hid (cx.out.trans (dp.below eJ.out cx.out.size));have c0:=(dr.out.cell (p:=⟨I,0,none⟩) bb).trans aa;have ds:=bl.out.below dr.out;have eK:=bC.out.2.2;have cA:=hid (Je ds (ek.out.sz d8.out) (by have:=bk.out;omega) dm bs (by have:=bk.out;omega) eg.out (by have:=bk.out;omega) ea.out);have du:Hid ((Cn y nf O).1=0→Cs M.us M.gs ni 400 (Cn y nf O).2):=fun eL=>by
    have e1:=bk.out;have e:=c6.out y (by first|rfl|trivial) (by rw[ch.out];exact dn) bs b0 (by omega) eL;exact⟨e.own,e.lil,e.ids,by have:=e.cnt;omega⟩
   obtain⟨b1,eM⟩:∃b1,Hid (Cn y nf O=b1):=⟨_,rfl⟩;rw[eM.out]at cA du;clear dn bs b0 cr ds dm dp dj cx aa c1 bC eK;obtain⟨e2,e3,u2,e4,e5,e6,e7,e8⟩:=y;obtain⟨eN,g1,eO,g3,g4,eP,eQ,eR⟩:=dk.1;clear dk;go_wp2_with fail
   refine nn cA.out ?_;rintro e e9 ⟨rfl,dw,eS⟩;have eT:=hid dw;clear cA dw eS eN g1 eO g3 g4 eP eQ eR;go_wp2;go_ret;exact⟨b1.1,b1.2,rfl,eT.out,du.out⟩
 ·have dx:=AH (n:=E) rfl az
  rw[dx];clear bA;go_wp2;go_ret;exact⟨E,O,by rw[dx];rfl,bl.out,fun e=>absurd e az⟩
theorem JM{w:World}{b:Nat}{B:Bx}{x0:Nd}{ni:List Nd}(h:A5 w b B)(F:BS B x0 ni){an:Option Addr}{nj:Nat}{nf:List BA}(J:A0 w.cell? an nf)(O:∀s∈nf,AQ s=true)(V:nf.length≤100)(Y:nf.length≤nj∧nj≤9223372036854775807){G:Value}(aa:G.oneCell'=true)(Q:Jq w B.M.us B.M.gs G):
 Calls prog 75 #[.pointer (some ⟨b,0,none⟩),.slice an nf.length nj,G] w fun e w'=>(∃E,e=.returned (Am E))∧BI w w' b B ni:=by
 have H:Bw w (w.alloc (.cells #[.slice an nf.length nj] 40)):=(nt _ _).alloc (nl _) _;have I:Bw w ((w.alloc (.cells #[.slice an nf.length nj] 40)).alloc (.cells #[G] 138)):=H.alloc H.size _;have R:=hid (I8 h I F (WO I F.fine F.sz J O V Y Q (Ay (nk _ _ _ _ rfl)) (nk _ _ _ _ (by rw[nv]))));clear h F J O Q H I;go_enter func75,ntmps75;go_wp2_with fail
 refine nn R.out ?_;rintro e ab ⟨⟨E,rfl⟩,T⟩;have Z:=hid T;clear T R;go_wp2;go_ret;exact⟨⟨E,rfl⟩,Z.out⟩
def Jz(t:Th):Prop:=(0≤t.m∧t.m≤4095)∧AZ t.u∧AZ t.g
theorem Us:Jz JC:=⟨⟨by show(0:Int)≤0;omega,by show(0:Int)≤4095;omega⟩,⟨by show(-9223372036854775808:Int)≤0;omega,by show(0:Int)≤9223372036854775807;omega⟩,⟨by show(-9223372036854775808:Int)≤0;omega,by show(0:Int)≤9223372036854775807;omega⟩⟩
theorem aL{L:List Rg}{x y:Int}(h:Ff L x=some y):AZ y:=by
 unfold Ff at h;by_cases F:CY L=0
 ·rw[nC F]at h
  obtain⟨r,G,H,I,rfl⟩:=JY h;have hb:=J6 F r G;unfold Rg.bd at hb;unfold AZ;omega
 ·rw[nB F]at h;cases h
theorem TM{up:Bool}{rs:List Rg}{x:Int}(hx:AZ x):AZ ((De up rs x).getD 65534):=by
 cases h:De up rs x with
 |none=>exact⟨by show(-9223372036854775808:Int)≤65534;omega,by show(65534:Int)≤9223372036854775807;omega⟩
 |some y=>
  show AZ y;unfold De at h;split at h
  ·exact aL h
  ·obtain⟨z,_,rfl⟩:=nY.1 h
   exact hx
theorem UT{B:Bx}{x:Nd}(F:Eu x)(G:0≤(B.th true x).m∧(B.th true x).m≤4095)(up:Bool):Jz (B.th up (x.with [])):=by
 obtain⟨k,m,u,g,o,nh,d,ks⟩:=x;exact⟨G,TM F.1,TM F.2⟩
structure GL (B:Bx) (w:World) (nf:List BA) (f:Fd):Prop where
 t:Jz f.t
 dir:Jz f.dir
 nd:Ah w.cell? f.x f.h
 there:f.there=true→∃q r,AP B.xs nf=q::r∧f.x=q.1.with []∧f.ly=(q.2:Int)∧f.t=B.th (f.ly==0) f.x
 no:f.there=false→nf≠[]
theorem UV{B:Bx}{w:World}{nf:List BA}{L:List Fl}(H:Ik B)(J:JD B w nf L):∀(n j:Nat) (g f:Fd) (F:Fl),j+n=nf.length→L[j]? =some F→g.x=F.x→g.h=F.h→g.ly=F.ly→g.there=true→g.t=B.th (g.ly==0) g.x→Jz g.dir→B.wk g n (L.drop (j+1))=.ok f→GL B w nf f
 |0,j,g,f,F,I,hl,h1,h2,h3,h4,h5,h6,h=>by
  have e:B.wk g 0 (L.drop (j+1))=.ok g:=by rw[Bx.wk.eq_def]
  rw[e]at h;injection h with e
  subst e;obtain⟨q,r,G,a2,a3⟩:=J.nh j F hl;have I:j=nf.length:=by omega
  subst I;rw[List.take_length]at G;refine⟨?_,h6,?_,fun _=>⟨q,r,G,h1.trans a2,?_,h5⟩,fun e=>?_⟩
  ·rw[h5,h1,a2]
   exact UT (H.ids _ _ _ G) (H.mode _ _ _ G) _
  ·rw[h1,h2];exact J.nd F (nD hl)
  ·rw[h3,a3]
  ·rw[h4]at e;cases e
 |n+1,j,g,f,F,I,hl,h1,h2,h3,h4,h5,h6,h=>by
  obtain⟨q,r,G,a2,a3⟩:=J.nh j F hl;have Q:Jz g.t:=by
   rw[h5,h1,a2];exact UT (H.ids _ _ _ G) (H.mode _ _ _ G) _
  by_cases O:B.passE g.t=0
  case neg=>rw[Ok rfl O]at h;cases h
  case pos=>
   cases hd:L.drop (j+1)with
   |nil=>
    rw[hd,Bx.wk.eq_def]at h;dsimp only at h;rw[nB (by simp[O])]at h;split at h
    ·cases h
    ·injection h with h
     subst h;exact⟨Us,Q,nZ _,fun e=>(by cases e),fun _ e=>(by rw[e]at I;simp at I)⟩
   |cons s R=>
    rw[hd,NV O]at h;have T:L[j+1]? =some s:=by
     have:=nV (fun l=>l[0]?) hd;simpa using this
    have V:L.drop (j+1+1)=R:=by
     have:=nV List.tail hd;simpa using this
    rw[←V]at h;exact UV H J n (j+1) _ f s (by omega) T rfl rfl rfl rfl rfl Q h
theorem Fu{l:List UInt8}(h:Db l=0):(∀s∈BJ l,AQ s=true)∧(BJ l).length≤6∧(l≠[47]→BJ l≠[]):=by
 by_cases F:l=[47]
 ·have e:BJ l=[]:=by unfold BJ;rw[nB (by simp[F])]
  rw[e];exact⟨fun s G=>(by cases G),(by simp),fun e=>absurd F e⟩
 ·have e:BJ l=EH (l.drop 1):=by unfold BJ;rw[nC ⟨h,F⟩]
  unfold Db at h;split at h
  ·cases h
  ·unfold FL at h
   split at h
   ·rename_i hall
    split at h
    ·cases h
    ·rename_i hlen
     rw[e];refine⟨fun s G=>List.all_eq_true.1 hall s G,by omega,fun _ H=>?_⟩;have:EU (l.drop 1)≠[]:=XE _;unfold EH at H;rw[List.map_eq_nil_iff]at H;exact this H
   ·cases h
theorem C7(l:List UInt8):(BJ l).length≤1000∧∀s∈BJ l,s≠⟨#[]⟩:=by
 by_cases h:Db l=0
 ·obtain⟨G,H,_⟩:=Fu h
  refine⟨by omega,fun s F e=>?_⟩;have:=G s F;rw[e]at this;exact absurd this (by decide)
 ·have e:BJ l=[]:=by unfold BJ;rw[nB (fun q=>h q.1)]
  rw[e];exact⟨(by simp),fun s F=>(by cases F)⟩
theorem UH{B:Bx}:∀(n:Nat) (g:Fd) (L:List Fl),B.wk g n L≠.error 0
 |0,g,L=>fun h=>by
  rw[Bx.wk.eq_def]at h;cases L<;>cases h
 |n+1,g,L=>fun h=>by
  by_cases F:B.passE g.t=0
  case neg=>
   rw[Ok rfl F]at h;injection h with h
   exact F h
  case pos=>
   cases L with
   |nil=>
    rw[Bx.wk.eq_def]at h;dsimp only at h;rw[nB (by simp[F])]at h;split at h
    ·injection h with h
     cases h
    ·cases h
   |cons q L=>
    rw[NV F]at h;exact UH n _ L h
theorem RD{E D:Int}(h:Am E=Am D):E=D:=by
 unfold Am at h;split at h<;>split at h
 ·omega
 ·cases h
 ·cases h
 ·injection h with _ h
  injection h
def CC(B:Bx)(w:World)(p:BA)(F:Bool)(e:Ending):Prop:=∃cs E,e=.returned (.tuple #[BK cs,Am E])∧cs.length=21∧(∀v∈cs,v.oneCell'=true)∧(E=0→∃f:Fd,cs=f.l∧Db p.data.toList=0∧f.nf=BJ p.data.toList∧A0 w.cell? f.na f.nf∧(f.nf.length≤f.nc∧f.nc≤9223372036854775807)∧GL B w f.nf f∧(F=true→f.there=true))
theorem LU{B:Bx}{w:World}{p:BA}{e:Ending}(I:Ik B)(h:FE B w p e):CC B w p false e:=by
 rcases h with⟨H,rfl⟩|⟨H,an,nj,J,O,Q,L,F,R,T,rfl⟩
 ·exact⟨Dg.l,_,rfl,DW _,Ej _,fun e=>absurd e H⟩
 ·cases hw:B.wk (B.fd F.x F.h F.ly) (BJ p.data.toList).length (L.drop 1)with
  |error E=>
   refine⟨Dg.l,E,rfl,DW _,Ej _,fun e=>?_⟩;exact absurd (show B.wk (B.fd F.x F.h F.ly) (BJ p.data.toList).length (L.drop 1)=.error 0 by rw[hw,e]) (UH _ _ _)
  |ok f=>
   have G:=UV I T (BJ p.data.toList).length 0 (B.fd F.x F.h F.ly) f F (by omega) R rfl rfl rfl rfl rfl Us hw;exact⟨Fd.l {f with na:=an,nc:=nj,nf:=BJ p.data.toList},0,rfl,DW _,Ej _,fun _=>⟨_,rfl,H,rfl,J,⟨O,Q⟩,⟨G.t,G.dir,G.nd,G.there,G.no⟩,fun e=>by cases e⟩⟩
theorem IF{B:Bx}{w:World}{p:BA}{e:Ending}(O:Ik B)(h:Vt B w p e):CC B w p true e:=by
 obtain⟨cs,E,I,Q,az,R,rfl⟩:=h;obtain⟨T,D,F,V,Y,Z⟩:=LU O Q;injection F with F
 injection F with F
 have G:=nV Array.toList F;injection G with e2 G
 injection G with e3 _
 have aa:cs=T:=by
  unfold BK at e2;injection e2 with e2
  exact List.toArray_inj e2
 have ab:E=D:=RD e3;subst aa ab;by_cases H:E=0∧I=false
 ·rw[nC H]
  exact⟨Dg.l,5,rfl,DW _,Ej _,fun e=>absurd e (by decide)⟩
 ·rw[nB H]
  refine⟨cs,E,rfl,V,Y,fun e=>?_⟩;obtain⟨f,J,ad,ak,ao,ap,f6,_⟩:=Z e;refine⟨f,J,ad,ak,ao,ap,f6,fun _=>?_⟩;have:cs[11]? =some (.bool f.there):=by
   rw[J];obtain⟨t,dir,na,nc,nm,a1,⟨k,m,u,g,o,nh,d,ks⟩,a6,ly⟩:=f;rfl
  rw[R]at this;injection this with this
  injection this with this
  cases I with
  |true=>exact this.symm
  |false=>exact absurd ⟨e,rfl⟩ H
theorem FV(F:World)(cs:List Value)(H:cs.length=21)(O:∀v∈cs,v.oneCell'=true):∃G,(storeCells ⟨F.heap.size,0,none⟩ cs 0).run prog (F.alloc AF)=.ok () G∧Hid (A6 G F.heap.size 0 cs)∧Hid (Bw F G)∧Hid (∀o,G.frozen? ⟨F.heap.size,o,none⟩=false):=by
 have I:=A6.new F _ rfl CB 86;have J:∀q,(F.alloc AF).frozen? ⟨F.heap.size,q,none⟩=false:=fun q=>nP _ _ _ _ rfl;exact⟨_,Cd (P:=prog) I J (by rw[H];rfl) O,C5 cs I (by rw[H];rfl),CP cs (nl _) ((nt _ _).alloc (nl _) _),fun o=>by rw[rl];exact J o⟩
theorem c7(w:World)(F:Int)(G H I J:BA)(O Q:Int)(R:Obj):Ce ((w.alloc (Ax F G H I J O Q)).alloc R) w.heap.size 0 (.int .i64 F)∧Ce ((w.alloc (Ax F G H I J O Q)).alloc R) w.heap.size 1 (.string G)∧Ce ((w.alloc (Ax F G H I J O Q)).alloc R) w.heap.size 2 (.string H)∧Ce ((w.alloc (Ax F G H I J O Q)).alloc R) w.heap.size 3 (.string I)∧Ce ((w.alloc (Ax F G H I J O Q)).alloc R) w.heap.size 4 (.string J)∧Ce ((w.alloc (Ax F G H I J O Q)).alloc R) w.heap.size 5 (.int .i64 O)∧Ce ((w.alloc (Ax F G H I J O Q)).alloc R) w.heap.size 6 (.int .i64 Q):=⟨Ay (nk _ _ _ _ rfl),Ay (nk _ _ _ _ rfl),Ay (nk _ _ _ _ rfl),Ay (nk _ _ _ _ rfl),Ay (nk _ _ _ _ rfl),Ay (nk _ _ _ _ rfl),Ay (nk _ _ _ _ rfl)⟩
theorem z21:∃c:List Value,c.length=21∧(∀v∈c,v.oneCell'=true)∧Hid (Value.agg #[.bool false,.int .i64 0,.int .i64 0,.int .i64 0,.bool false,.bool false,.int .i64 0,.int .i64 0,.int .i64 0,.bool false,.slice none 0 0,.bool false,.int .i64 0,.int .i64 0,.int .i64 0,.int .i64 0,.bool false,.slice none 0 0,.string ⟨#[]⟩,.slice none 0 0,.int .i64 0]=BK c):=⟨CB,rfl,by simp[Value.oneCell'],rfl⟩
theorem MG(w:World)(x:Int):Calls prog 73 #[.int .i64 x] w fun e w'=>e=.returned (.bool (decide (0≤x∧x≤4095)))∧w=w':=by
 by_cases F:0≤x
 ·have H:decide (0≤x)=true:=nE F
  by_cases G:x≤4095
  ·have I:decide (x≤4095)=true:=nE G
   rw[nE ⟨F,G⟩];go_enter func73,ntmps73;go_wp2;go_ret;exact⟨rfl,rfl⟩
  ·have I:decide (x≤4095)=false:=nA G
   rw[nA (fun h=>G h.2)];go_enter func73,ntmps73;go_wp2;go_ret;exact⟨rfl,rfl⟩
 ·have H:decide (0≤x)=false:=nA F
  rw[nA (fun h=>F h.1)];go_enter func73,ntmps73;go_wp2;go_ret;exact⟨rfl,rfl⟩
theorem Pu(w:World)(x:Int):Calls prog 93 #[.int .i64 x] w fun e w'=>e=.returned (.bool (decide (-1≤x∧x≤65535)))∧w=w':=by
 by_cases F:-1≤x
 ·have H:decide (-1≤x)=true:=nE F
  by_cases G:x≤65535
  ·have I:decide (x≤65535)=true:=nE G
   rw[nE ⟨F,G⟩];go_enter func93,ntmps93;go_wp2;go_ret;exact⟨rfl,rfl⟩
  ·have I:decide (x≤65535)=false:=nA G
   rw[nA (fun h=>G h.2)];go_enter func93,ntmps93;go_wp2;go_ret;exact⟨rfl,rfl⟩
 ·have H:decide (-1≤x)=false:=nA F
  rw[nA (fun h=>F h.1)];go_enter func93,ntmps93;go_wp2;go_ret;exact⟨rfl,rfl⟩
theorem P4(w:World)(s:BA):Calls prog 78 #[.string s] w fun e w'=>(∃r,e=.returned (.bool r)∧(r=false→s.data.toList≠[47]))∧w=w':=by
 go_enter func78,ntmps78;go_wp2;go_ret;refine⟨⟨_,rfl,fun h=>?_⟩,rfl⟩;have h:=h;have F:¬(s.toList=[47]):=by simpa using h
 rwa [r1]at F
theorem P5(w:World)(x y:Int):Calls prog 94 #[.int .i64 x,.int .i64 y] w fun e w'=>e=.returned (.int .i64 (if x=-1 then y else x))∧w=w':=by
 by_cases h:x=-1
 ·subst h
  rw[nC rfl];go_enter func94,ntmps94;go_wp2;go_ret;exact⟨rfl,rfl⟩
 ·have hd:(x==-1)=false:=by simpa using h
  rw[nB h];go_enter func94,ntmps94;go_wp2;go_ret;exact⟨rfl,rfl⟩
theorem Tryz.info3:(prog.info? 3).map (fun i=>(i.zero,i.size,i.bytes))=some (some (.int .i64 0),1,8):=by kernel_rfl
theorem size3:(prog.info? 3).map (·.size)=some 1:=by kernel_rfl
theorem WR{F:Type}(n:Nat)(z:F)(cs:List F)(h:cs.length=n):splice (List.replicate n z) 0 cs=cs:=by
 subst h;simp[splice]
theorem ZO{w:World}{g:Nat}{F:List Int}{t:TypeId}(h:w.heap[g]? =some (.cells (F.map (Value.int .i64)).toArray t (0,0))):Bg w (some (aD g 0)) F:=by
 refine .inr ⟨g,0,rfl,fun i G=>?_⟩;simp[World.cell?,h,G]
theorem Ym{w:World}{a:Option Addr}{F:List Int}(h:Bg w a F)(o:Obj):0<(F.map (Value.int .i64)).length→∃J,a=some J∧∀j v,(F.map (Value.int .i64))[j]? =some v→(w.alloc o).cell? (J.add j)=some v:=by
 intro Q;rcases h with rfl|⟨b,G,rfl,R⟩
 ·simp at Q
 ·refine⟨_,rfl,fun j v H=>?_⟩
  have I:j<F.length:=by have:=(nw.1 H).1;simpa using this
  have O:=R j I;have T:v=iN (F.getD j 0):=by simp[I]at H;simp[I,H]
  subst T;have V:b<w.heap.size:=bL O;have Y:(w.alloc o).cell? (aD b (G+j))=w.cell? (aD b (G+j)):=World.cell?_alloc_lt _ _ _ V;have e:((aD b G):Addr).add j=(aD b (G+j)):=by by_cases Z:j=0<;>simp[Addr.add,Z]
  rw[e];exact Y.trans O
theorem SR(a:Option Addr)(cap:Nat)(F:List Int)(w:World)(O:F.length≤8)(h:Bg w a F):
 Calls prog 141 #[.slice a F.length cap] w fun e w'=>
  ∃g,e=.returned (sL g 0 F.length F.length)∧g=w.heap.size∧g<w'.heap.size∧Bg w' (some (aD g 0)) F∧Below w.heap.size w w':=by
 have Q:=run_make_row' (P:=prog) 25 3 (iN 0) 8 underlying25 Tryz.info3 rfl .i64 .i64 F.length (by omega) (by omega);go_enter func141,ntmps141;go_wp2_with (refine wpList_copy_splice rfl (.tmp 7) (.tmp 8) 25 25 rfl 3 underlying25 size3 (some (aD w.heap.size 0)) a F.length F.length F.length cap rfl rfl w.heap.size 0 (List.replicate F.length (iN 0)) 3 ?q1 (F.map (Value.int .i64)) ?q2 (fun I=>⟨rfl,Ym h _ I⟩) ?q4 ?q5 w.heap.size w ?q6 (nl _) ?q7)
 case q1=>
  rw[show madeCells #[Value.int .i64 0] F.length=(List.replicate F.length (Value.int .i64 0)).toArray from by rw[←toList_madeCells_one]];show(w.heap.push _)[w.heap.size]? =_;simp
 case q2=>simp
 case q4=>simp
 case q5=>intro v H;simp at H;obtain⟨z,_,rfl⟩:=H;rfl
 case q6=>exact bN
 case q7=>
  intro R J hb;go_wp2;go_ret;have G:=J.out;rw[WR _ _ _ (by simp)]at G;exact⟨_,rfl,rfl,(nI.1 G).1,ZO G,hb⟩
end Go.Proofs.YtgppjbhaimmlpaaGreatDoor
