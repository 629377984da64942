/-
  TopQuota: Xw Wu Xx Xy Xz Xzs Yc0 Cb.
-/
import Derived.Test.YtofhphibahcniaaGreatDoorApX
import Derived.Test.YtofhphibahcniaaGreatDoorVdX
import Derived.Test.YtofhphibahcniaaGreatDoorUbX
import Derived.Test.YtofhphibahcniaaGreatDoorFjX
import Derived.Deep.OwnRows
import Derived.Laws.CopyOwn
import Derived.Deep.QuietTactic
import Derived.BigQuiet
set_option maxRecDepth 100000
set_option maxHeartbeats 16000000
namespace Go.Proofs.YtofhphibahcniaaGreatDoor
open Go.RowKit Go.Proofs.Tryz
theorem Gh{b:Nat}{w w':World}(h:Ao b w w'):AR (Ag w.cell? (fun k=>k==b)) w'.cell?:=fun q v F=>by
 unfold Ag at F;split at F
 ·cases F
 ·rename_i G
  have G:q.block≠b:=by simpa using G
  exact(h.cell (nz _ _ F) G).trans F
theorem Mb{b:Nat}{w w':World}{a:Option Addr}{rs:List Rg}(h:Rgs w a rs)(hb:Ao b w w')(Q:D6 a b):Rgs w' a rs:=by
 rcases h with h|⟨F,G,J,R⟩
 ·exact .inl h
 ·have H:F≠b:=Q _ J
  refine .inr ⟨F,G,J,fun k r T=>?_⟩;obtain⟨O,g1,V⟩:=R k r T;have I:F<w.heap.size:=nz w ⟨F,_,none⟩ O;exact⟨(hb.cell (p:=⟨F,G+k*3,none⟩) I H).trans O,(hb.cell (p:=⟨F,G+k*3+1,none⟩) I H).trans g1,(hb.cell (p:=⟨F,G+k*3+2,none⟩) I H).trans V⟩
theorem NV{b:Nat}{w w':World}{a:Option Addr}{G:List Int}(h:A6 w a G)(hb:Ao b w w')(F:G=[]∨D6 a b):A6 w' a G:=by
 rcases F with F|F
 ·exact .inl F
 rcases h with h|⟨H,I,J,O⟩
 ·exact .inl h
 ·have Q:H≠b:=F _ J
  refine .inr ⟨H,I,J,fun i R=>?_⟩;have g:=O i R;exact(hb.cell (p:=⟨H,I+i,none⟩) (nz _ _ g) Q).trans g
theorem aB{b:Nat}{w w':World}{M:CO}(h:Ek w M)(hb:Ao b w w')(F:D6 M.ua b)(G:D6 M.ga b):Ek w' M:=⟨Mb h.u hb F,Mb h.g hb G,h.ul,h.gl,h.cu,h.cg,h.ou,h.og⟩
theorem AX.turn{w w':World}{b:Nat}{B F:Bx}(h:AX w b B)(hb:Ao b w w')(I:KC w'.cell? b F)(J:∀o,8≤o→w'.cell? ⟨b,o,none⟩=none)(O:∀o,w'.frozen? ⟨b,o,none⟩=false)(G:F.M=B.M)(Q:Cn (Ag w.cell? (fun k=>k==b)) F.la F.xs)(R:F.xs.length≤F.lc∧F.lc≤9223372036854775807)(T:A6 w F.ca F.cs)(H:F.cs=[]∨D6 F.ca b)(V:F.cs.length≤F.cc∧F.cc≤9223372036854775807):AX w' b F where
 cells:=I
 end8:=J
 fz:=O
 maps:=by rw[G];exact aB h.maps hb h.au h.ag
 lay:=Q.on (Gh hb)
 lcap:=R
 grp:=NV T hb H
 gcap:=V
 au:=by rw[G];exact h.au
 ag:=by rw[G];exact h.ag
 ac:=H
theorem AX.put3{w:World}{b:Nat}{B:Bx}(h:AX w b B){H lc:Nat}{F:List Nd}(J:Cn w.cell? (some ⟨H,0,none⟩) F)(O:F.length≤lc∧lc≤9223372036854775807):
 AX (((w.setCell ⟨b,0,none⟩ (.slice B.M.ua B.M.us.length B.M.uc)).setCell ⟨b,1,none⟩ (.slice B.M.ga B.M.gs.length B.M.gc)).setCell ⟨b,2,none⟩ (.slice (some ⟨H,0,none⟩) F.length lc)) b {B with la:=some ⟨H,0,none⟩,lc:=lc,xs:=F}:=by
 obtain⟨c0,c1,c2,Q,R,T,V,c7⟩:=h.cells;obtain⟨Y,Z,aa⟩:=Qo c0 c1 c2 (.slice B.M.ua B.M.us.length B.M.uc) (.slice B.M.ga B.M.gs.length B.M.gc) (.slice (some ⟨H,0,none⟩) F.length lc);have G:∀o,3≤o→(((w.setCell ⟨b,0,none⟩ (.slice B.M.ua B.M.us.length B.M.uc)).setCell ⟨b,1,none⟩ (.slice B.M.ga B.M.gs.length B.M.gc)).setCell ⟨b,2,none⟩ (.slice (some ⟨H,0,none⟩) F.length lc)).cell? ⟨b,o,none⟩=w.cell? ⟨b,o,none⟩:=fun o I=>by
  rw[nA _ _ _ _ (by intro e;injection e with _ e2;omega),nA _ _ _ _ (by intro e;injection e with _ e2;omega),nA _ _ _ _ (by intro e;injection e with _ e2;omega)]
 refine h.turn (NX _ _ _) ⟨Y,Z,aa,(G 3 (by omega)).trans Q,(G 4 (by omega)).trans R,(G 5 (by omega)).trans T,(G 6 (by omega)).trans V,(G 7 (by omega)).trans c7⟩ (fun o I=>(G o (by omega)).trans (h.end8 o I)) (fun o=>by simp[h.fz o]) rfl ?_ O h.grp h.ac h.gcap
 exact OV (fun k ab=>by
  have:k=b:=by simpa using ab
  rw[this];exact h.noStr) J
structure Bv (B:Bx) (x0:Nd) (ni:List Nd):Prop where
 xs:B.xs=x0::ni
 fine:CE 60 x0
 ok:CC true x0=0
 low:∀x∈ni,CC false x=0∧AB x∧AP x
 len:ni.length≤4
 quo:CH x0≤B.q
 cred:Cx B.u B.g B.cs B.k=0∧B.cs.length≤8
theorem Vy{up:Bool}{x:Nd}(h:CC up x=0):cnt x≤60:=((JJ up x).1 h).2.2
theorem Bv.sz{B:Bx}{x0:Nd}{ni:List Nd}(h:Bv B x0 ni):Fm 60 x0 ni:=⟨h.fine.lil,h.fine.ids,h.fine.cnt,fun x hx=>⟨(h.low x hx).2.1,(h.low x hx).2.2,by have:=Vy (h.low x hx).1;omega⟩,h.len⟩
theorem Bv.lils{B:Bx}{x0:Nd}{ni:List Nd}(h:Bv B x0 ni):∀x∈ni,AB x:=fun x hx=>(h.low x hx).2.1
theorem Bv.vv{B:Bx}{x0:Nd}{ni:List Nd}(h:Bv B x0 ni):∀x∈x0::ni,VV x:=fun x hx=>by
 rcases nY.1 hx with rfl|hx
 ·exact⟨_,_,((JJ _ _).1 h.ok).2.1⟩
 ·exact⟨_,_,((JJ _ _).1 (h.low x hx).1).2.1⟩
theorem Bv.kind{B:Bx}{x0:Nd}{ni:List Nd}(h:Bv B x0 ni):x0.kind=2:=((JJ _ _).1 h.ok).1
theorem ZR{up:Bool}{G:Nat}{k m u g:Int}{o:Bool}{nh:List Kv}{d:BA}{ks:Ar}(h:Fn up G (.mk k m u g o nh d ks)):0≤m∧m≤4095:=by
 rw[Fn]at h;have F:=h.2.1;rw[DT]at F;split at F
 ·cases F
 ·split at F
  ·cases F
  ·rename_i hq
   omega
theorem YC{xs:List Nd}(h:∀x∈xs,AP x)(nf:List BA):EQ (AI xs nf):=by
 unfold AI;have F:EQ (Bq (BJ xs)):=EQ.sh fun q G=>h _ (Jw G);revert F
 generalize Bq (BJ xs)=l;induction nf generalizing l with
 |nil=>exact fun h=>h
 |cons m N H=>exact fun h=>H _ (h.kid m).sh
theorem Bv.good{B:Bx}{x0:Nd}{ni:List Nd}(h:Bv B x0 ni):It B:=by
 have F:=h.sz.ok (by omega);rw[←h.xs]at F;have H:=h.vv;rw[←h.xs]at H;refine⟨F.len,F.small,F.lim,?_,fun nf q r G=>?_,fun nf q r G=>?_⟩
 ·rw[h.xs]
  show Bq ((x0,0)::ni.zipIdx 1)≠[];rw[Oq h.kind];simp
 ·have e:=YC (fun x hx=>F.ids x hx) nf q (by rw[G];exact nK ..)
  obtain⟨⟨k,m,u,g,o,nh,d,ks⟩,ly⟩:=q;rw[AP]at e;exact⟨e.1,e.2.1⟩
 ·obtain⟨up,I,e⟩:=aA H nf q (by rw[G];exact nK ..)
  obtain⟨⟨k,m,u,g,o,nh,d,ks⟩,ly⟩:=q;exact ZR e
def Kr(I w:World)(M:CO)(x0:Nd)(ni:List Nd)(r:Int×Nd)(J:Value):Prop:=∃gf lb,J=.func (.func gf) #[] lb∧(∀args w,(callFunc gf args).run prog w=.ok (.enter gf args) w)∧
 ∀(W:World) (F G lc:Nat),Bw w W→w.heap.size≤F→w.heap.size≤G→Bd I W F G lc M x0 ni→
  Calls prog gf (#[.pointer (some ⟨F,0,none⟩)]++lb) W fun e O=>∃H,e=.returned (Am r.1)∧Bd I O F G lc M H ni∧(r.1=0→H=r.2∧CE 400 H)
def Bx.crd(B:Bx):Int×Int×List Int×Int:=(B.u,B.g,B.cs,B.k)
def Cw(G w':World)(b:Nat)(B:Bx)(ni:List Nd)(H:Nd)(C:Int×Int×List Int×Int):Prop:=Ao b G w'∧∃F,AX w' b F∧Bv F H ni∧F.M=B.M∧F.q=B.q∧F.crd=C∧(F.ca=B.ca∨∀p,F.ca=some p→G.heap.size≤p.block)
theorem Cw.stay{w:World}{b:Nat}{B:Bx}{x0:Nd}{ni:List Nd}(h:AX w b B)(F:Bv B x0 ni)(w':World)(hb:Bw w w'):Cw w w' b B ni x0 B.crd:=⟨Ao.of_below hb,B,h.below hb,F,rfl,rfl,rfl,.inl rfl⟩
def Em:List BA→List BA→Bool
 |[],_=>true
 |_::_,[]=>false
 |x::a,y::b=>if y=x then Em a b else false
theorem UA:∀a b:List BA,Em a b=true↔a<+:b
 |[],b=>by simp[Em]
 |x::a,[]=>by simp[Em]
 |x::a,y::b=>by
  rw[Em,List.cons_prefix_cons,←UA a b];by_cases h:y=x
  ·rw[nD h];simp[h]
  ·rw[nC h];simp;exact fun e=>absurd e.symm h
theorem ZM{a b:List BA}(h:b.length<a.length):Em a b=false:=by
 cases hu:Em a b with
 |false=>rfl
 |true=>have:=((UA a b).1 hu).length_le;omega
theorem ZS{a b:List BA}{j:Nat}{x y:BA}(hx:a[j]? =some x)(F:b[j]? =some y):Em (a.drop j) (b.drop j)=if y=x then Em (a.drop (j+1)) (b.drop (j+1))else false:=by
 obtain⟨G,H⟩:=ny.1 hx;obtain⟨I,J⟩:=ny.1 F;rw[nO G,nO I,H,J,Em]
theorem Ys(a R:Option Addr)(c aa:Nat)(l F:List BA)(w:World)(_hl:l.length≤1000)(ay:F.length≤1000)(h:AW w.cell? a l)(h':AW w.cell? R F):
 Calls prog 141 #[.slice a l.length c,.slice R F.length aa] w fun e w'=>e=.returned (.bool (Em l F))∧w=w':=by
 by_cases ab:F.length<l.length
 ·have d:decide ((F.length:Int)<(l.length:Int))=true:=nF (by omega)
  have I:=hid (ZM ab);go_enter func141,ntmps141;go_wp2;go_ret;exact⟨Bh I.out.symm,rfl⟩
 have d:=nB (by omega);obtain⟨J,I⟩:=AQ (Em l F);rw[I.out];have ad:=hid h;have ak:=hid h';clear h h';go_enter func141,ntmps141;go_wp2;go_loop [14] (fun i=>∃j:Nat,j≤l.length∧i=iN j∧Hid (J=Em (l.drop j) (F.drop j))) (fun i=>l.length-(intOf i).toNat)
 case atStart=>exact⟨0,nN _,rfl,I.out.symm⟩
 case round=>
  obtain⟨j,az,rfl,O⟩:=hrel;by_cases T:j<l.length;rotate_left
  ·have ao:decide ((j:Int)<(l.length:Int))=false:=nB (by omega)
   have ap:Hid (J=true):=by show _=_;rw[O.out,n7 (by omega),Em]
   go_wp2;go_ret;exact⟨Bh ap.out.symm,rfl⟩
  have ao:(j:Int)<(l.length:Int):=by omega
  have a1:(j:Int)<(F.length:Int):=by omega
  obtain⟨x,hx⟩:∃s,l[j]? =some s:=⟨l[j],nt _⟩;obtain⟨y,H⟩:∃s,F[j]? =some s:=⟨F[j]'(by omega),nt _⟩;rcases ad.out with e|⟨b,a6,rfl,V⟩
  ·rw[e]at T;simp at T
  rcases ak.out with e|⟨a7,a8,rfl,Y⟩
  ·rw[e]at H;simp at H
  have ba:=V j x hx;have q1:=Y j y H;have Z:=hid (O.out.trans (ZS hx H));clear V Y hx H O;by_cases G:y=x
  ·have ar:(y.toList==x.toList)=true:=by rw[G];simp
   have Q:Hid (J=Em (l.drop (j+1)) (F.drop (j+1))):=by show _=_;rw[Z.out,nD G]
   clear G;go_wp2;go_round
   case rel=>exact⟨j+1,by omega,by go_num,Q.out⟩
   case measure=>simp[intOf];omega
  ·have ar:(y.toList==x.toList)=false:=by simp;exact fun e=>G (Jo e)
   have Q:Hid (J=false):=by show _=_;rw[Z.out,nC G]
   clear G;go_wp2;go_ret;exact⟨Bh Q.out.symm,rfl⟩
theorem cq{I w w':World}{M:CO}{F G:Nat}{x0:Nd}{ni:List Nd}(h:Pw w w' F G (x0::ni))(hb:Bw w w')(J:Bw I w)(T:Ek I M):
 Bd I (w'.alloc (.cells #[.slice M.ua M.us.length M.uc,.slice M.ga M.gs.length M.gc,.slice (some ⟨F,0,none⟩) (ni.length+1) G] 67)) w'.heap.size F G M x0 ni:=by
 obtain⟨V,ak,O,Y,Z⟩:=h;have Q:F<w'.heap.size:=by
  rcases O with e|⟨b,ao,e,f,aa⟩
  ·cases e
  ·obtain⟨ab,_⟩:=aa 0 x0 rfl
   obtain⟨k,m,u,g,o,nh,d,ks⟩:=x0;injection e with e
   injection e with e1 e2
   subst e1;exact nz _ _ ab.1
 have H:Bw w' (w'.alloc (.cells #[.slice M.ua M.us.length M.uc,.slice M.ga M.gs.length M.gc,.slice (some ⟨F,0,none⟩) (ni.length+1) G] 67)):=(nv _ _).alloc (nn _) _;have R:=J.size;have ad:=hb.size;exact⟨(J.trans (hb.mono R)).trans (H.mono (nP R ad)),by omega,by omega,by omega,nl _ _ _ _ rfl,nl _ _ _ _ rfl,nl _ _ _ _ rfl,O.on (Aj H),V,G0 Y (fun o=>H.cell (p:=⟨F,o,none⟩) Q),fun o=>(H.frozen (p:=⟨F,o,none⟩) Q).trans (Z o),T⟩
theorem KX{O w:World}{b:Nat}{B:Bx}{x0:Nd}{ni:List Nd}(h:AX O b B)(bi:Bw O w)(aa:Bv B x0 ni){r:Int×Nd}{bF:Value}(hF:Kr O w B.M x0 ni r bF):
 Calls prog 87 #[.pointer (some ⟨b,0,none⟩),bF] w fun e w'=>e=.returned (Am (fin B.q x0 r).1)∧Cw O w' b B ni (fin B.q x0 r).2 B.crd:=by
 obtain⟨E,cg⟩:=r;obtain⟨⟨c5,c6⟩,ar⟩:∃ch,Hid (fin B.q x0 (E,cg)=ch):=⟨_,rfl⟩;rw[ar.out];obtain⟨gf,lb,rfl,c8,bG⟩:=hF;have ay:=h.below bi;have c9:=h.lt;have bk:=ay.lay;have bl:=ay.cells.2.2.1;rw[aa.xs]at bk bl;have bH:=hid (Xq ay.cells.1 ay.cells.2.1 bl bk aa.len);have bY:Hid _:=bG;have ba:=hid h;have az:=hid aa;have cl:=hid bi;clear bG aa h bi bk bl ay;go_enter func87,ntmps87;go_wp2_with fail
 refine np bH.out ?_;rintro e bb ⟨⟨H,I,rfl,bn⟩,q2⟩;have b0:=cq (M:=B.M) bn q2 cl.out ba.out.maps;have b1:=bY.out _ bb.heap.size H I (q2.trans (((nv _ _).alloc (nn _) _:Bw bb (bb.alloc (.cells #[.slice B.M.ua B.M.us.length B.M.uc,.slice B.M.ga B.M.gs.length B.M.gc,.slice (some ⟨H,0,none⟩) (ni.length+1) I] 67))).mono q2.size)) q2.size bn.2.1 b0;have b2:=hid b1;clear b1 b0 bn q2 bY bH;go_wp2_with fail
 refine np b2.out ?_;rintro e da ⟨F,rfl,ab,bo⟩;generalize bb.heap.size=V at ab;clear b2;have bp:=hid ab;have bs:=hid (Cw.stay ba.out az.out);by_cases bu:E=0
 ·subst bu
  obtain⟨rfl,b3⟩:=bo rfl;have G:=hid b3;rw[show Am 0=Value.nilIface from rfl];have Y:=hid (Ga ab.c2 ab.lay);clear bo b3 ab;go_wp2_with fail
  refine np Y.out ?_;rintro e db ⟨⟨dd,rfl,_,b4⟩,q4⟩;have bv:=hid (KY true b4 G.out.lil (by have:=G.out.cnt;omega));have b5:=hid (bp.out.below q4);obtain⟨bd,Z⟩:∃bd,Hid (CC true F=bd):=⟨_,rfl⟩;rw[Z.out]at bv;clear Y b4 q4 bp;go_wp2_with fail
  refine np bv.out ?_;rintro e bx ⟨rfl,q5⟩;have be:=b5.out.below q5;have co:=hid be;clear bv q5 b5;by_cases hF:bd=0
  ·subst hF
   rw[show Am 0=Value.nilIface from rfl];have b6:Bw bx bx.drew:=(nv _ _).drew;have a1:=be.below b6;have b7:=hid a1;have Y:=hid (Ga a1.c2 a1.lay);have b9:=ba.out.below a1.base;have ad:bx.drew.cell? ⟨b,7,none⟩=some (.int .i64 B.q):=b9.cells.2.2.2.2.2.2.2;clear be a1 b9 b6;obtain⟨Q,ak⟩:∃Q,Hid (CH F=Q):=⟨_,rfl⟩;have de:Hid (0≤Q):=by show 0≤Q;rw[←ak.out];unfold CH;omega
   have aa:=az.out;generalize cb:B.q=q at ad;have bA:=hid cb;clear cb aa;go_upto_region 8 with fail
   by_cases bf:q<Q
   ·have cp:decide (q<Q)=true:=nF bf
    go_region_held3 (fun w'=>w'.cell? ⟨b,7,none⟩=some (.int .i64 q)) (first|with_reducible exact ad|with_reducible exact ao|with_reducible exact bg) (first|(go_at_call 23;(with_reducible refine np Y.out ?_);rintro e R ⟨⟨bB,rfl,_,a6⟩,q6⟩;have ao:R.cell? ⟨b,7,none⟩=some (.int .i64 q):=Af q6 ad;have a7:Hid (Calls prog 12 #[Al F bB] R fun e w'=>e=.returned (.int .i64 Q)∧Bw R w'):=(by have e:=JV a6 G.out.lil (by have:=G.out.cnt;omega) (by have:=LK F G.out.lil;have:=G.out.cnt;omega);rw[ak.out]at e;exact e);have bC:Hid (Bd O R V H I B.M F ni):=b7.out.below q6;clear Y a6 q6)|(go_at_call 12;(with_reducible refine np a7.out ?_);rintro e J ⟨rfl,q7⟩;have bg:J.cell? ⟨b,7,none⟩=some (.int .i64 q):=Af q7 ao;have T:Hid (Bd O J V H I B.M F ni):=bC.out.below q7;clear a7 q7))
    all_goals
     go_wp2;go_ret;obtain⟨rfl,rfl⟩:=fE Z.out (by rw[ak.out,bA.out];exact bf) ar.out;exact⟨rfl,bs.out _ T.out.base⟩
   ·have cp:decide (q<Q)=false:=nB bf
    have cd:=hid bf;go_region_held3 (fun w'=>w'.cell? ⟨b,7,none⟩=some (.int .i64 q)) (first|with_reducible exact ad|with_reducible exact ao|with_reducible exact bg) (first|(go_at_call 23;(with_reducible refine np Y.out ?_);rintro e R ⟨⟨bB,rfl,_,a6⟩,q6⟩;have ao:R.cell? ⟨b,7,none⟩=some (.int .i64 q):=Af q6 ad;have a7:Hid (Calls prog 12 #[Al F bB] R fun e w'=>e=.returned (.int .i64 Q)∧Bw R w'):=(by have e:=JV a6 G.out.lil (by have:=G.out.cnt;omega) (by have:=LK F G.out.lil;have:=G.out.cnt;omega);rw[ak.out]at e;exact e);have bC:Hid (Bd O R V H I B.M F ni):=b7.out.below q6;clear Y a6 q6)|(go_at_call 12;(with_reducible refine np a7.out ?_);rintro e J ⟨rfl,q7⟩;have bg:J.cell? ⟨b,7,none⟩=some (.int .i64 q):=Af q7 ao;have T:Hid (Bd O J V H I B.M F ni):=bC.out.below q7;clear a7 q7))
    all_goals
     have ap:=ba.out.below T.out.base;obtain⟨c0,c1,c2,cr,cu,cx,c3,c7⟩:=ap.cells;obtain⟨dg,dj,dk⟩:J.cell? ⟨V,0,none⟩=some (.slice B.M.ua B.M.us.length B.M.uc)∧J.cell? ⟨V,1,none⟩=some (.slice B.M.ga B.M.gs.length B.M.gc)∧J.cell? ⟨V,2,none⟩=some (.slice (some ⟨H,0,none⟩) (ni.length+1) I):=⟨T.out.c0,T.out.c1,T.out.c2⟩;have dm:=ap.fz 0;have dn:=ap.fz 1;have dp:=ap.fz 2;have cf:AX (((J.setCell ⟨b,0,none⟩ (.slice B.M.ua B.M.us.length B.M.uc)).setCell ⟨b,1,none⟩ (.slice B.M.ga B.M.gs.length B.M.gc)).setCell ⟨b,2,none⟩ (.slice (some ⟨H,0,none⟩) (ni.length+1) I)) b {B with la:=some ⟨H,0,none⟩,lc:=I,xs:=F::ni}:=ap.put3 T.out.lay T.out.cap;have c4:Hid (Cw O (((J.setCell ⟨b,0,none⟩ (.slice B.M.ua B.M.us.length B.M.uc)).setCell ⟨b,1,none⟩ (.slice B.M.ga B.M.gs.length B.M.gc)).setCell ⟨b,2,none⟩ (.slice (some ⟨H,0,none⟩) (ni.length+1) I)) b B ni F B.crd):=by
      refine⟨(Ao.of_below T.out.base).trans (NX _ _ _),_,cf,⟨rfl,⟨G.out.lil,G.out.ids,Vy Z.out⟩,Z.out,az.out.low,az.out.len,?_,az.out.cred⟩,rfl,rfl,rfl,.inl rfl⟩;show CH F≤B.q;have:=cd.out;rw[ak.out,bA.out];omega
     clear cf ap cr cu cx c3 c7 ad ao bg;go_wp2;go_ret;obtain⟨rfl,rfl⟩:=fu Z.out (by rw[ak.out,bA.out];have:=cd.out;omega) ar.out;exact⟨rfl,c4.out⟩
  ·have a8:=AG (n:=bd) rfl hF
   rw[a8];clear be;go_wp2;go_ret;obtain⟨rfl,rfl⟩:=fB (by rw[Z.out];exact hF) ar.out;exact⟨by rw[Z.out,a8];rfl,bs.out _ co.out.base⟩
 ·have a8:=AG (n:=E) rfl bu
  rw[a8];clear ab bo;go_wp2;go_ret;obtain⟨rfl,rfl⟩:=Hf bu ar.out;exact⟨by rw[a8];rfl,bs.out _ bp.out.base⟩
theorem AE{w:World}{F:Obj}{a:Addr}{v:Value}(h:w.cell? a=some v):(w.alloc F).cell? a=some v:=Af ((nv _ _).alloc (nn _) _) h
theorem Bk{w:World}{a p:Addr}{v:Value}(h:p.block≠a.block):(w.setCell a v).cell? p=w.cell? p:=nA _ _ _ _ (fun e=>h (by rw[←e]))
theorem AA{w:World}{b i j:Nat}{v:Value}(h:j≠i):(w.setCell ⟨b,i,none⟩ v).cell? ⟨b,j,none⟩=w.cell? ⟨b,j,none⟩:=nA _ _ _ _ (fun e=>by injection e with _ e2;omega)
theorem Av.set1{w:World}{b:Nat}{k m u g:Int}{o:Bool}{nh:List Kv}{d:BA}{ks:Ar}{h:Hd}(G:Av w b (.mk k m u g o nh d ks) h)(F:Int):Av (w.setCell ⟨b,1,none⟩ (.int .i64 F)) b (.mk k F u g o nh d ks) h:=by
 obtain⟨⟨H,I,J,O,Q,R,T,V⟩,Y⟩:=G;exact⟨⟨(AA (by omega)).trans H,nI _ _ _ I,(AA (by omega)).trans J,(AA (by omega)).trans O,(AA (by omega)).trans Q,(AA (by omega)).trans R,(AA (by omega)).trans T,(AA (by omega)).trans V⟩,fun j=>by simp[Y j]⟩
theorem Av.set2{w:World}{b:Nat}{k m u g:Int}{o:Bool}{nh:List Kv}{d:BA}{ks:Ar}{h:Hd}(G:Av w b (.mk k m u g o nh d ks) h)(F:Int):Av (w.setCell ⟨b,2,none⟩ (.int .i64 F)) b (.mk k m F g o nh d ks) h:=by
 obtain⟨⟨H,I,J,O,Q,R,T,V⟩,Y⟩:=G;exact⟨⟨(AA (by omega)).trans H,(AA (by omega)).trans I,nI _ _ _ J,(AA (by omega)).trans O,(AA (by omega)).trans Q,(AA (by omega)).trans R,(AA (by omega)).trans T,(AA (by omega)).trans V⟩,fun j=>by simp[Y j]⟩
theorem Av.set3{w:World}{b:Nat}{k m u g:Int}{o:Bool}{nh:List Kv}{d:BA}{ks:Ar}{h:Hd}(G:Av w b (.mk k m u g o nh d ks) h)(F:Int):Av (w.setCell ⟨b,3,none⟩ (.int .i64 F)) b (.mk k m u F o nh d ks) h:=by
 obtain⟨⟨H,I,J,O,Q,R,T,V⟩,Y⟩:=G;exact⟨⟨(AA (by omega)).trans H,(AA (by omega)).trans I,(AA (by omega)).trans J,nI _ _ _ O,(AA (by omega)).trans Q,(AA (by omega)).trans R,(AA (by omega)).trans T,(AA (by omega)).trans V⟩,fun j=>by simp[Y j]⟩
theorem LI{w:World}{b:Nat}{x:Nd}{h:Hd}(I:Ch w b x h)(J:∀o,8≤o→w.cell? ⟨b,o,none⟩=none):DM w.cell? b:=by
 obtain⟨k,m,u,g,o,nh,d,ks⟩:=x;obtain⟨O,q1,q2,Q,q4,q5,q6,q7⟩:=I;intro o s v F G;rcases Nat.lt_or_ge o 8 with H|H
 ·rcases(by omega:o=0∨o=1∨o=2∨o=3∨o=4∨o=5∨o=6∨o=7)with q|q|q|q|q|q|q|q<;>subst q
  ·rw[O]at F;cases F
  ·rw[q1]at F;cases F
  ·rw[q2]at F;cases F
  ·rw[Q]at F;cases F
  ·rw[q4]at F;cases F
  ·rw[q5]at F;cases F
  ·rw[q7]at G
   injection G with G
   subst G;exact fun h=>h
  ·rw[q7]at F;cases F
 ·rw[J o H]at F;cases F
def Ca(w:World)(b:Nat):Prop:=Av w b zN zH∧∀o,8≤o→w.cell? ⟨b,o,none⟩=none
theorem Ca.new(w:World):Ca (w.alloc (.cells #[.int .i64 0,.int .i64 0,.int .i64 0,.int .i64 0,.bool false,.slice none 0 0,.string ⟨#[]⟩,.slice none 0 0] 54)) w.heap.size:=⟨Av.zero w,fun o F=>by
 rw[nl _ _ _ _ rfl];exact rG (by simpa using F)⟩
theorem Ca.below{w w':World}{b:Nat}(h:Ca w b)(hb:Bw w w'):Ca w' b:=⟨h.1.below hb,fun o F=>(hb.cell (p:=⟨b,o,none⟩) h.1.1.lt).trans (h.2 o F)⟩
theorem Ca.store{w:World}{b:Nat}(h:Ca w b){x:Nd}{hd:Hd}(F:Ah w.cell? x hd):Av (Au w b x hd) b x hd∧Ah (Au w b x hd).cell? x hd∧Ao b w (Au w b x hd)∧∀o,8≤o→(Au w b x hd).cell? ⟨b,o,none⟩=none:=by
 refine⟨h.1.store x hd,?_,Cz,fun o G=>?_⟩
 ·rw[Ic]
  exact(GK (fun k H=>by
   have e:k=b:=by simpa using H
   subst e;exact LI h.1.1 h.2) F).on Og
 ·rw[Ic]
  exact(G5 (fun j I e=>by injection e with _ e2;omega)).trans (h.2 o G)
theorem Kq{w w':World}{b:Nat}{x y:Nd}{h F:Hd}(hb:Ao b w w')(G:Ch w b x h)(H:∀o,8≤o→w.cell? ⟨b,o,none⟩=none)(I:Ah w.cell? y F):Ah w'.cell? y F:=(GK (fun k J=>by
 have e:k=b:=by simpa using J
 subst e;exact LI G H) I).on (Gh hb)
theorem Lk{c:AH}{k m u g F G H I:Int}{o J:Bool}{nh:List Kv}{d O:BA}{ks:Ar}{h:Hd}(Q:Ah c (.mk k m u g o nh d ks) h):Ah c (.mk F G H I J nh O ks) h:=Cq.2 (Cq.1 Q)
theorem EH{w:World}{b:Nat}{a:Addr}{v v0 G H v3 v4 v5 I J:Value}(F:a.block≠b)(h:w.cell? a=some v):((((((((w.setCell ⟨b,0,none⟩ v0).setCell ⟨b,1,none⟩ G).setCell ⟨b,2,none⟩ H).setCell ⟨b,3,none⟩ v3).setCell ⟨b,4,none⟩ v4).setCell ⟨b,5,none⟩ v5).setCell ⟨b,6,none⟩ I).setCell ⟨b,7,none⟩ J).cell? a=some v:=by
 rw[nA _ _ _ _ (fun e=>F (by rw[←e])),nA _ _ _ _ (fun e=>F (by rw[←e])),nA _ _ _ _ (fun e=>F (by rw[←e])),nA _ _ _ _ (fun e=>F (by rw[←e])),nA _ _ _ _ (fun e=>F (by rw[←e])),nA _ _ _ _ (fun e=>F (by rw[←e])),nA _ _ _ _ (fun e=>F (by rw[←e])),nA _ _ _ _ (fun e=>F (by rw[←e]))];exact h
theorem CE.sz{ni:List Nd}{n:Nat}{F:Nd}(h:CE n F){x0:Nd}{m:Nat}(G:Fm m x0 ni):Fm n F ni:=⟨h.lil,h.ids,h.cnt,G.low,G.len⟩
def Nd.otM(m:Int):Nd→Nd
 |.mk k _ u g o a d ks=>.mk k m u g o a d ks
def Nd.otW(f:Int→Int)(d:BA):Nd→Nd
 |.mk k m u g o a _ ks=>.mk k (f m) u g o a d ks
def Nd.otG(f:Int→Int)(u g:Int):Nd→Nd
 |.mk k m _ _ o a d ks=>.mk k (f m) u g o a d ks
def Nd.otA(L:List Kv):Nd→Nd
 |.mk k m u g o _ d ks=>.mk k m u g o L d ks
def JF(w:World)(F:Nd→Nd)(H:Value):Prop:=∃gf lb,H=.func (.func gf) #[] lb∧(∀args w,(callFunc gf args).run prog w=.ok (.enter gf args) w)∧
 ∀(W:World) (nx:Nat) (x:Nd) (h:Hd),Bw w W→w.heap.size≤nx→Av W nx x h→(∀o,8≤o→W.cell? ⟨nx,o,none⟩=none)→Ah W.cell? x h→AB x→AP x→
  Calls prog gf (#[.pointer (some ⟨nx,0,none⟩)]++lb) W fun e G=>(∃v,e=.returned v)∧∃h',Av G nx (F x) h'∧Ah G.cell? (F x) h'∧(AB (F x)∧AP (F x)∧cnt (F x)≤cnt x)∧Ao nx W G
theorem XS{bx w:World}{M:CO}{x0:Nd}{ni:List Nd}(d2:Bw bx w)(c5:CE 60 x0)(bA:Fm 60 x0 ni){an:Option Addr}{nj:Nat}{nf:List BA}(b3:AW bx.cell? an nf)(c6:∀s∈nf,AY s=true)(d3:nf.length≤100)(b4:nf.length≤nj∧nj≤9223372036854775807){bB:Nd→Nd}{c8:Value}(d4:JF bx bB c8)
 {I ap:Nat} (b5:w.cell? ⟨I,0,none⟩=some (.slice an nf.length nj)) (b6:w.cell? ⟨ap,0,none⟩=some c8):
 Kr bx w M x0 ni (Fj M.us M.gs x0 ni nf bB) (.func (.func 135) #[] #[.pointer (some ⟨I,0,none⟩),.pointer (some ⟨ap,0,none⟩)]):=by
 refine⟨_,_,rfl,fun args w=>by kernel_rfl,fun W c9 fc lc b7 fd b9 da=>?_⟩;obtain⟨gf,lb,rfl,fe,db⟩:=d4;have c0:=Af b7 b5;have c1:=Af b7 b6;have d5:I<w.heap.size:=nz _ _ b5;have d6:ap<w.heap.size:=nz _ _ b6;have cb:=hid (Kf da bA (by omega) b3 (by omega) b4);have bd:Hid ((Cj M.us M.gs x0 ni nf).1=0→CE (60+nf.length) (Cj M.us M.gs x0 ni nf).2):=fun a6=>c5.up c6 (fun x hx=>(bA.low x hx).1) a6;have d7:=hid bA
 have be:=hid b3;have d8:=hid d2.size;have d9:=hid b4;have bf:=hid b7;have ea:Hid _:=db;unfold Fj;generalize Cj M.us M.gs x0 ni nf=P at*;obtain⟨E,J⟩:=P;dsimp only at cb bd;obtain⟨bg,cd⟩:∃bg,Hid (Hj (E,J) (fun J=>Cf (bB ((BU nf J).getD zN)) nf J)=bg):=⟨_,rfl⟩;rw[cd.out];have bi:=hid d3;clear db c5 bA b3 b4 da b5 b6 c6;show Calls prog 135 #[.pointer (some ⟨c9,0,none⟩),.pointer (some ⟨I,0,none⟩),.pointer (some ⟨ap,0,none⟩)] W _;go_enter func135,ntmps135;go_wp2_with fail
 refine np cb.out ?_;rintro e G ⟨rfl,bC,bF⟩;have c0:=((bF.below (B:=w.heap.size) b9 bf.out.size).cell (p:=⟨I,0,none⟩) d5).trans c0;have c1:=((bF.below (B:=w.heap.size) b9 bf.out.size).cell (p:=⟨ap,0,none⟩) d6).trans c1;have eb:=hid (bf.out.trans (bF.below (B:=w.heap.size) b9 bf.out.size));have bk:=hid bC;clear cb bF bf;by_cases a6:E=0
 ·subst a6
  have ar:=bd.out rfl;have bd:Hid (∀w',Bw G w'→Calls prog 23 #[.pointer (some ⟨c9,0,none⟩)] w' fun e cf=>(∃h',e=.returned (Al J h')∧Ah cf.cell? J h')∧Bw w' cf):=fun w' hb=>by
   have dd:=bk.out.below hb;refine np (Ga dd.c2 dd.lay) ?_;rintro e cf ⟨⟨h',ec,_,ed⟩,ee⟩;exact⟨⟨h',ec,ed⟩,ee⟩
  have ef:=hid be.out;have de:=hid (be.out.on (Aj bC.base));have aa:=c0;obtain⟨a7,cg⟩:∃a7,Hid ((BU nf J).getD zN=a7):=⟨_,rfl⟩;have bG:Hid (AB a7∧AP a7∧cnt a7≤60+nf.length):=by
   show _∧_;rw[←cg.out];cases hq:BU nf J with
   |none=>exact⟨by show AB zN;unfold zN;rw[AB,Bu];exact⟨⟨by decide,fun r eg=>by cases eg⟩,by decide,trivial⟩,by show AP zN;unfold zN;rw[AP,BO];exact⟨by unfold A2;omega,by unfold A2;omega,trivial⟩,by show cnt zN≤_;have:cnt zN=1:=rfl;omega⟩
   |some y=>
    obtain⟨a,b,c⟩:=Nw hq ar.lil ar.ids;exact⟨a,b,by have:=ar.cnt;show cnt y≤_;omega⟩
  have dg:Hid (cnt J≤800∧Be J):=by
   have:=ar.cnt;have:=bi.out;exact⟨by omega,GI J (by omega) ar.lil⟩
  have dj:=hid ar;have ej:Hid (nf.length≤1000):=by show _≤_;omega
  rw[show Am 0=Value.nilIface from rfl];have ek:ap<G.heap.size:=nz _ _ c1;clear bC ar be c0;have be:=hid de.out;clear de;obtain⟨bH,el⟩:∃b,Hid ((BU nf J).isSome=b):=⟨_,rfl⟩;obtain⟨k,m,u,g,o,nh,d,ks⟩:=a7;have ch:G.drew.cell? ⟨I,0,none⟩=some (.slice an nf.length nj):=aa;have bY:Hid (Bw G G.drew):=(nv _ _).drew;have bl:Hid (Bw G (G.alloc AJ).drew):=((nv _ _).alloc (nn _) _).drew;have dk:(G.alloc AJ).drew.cell? ⟨I,0,none⟩=some (.slice an nf.length nj):=Af bl.out aa;have cl:=hid (bd.out _ bY.out);have co:=hid (bd.out _ bl.out);have b0:Hid (∀(F:World) (Y:Hd),Bw G F→Ah F.cell? J Y→Calls prog 96 #[Al J Y,.slice an nf.length nj] F fun e Z=>(∃h',e=.returned (.tuple #[(A5 k m u g o nh d ks h'),.bool bH])∧Ah Z.cell? (.mk k m u g o nh d ks) h')∧Bw F Z):=fun F Y em ak=>by
   have e:=Lb ak an nj nf (be.out.on (Aj em)) ej.out dg.out.1 dg.out.2;rw[cg.out,el.out]at e;exact e
  have a8:I<G.heap.size:=nz G ⟨I,0,none⟩ aa;go_upto_region 4 with fail
  go_region_held3 (fun w'=>w'.cell? ⟨I,0,none⟩=some (.slice an nf.length nj)) (first|with_reducible exact ch|with_reducible exact dk|with_reducible exact b1|with_reducible exact ay|(with_reducible refine AE ?_;with_reducible exact ch)|(with_reducible refine AE ?_;with_reducible exact b1)|(with_reducible refine AE ?_;with_reducible exact ay)|(with_reducible refine EH ?_ ay;show I≠_;have g4:=cp.out;omega)|(with_reducible refine EH ?_ ay;show I≠_;skip;omega)) (first|(go_at_call 23;(with_reducible refine np cl.out ?_);rintro e F ⟨⟨Y,rfl,ak⟩,q6⟩;have R:Hid (Bw G F):=bY.out.trans (q6.mono bY.out.size);have b1:F.cell? ⟨I,0,none⟩=some (.slice an nf.length nj):=(R.out.cell (p:=⟨I,0,none⟩) a8).trans aa;have bn:Hid (Calls prog 96 #[Al J Y,.slice an nf.length nj] F fun e Z=>(∃h',e=.returned (.tuple #[(A5 k m u g o nh d ks h'),.bool bH])∧Ah Z.cell? (.mk k m u g o nh d ks) h')∧Bw F Z):=b0.out F Y R.out ak;have dm:Hid (Calls prog 96 #[Al J Y,.slice an nf.length nj] (F.alloc AJ) fun e Z=>(∃h',e=.returned (.tuple #[(A5 k m u g o nh d ks h'),.bool bH])∧Ah Z.cell? (.mk k m u g o nh d ks) h')∧Bw (F.alloc AJ) Z):=b0.out _ Y (R.out.alloc R.out.size _) (ak.on (Aj ((nv _ _).alloc (nn _) _)));clear cl co ak q6)|(go_at_call 23;(with_reducible refine np co.out ?_);rintro e F ⟨⟨Y,rfl,ak⟩,q6⟩;have R:Hid (Bw G F):=bl.out.trans (q6.mono bl.out.size);have b1:F.cell? ⟨I,0,none⟩=some (.slice an nf.length nj):=(R.out.cell (p:=⟨I,0,none⟩) a8).trans aa;have bn:Hid (Calls prog 96 #[Al J Y,.slice an nf.length nj] F fun e Z=>(∃h',e=.returned (.tuple #[(A5 k m u g o nh d ks h'),.bool bH])∧Ah Z.cell? (.mk k m u g o nh d ks) h')∧Bw F Z):=b0.out F Y R.out ak;have en:Hid (Ca F G.heap.size):=((Ca.new G).below ((nv _ _).drew)).below q6;clear cl co ak q6)|(go_at_call 96;(with_reducible refine np bn.out ?_);rintro e H ⟨⟨Q,rfl,ao⟩,q7⟩;have V:Hid (Bw G H):=R.out.trans (q7.mono R.out.size);have ay:H.cell? ⟨I,0,none⟩=some (.slice an nf.length nj):=(V.out.cell (p:=⟨I,0,none⟩) a8).trans aa;have eo:Hid (Bw F H):=q7;have ba:Hid (Ah H.cell? (.mk k m u g o nh d ks) Q):=ao;have bo:Hid (Ca H G.heap.size):=en.out.below q7;obtain⟨⟨⟨z0,ep,eq,z3,z4,z5,er,es⟩,O⟩,_⟩:=id bo.out;have eu:=O 0;have bb:=O 1;have bp:=O 2;have b2:=O 3;have ev:=O 4;have eB:=O 5;have eE:=O 6;have eL:=O 7;clear O;clear bn ao q7)|(go_at_call 96;(with_reducible refine np bn.out ?_);rintro e H ⟨⟨Q,rfl,ao⟩,q7⟩;have V:Hid (Bw G H):=R.out.trans (q7.mono R.out.size);have ay:H.cell? ⟨I,0,none⟩=some (.slice an nf.length nj):=(V.out.cell (p:=⟨I,0,none⟩) a8).trans aa;have eo:Hid (Bw F H):=q7;have ba:Hid (Ah H.cell? (.mk k m u g o nh d ks) Q):=ao;clear bn ao q7)|(go_at_call 96;(with_reducible refine np dm.out ?_);rintro e H ⟨⟨Q,rfl,ao⟩,q7⟩;have V:Hid (Bw G H):=(R.out.alloc R.out.size _).trans (q7.mono (nP R.out.size ((nv _ _).alloc (nn _) _:Bw F _).size));have ay:H.cell? ⟨I,0,none⟩=some (.slice an nf.length nj):=(V.out.cell (p:=⟨I,0,none⟩) a8).trans aa;have ba:Hid (Ah H.cell? (.mk k m u g o nh d ks) Q):=ao;have bo:Hid (Ca H F.heap.size):=(Ca.new F).below q7;have cp:Hid (G.heap.size≤F.heap.size):=R.out.size;obtain⟨⟨⟨z0,ep,eq,z3,z4,z5,er,es⟩,O⟩,_⟩:=id bo.out;have eu:=O 0;have bb:=O 1;have bp:=O 2;have b2:=O 3;have ev:=O 4;have eB:=O 5;have eE:=O 6;have eL:=O 7;clear O;clear dm ao q7))
  all_goals
   first|(obtain⟨ab,az,T,ad⟩:=Ca.store bo.out ba.out;have T:=V.out.trans (T.below (B:=G.heap.size) cp.out V.out.size);generalize a1:Au H F.heap.size (.mk k m u g o nh d ks) Q=cr at ab az T ad;simp only[Au]at a1;rw[a1];clear a1;generalize bs:F.heap.size=nx at ab ad⊢;have bu:G.heap.size≤nx:=(by rw[←bs];exact cp.out);clear bs)|(obtain⟨ab,az,T,ad⟩:=Ca.store bo.out ba.out;have T:=V.out.trans (T.below (B:=G.heap.size) (nn _) V.out.size);generalize a1:Au H G.heap.size (.mk k m u g o nh d ks) Q=cr at ab az T ad;simp only[Au]at a1;rw[a1];clear a1;generalize bs:G.heap.size=nx at ab ad⊢;have bu:G.heap.size≤nx:=(by rw[←bs];exact(nn _));clear bs)|(obtain⟨ab,az,T,ad⟩:Av (H.alloc (As k m u g o nh d ks Q)) H.heap.size (.mk k m u g o nh d ks) Q∧Ah (H.alloc (As k m u g o nh d ks Q)).cell? (.mk k m u g o nh d ks) Q∧Bw G (H.alloc (As k m u g o nh d ks Q))∧(∀dn,8≤dn→(H.alloc (As k m u g o nh d ks Q)).cell? ⟨H.heap.size,dn,none⟩=none):=⟨Av.new H k m u g o nh d ks Q,ba.out.on (Aj ((nv _ _).alloc (nn _) _)),V.out.alloc V.out.size _,fun o e0=>(by rw[nl _ _ _ _ rfl];exact rG (by simpa using e0))⟩;have bu:=V.out.size;generalize H.alloc (As k m u g o nh d ks Q)=cr at ab az T ad⊢;generalize H.heap.size=nx at ab ad bu⊢)
   clear ch dk b1 ay bY bl b0;have ff:=d8.out;have fg:=eb.out.size;have c1:=(T.cell (p:=⟨ap,0,none⟩) ek).trans c1;have dp:=bk.out.base.trans (T.mono bk.out.base.size);have dr:=hid (ea.out cr nx (.mk k m u g o nh d ks) Q dp (by omega) ab ad az bG.out.1 bG.out.2.1);have cu:=hid T;have e1:=hid bu;clear ab ad az T ba dp bu;go_wp2_with fail
   refine np dr.out ?_;rintro e fh ⟨⟨v,rfl⟩,fl,cx,c3,⟨bb,bp,b2⟩,ds⟩;obtain⟨y,du⟩:∃y,Hid (bB (.mk k m u g o nh d ks)=y):=⟨_,rfl⟩;rw[du.out]at cx c3 bb bp b2;have dw:=hid (cu.out.trans (ds.below e1.out cu.out.size));have c0:=(dw.out.cell (p:=⟨I,0,none⟩) a8).trans aa;have dx:=bk.out.below dw.out;have e2:=bG.out.2.2;have c4:=hid (Jt dx (dj.out.sz d7.out) (by have:=bi.out;omega) c3 bb (by have:=bi.out;omega) ef.out (by have:=bi.out;omega) d9.out);have dy:Hid ((Cf y nf J).1=0→CE 400 (Cf y nf J).2):=fun e3=>by
    have fr:=bi.out;have e:=dj.out.put bb bp (k:=60+nf.length) (by omega) e3;exact⟨e.lil,e.ids,by have:=e.cnt;omega⟩
   obtain⟨bv,dz⟩:∃bv,Hid (Cf y nf J=bv):=⟨_,rfl⟩;have e4:Hid (bg=bv):=by show bg=bv;rw[←cd.out,←dz.out,←du.out,←cg.out];rfl
   rw[dz.out]at c4 dy;clear bb bp b2 dx c3 ds dr cu aa c1 bG e2;obtain⟨fs,fv,u2,fx,fY,f0,f1,f2⟩:=y;obtain⟨e5,g1,e6,g3,g4,e7,e8,e9⟩:=cx.1;clear cx;go_wp2_with fail
   refine np c4.out ?_;rintro e f3 ⟨rfl,d0,fa⟩;have fb:=hid d0;clear c4 d0 fa e5 g1 e6 g3 g4 e7 e8 e9;go_wp2;go_ret;rw[e4.out];exact⟨bv.2,rfl,fb.out,fun e=>⟨rfl,dy.out e⟩⟩
 ·have d1:=AG (n:=E) rfl a6
  rw[d1];clear bC;go_wp2;go_ret;obtain rfl:(E,J)=bg:=by rw[←cd.out];exact(nC a6).symm
  exact⟨J,by rw[d1];rfl,bk.out,fun e=>absurd e a6⟩
theorem J2{w:World}{b:Nat}{B:Bx}{x0:Nd}{ni:List Nd}(h:AX w b B)(F:Bv B x0 ni){an:Option Addr}{nj:Nat}{nf:List BA}(Q:AW w.cell? an nf)(R:∀s∈nf,AY s=true)(aa:nf.length≤100)(ab:nf.length≤nj∧nj≤9223372036854775807){G:Value}(ak:G.oneCell'=true){H:Nd→Nd}(T:JF w H G):
 Calls prog 82 #[.pointer (some ⟨b,0,none⟩),.slice an nf.length nj,G] w fun e w'=>e=.returned (Am (fin B.q x0 (Fj B.M.us B.M.gs x0 ni nf H)).1)∧Cw w w' b B ni (fin B.q x0 (Fj B.M.us B.M.gs x0 ni nf H)).2 B.crd:=by
 obtain⟨V,Y⟩:∃V,Hid (fin B.q x0 (Fj B.M.us B.M.gs x0 ni nf H)=V):=⟨_,rfl⟩;rw[Y.out];have I:Bw w (w.alloc (.cells #[.slice an nf.length nj] 42)):=(nv _ _).alloc (nn _) _;have J:Bw w ((w.alloc (.cells #[.slice an nf.length nj] 42)).alloc (.cells #[G] 144)):=I.alloc I.size _;have O:=hid (KX h J F (XS J F.fine F.sz Q R aa ab T (AE (nl _ _ _ _ rfl)) (nl _ _ _ _ (by rw[nw]))));rw[Y.out]at O;clear h F Q R T I J;go_enter func82,ntmps82;go_wp2_with fail
 refine np O.out ?_;rintro e ao ⟨rfl,Z⟩;have ad:=hid Z;clear Z O;go_wp2;go_ret;exact⟨rfl,ad.out⟩
def JL(t:Th):Prop:=(0≤t.m∧t.m≤4095)∧A2 t.u∧A2 t.g
theorem Vd:JL Jb:=⟨⟨by show(0:Int)≤0;omega,by show(0:Int)≤4095;omega⟩,⟨by show(-9223372036854775808:Int)≤0;omega,by show(0:Int)≤9223372036854775807;omega⟩,⟨by show(-9223372036854775808:Int)≤0;omega,by show(0:Int)≤9223372036854775807;omega⟩⟩
theorem dh{L:List Rg}{x y:Int}(h:Ie L x=some y):A2 y:=by
 unfold Ie at h;by_cases F:CZ L=0
 ·rw[nD F]at h
  obtain⟨r,G,H,I,rfl⟩:=Ls h;have hb:=Ke F r G;unfold Rg.bd at hb;unfold A2;omega
 ·rw[nC F]at h;cases h
theorem UD{up:Bool}{rs:List Rg}{x:Int}(hx:A2 x):A2 ((Dp up rs x).getD 65534):=by
 cases h:Dp up rs x with
 |none=>exact⟨by show(-9223372036854775808:Int)≤65534;omega,by show(65534:Int)≤9223372036854775807;omega⟩
 |some y=>
  show A2 y;unfold Dp at h;split at h
  ·exact dh h
  ·obtain⟨z,_,rfl⟩:=n0.1 h
   exact hx
theorem VE{B:Bx}{x:Nd}(F:Ez x)(G:0≤(B.th true x).m∧(B.th true x).m≤4095)(up:Bool):JL (B.th up (x.with [])):=by
 obtain⟨k,m,u,g,o,nh,d,ks⟩:=x;exact⟨G,UD F.1,UD F.2⟩
structure GS (B:Bx) (w:World) (nf:List BA) (f:Fd):Prop where
 t:JL f.t
 dir:JL f.dir
 nd:Ah w.cell? f.x f.h
 there:f.there=true→∃q r,AI B.xs nf=q::r∧f.x=q.1.with []∧f.ly=(q.2:Int)∧f.t=B.th (f.ly==0) f.x
 no:f.there=false→nf≠[]
theorem VH{B:Bx}{w:World}{nf:List BA}{L:List Fl}(H:It B)(J:JQ B w nf L):∀(n j:Nat) (g f:Fd) (F:Fl),j+n=nf.length→L[j]? =some F→g.x=F.x→g.h=F.h→g.ly=F.ly→g.there=true→g.t=B.th (g.ly==0) g.x→JL g.dir→B.wk g n (L.drop (j+1))=.ok f→GS B w nf f
 |0,j,g,f,F,I,hl,h1,h2,h3,h4,h5,h6,h=>by
  have e:B.wk g 0 (L.drop (j+1))=.ok g:=by rw[Bx.wk.eq_def]
  rw[e]at h;injection h with e
  subst e;obtain⟨q,r,G,a2,a3⟩:=J.nh j F hl;have I:j=nf.length:=by omega
  subst I;rw[List.take_length]at G;refine⟨?_,h6,?_,fun _=>⟨q,r,G,h1.trans a2,?_,h5⟩,fun e=>?_⟩
  ·rw[h5,h1,a2]
   exact VE (H.ids _ _ _ G) (H.mode _ _ _ G) _
  ·rw[h1,h2];exact J.nd F (nE hl)
  ·rw[h3,a3]
  ·rw[h4]at e;cases e
 |n+1,j,g,f,F,I,hl,h1,h2,h3,h4,h5,h6,h=>by
  obtain⟨q,r,G,a2,a3⟩:=J.nh j F hl;have Q:JL g.t:=by
   rw[h5,h1,a2];exact VE (H.ids _ _ _ G) (H.mode _ _ _ G) _
  by_cases O:B.passE g.t=0
  case neg=>rw[Kl rfl O]at h;cases h
  case pos=>
   cases hd:L.drop (j+1)with
   |nil=>
    rw[hd,Bx.wk.eq_def]at h;dsimp only at h;rw[nC (by simp[O])]at h;split at h
    ·cases h
    ·injection h with h
     subst h;exact⟨Vd,Q,nZ _,fun e=>(by cases e),fun _ e=>(by rw[e]at I;simp at I)⟩
   |cons s R=>
    rw[hd,Kg O]at h;have T:L[j+1]? =some s:=by
     have:=nW (fun l=>l[0]?) hd;simpa using this
    have V:L.drop (j+1+1)=R:=by
     have:=nW List.tail hd;simpa using this
    rw[←V]at h;exact VH H J n (j+1) _ f s (by omega) T rfl rfl rfl rfl rfl Q h
theorem Fs{l:List UInt8}(h:CA l=0):(∀s∈A4 l,AY s=true)∧(A4 l).length≤6∧(l≠[47]→A4 l≠[]):=by
 by_cases F:l=[47]
 ·have e:A4 l=[]:=by unfold A4;rw[nC (by simp[F])]
  rw[e];exact⟨fun s G=>(by cases G),(by simp),fun e=>absurd F e⟩
 ·have e:A4 l=EL (l.drop 1):=by unfold A4;rw[nD ⟨h,F⟩]
  unfold CA at h;split at h
  ·cases h
  ·unfold FM at h
   split at h
   ·rename_i hall
    split at h
    ·cases h
    ·rename_i hlen
     rw[e];refine⟨fun s G=>List.all_eq_true.1 hall s G,by omega,fun _ H=>?_⟩;have:EX (l.drop 1)≠[]:=YF _;unfold EL at H;rw[List.map_eq_nil_iff]at H;exact this H
   ·cases h
theorem Da(l:List UInt8):(A4 l).length≤1000∧∀s∈A4 l,s≠⟨#[]⟩:=by
 by_cases h:CA l=0
 ·obtain⟨G,H,_⟩:=Fs h
  refine⟨by omega,fun s F e=>?_⟩;have:=G s F;rw[e]at this;exact absurd this (by decide)
 ·have e:A4 l=[]:=by unfold A4;rw[nC (fun q=>h q.1)]
  rw[e];exact⟨(by simp),fun s F=>(by cases F)⟩
theorem Vu{B:Bx}:∀(n:Nat) (g:Fd) (L:List Fl),B.wk g n L≠.error 0
 |0,g,L=>fun h=>by
  rw[Bx.wk.eq_def]at h;cases L<;>cases h
 |n+1,g,L=>fun h=>by
  by_cases F:B.passE g.t=0
  case neg=>
   rw[Kl rfl F]at h;injection h with h
   exact F h
  case pos=>
   cases L with
   |nil=>
    rw[Bx.wk.eq_def]at h;dsimp only at h;rw[nC (by simp[F])]at h;split at h
    ·injection h with h
     cases h
    ·cases h
   |cons q L=>
    rw[Kg F]at h;exact Vu n _ L h
theorem Sr{E D:Int}(h:Am E=Am D):E=D:=by
 unfold Am at h;split at h<;>split at h
 ·omega
 ·cases h
 ·cases h
 ·injection h with _ h
  injection h
abbrev Fy:=Th×Th×Bool×Nd×Int
def Fd.pur(f:Fd):Fy:=(f.t,f.dir,f.there,f.x,f.ly)
structure Jd (xs:List Nd) (nf:List BA) (L:List Fl):Prop where
 nh:∀(j:Nat) f,L[j]? =some f→∃q r,AI xs (nf.take j)=q::r∧f.x=q.1.with []∧f.ly=q.2
 len:L.length=nf.length+1∨L.length≤nf.length∧AI xs (nf.take L.length)=[]
theorem Jd.le{xs:List Nd}{nf:List BA}{L F:List Fl}(h:Jd xs nf L)(h':Jd xs nf F):L.length≤F.length:=by
 rcases Nat.lt_or_ge F.length L.length with G|G
 ·obtain⟨q,r,H,_⟩:=h.nh F.length _ (nt G)
  rcases h'.len with e|⟨_,e⟩
  ·rcases h.len with I|⟨I,_⟩<;>omega
  ·rw[e]at H;cases H
 ·exact G
theorem Jd.same{xs:List Nd}{nf:List BA}{L G:List Fl}(h:Jd xs nf L)(h':Jd xs nf G):L.map (fun f=>(f.x,f.ly))=G.map (fun f=>(f.x,f.ly)):=by
 have T:=Nat.le_antisymm (h.le h') (h'.le h);refine List.ext_getElem? fun i=>?_;rw[n4,n4]
 rcases Nat.lt_or_ge i L.length with H|H
 ·have I:=nt H
  have J:=nt (l:=G) (i:=i) (by omega);obtain⟨q,r,O,a2,a3⟩:=h.nh i _ I;obtain⟨V,Y,F,Q,R⟩:=h'.nh i _ J;rw[O]at F;injection F with F
  subst F;rw[I,J,r0,r0,a2,a3,Q,R]
 ·rw[List.getElem?_eq_none H,List.getElem?_eq_none (by omega)]
structure AO where
 us:List Rg
 gs:List Rg
 xs:List Nd
 u:Int
 g:Int
 cs:List Int
 k:Int
def AO.bx(c:AO):Bx:=⟨⟨none,none,0,0,c.us,c.gs⟩,none,0,c.xs,c.u,c.g,none,0,c.cs,c.k,0⟩
def Bx.cor(B:Bx):AO:=⟨B.M.us,B.M.gs,B.xs,B.u,B.g,B.cs,B.k⟩
theorem Vp{B:Bx}{x:Nd}{h h':Hd}{ly:Int}{d:Th}:({B.fd x h ly with dir:=d}:Fd).pur=({B.cor.bx.fd x h' ly with dir:=d}:Fd).pur:=by
 cases x;rfl
theorem OZ{B:Bx}:∀(n:Nat) (g G:Fd) (L F:List Fl),g.pur=G.pur→L.map (fun f=>(f.x,f.ly))=F.map (fun f=>(f.x,f.ly))→(B.wk g n L).map Fd.pur=(B.cor.bx.wk G n F).map Fd.pur
 |0,g,G,L,F,h,_=>by
  have Q:B.wk g 0 L=.ok g:=by rw[Bx.wk.eq_def]
  have R:B.cor.bx.wk G 0 F=.ok G:=by rw[Bx.wk.eq_def]
  rw[Q,R];exact nW Except.ok h
 |n+1,g,G,L,F,h,hL=>by
  have I:g.t=G.t:=nW (fun x=>x.1) h;have J:B.passE g.t=B.cor.bx.passE G.t:=by rw[I];rfl
  by_cases H:B.passE g.t=0
  ·have O:=J▸H
   cases L with
   |nil=>
    cases F with
    |nil=>
     rw[Mn H,Mn O,I]
    |cons _ _=>cases hL
   |cons f L=>
    cases F with
    |nil=>cases hL
    |cons T F=>
     rw[Kg H,Kg O];injection hL with h1 h2
     injection h1 with h1 h3
     refine OZ n _ _ L F ?_ h2;rw[h1,h3,I];exact Vp
  ·rw[Kl rfl H,Kl (E:=B.passE g.t) J.symm H]
def AO.rcQ(c:AO)(p:BA)(r:Except Int Fy):Prop:=(CA p.data.toList≠0∧r=.error (CA p.data.toList))∨(CA p.data.toList=0∧∃L F,L[0]? =some F∧Jd c.xs (A4 p.data.toList) L∧r=(c.bx.wk (c.bx.fd F.x F.h F.ly) (A4 p.data.toList).length (L.drop 1)).map Fd.pur)
theorem AO.rcQ_one{c:AO}{p:BA}{r H:Except Int Fy}(h:c.rcQ p r)(h':c.rcQ p H):r=H:=by
 rcases h with⟨F,rfl⟩|⟨F,L,T,J,O,rfl⟩
 ·rcases h' with⟨_,rfl⟩|⟨e,_⟩
  ·rfl
  ·exact absurd e F
 ·rcases h' with⟨e,_⟩|⟨_,V,Y,Q,R,rfl⟩
  ·exact absurd F e
  ·have I:=O.same R
   have G:=nW (fun l=>l[0]?) I;simp only[n4,J,Q,r0,nV,Prod.mk.injEq]at G;refine OZ (B:=c.bx) _ _ _ _ _ ?_ ?_
   ·rw[G.1,G.2]
    rfl
   ·rw[List.map_drop,List.map_drop,I]
noncomputable def AO.rcP (c:AO) (p:BA):Except Int Fy:=@Classical.epsilon _ ⟨.error 0⟩ (c.rcQ p)
theorem AO.rcP_eq{c:AO}{p:BA}{r:Except Int Fy}(h:c.rcQ p r):c.rcP p=r:=AO.rcQ_one (Classical.epsilon_spec ⟨r,h⟩) h
noncomputable def AO.atP (c:AO) (F:Bool) (p:BA):Except Int Fy:=match c.rcP p with
 |.error E=>.error E
 |.ok f=>if F=true∧f.2.2.1=false then .error 5 else .ok f
def CL(B:Bx)(w:World)(p:BA)(F:Bool)(P:Except Int Fy)(e:Ending):Prop:=∃cs E,e=.returned (.tuple #[BT cs,Am E])∧cs.length=21∧(∀v∈cs,v.oneCell'=true)∧(E=0→∃f:Fd,cs=f.l∧CA p.data.toList=0∧f.nf=A4 p.data.toList∧AW w.cell? f.na f.nf∧(f.nf.length≤f.nc∧f.nc≤9223372036854775807)∧GS B w f.nf f∧(F=true→f.there=true)∧P=.ok f.pur)∧(E≠0→P=.error E)
theorem Mq{B:Bx}{w:World}{p:BA}{e:Ending}(Q:It B)(h:FG B w p e):CL B w p false (B.cor.atP false p) e:=by
 rcases h with⟨H,rfl⟩|⟨H,an,nj,R,T,V,L,F,O,J,rfl⟩
 ·have G:B.cor.rcP p=.error (CA p.data.toList):=AO.rcP_eq (.inl ⟨H,rfl⟩)
  exact⟨Ds.l,_,rfl,D4 _,Ej _,fun e=>absurd e H,fun _=>by unfold AO.atP;rw[G]⟩
 ·have G:B.cor.rcP p=(B.wk (B.fd F.x F.h F.ly) (A4 p.data.toList).length (L.drop 1)).map Fd.pur:=AO.rcP_eq (.inr ⟨H,L,F,O,⟨J.nh,J.len⟩,OZ (B:=B) _ _ _ _ _ (Vp (d:=Jb)) rfl⟩)
  cases hw:B.wk (B.fd F.x F.h F.ly) (A4 p.data.toList).length (L.drop 1)with
  |error E=>
   rw[hw]at G;refine⟨Ds.l,E,rfl,D4 _,Ej _,fun e=>?_,fun _=>by unfold AO.atP;rw[G];rfl⟩;exact absurd (show B.wk (B.fd F.x F.h F.ly) (A4 p.data.toList).length (L.drop 1)=.error 0 by rw[hw,e]) (Vu _ _ _)
  |ok f=>
   rw[hw]at G;have I:=VH Q J (A4 p.data.toList).length 0 (B.fd F.x F.h F.ly) f F (by omega) O rfl rfl rfl rfl rfl Vd hw;exact⟨Fd.l {f with na:=an,nc:=nj,nf:=A4 p.data.toList},0,rfl,D4 _,Ej _,fun _=>⟨_,rfl,H,rfl,R,⟨T,V⟩,⟨I.t,I.dir,I.nd,I.there,I.no⟩,fun e=>(by cases e),by unfold AO.atP;rw[G];exact nC (fun e=>by cases e.1)⟩,fun e=>absurd rfl e⟩
theorem NP{c:AO}{p:BA}:c.atP true p=match c.atP false p with
 |.error E=>.error E
 |.ok f=>if f.2.2.1=false then .error 5 else .ok f:=by
 unfold AO.atP;cases c.rcP p with
 |error E=>rfl
 |ok f=>simp
theorem IW{B:Bx}{w:World}{p:BA}{e:Ending}(ab:It B)(h:Wm B w p e):CL B w p true (B.cor.atP true p) e:=by
 obtain⟨cs,E,J,ad,a6,ak,rfl⟩:=h;obtain⟨ao,D,G,ap,ar,R,ay⟩:=Mq ab ad;injection G with G
 injection G with G
 have O:=nW Array.toList G;injection O with e2 O
 injection O with e3 _
 have az:cs=ao:=by
  unfold BT at e2;injection e2 with e2
  exact List.toArray_inj e2
 have a1:E=D:=Sr e3;subst az a1;have T:∀f:Fd,cs=f.l→f.there=J:=fun f F=>by
  have:cs[11]? =some (.bool f.there):=by
   rw[F];obtain⟨t,dir,na,nc,nm,a7,⟨k,m,u,g,o,nh,d,ks⟩,a8,ly⟩:=f;rfl
  rw[ak]at this;injection this with this
  injection this with this
  exact this.symm
 by_cases H:E=0∧J=false
 ·rw[nD H]
  obtain⟨f,F,V,Y,Z,aa,f6,_,Q⟩:=R H.1;exact⟨Ds.l,5,rfl,D4 _,Ej _,fun e=>absurd e (by decide),fun _=>by rw[NP,Q];exact nD ((T f F).trans H.2)⟩
 ·rw[nC H]
  refine⟨cs,E,rfl,ap,ar,fun e=>?_,fun e=>by rw[NP,ay e]⟩;obtain⟨f,F,V,Y,Z,aa,f6,_,Q⟩:=R e;have I:=T f F;have I:f.there=true:=by
   cases J with
   |true=>exact I
   |false=>exact absurd ⟨e,rfl⟩ H
  exact⟨f,F,V,Y,Z,aa,f6,fun _=>I,by rw[NP,Q];exact nC (fun e=>by rw[show f.pur.2.2.1=f.there from rfl,I]at e;cases e)⟩
theorem F5(F:World)(cs:List Value)(H:cs.length=21)(O:∀v∈cs,v.oneCell'=true):∃G,(storeCells ⟨F.heap.size,0,none⟩ cs 0).run prog (F.alloc AU)=.ok () G∧Hid (A7 G F.heap.size 0 cs)∧Hid (Bw F G)∧Hid (∀o,G.frozen? ⟨F.heap.size,o,none⟩=false):=by
 have I:=A7.new F _ rfl CJ 101;have J:∀q,(F.alloc AU).frozen? ⟨F.heap.size,q,none⟩=false:=fun q=>nQ _ _ _ _ rfl;exact⟨_,Cd (P:=prog) I J (by rw[H];rfl) O,Dh cs I (by rw[H];rfl),CX cs (nn _) ((nv _ _).alloc (nn _) _),fun o=>by rw[rm];exact J o⟩
theorem c7(w:World)(cop:Int)(cpath coth cname cdata:BA)(cA cB:Int)(F:Obj):Ce ((w.alloc (Az cop cpath coth cname cdata cA cB)).alloc F) w.heap.size 0 (.int .i64 cop)∧Ce ((w.alloc (Az cop cpath coth cname cdata cA cB)).alloc F) w.heap.size 1 (.string cpath)∧Ce ((w.alloc (Az cop cpath coth cname cdata cA cB)).alloc F) w.heap.size 2 (.string coth)∧Ce ((w.alloc (Az cop cpath coth cname cdata cA cB)).alloc F) w.heap.size 3 (.string cname)∧Ce ((w.alloc (Az cop cpath coth cname cdata cA cB)).alloc F) w.heap.size 4 (.string cdata)∧Ce ((w.alloc (Az cop cpath coth cname cdata cA cB)).alloc F) w.heap.size 5 (.int .i64 cA)∧Ce ((w.alloc (Az cop cpath coth cname cdata cA cB)).alloc F) w.heap.size 6 (.int .i64 cB):=⟨AE (nl _ _ _ _ rfl),AE (nl _ _ _ _ rfl),AE (nl _ _ _ _ rfl),AE (nl _ _ _ _ rfl),AE (nl _ _ _ _ rfl),AE (nl _ _ _ _ rfl),AE (nl _ _ _ _ rfl)⟩
theorem z21:∃c:List Value,c.length=21∧(∀v∈c,v.oneCell'=true)∧Hid (Value.agg #[.bool false,.int .i64 0,.int .i64 0,.int .i64 0,.bool false,.bool false,.int .i64 0,.int .i64 0,.int .i64 0,.bool false,.slice none 0 0,.bool false,.int .i64 0,.int .i64 0,.int .i64 0,.int .i64 0,.bool false,.slice none 0 0,.string ⟨#[]⟩,.slice none 0 0,.int .i64 0]=BT c):=⟨CJ,rfl,by simp[Value.oneCell'],rfl⟩
theorem Na(w:World)(x:Int):Calls prog 80 #[.int .i64 x] w fun e w'=>e=.returned (.bool (decide (0≤x∧x≤4095)))∧w=w':=by
 by_cases F:0≤x
 ·have H:decide (0≤x)=true:=nF F
  by_cases G:x≤4095
  ·have I:decide (x≤4095)=true:=nF G
   rw[nF ⟨F,G⟩];go_enter func80,ntmps80;go_wp2;go_ret;exact⟨rfl,rfl⟩
  ·have I:decide (x≤4095)=false:=nB G
   rw[nB (fun h=>G h.2)];go_enter func80,ntmps80;go_wp2;go_ret;exact⟨rfl,rfl⟩
 ·have H:decide (0≤x)=false:=nB F
  rw[nB (fun h=>F h.1)];go_enter func80,ntmps80;go_wp2;go_ret;exact⟨rfl,rfl⟩
theorem P1(w:World)(x:Int):Calls prog 101 #[.int .i64 x] w fun e w'=>e=.returned (.bool (decide (-1≤x∧x≤65535)))∧w=w':=by
 by_cases F:-1≤x
 ·have H:decide (-1≤x)=true:=nF F
  by_cases G:x≤65535
  ·have I:decide (x≤65535)=true:=nF G
   rw[nF ⟨F,G⟩];go_enter func101,ntmps101;go_wp2;go_ret;exact⟨rfl,rfl⟩
  ·have I:decide (x≤65535)=false:=nB G
   rw[nB (fun h=>G h.2)];go_enter func101,ntmps101;go_wp2;go_ret;exact⟨rfl,rfl⟩
 ·have H:decide (-1≤x)=false:=nB F
  rw[nB (fun h=>F h.1)];go_enter func101,ntmps101;go_wp2;go_ret;exact⟨rfl,rfl⟩
theorem QC(w:World)(s:BA):Calls prog 85 #[.string s] w fun e w'=>(∃r,e=.returned (.bool r)∧(r=false→s.data.toList≠[47])∧(r=true→s.data.toList=[47]))∧w=w':=by
 go_enter func85,ntmps85;go_wp2;go_ret;refine⟨⟨_,rfl,fun h=>?_,fun h=>?_⟩,rfl⟩
 ·have h:=h
  have F:¬(s.toList=[47]):=by simpa using h
  rwa [r1]at F
 ·have F:s.toList=[47]:=by simpa using h
  rwa [r1]at F
theorem QG(w:World)(x y:Int):Calls prog 102 #[.int .i64 x,.int .i64 y] w fun e w'=>e=.returned (.int .i64 (if x=-1 then y else x))∧w=w':=by
 by_cases h:x=-1
 ·subst h
  rw[nD rfl];go_enter func102,ntmps102;go_wp2;go_ret;exact⟨rfl,rfl⟩
 ·have hd:(x==-1)=false:=by simpa using h
  rw[nC h];go_enter func102,ntmps102;go_wp2;go_ret;exact⟨rfl,rfl⟩
theorem Tryz.info3:(prog.info? 3).map (fun i=>(i.zero,i.size,i.bytes))=some (some (.int .i64 0),1,8):=by kernel_rfl
theorem size3:(prog.info? 3).map (·.size)=some 1:=by kernel_rfl
theorem XV{F:Type}(n:Nat)(z:F)(cs:List F)(h:cs.length=n):splice (List.replicate n z) 0 cs=cs:=by
 subst h;simp[splice]
theorem bJ{w:World}{g:Nat}{F:List Int}{t:TypeId}(h:w.heap[g]? =some (.cells (F.map (Value.int .i64)).toArray t (0,0))):A6 w (some (aD g 0)) F:=by
 refine .inr ⟨g,0,rfl,fun i G=>?_⟩;simp[World.cell?,h,G]
theorem Zm{w:World}{a:Option Addr}{F:List Int}(h:A6 w a F)(o:Obj):0<(F.map (Value.int .i64)).length→∃J,a=some J∧∀j v,(F.map (Value.int .i64))[j]? =some v→(w.alloc o).cell? (J.add j)=some v:=by
 intro Q;rcases h with rfl|⟨b,G,rfl,R⟩
 ·simp at Q
 ·refine⟨_,rfl,fun j v H=>?_⟩
  have I:j<F.length:=by have:=(ny.1 H).1;simpa using this
  have O:=R j I;have T:v=iN (F.getD j 0):=by simp[I]at H;simp[I,H]
  subst T;have V:b<w.heap.size:=bL O;have Y:(w.alloc o).cell? (aD b (G+j))=w.cell? (aD b (G+j)):=World.cell?_alloc_lt _ _ _ V;have e:((aD b G):Addr).add j=(aD b (G+j)):=by by_cases Z:j=0<;>simp[Addr.add,Z]
  rw[e];exact Y.trans O
theorem Tz(a:Option Addr)(cap:Nat)(F:List Int)(w:World)(O:F.length≤8)(h:A6 w a F):
 Calls prog 150 #[.slice a F.length cap] w fun e w'=>
  ∃g,e=.returned (sL g 0 F.length F.length)∧g=w.heap.size∧g<w'.heap.size∧A6 w' (some (aD g 0)) F∧Below w.heap.size w w':=by
 have Q:=run_make_row' (P:=prog) 25 3 (iN 0) 8 underlying25 Tryz.info3 rfl .i64 .i64 F.length (by omega) (by omega);go_enter func150,ntmps150;go_wp2_with (refine wpList_copy_splice rfl (.tmp 7) (.tmp 8) 25 25 rfl 3 underlying25 size3 (some (aD w.heap.size 0)) a F.length F.length F.length cap rfl rfl w.heap.size 0 (List.replicate F.length (iN 0)) 3 ?q1 (F.map (Value.int .i64)) ?q2 (fun I=>⟨rfl,Zm h _ I⟩) ?q4 ?q5 w.heap.size w ?q6 (nn _) ?q7)
 case q1=>
  rw[show madeCells #[Value.int .i64 0] F.length=(List.replicate F.length (Value.int .i64 0)).toArray from by rw[←toList_madeCells_one]];show(w.heap.push _)[w.heap.size]? =_;simp
 case q2=>simp
 case q4=>simp
 case q5=>intro v H;simp at H;obtain⟨z,_,rfl⟩:=H;rfl
 case q6=>exact bN
 case q7=>
  intro R J hb;go_wp2;go_ret;have G:=J.out;rw[XV _ _ _ (by simp)]at G;exact⟨_,rfl,rfl,(nJ.1 G).1,bJ G,hb⟩
end Go.Proofs.YtofhphibahcniaaGreatDoor
