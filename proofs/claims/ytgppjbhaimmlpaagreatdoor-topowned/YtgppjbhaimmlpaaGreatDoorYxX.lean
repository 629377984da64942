/-
  TopOwned: Yx Yy Yz.
-/
import Derived.Test.YtgppjbhaimmlpaaGreatDoorApX
import Derived.Test.YtgppjbhaimmlpaaGreatDoorYkX
import Derived.Test.YtgppjbhaimmlpaaGreatDoorYhX
import Derived.Test.YtgppjbhaimmlpaaGreatDoorYbX
import Derived.Test.YtgppjbhaimmlpaaGreatDoorYmX
import Derived.Test.YtgppjbhaimmlpaaGreatDoorYjX
import Derived.Test.YtgppjbhaimmlpaaGreatDoorWoX
import Derived.Test.YtgppjbhaimmlpaaGreatDoorXoX
set_option maxRecDepth 100000
set_option maxHeartbeats 16000000
namespace Go.Proofs.YtgppjbhaimmlpaaGreatDoor
open Go.RowKit Go.Proofs.Tryz
theorem ZP{w:World}{b:Nat}{B:Bx}{x0:Nd}{ni:List Nd}(h:A5 w b B)(Y:BS B x0 ni){F J O:Int}{Q R H I:BA}(ab:Int)(a1:w.cell? ⟨0,0,none⟩=some (.int .i64 ab))(ao:H.size≤1000):
 Calls prog 23 #[.pointer (some ⟨b,0,none⟩),.agg #[.int .i64 F,.string Q,.string R,.string H,.string I,.int .i64 J,.int .i64 O]] w fun e w'=>(∃E,e=.returned (Am E))∧BI w w' b B ni:=by
 have ap:Bw w (w.alloc (Ax F Q R H I J O)):=(nt _ _).alloc (nl _) _;have Z:=h.below ap;have ad:=Ad ap a1;have az:Ce (w.alloc (Ax F Q R H I J O)) w.heap.size 3 (.string H):=nk _ _ _ _ rfl;have a6:Ce (w.alloc (Ax F Q R H I J O)) w.heap.size 4 (.string I):=nk _ _ _ _ rfl;have a7:Hid (Calls prog 38 #[.pointer (some ⟨b,0,none⟩),El F Q R H I J O] (w.alloc (Ax F Q R H I J O)) fun e w'=>(∃E,e=.returned (Am E))∧BI (w.alloc (Ax F Q R H I J O)) w' b B ni):=WT Z Y ab ad;have a8:Hid (Calls prog 39 #[.pointer (some ⟨b,0,none⟩),El F Q R H I J O] (w.alloc (Ax F Q R H I J O)) fun e w'=>(∃E,e=.returned (Am E))∧BI (w.alloc (Ax F Q R H I J O)) w' b B ni):=VI Z Y ab ad;have ba:Hid (Calls prog 40 #[.pointer (some ⟨b,0,none⟩),El F Q R H I J O] (w.alloc (Ax F Q R H I J O)) fun e w'=>(∃E,e=.returned (Am E))∧BI (w.alloc (Ax F Q R H I J O)) w' b B ni):=VN Z Y ab ad;have bb:Hid (Calls prog 41 #[.pointer (some ⟨b,0,none⟩),El F Q R H I J O] (w.alloc (Ax F Q R H I J O)) fun e w'=>(∃E,e=.returned (Am E))∧BI (w.alloc (Ax F Q R H I J O)) w' b B ni):=Xf Z Y ab ad;have bd:Hid (Calls prog 42 #[.pointer (some ⟨b,0,none⟩),El F Q R H I J O] (w.alloc (Ax F Q R H I J O)) fun e w'=>(∃E,e=.returned (Am E))∧BI (w.alloc (Ax F Q R H I J O)) w' b B ni):=X8 Z Y ab ad;have be:Hid (Calls prog 43 #[.pointer (some ⟨b,0,none⟩),El F Q R H I J O] (w.alloc (Ax F Q R H I J O)) fun e w'=>(∃E,e=.returned (Am E))∧BI (w.alloc (Ax F Q R H I J O)) w' b B ni):=Xs Z Y ab ad;have bf:Hid (Calls prog 44 #[.pointer (some ⟨b,0,none⟩),El F Q R H I J O,.func (.func 45) #[] #[.pointer (some ⟨w.heap.size,0,none⟩)]] (w.alloc (Ax F Q R H I J O)) fun e w'=>(∃E,e=.returned (Am E))∧BI (w.alloc (Ax F Q R H I J O)) w' b B ni):=Pg Z Y ab ad ao (Zt ao az a6);have bg:Hid (Calls prog 44 #[.pointer (some ⟨b,0,none⟩),El F Q R H I J O,.func (.func 47) #[] #[.pointer (some ⟨w.heap.size,0,none⟩)]] (w.alloc (Ax F Q R H I J O)) fun e w'=>(∃E,e=.returned (Am E))∧BI (w.alloc (Ax F Q R H I J O)) w' b B ni):=Pg Z Y ab ad ao (ZG ao az);have bi:Hid (Calls prog 49 #[.pointer (some ⟨b,0,none⟩),El F Q R H I J O] (w.alloc (Ax F Q R H I J O)) fun e w'=>(∃E,e=.returned (Am E))∧BI (w.alloc (Ax F Q R H I J O)) w' b B ni):=VQ Z Y;have aa:=hid ap;have bk:=hid h;have bl:=hid Y;have bn:Hid (∀w',Bw w w'→BI w w' b B ni):=fun w' hb=>⟨Au.of_below hb,B,x0,bk.out.below hb,bl.out,rfl,rfl⟩;clear h Y ap Z ad a1 az a6
 go_enter func23,ntmps23;by_cases G:F=4
 ·subst G
  go_wp2_with fail
  refine nn a7.out ?_;rintro e ak ⟨⟨E,rfl⟩,T⟩;have V:=hid (T.up aa.out);clear T a7;go_wp2;go_ret;exact⟨⟨E,rfl⟩,V.out⟩
 have bo:(F==4)=false:=by simpa using G
 clear G;by_cases G:F=5
 ·subst G
  go_wp2_with fail
  refine nn a8.out ?_;rintro e ak ⟨⟨E,rfl⟩,T⟩;have V:=hid (T.up aa.out);clear T a8;go_wp2;go_ret;exact⟨⟨E,rfl⟩,V.out⟩
 have bp:(F==5)=false:=by simpa using G
 clear G;by_cases G:F=6
 ·subst G
  go_wp2_with fail
  refine nn ba.out ?_;rintro e ak ⟨⟨E,rfl⟩,T⟩;have V:=hid (T.up aa.out);clear T ba;go_wp2;go_ret;exact⟨⟨E,rfl⟩,V.out⟩
 have bs:(F==6)=false:=by simpa using G
 clear G;by_cases G:F=7
 ·subst G
  go_wp2_with fail
  refine nn bb.out ?_;rintro e ak ⟨⟨E,rfl⟩,T⟩;have V:=hid (T.up aa.out);clear T bb;go_wp2;go_ret;exact⟨⟨E,rfl⟩,V.out⟩
 have bu:(F==7)=false:=by simpa using G
 clear G;by_cases G:F=8
 ·subst G
  go_wp2_with fail
  refine nn bd.out ?_;rintro e ak ⟨⟨E,rfl⟩,T⟩;have V:=hid (T.up aa.out);clear T bd;go_wp2;go_ret;exact⟨⟨E,rfl⟩,V.out⟩
 have bv:(F==8)=false:=by simpa using G
 clear G;by_cases G:F=9
 ·subst G
  go_wp2_with fail
  refine nn be.out ?_;rintro e ak ⟨⟨E,rfl⟩,T⟩;have V:=hid (T.up aa.out);clear T be;go_wp2;go_ret;exact⟨⟨E,rfl⟩,V.out⟩
 have bx:(F==9)=false:=by simpa using G
 clear G;by_cases G:F=10
 ·subst G
  go_wp2_with fail
  refine nn bf.out ?_;rintro e ak ⟨⟨E,rfl⟩,T⟩;have V:=hid (T.up aa.out);clear T bf;go_wp2;go_ret;exact⟨⟨E,rfl⟩,V.out⟩
 have bA:(F==10)=false:=by simpa using G
 clear G;by_cases G:F=11
 ·subst G
  go_wp2_with fail
  refine nn bg.out ?_;rintro e ak ⟨⟨E,rfl⟩,T⟩;have V:=hid (T.up aa.out);clear T bg;go_wp2;go_ret;exact⟨⟨E,rfl⟩,V.out⟩
 have bB:(F==11)=false:=by simpa using G
 clear G;by_cases G:F=13
 ·subst G
  go_wp2_with fail
  refine nn bi.out ?_;rintro e ak ⟨⟨E,rfl⟩,T⟩;have V:=hid (T.up aa.out);clear T bi;go_wp2;go_ret;exact⟨⟨E,rfl⟩,V.out⟩
 have bC:(F==13)=false:=by simpa using G
 clear G;go_wp2;go_ret;exact⟨⟨3,rfl⟩,bn.out _ aa.out⟩
theorem Ir{w:World}{b i:Nat}{v:Value}(h:w.cell? ⟨b,i,none⟩=some v):w.setCell ⟨b,i,none⟩ v=w:=by
 have e:w.heap.modify b (fun
  |.cells c F G=>.cells (if(⟨b,i,none⟩:Addr).spot.isSome then c else c.setIfInBounds i v) F G
  |o=>o)=w.heap:=by
  apply Array.ext
  ·simp
  ·intro j T I
   rw[Array.getElem_modify];by_cases H:b=j
   ·subst H
    rw[nC rfl];unfold World.cell? at h;have J:=Array.getElem?_eq_getElem I;simp only[J]at h;cases hx:w.heap[b]with
    |cells c F G=>
     rw[hx]at h;have h:c[i]? =some v:=h;have O:c.setIfInBounds i v=c:=by
      apply Array.ext
      ·simp
      ·intro k Q R
       rw[Array.getElem_setIfInBounds (by simpa using Q)];split
       ·rename_i hk
        subst hk;rw[Array.getElem?_eq_getElem R]at h;exact(Option.some.inj h).symm
       ·rfl
     show Obj.cells (c.setIfInBounds i v) F G=_;rw[O]
    |_=>rfl
   ·rw[nB H]
 unfold World.setCell;obtain⟨heap,tape,drawn,os,output⟩:=w;exact nV (fun q=>({heap:=q,tape:=tape,drawn:=drawn,os:=os,output:=output}:World)) e
theorem Zl{w:World}{r:Nat}(h:Df w r):Bk w r (.int .i64 0) (.int .i64 0) (.int .i64 0) (.int .i64 0) (.int .i64 0) (.slice none 0 0) (.string ⟨#[]⟩)=w:=by
 obtain⟨⟨F,G,H,I,J,O,Q⟩,_⟩:=h;unfold Bk;rw[Ir F,Ir G,Ir H,Ir I,Ir J,Ir O,Ir Q]
theorem Df.but{w w':World}{b r:Nat}(h:Df w r)(hb:Au b w w')(F:r≠b):Df w' r:=by
 obtain⟨⟨G,H,I,J,O,Q,R⟩,T⟩:=id h;exact⟨⟨(hb.cell (p:=⟨r,0,none⟩) h.lt F).trans G,(hb.cell (p:=⟨r,1,none⟩) h.lt F).trans H,(hb.cell (p:=⟨r,2,none⟩) h.lt F).trans I,(hb.cell (p:=⟨r,3,none⟩) h.lt F).trans J,(hb.cell (p:=⟨r,4,none⟩) h.lt F).trans O,(hb.cell (p:=⟨r,5,none⟩) h.lt F).trans Q,(hb.cell (p:=⟨r,6,none⟩) h.lt F).trans R⟩,fun j=>(hb.frozen (p:=⟨r,j,none⟩) h.lt F).trans (T j)⟩
theorem aP{w:World}{b:Nat}{B:Bx}{x0:Nd}{ni:List Nd}(h:A5 w b B)(bl:BS B x0 ni){G I J:Int}{O Q H R:BA}(bo:Int)(cq:w.cell? ⟨0,0,none⟩=some (.int .i64 bo))(cr:H.size≤1000):
 Calls prog 8 #[.pointer (some ⟨b,0,none⟩),.agg #[.int .i64 G,.string O,.string Q,.string H,.string R,.int .i64 I,.int .i64 J]] w fun e w'=>(∃v E,e=.returned (.tuple #[v,Am E])∧GE v)∧BI w w' b B ni:=by
 have ch:Bw w (w.alloc (Ax G O Q H R I J)):=(nt _ _).alloc (nl _) _;have cb:Bw w ((w.alloc (Ax G O Q H R I J)).alloc Cg):=ch.alloc ch.size _;have bn:=h.below cb;have bp:=Ad cb cq;have bs:Hid (Df ((w.alloc (Ax G O Q H R I J)).alloc Cg) (w.heap.size+1)):=Df.new _ _ (by rw[nv]);have cu:Hid (Calls prog 18 #[.pointer (some ⟨b,0,none⟩),El G O Q H R I J] ((w.alloc (Ax G O Q H R I J)).alloc Cg) fun e w'=>(∃v E,e=.returned (.tuple #[v,Am E])∧GE v)∧Bw ((w.alloc (Ax G O Q H R I J)).alloc Cg) w'):=Xk bn bl bo bp;have cx:Hid (Calls prog 19 #[.pointer (some ⟨b,0,none⟩),El G O Q H R I J] ((w.alloc (Ax G O Q H R I J)).alloc Cg) fun e w'=>(∃v E,e=.returned (.tuple #[v,Am E])∧GE v)∧Bw ((w.alloc (Ax G O Q H R I J)).alloc Cg) w'):=Xo bn bl bo bp;have cA:Hid (Calls prog 20 #[.pointer (some ⟨b,0,none⟩),El G O Q H R I J] ((w.alloc (Ax G O Q H R I J)).alloc Cg) fun e w'=>(∃v E,e=.returned (.tuple #[v,Am E])∧GE v)∧Bw ((w.alloc (Ax G O Q H R I J)).alloc Cg) w'):=Xp bn bl bo bp;have cB:Hid (Calls prog 21 #[.pointer (some ⟨b,0,none⟩),El G O Q H R I J] ((w.alloc (Ax G O Q H R I J)).alloc Cg) fun e w'=>(∃v E,e=.returned (.tuple #[v,Am E])∧GE v)∧Bw ((w.alloc (Ax G O Q H R I J)).alloc Cg) w'):=Yt bn bl bo bp cr;have c3:Hid (Calls prog 23 #[.pointer (some ⟨b,0,none⟩),El G O Q H R I J] ((w.alloc (Ax G O Q H R I J)).alloc Cg) fun e w'=>(∃E,e=.returned (Am E))∧BI ((w.alloc (Ax G O Q H R I J)).alloc Cg) w' b B ni):=ZP bn bl bo bp cr;have c4:Hid (Calls prog 22 #[.pointer (some ⟨b,0,none⟩)] ((w.alloc (Ax G O Q H R I J)).alloc Cg) fun e w'=>(∃h',e=.returned (Ao x0 h')∧Ah w'.cell? x0 h')∧Bw ((w.alloc (Ax G O Q H R I J)).alloc Cg) w'):=by
  have c5:=bn.cells.2.2.1;have c6:=bn.lay;rw[bl.xs]at c5 c6;refine nn (Gy c5 c6) ?_;rintro e dj ⟨⟨h',c9,_,da⟩,db⟩;exact⟨⟨h',c9,da⟩,db⟩
 have bg:=hid cb;have dd:=hid h;have b0:=hid bl;have b1:Hid (∀w',Bw w w'→BI w w' b B ni):=fun w' hb=>⟨Au.of_below hb,B,x0,dd.out.below hb,b0.out,rfl,rfl⟩;have dk:=h.lt
 have bu:Ce ((w.alloc (Ax G O Q H R I J)).alloc Cg) w.heap.size 0 (.int .i64 G):=Ay (nk _ _ _ _ rfl);have bv:Ce ((w.alloc (Ax G O Q H R I J)).alloc Cg) w.heap.size 1 (.string O):=Ay (nk _ _ _ _ rfl);have bx:Ce ((w.alloc (Ax G O Q H R I J)).alloc Cg) w.heap.size 2 (.string Q):=Ay (nk _ _ _ _ rfl);have bA:Ce ((w.alloc (Ax G O Q H R I J)).alloc Cg) w.heap.size 3 (.string H):=Ay (nk _ _ _ _ rfl);have bB:Ce ((w.alloc (Ax G O Q H R I J)).alloc Cg) w.heap.size 4 (.string R):=Ay (nk _ _ _ _ rfl);have bC:Ce ((w.alloc (Ax G O Q H R I J)).alloc Cg) w.heap.size 5 (.int .i64 I):=Ay (nk _ _ _ _ rfl);have bF:Ce ((w.alloc (Ax G O Q H R I J)).alloc Cg) w.heap.size 6 (.int .i64 J):=Ay (nk _ _ _ _ rfl);clear h bl ch cb bn bp cq;go_enter func8,ntmps8;go_upto_region 1 with fail
 generalize((w.alloc (Ax G O Q H R I J)).alloc Cg)=dm at*;by_cases V:G=1
 ·subst V
  go_wp2_with fail
  refine nn cu.out ?_;rintro e az ⟨⟨v,E,rfl,⟨Y,Z,aa,ab,vn,ad,ak,vc,ao,rfl⟩⟩,q2⟩;have bi:=hid (bg.out.trans (q2.mono bg.out.size));have ap:=hid (bs.out.below q2);clear q2 cu;have a1:Hid (Bw w (Bk az (w.heap.size+1) (.int .i64 Y) (.int .i64 Z) (.int .i64 aa) (.int .i64 ab) (.int .i64 vn) (.slice ad ak vc) (.string ao))):=ES (by omega) (bi.out);obtain⟨a6,a7,a8,ba,bb,bd,be⟩:=(ap.out).store (.int .i64 Y) (.int .i64 Z) (.int .i64 aa) (.int .i64 ab) (.int .i64 vn) (.slice ad ak vc) (.string ao);obtain⟨⟨t0,bG,bH,t3,t4,t5,bY⟩,F⟩:=id (ap.out);have b2:=F 0;have b3:=F 1;have b4:=F 2;have b5:=F 3;have b6:=F 4;have b7:=F 5;have b9:=F 6;obtain⟨bf,T⟩:∃bf,Bk az (w.heap.size+1) (.int .i64 Y) (.int .i64 Z) (.int .i64 aa) (.int .i64 ab) (.int .i64 vn) (.slice ad ak vc) (.string ao)=bf:=⟨_,rfl⟩;rw[T]at a6 a7 a8 ba bb bd be a1;unfold Bk at T;have bk:Hid _:=T;clear T F bu bv bx bA bB bC bF;go_wp2;rw[bk.out];refine nF (v:=.tuple #[.agg #[.int .i64 Y,.int .i64 Z,.int .i64 aa,.int .i64 ab,.int .i64 vn,.slice ad ak vc,.string ao],Am E]) (by simp[results,results8,go_sem,a6,a7,a8,ba,bb,bd,be]) rfl ⟨⟨_,E,rfl,⟨_,_,_,_,_,_,_,_,_,rfl⟩⟩,b1.out _ a1.out⟩
 have dn:(G==1)=false:=by simpa using V
 clear V;by_cases V:G=2
 ·subst V
  go_wp2_with fail
  refine nn cx.out ?_;rintro e az ⟨⟨v,E,rfl,⟨Y,Z,aa,ab,vn,ad,ak,vc,ao,rfl⟩⟩,q2⟩;have bi:=hid (bg.out.trans (q2.mono bg.out.size));have ap:=hid (bs.out.below q2);clear q2 cx;have a1:Hid (Bw w (Bk az (w.heap.size+1) (.int .i64 Y) (.int .i64 Z) (.int .i64 aa) (.int .i64 ab) (.int .i64 vn) (.slice ad ak vc) (.string ao))):=ES (by omega) (bi.out);obtain⟨a6,a7,a8,ba,bb,bd,be⟩:=(ap.out).store (.int .i64 Y) (.int .i64 Z) (.int .i64 aa) (.int .i64 ab) (.int .i64 vn) (.slice ad ak vc) (.string ao);obtain⟨⟨t0,bG,bH,t3,t4,t5,bY⟩,F⟩:=id (ap.out);have b2:=F 0;have b3:=F 1;have b4:=F 2;have b5:=F 3;have b6:=F 4;have b7:=F 5;have b9:=F 6;obtain⟨bf,T⟩:∃bf,Bk az (w.heap.size+1) (.int .i64 Y) (.int .i64 Z) (.int .i64 aa) (.int .i64 ab) (.int .i64 vn) (.slice ad ak vc) (.string ao)=bf:=⟨_,rfl⟩;rw[T]at a6 a7 a8 ba bb bd be a1;unfold Bk at T;have bk:Hid _:=T;clear T F bu bv bx bA bB bC bF;go_wp2;rw[bk.out];refine nF (v:=.tuple #[.agg #[.int .i64 Y,.int .i64 Z,.int .i64 aa,.int .i64 ab,.int .i64 vn,.slice ad ak vc,.string ao],Am E]) (by simp[results,results8,go_sem,a6,a7,a8,ba,bb,bd,be]) rfl ⟨⟨_,E,rfl,⟨_,_,_,_,_,_,_,_,_,rfl⟩⟩,b1.out _ a1.out⟩
 have dp:(G==2)=false:=by simpa using V
 clear V;by_cases V:G=3
 ·subst V
  go_wp2_with fail
  refine nn cA.out ?_;rintro e az ⟨⟨v,E,rfl,⟨Y,Z,aa,ab,vn,ad,ak,vc,ao,rfl⟩⟩,q2⟩;have bi:=hid (bg.out.trans (q2.mono bg.out.size));have ap:=hid (bs.out.below q2);clear q2 cA;have a1:Hid (Bw w (Bk az (w.heap.size+1) (.int .i64 Y) (.int .i64 Z) (.int .i64 aa) (.int .i64 ab) (.int .i64 vn) (.slice ad ak vc) (.string ao))):=ES (by omega) (bi.out);obtain⟨a6,a7,a8,ba,bb,bd,be⟩:=(ap.out).store (.int .i64 Y) (.int .i64 Z) (.int .i64 aa) (.int .i64 ab) (.int .i64 vn) (.slice ad ak vc) (.string ao);obtain⟨⟨t0,bG,bH,t3,t4,t5,bY⟩,F⟩:=id (ap.out);have b2:=F 0;have b3:=F 1;have b4:=F 2;have b5:=F 3;have b6:=F 4;have b7:=F 5;have b9:=F 6;obtain⟨bf,T⟩:∃bf,Bk az (w.heap.size+1) (.int .i64 Y) (.int .i64 Z) (.int .i64 aa) (.int .i64 ab) (.int .i64 vn) (.slice ad ak vc) (.string ao)=bf:=⟨_,rfl⟩;rw[T]at a6 a7 a8 ba bb bd be a1;unfold Bk at T;have bk:Hid _:=T;clear T F bu bv bx bA bB bC bF;go_wp2;rw[bk.out];refine nF (v:=.tuple #[.agg #[.int .i64 Y,.int .i64 Z,.int .i64 aa,.int .i64 ab,.int .i64 vn,.slice ad ak vc,.string ao],Am E]) (by simp[results,results8,go_sem,a6,a7,a8,ba,bb,bd,be]) rfl ⟨⟨_,E,rfl,⟨_,_,_,_,_,_,_,_,_,rfl⟩⟩,b1.out _ a1.out⟩
 have dr:(G==3)=false:=by simpa using V
 clear V;by_cases V:G=12
 ·subst V
  go_wp2_with fail
  refine nn cB.out ?_;rintro e az ⟨⟨v,E,rfl,⟨Y,Z,aa,ab,vn,ad,ak,vc,ao,rfl⟩⟩,q2⟩;have bi:=hid (bg.out.trans (q2.mono bg.out.size));have ap:=hid (bs.out.below q2);clear q2 cB;have a1:Hid (Bw w (Bk az (w.heap.size+1) (.int .i64 Y) (.int .i64 Z) (.int .i64 aa) (.int .i64 ab) (.int .i64 vn) (.slice ad ak vc) (.string ao))):=ES (by omega) (bi.out);obtain⟨a6,a7,a8,ba,bb,bd,be⟩:=(ap.out).store (.int .i64 Y) (.int .i64 Z) (.int .i64 aa) (.int .i64 ab) (.int .i64 vn) (.slice ad ak vc) (.string ao);obtain⟨⟨t0,bG,bH,t3,t4,t5,bY⟩,F⟩:=id (ap.out);have b2:=F 0;have b3:=F 1;have b4:=F 2;have b5:=F 3;have b6:=F 4;have b7:=F 5;have b9:=F 6;obtain⟨bf,T⟩:∃bf,Bk az (w.heap.size+1) (.int .i64 Y) (.int .i64 Z) (.int .i64 aa) (.int .i64 ab) (.int .i64 vn) (.slice ad ak vc) (.string ao)=bf:=⟨_,rfl⟩;rw[T]at a6 a7 a8 ba bb bd be a1;unfold Bk at T;have bk:Hid _:=T;clear T F bu bv bx bA bB bC bF;go_wp2;rw[bk.out];refine nF (v:=.tuple #[.agg #[.int .i64 Y,.int .i64 Z,.int .i64 aa,.int .i64 ab,.int .i64 vn,.slice ad ak vc,.string ao],Am E]) (by simp[results,results8,go_sem,a6,a7,a8,ba,bb,bd,be]) rfl ⟨⟨_,E,rfl,⟨_,_,_,_,_,_,_,_,_,rfl⟩⟩,b1.out _ a1.out⟩
 have ds:(G==12)=false:=by simpa using V
 clear V;by_cases V:G=14
 ·subst V
  go_wp2_with fail
  refine nn c4.out ?_;rintro e du ⟨⟨dw,rfl,c8⟩,cf⟩;have cl:=hid (Kw c8 b0.out.fine.lil (by have:=b0.out.fine.cnt;omega) (by have:=J3 x0 b0.out.fine.lil;have:=b0.out.fine.cnt;omega));generalize FR x0=cg at cl;clear c4 c8;go_wp2_with fail
  refine nn cl.out ?_;rintro e az ⟨rfl,q2⟩;have bi:=hid ((bg.out.trans (cf.mono bg.out.size)).trans (q2.mono (bg.out.trans (cf.mono bg.out.size)).size));have ap:=hid ((bs.out.below cf).below q2);clear q2 cf cl;have a1:Hid (Bw w (Bk az (w.heap.size+1) (.int .i64 0) (.int .i64 0) (.int .i64 0) (.int .i64 0) (.int .i64 cg) (.slice none 0 0) (.string ⟨#[]⟩))):=ES (by omega) (bi.out);obtain⟨a6,a7,a8,ba,bb,bd,be⟩:=(ap.out).store (.int .i64 0) (.int .i64 0) (.int .i64 0) (.int .i64 0) (.int .i64 cg) (.slice none 0 0) (.string ⟨#[]⟩);obtain⟨⟨t0,bG,bH,t3,t4,t5,bY⟩,F⟩:=id (ap.out);have b2:=F 0;have b3:=F 1;have b4:=F 2;have b5:=F 3;have b6:=F 4;have b7:=F 5;have b9:=F 6;obtain⟨bf,T⟩:∃bf,Bk az (w.heap.size+1) (.int .i64 0) (.int .i64 0) (.int .i64 0) (.int .i64 0) (.int .i64 cg) (.slice none 0 0) (.string ⟨#[]⟩)=bf:=⟨_,rfl⟩;rw[T]at a6 a7 a8 ba bb bd be a1;unfold Bk at T;have bk:Hid _:=T;clear T F bu bv bx bA bB bC bF;go_wp2;rw[bk.out];refine nF (v:=.tuple #[.agg #[.int .i64 0,.int .i64 0,.int .i64 0,.int .i64 0,.int .i64 cg,.slice none 0 0,.string ⟨#[]⟩],.nilIface]) (by simp[results,results8,go_sem,a6,a7,a8,ba,bb,bd,be]) rfl ⟨⟨_,0,rfl,⟨_,_,_,_,_,_,_,_,_,rfl⟩⟩,b1.out _ a1.out⟩
 have dx:(G==14)=false:=by simpa using V
 clear V;go_wp2_with fail
 refine nn c3.out ?_;rintro e az ⟨⟨E,rfl⟩,co⟩;have ap:=hid (bs.out.but co.1 (by omega));have de:=hid (co.up bg.out);have cp:=Zl ap.out;unfold Bk at cp;have dg:Hid _:=cp;obtain⟨⟨t0,bG,bH,t3,t4,t5,bY⟩,F⟩:=id ap.out;have b2:=F 0;have b3:=F 1;have b4:=F 2;have b5:=F 3;have b6:=F 4;have b7:=F 5;have b9:=F 6;clear co c3 cp F bu bv bx bA bB bC bF;go_wp2;rw[dg.out];refine nF (v:=.tuple #[.agg #[.int .i64 0,.int .i64 0,.int .i64 0,.int .i64 0,.int .i64 0,.slice none 0 0,.string ⟨#[]⟩],Am E]) (by simp[results,results8,go_sem,t0,bG,bH,t3,t4,t5,bY]) rfl ⟨⟨_,E,rfl,⟨_,_,_,_,_,_,_,_,_,rfl⟩⟩,de.out⟩
def Mn(w w':World)(n:Nat)(H:List Value)(e:Ending):Prop:=(∃F G,e=.returned (.slice F n G)∧(n≤G∧G≤9223372036854775807)∧(n=0∨∃g,F=some ⟨g,0,none⟩∧w.heap.size≤g∧∀j u,H[j]? =some u→w'.cell? ⟨g,j,none⟩=some u)∧∀p,F=some p→p.block<w'.heap.size)∧Bw w w'
theorem Tryz.infoRg:(prog.info? 62).map (fun i=>(i.zero,i.size,i.bytes))=some (some (.agg #[.int .i64 0,.int .i64 0,.int .i64 0]),3,24):=by kernel_rfl
theorem WE{w:World}(a:Option Addr)(n cap:Nat)(F:List Value)(a1:F.length=n*3)(bp:n≤1000)(a6:(a=none∧n=0)∨∃G,a=some G∧∀j u,F[j]? =some u→w.cell? (G.add j)=some u)(a7:∀u∈F,u.oneCell'=true):
 Calls prog 16 #[.slice a n cap] w fun e w'=>Mn w w' n F e:=by
 obtain⟨a8,ba,bb,bd,be⟩:=Eb Tryz.infoRg;have V:Bw w (w.alloc (.cells #[] 62)):=(nt _ _).alloc (nl _) _;have Y:(w.alloc (.cells #[] 62)).ownsRow w.heap.size 62 3 (.slice (some ⟨w.heap.size,0,none⟩) 0 0) 0 []:=⟨rfl,.inr ⟨w.heap.size,0,#[],rfl,nl _,by unfold World.alloc;simp,nl _,nM _,rfl,rfl⟩⟩;rcases a6 with⟨rfl,rfl⟩|⟨G,rfl,bf⟩
 ·have bg:=fun(W:World) (n c:Nat)=>rY (P:=prog) W 22 62 none n c 0 0 underlying22
  go_enter func16,ntmps16;go_wp2;go_ret;exact⟨⟨none,0,rfl,⟨nl _,by omega⟩,.inl rfl,fun p H=>by cases H⟩,nt _ _⟩
 ·have bg:=fun(W:World) (n c:Nat)=>rY (P:=prog) W 22 62 (some G) n c 0 0 underlying22
  have Z:∀j u,F[j]? =some u→(w.alloc (.cells #[] 62)).cell? (G.add j)=some u:=fun j u I=>Ad V (bf j u I);have J:=hid V
  go_enter func16,ntmps16;go_wp2_with (at_builtin;refine Ea (w.alloc (.cells #[] 62)) rfl (.tmp 5) (.tmp 6) 22 rfl w.heap.size 62 a8 (.agg #[.int .i64 0,.int .i64 0,.int .i64 0]) 3 24 underlying22 ba bb bd be rfl (by decide) (.slice (some ⟨w.heap.size,0,none⟩) 0 0) 0 [] rfl Y (some G) n cap F rfl a1 (.inr ⟨G,rfl,Z⟩) a7 (by unfold maxLen;omega) (by omega) (by have:=J.out.size;omega) ?_)
  intro bs w' aa ab bi;obtain⟨ad,ak,rfl,ao,O,Q⟩:=JG aa;have bk:Hid (Mn w w' n F (.returned (.slice ad n ak))):=by
   unfold maxLen at O;have bl:Bw w w':=J.out.grown ab J.out.size (fun k e=>by cases e;exact nl _);refine⟨⟨ad,ak,rfl,⟨ao,O⟩,?_,fun p H=>?_⟩,bl⟩
   ·rcases Q with⟨_,R,_,_⟩|⟨g,bn,rfl,ap,T,bo,az⟩
    ·exact .inl R
    ·exact .inr ⟨g,rfl,ap,fun j u I=>Fq T az (by simpa using I)⟩
   ·rcases Q with⟨R,_⟩|⟨g,bn,rfl,ap,T,bo,az⟩
    ·rw[R]at H;cases H
    ·cases H
     exact(nI.1 T).1
  clear aa ab bi ao O Q Z Y;go_wp2;go_ret;exact bk.out
theorem Tryz.infoI:(prog.info? 3).map (fun i=>(i.zero,i.size,i.bytes))=some (some (.int .i64 0),1,8):=by kernel_rfl
theorem Wv{w:World}(a:Option Addr)(n cap:Nat)(F:List Value)(a1:F.length=n*1)(bp:n≤1000)(a6:(a=none∧n=0)∨∃G,a=some G∧∀j u,F[j]? =some u→w.cell? (G.add j)=some u)(a7:∀u∈F,u.oneCell'=true):
 Calls prog 32 #[.slice a n cap] w fun e w'=>Mn w w' n F e:=by
 obtain⟨a8,ba,bb,bd,be⟩:=Eb Tryz.infoI;have V:Bw w (w.alloc (.cells #[] 3)):=(nt _ _).alloc (nl _) _;have Y:(w.alloc (.cells #[] 3)).ownsRow w.heap.size 3 1 (.slice (some ⟨w.heap.size,0,none⟩) 0 0) 0 []:=⟨rfl,.inr ⟨w.heap.size,0,#[],rfl,nl _,by unfold World.alloc;simp,nl _,nM _,rfl,rfl⟩⟩;rcases a6 with⟨rfl,rfl⟩|⟨G,rfl,bf⟩
 ·have bg:=fun(W:World) (n c:Nat)=>rY (P:=prog) W 25 3 none n c 0 0 underlying25
  go_enter func32,ntmps32;go_wp2;go_ret;exact⟨⟨none,0,rfl,⟨nl _,by omega⟩,.inl rfl,fun p H=>by cases H⟩,nt _ _⟩
 ·have bg:=fun(W:World) (n c:Nat)=>rY (P:=prog) W 25 3 (some G) n c 0 0 underlying25
  have Z:∀j u,F[j]? =some u→(w.alloc (.cells #[] 3)).cell? (G.add j)=some u:=fun j u I=>Ad V (bf j u I);have J:=hid V
  go_enter func32,ntmps32;go_wp2_with (at_builtin;refine Ea (w.alloc (.cells #[] 3)) rfl (.tmp 5) (.tmp 6) 25 rfl w.heap.size 3 a8 (.int .i64 0) 1 8 underlying25 ba bb bd be rfl (by decide) (.slice (some ⟨w.heap.size,0,none⟩) 0 0) 0 [] rfl Y (some G) n cap F rfl a1 (.inr ⟨G,rfl,Z⟩) a7 (by unfold maxLen;omega) (by omega) (by have:=J.out.size;omega) ?_)
  intro bs w' aa ab bi;obtain⟨ad,ak,rfl,ao,O,Q⟩:=JG aa;have bk:Hid (Mn w w' n F (.returned (.slice ad n ak))):=by
   unfold maxLen at O;have bl:Bw w w':=J.out.grown ab J.out.size (fun k e=>by cases e;exact nl _);refine⟨⟨ad,ak,rfl,⟨ao,O⟩,?_,fun p H=>?_⟩,bl⟩
   ·rcases Q with⟨_,R,_,_⟩|⟨g,bn,rfl,ap,T,bo,az⟩
    ·exact .inl R
    ·exact .inr ⟨g,rfl,ap,fun j u I=>Fq T az (by simpa using I)⟩
   ·rcases Q with⟨R,_⟩|⟨g,bn,rfl,ap,T,bo,az⟩
    ·rw[R]at H;cases H
    ·cases H
     exact(nI.1 T).1
  clear aa ab bi ao O Q Z Y;go_wp2;go_ret;exact bk.out
def D2:List Rg→List Value
 |[]=>[]
 |r::l=>.int .i64 r.i::.int .i64 r.o::.int .i64 r.n::D2 l
theorem Td:∀rs:List Rg,(D2 rs).length=rs.length*3
 |[]=>rfl
 |r::l=>by rw[D2,n3,n3,n3,n3,Td l];omega
theorem Ua:∀rs:List Rg,∀u∈D2 rs,u.oneCell'=true
 |[],u,h=>by cases h
 |r::l,u,h=>by
  rw[D2]at h;simp only[nX]at h;rcases h with rfl|rfl|rfl|h
  ·rfl
  ·rfl
  ·rfl
  ·exact Ua l u h
theorem Um:∀{rs:List Rg} {j:Nat} {u:Value},(D2 rs)[j]? =some u→∃k r,rs[k]? =some r∧((j=k*3∧u=.int .i64 r.i)∨(j=k*3+1∧u=.int .i64 r.o)∨(j=k*3+2∧u=.int .i64 r.n))
 |[],j,u,h=>by simp[D2]at h
 |r::l,0,u,h=>⟨0,r,rfl,.inl ⟨rfl,by simp[D2]at h;exact h.symm⟩⟩
 |r::l,1,u,h=>⟨0,r,rfl,.inr (.inl ⟨rfl,by simp[D2]at h;exact h.symm⟩)⟩
 |r::l,2,u,h=>⟨0,r,rfl,.inr (.inr ⟨rfl,by simp[D2]at h;exact h.symm⟩)⟩
 |r::l,j+3,u,h=>by
  have h:(D2 l)[j]? =some u:=by simpa [D2]using h
  obtain⟨k,H,I,J⟩:=Um h;refine⟨k+1,H,by simpa using I,?_⟩;rcases J with⟨G,F⟩|⟨G,F⟩|⟨G,F⟩
  ·exact .inl ⟨by omega,F⟩
  ·exact .inr (.inl ⟨by omega,F⟩)
  ·exact .inr (.inr ⟨by omega,F⟩)
theorem Uk:∀{rs:List Rg} {k:Nat} {r:Rg},rs[k]? =some r→(D2 rs)[k*3]? =some (.int .i64 r.i)∧(D2 rs)[k*3+1]? =some (.int .i64 r.o)∧(D2 rs)[k*3+2]? =some (.int .i64 r.n)
 |[],k,r,h=>by simp at h
 |q::l,0,r,h=>by
  have:q=r:=by simpa using h
  subst this;exact⟨rfl,rfl,rfl⟩
 |q::l,k+1,r,h=>by
  obtain⟨a,b,c⟩:=Uk (rs:=l) (k:=k) (r:=r) (by simpa using h);rw[show(k+1)*3=k*3+3 by omega];exact⟨by simpa [D2]using a,by simpa [D2]using b,by simpa [D2]using c⟩
theorem Pm{w:World}{a:Option Addr}(cap:Nat){rs:List Rg}(h:Rgs w a rs)(ap:rs.length≤100):
 Calls prog 16 #[.slice a rs.length cap] w fun e w'=>(∃F G,e=.returned (.slice F rs.length G)∧(rs.length≤G∧G≤9223372036854775807)∧Rgs w' F rs∧(∀p,F=some p→p.block<w'.heap.size)∧∀p,F=some p→rs≠[]→w.heap.size≤p.block)∧Bw w w':=by
 refine nn (WE a rs.length cap (D2 rs) (Td rs) (by omega) ?_ (Ua rs)) ?_
 ·rcases h with rfl|⟨b,az,rfl,H⟩
  ·cases a with
   |none=>exact .inl ⟨rfl,rfl⟩
   |some R=>exact .inr ⟨R,rfl,fun j u I=>by simp[D2]at I⟩
  ·refine .inr ⟨_,rfl,fun j u I=>?_⟩
   rw[DV];obtain⟨k,r,J,T⟩:=Um I;obtain⟨V,g1,Y⟩:=H k r J;rcases T with⟨rfl,rfl⟩|⟨rfl,rfl⟩|⟨rfl,rfl⟩
   ·exact V
   ·exact g1
   ·exact Y
 ·rintro e w' ⟨⟨F,G,rfl,Z,Q,aa⟩,hb⟩
  refine⟨⟨F,G,rfl,Z,?_,aa,fun p ab ad=>?_⟩,hb⟩;rotate_left
  ·rcases Q with O|⟨g,rfl,ak,_⟩
   ·exact absurd (rp.1 O) ad
   ·cases ab
    exact ak
  rcases Q with O|⟨g,rfl,_,H⟩
  ·exact .inl (rp.1 O)
  ·refine .inr ⟨g,0,rfl,fun k r J=>?_⟩
   obtain⟨ao,a2,a3⟩:=Uk J;rw[nT];exact⟨H _ _ ao,H _ _ a2,H _ _ a3⟩
theorem VR{w:World}{a:Option Addr}(cap:Nat){F:List Int}(h:Bg w a F)(ad:F.length≤100):
 Calls prog 32 #[.slice a F.length cap] w fun e w'=>(∃G H,e=.returned (.slice G F.length H)∧(F.length≤H∧H≤9223372036854775807)∧(F=[]∨∃g,G=some ⟨g,0,none⟩∧w.heap.size≤g∧∀i,i<F.length→Ce w' g i (.int .i64 (F.getD i 0)))∧∀p,G=some p→p.block<w'.heap.size)∧Bw w w':=by
 refine nn (Wv a F.length cap (F.map (Value.int .i64)) (by simp) (by omega) ?_ (fun u T=>by obtain⟨z,_,rfl⟩:=rx.1 T;rfl)) ?_
 ·rcases h with rfl|⟨b,ak,rfl,J⟩
  ·cases a with
   |none=>exact .inl ⟨rfl,rfl⟩
   |some V=>exact .inr ⟨V,rfl,fun j u I=>by simp at I⟩
  ·refine .inr ⟨_,rfl,fun j u I=>?_⟩
   rw[DV];rw[n4]at I;obtain⟨z,Q,rfl⟩:=nY.1 I;have O:=(nw.1 Q).1;rw[J j O];simp[List.getD,Q]
 ·rintro e w' ⟨⟨G,H,rfl,Y,Z,O⟩,hb⟩
  refine⟨⟨G,H,rfl,Y,?_,O⟩,hb⟩;rcases Z with aa|⟨g,rfl,ab,J⟩
  ·exact .inl (rp.1 aa)
  ·refine .inr ⟨g,rfl,ab,fun i R=>J _ _ ?_⟩
   rw[n4,np R];simp[List.getD,np R]
theorem ZC{w:World}{F G ck:Int}{ca:Option Addr}{cc:Nat}{cs:List Int}(h:Bg w ca cs)(bp:cs.length≤100):
 Calls prog 17 #[.agg #[.int .i64 F,.int .i64 G,.slice ca cs.length cc,.int .i64 ck]] w fun e w'=>(∃H Q,e=.returned (.agg #[.int .i64 F,.int .i64 G,.slice H cs.length Q,.int .i64 ck])∧(cs.length≤Q∧Q≤9223372036854775807)∧Bg w' H cs∧∀p,H=some p→p.block<w'.heap.size)∧Bw w w':=by
 have R:(w.alloc (.cells #[.int .i64 F,.int .i64 G,.slice ca cs.length cc,.int .i64 ck] 27)).heap.size=w.heap.size+1:=nv _ _;have Y:Bw w (w.alloc (.cells #[.int .i64 F,.int .i64 G,.slice ca cs.length cc,.int .i64 ck] 27)):=(nt _ _).alloc (nl _) _;have Z:Bw w ((w.alloc (.cells #[.int .i64 F,.int .i64 G,.slice ca cs.length cc,.int .i64 ck] 27)).alloc (.cells #[.int .i64 0,.int .i64 0,.slice none 0 0,.int .i64 0] 27)):=Y.alloc Y.size _;have az:Bw (w.alloc (.cells #[.int .i64 F,.int .i64 G,.slice ca cs.length cc,.int .i64 ck] 27)) ((w.alloc (.cells #[.int .i64 F,.int .i64 G,.slice ca cs.length cc,.int .i64 ck] 27)).alloc (.cells #[.int .i64 0,.int .i64 0,.slice none 0 0,.int .i64 0] 27)):=(nt _ _).alloc (nl _) _;have c0:((w.alloc (.cells #[.int .i64 F,.int .i64 G,.slice ca cs.length cc,.int .i64 ck] 27)).alloc (.cells #[.int .i64 0,.int .i64 0,.slice none 0 0,.int .i64 0] 27)).cell? ⟨w.heap.size,0,none⟩=some (.int .i64 F):=Ay (nk _ _ _ _ rfl);have c1:((w.alloc (.cells #[.int .i64 F,.int .i64 G,.slice ca cs.length cc,.int .i64 ck] 27)).alloc (.cells #[.int .i64 0,.int .i64 0,.slice none 0 0,.int .i64 0] 27)).cell? ⟨w.heap.size,1,none⟩=some (.int .i64 G):=Ay (nk _ _ _ _ rfl);have c2:((w.alloc (.cells #[.int .i64 F,.int .i64 G,.slice ca cs.length cc,.int .i64 ck] 27)).alloc (.cells #[.int .i64 0,.int .i64 0,.slice none 0 0,.int .i64 0] 27)).cell? ⟨w.heap.size,2,none⟩=some (.slice ca cs.length cc):=Ay (nk _ _ _ _ rfl);have a1:((w.alloc (.cells #[.int .i64 F,.int .i64 G,.slice ca cs.length cc,.int .i64 ck] 27)).alloc (.cells #[.int .i64 0,.int .i64 0,.slice none 0 0,.int .i64 0] 27)).cell? ⟨w.heap.size,3,none⟩=some (.int .i64 ck):=Ay (nk _ _ _ _ rfl);have aa:((w.alloc (.cells #[.int .i64 F,.int .i64 G,.slice ca cs.length cc,.int .i64 ck] 27)).alloc (.cells #[.int .i64 0,.int .i64 0,.slice none 0 0,.int .i64 0] 27)).cell? ⟨w.heap.size+1,0,none⟩=some (.int .i64 0):=nk _ _ _ _ R.symm;have ab:((w.alloc (.cells #[.int .i64 F,.int .i64 G,.slice ca cs.length cc,.int .i64 ck] 27)).alloc (.cells #[.int .i64 0,.int .i64 0,.slice none 0 0,.int .i64 0] 27)).cell? ⟨w.heap.size+1,1,none⟩=some (.int .i64 0):=nk _ _ _ _ R.symm;have ad:((w.alloc (.cells #[.int .i64 F,.int .i64 G,.slice ca cs.length cc,.int .i64 ck] 27)).alloc (.cells #[.int .i64 0,.int .i64 0,.slice none 0 0,.int .i64 0] 27)).cell? ⟨w.heap.size+1,2,none⟩=some (.slice none 0 0):=nk _ _ _ _ R.symm;have ak:((w.alloc (.cells #[.int .i64 F,.int .i64 G,.slice ca cs.length cc,.int .i64 ck] 27)).alloc (.cells #[.int .i64 0,.int .i64 0,.slice none 0 0,.int .i64 0] 27)).cell? ⟨w.heap.size+1,3,none⟩=some (.int .i64 0):=nk _ _ _ _ R.symm;have a6:∀q,((w.alloc (.cells #[.int .i64 F,.int .i64 G,.slice ca cs.length cc,.int .i64 ck] 27)).alloc (.cells #[.int .i64 0,.int .i64 0,.slice none 0 0,.int .i64 0] 27)).frozen? ⟨w.heap.size,q,none⟩=false:=fun q=>by
  rw[az.frozen (p:=⟨w.heap.size,q,none⟩) (by show w.heap.size<_;omega)];exact nP _ _ _ _ rfl
 have T:∀q,((w.alloc (.cells #[.int .i64 F,.int .i64 G,.slice ca cs.length cc,.int .i64 ck] 27)).alloc (.cells #[.int .i64 0,.int .i64 0,.slice none 0 0,.int .i64 0] 27)).frozen? ⟨w.heap.size+1,q,none⟩=false:=fun q=>nP _ _ _ _ R.symm;have a7:Hid (Calls prog 32 #[.slice ca cs.length cc] ((w.alloc (.cells #[.int .i64 F,.int .i64 G,.slice ca cs.length cc,.int .i64 ck] 27)).alloc (.cells #[.int .i64 0,.int .i64 0,.slice none 0 0,.int .i64 0] 27)) fun e w'=>(∃H Q,e=.returned (.slice H cs.length Q)∧(cs.length≤Q∧Q≤9223372036854775807)∧(cs=[]∨∃g,H=some ⟨g,0,none⟩∧((w.alloc (.cells #[.int .i64 F,.int .i64 G,.slice ca cs.length cc,.int .i64 ck] 27)).alloc (.cells #[.int .i64 0,.int .i64 0,.slice none 0 0,.int .i64 0] 27)).heap.size≤g∧∀i,i<cs.length→Ce w' g i (.int .i64 (cs.getD i 0)))∧∀p,H=some p→p.block<w'.heap.size)∧Bw ((w.alloc (.cells #[.int .i64 F,.int .i64 G,.slice ca cs.length cc,.int .i64 ck] 27)).alloc (.cells #[.int .i64 0,.int .i64 0,.slice none 0 0,.int .i64 0] 27)) w'):=VR cc (h.below Z) bp
 have a8:Hid (((w.alloc (.cells #[.int .i64 F,.int .i64 G,.slice ca cs.length cc,.int .i64 ck] 27)).alloc (.cells #[.int .i64 0,.int .i64 0,.slice none 0 0,.int .i64 0] 27)).heap.size=w.heap.size+1+1):=by show _=_;rw[nv,R]
 have ba:Hid (Bw w ((w.alloc (.cells #[.int .i64 F,.int .i64 G,.slice ca cs.length cc,.int .i64 ck] 27)).alloc (.cells #[.int .i64 0,.int .i64 0,.slice none 0 0,.int .i64 0] 27))):=Z;clear Y Z az h R;go_enter func17,ntmps17;go_upto_region 1 with fail
 generalize((w.alloc (.cells #[.int .i64 F,.int .i64 G,.slice ca cs.length cc,.int .i64 ck] 27)).alloc (.cells #[.int .i64 0,.int .i64 0,.slice none 0 0,.int .i64 0] 27))=ao at*;go_wp2_with fail
 refine nn a7.out ?_;rintro e O ⟨⟨H,I,rfl,bb,bd,be⟩,J⟩;have bs:=a8.out;have la:w.heap.size<ao.heap.size:=by omega
 have lb:w.heap.size+1<ao.heap.size:=by omega
 have c0:=Ad J c0;have c1:=Ad J c1;have c2:=Ad J c2;have a1:=Ad J a1;have aa:=Ad J aa;have ab:=Ad J ab;have ad:=Ad J ad;have ak:=Ad J ak;have bG:=(J.frozen (p:=⟨w.heap.size,2,none⟩) la).trans (a6 2);have bH:=(J.frozen (p:=⟨w.heap.size+1,0,none⟩) lb).trans (T 0);have bY:=(J.frozen (p:=⟨w.heap.size+1,1,none⟩) lb).trans (T 1);have b0:=(J.frozen (p:=⟨w.heap.size+1,2,none⟩) lb).trans (T 2);have b1:=(J.frozen (p:=⟨w.heap.size+1,3,none⟩) lb).trans (T 3);have bu:Hid (cs.length≤I∧I≤9223372036854775807):=bb;have bf:∀g i,ao.heap.size≤g→(((((O.setCell ⟨w.heap.size,2,none⟩ (.slice H cs.length I)).setCell ⟨w.heap.size+1,0,none⟩ (.int .i64 F)).setCell ⟨w.heap.size+1,1,none⟩ (.int .i64 G)).setCell ⟨w.heap.size+1,2,none⟩ (.slice H cs.length I)).setCell ⟨w.heap.size+1,3,none⟩ (.int .i64 ck)).cell? ⟨g,i,none⟩=O.cell? ⟨g,i,none⟩:=fun g i bg=>by
  rw[AW (by show g≠w.heap.size+1;omega),AW (by show g≠w.heap.size+1;omega),AW (by show g≠w.heap.size+1;omega),AW (by show g≠w.heap.size+1;omega),AW (by show g≠w.heap.size;omega)]
 have V:Hid (Bg (((((O.setCell ⟨w.heap.size,2,none⟩ (.slice H cs.length I)).setCell ⟨w.heap.size+1,0,none⟩ (.int .i64 F)).setCell ⟨w.heap.size+1,1,none⟩ (.int .i64 G)).setCell ⟨w.heap.size+1,2,none⟩ (.slice H cs.length I)).setCell ⟨w.heap.size+1,3,none⟩ (.int .i64 ck)) H cs∧(∀p,H=some p→p.block<(((((O.setCell ⟨w.heap.size,2,none⟩ (.slice H cs.length I)).setCell ⟨w.heap.size+1,0,none⟩ (.int .i64 F)).setCell ⟨w.heap.size+1,1,none⟩ (.int .i64 G)).setCell ⟨w.heap.size+1,2,none⟩ (.slice H cs.length I)).setCell ⟨w.heap.size+1,3,none⟩ (.int .i64 ck)).heap.size)∧Bw w (((((O.setCell ⟨w.heap.size,2,none⟩ (.slice H cs.length I)).setCell ⟨w.heap.size+1,0,none⟩ (.int .i64 F)).setCell ⟨w.heap.size+1,1,none⟩ (.int .i64 G)).setCell ⟨w.heap.size+1,2,none⟩ (.slice H cs.length I)).setCell ⟨w.heap.size+1,3,none⟩ (.int .i64 ck))):=by
  have bv:=ba.out.trans (J.mono ba.out.size);refine⟨?_,fun p bx=>?_,?_⟩
  ·rcases bd with e|⟨g,bA,bg,bB⟩
   ·exact .inl e
   ·refine .inr ⟨g,0,bA,fun i bC=>?_⟩
    rw[nT,bf _ _ bg];exact bB i bC
  ·have:=be p bx
   simpa using this
  ·exact((((bv.setCell (p:=⟨w.heap.size,2,none⟩) (nl _) _).setCell (p:=⟨w.heap.size+1,0,none⟩) (Nat.le_succ _) _).setCell (p:=⟨w.heap.size+1,1,none⟩) (Nat.le_succ _) _).setCell (p:=⟨w.heap.size+1,2,none⟩) (Nat.le_succ _) _).setCell (p:=⟨w.heap.size+1,3,none⟩) (Nat.le_succ _) _
 have bi:(((((O.setCell ⟨w.heap.size,2,none⟩ (.slice H cs.length I)).setCell ⟨w.heap.size+1,0,none⟩ (.int .i64 F)).setCell ⟨w.heap.size+1,1,none⟩ (.int .i64 G)).setCell ⟨w.heap.size+1,2,none⟩ (.slice H cs.length I)).setCell ⟨w.heap.size+1,3,none⟩ (.int .i64 ck)).cell? ⟨w.heap.size+1,0,none⟩=some (.int .i64 F):=by
  rw[AA (by omega),AA (by omega),AA (by omega)];exact nH _ _ _ ((AW (by show w.heap.size+1≠w.heap.size;omega)).trans aa)
 have bk:(((((O.setCell ⟨w.heap.size,2,none⟩ (.slice H cs.length I)).setCell ⟨w.heap.size+1,0,none⟩ (.int .i64 F)).setCell ⟨w.heap.size+1,1,none⟩ (.int .i64 G)).setCell ⟨w.heap.size+1,2,none⟩ (.slice H cs.length I)).setCell ⟨w.heap.size+1,3,none⟩ (.int .i64 ck)).cell? ⟨w.heap.size+1,1,none⟩=some (.int .i64 G):=by
  rw[AA (by omega),AA (by omega)];exact nH _ _ _ ((AA (by omega)).trans ((AW (by show w.heap.size+1≠w.heap.size;omega)).trans ab))
 have bl:(((((O.setCell ⟨w.heap.size,2,none⟩ (.slice H cs.length I)).setCell ⟨w.heap.size+1,0,none⟩ (.int .i64 F)).setCell ⟨w.heap.size+1,1,none⟩ (.int .i64 G)).setCell ⟨w.heap.size+1,2,none⟩ (.slice H cs.length I)).setCell ⟨w.heap.size+1,3,none⟩ (.int .i64 ck)).cell? ⟨w.heap.size+1,2,none⟩=some (.slice H cs.length I):=by
  rw[AA (by omega)];exact nH _ _ _ ((AA (by omega)).trans ((AA (by omega)).trans ((AW (by show w.heap.size+1≠w.heap.size;omega)).trans ad)))
 have bn:(((((O.setCell ⟨w.heap.size,2,none⟩ (.slice H cs.length I)).setCell ⟨w.heap.size+1,0,none⟩ (.int .i64 F)).setCell ⟨w.heap.size+1,1,none⟩ (.int .i64 G)).setCell ⟨w.heap.size+1,2,none⟩ (.slice H cs.length I)).setCell ⟨w.heap.size+1,3,none⟩ (.int .i64 ck)).cell? ⟨w.heap.size+1,3,none⟩=some (.int .i64 ck):=nH _ _ _ ((AA (by omega)).trans ((AA (by omega)).trans ((AA (by omega)).trans ((AW (by show w.heap.size+1≠w.heap.size;omega)).trans ak))));obtain⟨bo,ap⟩:∃bo,(((((O.setCell ⟨w.heap.size,2,none⟩ (.slice H cs.length I)).setCell ⟨w.heap.size+1,0,none⟩ (.int .i64 F)).setCell ⟨w.heap.size+1,1,none⟩ (.int .i64 G)).setCell ⟨w.heap.size+1,2,none⟩ (.slice H cs.length I)).setCell ⟨w.heap.size+1,3,none⟩ (.int .i64 ck))=bo:=⟨_,rfl⟩;rw[ap]at bi bk bl bn V;have bF:Hid _:=ap;clear ap bf bd be J a7 a6 T bs la lb bb a8;go_wp2;rw[bF.out];refine nF (v:=.agg #[.int .i64 F,.int .i64 G,.slice H cs.length I,.int .i64 ck]) (by simp[results,results17,go_sem,bi,bk,bl,bn]) rfl ⟨⟨H,I,rfl,bu.out,V.out.1,V.out.2.1⟩,V.out.2.2⟩
theorem Zp{w:World}{I F ca lwa:Option Addr}{uc gc cc lwn lwc:Nat}{us gs:List Rg}{cs:List Int}{G H ck q:Int}(bf:Rgs w I us)(bg:Rgs w F gs)(bi:us.length≤100)(bk:gs.length≤100)(bl:us.length≤uc)(bn:gs.length≤gc)(bo:∀r∈us,r.ok)(bp:∀r∈gs,r.ok)(bs:Bg w ca cs)(bu:cs.length≤8):
 Calls prog 29 #[.agg #[.slice I us.length uc,.slice F gs.length gc,.int .i64 G,.int .i64 H,.slice ca cs.length cc,.int .i64 ck,.int .i64 q,.slice lwa lwn lwc]] w fun e w'=>(∃E,e=.returned (Am E)∧(E=0→CY us=0∧CY gs=0∧CR G H cs ck=0∧1≤q∧q≤64))∧Bw w w':=by
 have ap:Bw w (w.alloc (A4 I F ca lwa uc gc cc lwn lwc us gs cs G H ck q)):=(nt _ _).alloc (nl _) _;have c0:Ce (w.alloc (A4 I F ca lwa uc gc cc lwn lwc us gs cs G H ck q)) w.heap.size 0 (.slice I us.length uc):=nk _ _ _ _ rfl;have c1:Ce (w.alloc (A4 I F ca lwa uc gc cc lwn lwc us gs cs G H ck q)) w.heap.size 1 (.slice F gs.length gc):=nk _ _ _ _ rfl;have c2:Ce (w.alloc (A4 I F ca lwa uc gc cc lwn lwc us gs cs G H ck q)) w.heap.size 2 (.int .i64 G):=nk _ _ _ _ rfl;have R:Ce (w.alloc (A4 I F ca lwa uc gc cc lwn lwc us gs cs G H ck q)) w.heap.size 3 (.int .i64 H):=nk _ _ _ _ rfl;have T:Ce (w.alloc (A4 I F ca lwa uc gc cc lwn lwc us gs cs G H ck q)) w.heap.size 4 (.slice ca cs.length cc):=nk _ _ _ _ rfl;have V:Ce (w.alloc (A4 I F ca lwa uc gc cc lwn lwc us gs cs G H ck q)) w.heap.size 5 (.int .i64 ck):=nk _ _ _ _ rfl;have O:Ce (w.alloc (A4 I F ca lwa uc gc cc lwn lwc us gs cs G H ck q)) w.heap.size 6 (.int .i64 q):=nk _ _ _ _ rfl;have az:=hid (Ja I uc us _ bi bl bo (bf.below ap));have bv:=hid ap;have Z:Hid (Rgs w F gs∧gs.length≤100∧gs.length≤gc∧∀r∈gs,r.ok):=⟨bg,bk,bn,bp⟩;have bx:Hid (Bg w ca cs∧cs.length≤8):=⟨bs,bu⟩;obtain⟨a1,bA⟩:∃Y,Hid (CY us=Y):=⟨_,rfl⟩;obtain⟨aa,bB⟩:∃Y,Hid (CY gs=Y):=⟨_,rfl⟩;obtain⟨ab,bC⟩:∃Y,Hid (CR G H cs ck=Y):=⟨_,rfl⟩;rw[bA.out]at az;clear bf bg bi bk bl bn bo bp bs bu ap;go_enter func29,ntmps29;go_upto_region 1 with fail
 generalize w.alloc (A4 I F ca lwa uc gc cc lwn lwc us gs cs G H ck q)=b1 at*;generalize w.heap.size=b2 at c0 c1 c2 R T V O⊢;go_wp2_with fail
 refine nn az.out ?_;rintro e a6 ⟨rfl,q2⟩;have ad:=hid (bv.out.trans (q2.mono bv.out.size));replace c1:=Ad q2 c1;replace c2:=Ad q2 c2;replace R:=Ad q2 R;replace T:=Ad q2 T;replace V:=Ad q2 V;replace O:=Ad q2 O;clear az q2 c0;by_cases a7:a1=0
 case neg=>
  have J:=AH (n:=a1) rfl a7;rw[J];go_wp2;go_ret;exact⟨⟨a1,by rw[J];rfl,fun e=>absurd e a7⟩,ad.out⟩
 case pos=>
  subst a7;rw[show Am 0=Value.nilIface from rfl];have bF:Hid (Calls prog 60 #[.slice F gs.length gc] a6 fun e w'=>e=.returned (Am aa)∧Bw a6 w'):=by
   have e:=Ja F gc gs a6 Z.out.2.1 Z.out.2.2.1 Z.out.2.2.2 (Z.out.1.below ad.out);rw[bB.out]at e;exact e
  go_wp2_with fail
  refine nn bF.out ?_;rintro e a8 ⟨rfl,Q⟩;have ak:=hid (ad.out.trans (Q.mono ad.out.size));replace c2:=Ad Q c2;replace R:=Ad Q R;replace T:=Ad Q T;replace V:=Ad Q V;replace O:=Ad Q O;clear bF Q c1;by_cases ba:aa=0
  case neg=>
   have J:=AH (n:=aa) rfl ba;rw[J];go_wp2;go_ret;exact⟨⟨aa,by rw[J];rfl,fun e=>absurd e ba⟩,ak.out⟩
  case pos=>
   subst ba;rw[show Am 0=Value.nilIface from rfl];have bG:Hid (Calls prog 61 #[.agg #[.int .i64 G,.int .i64 H,.slice ca cs.length cc,.int .i64 ck]] a8 fun e w'=>e=.returned (Am ab)∧Bw a8 w'):=by
    have e:=Is G H ck ca cc cs a8 bx.out.2 (bx.out.1.below ak.out);rw[bC.out]at e;exact e
   go_wp2_with fail
   refine nn bG.out ?_;rintro e b3 ⟨rfl,q4⟩;have ao:=hid (ak.out.trans (q4.mono ak.out.size));replace O:=Ad q4 O;clear bG q4 c2 R T V;by_cases bb:ab=0
   case neg=>
    have J:=AH (n:=ab) rfl bb;rw[J];go_wp2;go_ret;exact⟨⟨ab,by rw[J];rfl,fun e=>absurd e bb⟩,ao.out⟩
   case pos=>
    subst bb;rw[show Am 0=Value.nilIface from rfl];by_cases bd:q<1
    ·have bY:decide (q<1)=true:=nE bd
     go_wp2;go_ret;exact⟨⟨1,rfl,fun e=>absurd e (by decide)⟩,ao.out⟩
    ·have bY:decide (q<1)=false:=nA bd
     by_cases be:64<q
     ·have b0:decide (64<q)=true:=nE be
      go_wp2;go_ret;exact⟨⟨1,rfl,fun e=>absurd e (by decide)⟩,ao.out⟩
     ·have b0:decide (64<q)=false:=nA be
      have bH:Hid (1≤q∧q≤64):=⟨by omega,by omega⟩;clear bd be;go_wp2;go_ret;exact⟨⟨0,rfl,fun _=>⟨bA.out,bB.out,bC.out,bH.out.1,bH.out.2⟩⟩,ao.out⟩
structure Mf (us gs:List Rg) (cs:List Int) (cu cg ck q:Int) (xs:List Nd) (y:Nd):Prop where
 mu:CY us=0
 mg:CY gs=0
 cr:CR cu cg cs ck=0
 q1:1≤q
 q2:q≤64
 len:xs.length≤3
 low:∀x∈xs,DN false x=0
 root:Bh true us gs (.mk 2 493 cu cg false [] ⟨#[]⟩ [])=some y
theorem WB{w:World}{I J ca lwa:Option Addr}{uc gc cc lwn lwc:Nat}{us gs:List Rg}{cs:List Int}{G H ck q:Int}(cf:Rgs w I us)(cg:Rgs w J gs)(ch:us.length≤100)(cl:gs.length≤100)(co:us.length≤uc)(cp:gs.length≤gc)(cq:∀r∈us,r.ok)(cr:∀r∈gs,r.ok)(dg:Bg w ca cs)(dj:cs.length≤8)(hid:AZ G∧AZ H)
 {a:Option Addr} {cap:Nat} {xs:List Nd} (hx:Ch w.cell? a xs) (d6:xs.length≤5) (dk:∀x∈xs,AB x∧cnt x≤1000):
 Calls prog 14 #[.agg #[.slice I us.length uc,.slice J gs.length gc,.int .i64 G,.int .i64 H,.slice ca cs.length cc,.int .i64 ck,.int .i64 q,.slice lwa lwn lwc],.slice a xs.length cap] w fun e w'=>(∃E y h,e=.returned (.tuple #[Ao y h,Am E])∧Ah w'.cell? y h∧(E=0→Mf us gs cs G H ck q xs y))∧Bw w w':=by
 have cu:Bw w (w.alloc (A4 I J ca lwa uc gc cc lwn lwc us gs cs G H ck q)):=(nt _ _).alloc (nl _) _;have bk:Bw w ((w.alloc (A4 I J ca lwa uc gc cc lwn lwc us gs cs G H ck q)).alloc AO):=cu.alloc cu.size _;have dm:(w.alloc (A4 I J ca lwa uc gc cc lwn lwc us gs cs G H ck q)).heap.size=w.heap.size+1:=nv _ _;have c0:Ce ((w.alloc (A4 I J ca lwa uc gc cc lwn lwc us gs cs G H ck q)).alloc AO) w.heap.size 0 (.slice I us.length uc):=Ay (nk _ _ _ _ rfl);have c1:Ce ((w.alloc (A4 I J ca lwa uc gc cc lwn lwc us gs cs G H ck q)).alloc AO) w.heap.size 1 (.slice J gs.length gc):=Ay (nk _ _ _ _ rfl);have c2:Ce ((w.alloc (A4 I J ca lwa uc gc cc lwn lwc us gs cs G H ck q)).alloc AO) w.heap.size 2 (.int .i64 G):=Ay (nk _ _ _ _ rfl);have ab:Ce ((w.alloc (A4 I J ca lwa uc gc cc lwn lwc us gs cs G H ck q)).alloc AO) w.heap.size 3 (.int .i64 H):=Ay (nk _ _ _ _ rfl);have d7:Ce ((w.alloc (A4 I J ca lwa uc gc cc lwn lwc us gs cs G H ck q)).alloc AO) w.heap.size 4 (.slice ca cs.length cc):=Ay (nk _ _ _ _ rfl);have d8:Ce ((w.alloc (A4 I J ca lwa uc gc cc lwn lwc us gs cs G H ck q)).alloc AO) w.heap.size 5 (.int .i64 ck):=Ay (nk _ _ _ _ rfl);have d9:Ce ((w.alloc (A4 I J ca lwa uc gc cc lwn lwc us gs cs G H ck q)).alloc AO) w.heap.size 6 (.int .i64 q):=Ay (nk _ _ _ _ rfl);have c7:Ce ((w.alloc (A4 I J ca lwa uc gc cc lwn lwc us gs cs G H ck q)).alloc AO) w.heap.size 7 (.slice lwa lwn lwc):=Ay (nk _ _ _ _ rfl);have dn:Hid (BV ((w.alloc (A4 I J ca lwa uc gc cc lwn lwc us gs cs G H ck q)).alloc AO) (w.heap.size+1)):=by
  have e:=BV.new (w.alloc (A4 I J ca lwa uc gc cc lwn lwc us gs cs G H ck q));rw[dm]at e;exact e
 have dp:Hid (Calls prog 29 #[Mk I J ca lwa uc gc cc lwn lwc us gs cs G H ck q] ((w.alloc (A4 I J ca lwa uc gc cc lwn lwc us gs cs G H ck q)).alloc AO) fun e w'=>(∃E,e=.returned (Am E)∧(E=0→CY us=0∧CY gs=0∧CR G H cs ck=0∧1≤q∧q≤64))∧Bw ((w.alloc (A4 I J ca lwa uc gc cc lwn lwc us gs cs G H ck q)).alloc AO) w'):=Zp (cf.below bk) (cg.below bk) ch cl co cp cq cr (dg.below bk) dj;have ea:Hid (DD w ⟨I,J,uc,gc,us,gs⟩):=⟨cf,cg,ch,cl,co,cp,cq,cr⟩;have cx:Hid (Bw w ((w.alloc (A4 I J ca lwa uc gc cc lwn lwc us gs cs G H ck q)).alloc AO)):=bk;have eb:Hid (Ch w.cell? a xs):=hx;have ec:Hid (∀x∈xs,AB x∧cnt x≤1000):=dk;have ed:Hid (AZ G∧AZ H):=hid;obtain⟨N,bv⟩:∃N,Hid (xs.length=N):=⟨_,rfl⟩;rw[bv.out]at d6⊢;clear cf cg ch cl co cp cq cr dg dj hid hx dk cu bk dm;go_enter func14,ntmps14;go_upto_region 1 with fail
 generalize((w.alloc (A4 I J ca lwa uc gc cc lwn lwc us gs cs G H ck q)).alloc AO)=eK at*;obtain⟨Q,dr⟩:∃Q,Hid (w.heap.size=Q):=⟨_,rfl⟩;go_wp2_with fail
 refine nn dp.out ?_;rintro e a8 ⟨⟨E,rfl,ds⟩,q2⟩;have bf:=hid (cx.out.trans (q2.mono cx.out.size));have bx:=hid (dn.out.below q2);replace c0:=Ad q2 c0;replace c1:=Ad q2 c1;replace c2:=Ad q2 c2;replace ab:=Ad q2 ab;clear dp q2 dn cx d7 d8 d9 c7;by_cases cA:E=0
 case neg=>
  have bl:=AH (n:=E) rfl cA;rw[bl];clear c0 c1 c2 ab;have z3:=bx.out;obtain⟨R,T,V,ad⟩:=z3.store (x:=zN) (hd:=zH) (nZ _);have Y:=hid T;have Z:=hid ((bf.out).trans (V.below (Nat.le_succ _) (bf.out).size));obtain⟨aa,O⟩:∃aa,Ar a8 (w.heap.size+1) zN zH=aa:=⟨_,rfl⟩;rw[O]at R Y Z;simp only[zN,zH,Ar,nQ]at O;obtain⟨⟨z0,bA,bB,z4,z5,bC,bF,bG⟩,F⟩:=z3.1;have bH:=F 0;have bY:=F 1;have b0:=F 2;have b1:=F 3;have b2:=F 4;have b3:=F 5;have b4:=F 6;have b5:=F 7;obtain⟨⟨ak,g1,ao,g3,g4,ap,az,a1⟩,_⟩:=R;have a6:Hid _:=O;clear O F T V ad z3;go_wp2;rw[a6.out];refine nF (v:=.tuple #[.agg #[.int .i64 0,.int .i64 0,.int .i64 0,.int .i64 0,.bool false,.slice none 0 0,.string ⟨#[]⟩,.slice none 0 0],.iface 74 (.int .i64 E)]) (by simp[results,results14,go_sem,zH,ak,g1,ao,g3,g4,ap,az,a1]) rfl ⟨⟨E,zN,zH,by rw[bl];rfl,Y.out,fun e=>absurd e (cA)⟩,Z.out⟩
 case pos=>
  subst cA;have bn:=hid (ds rfl);rw[show Am 0=Value.nilIface from rfl];clear ds;by_cases ee:3<N
  ·have du:decide ((3:Int)<(N:Int))=true:=nE (by omega)
   clear c0 c1 c2 ab;have z3:=bx.out;obtain⟨R,T,V,ad⟩:=z3.store (x:=zN) (hd:=zH) (nZ _);have Y:=hid T;have Z:=hid ((bf.out).trans (V.below (Nat.le_succ _) (bf.out).size));obtain⟨aa,O⟩:∃aa,Ar a8 (w.heap.size+1) zN zH=aa:=⟨_,rfl⟩;rw[O]at R Y Z;simp only[zN,zH,Ar,nQ]at O;obtain⟨⟨z0,bA,bB,z4,z5,bC,bF,bG⟩,F⟩:=z3.1;have bH:=F 0;have bY:=F 1;have b0:=F 2;have b1:=F 3;have b2:=F 4;have b3:=F 5;have b4:=F 6;have b5:=F 7;obtain⟨⟨ak,g1,ao,g3,g4,ap,az,a1⟩,_⟩:=R;have a6:Hid _:=O;clear O F T V ad z3;go_wp2;rw[a6.out];refine nF (v:=.tuple #[.agg #[.int .i64 0,.int .i64 0,.int .i64 0,.int .i64 0,.bool false,.slice none 0 0,.string ⟨#[]⟩,.slice none 0 0],.iface 74 (.int .i64 2)]) (by simp[results,results14,go_sem,zH,ak,g1,ao,g3,g4,ap,az,a1]) rfl ⟨⟨2,zN,zH,rfl,Y.out,fun e=>absurd e (by decide)⟩,Z.out⟩
  ·have du:decide ((3:Int)<(N:Int))=false:=nA (by omega)
   have ef:Hid (N≤3):=by show _≤_;omega
   have dw:Hid (Bw w a8∧BV a8 (w.heap.size+1)∧Ce a8 Q 0 (.slice I us.length uc)∧Ce a8 Q 1 (.slice J gs.length gc)∧Ce a8 Q 2 (.int .i64 G)∧Ce a8 Q 3 (.int .i64 H)):=by rw[←dr.out];exact⟨bf.out,bx.out,c0,c1,c2,ab⟩
   clear c0 c1 c2 ab ee;go_upto_region 6 with fail
   clear du;go_wp2;go_loopw [23] (fun i wr=>∃j:Nat,j≤N∧i=.int .i64 j∧Hid (Bw w wr∧BV wr (w.heap.size+1)∧Ce wr Q 0 (.slice I us.length uc)∧Ce wr Q 1 (.slice J gs.length gc)∧Ce wr Q 2 (.int .i64 G)∧Ce wr Q 3 (.int .i64 H))∧Hid (∀t y,t<j→xs[t]? =some y→DN false y=0)) (fun i _=>N-(intOf i).toNat)
   case atStart=>exact⟨0,nM _,rfl,dw,fun t y bo=>absurd bo (Nat.not_lt_zero _)⟩
   case round=>
    clear dw bf bx;obtain⟨j,eL,rfl,bp,cB⟩:=hrel;by_cases dx:j<N
    ·have c3:decide ((j:Int)<(N:Int))=true:=nE (by omega)
     obtain⟨x,b6⟩:∃x,xs[j]? =some x:=⟨_,np (by rw[bv.out];exact dx)⟩;obtain⟨eM,eN,h,rfl,eg,dy⟩:=OT (eb.out.on (Aj bp.out.1)) b6;obtain⟨dz,d0⟩:=ec.out x (nD b6);obtain⟨bb,d1⟩:∃bb,Hid (DN false x=bb):=⟨_,rfl⟩;have ej:=hid b6;obtain⟨k,m,u,g,o,nh,d,ks⟩:=x;obtain⟨ek,q1,q2,el,q4,q5,q6,q7⟩:=eg;have ba:=Du wr (Ap k m u g o nh d ks h);have em:=As.new wr k m u g o nh d ks h;have d2:Hid (Calls prog 11 #[(AY k m u g o nh d ks h),.bool false] (wr.alloc (Ap k m u g o nh d ks h)) fun e c4=>e=.returned (Am bb)∧Bw (wr.alloc (Ap k m u g o nh d ks h)) c4):=by
      have e:=KC false (dy.on (Aj ba)) dz d0;rw[d1.out]at e;exact e
     have d3:Hid (Bw w (wr.alloc (Ap k m u g o nh d ks h))∧BV (wr.alloc (Ap k m u g o nh d ks h)) (w.heap.size+1)∧Ce (wr.alloc (Ap k m u g o nh d ks h)) Q 0 (.slice I us.length uc)∧Ce (wr.alloc (Ap k m u g o nh d ks h)) Q 1 (.slice J gs.length gc)∧Ce (wr.alloc (Ap k m u g o nh d ks h)) Q 2 (.int .i64 G)∧Ce (wr.alloc (Ap k m u g o nh d ks h)) Q 3 (.int .i64 H)):=by
      obtain⟨a7,bg,c5,c6,c8,c9⟩:=bp.out;exact⟨a7.trans (ba.mono a7.size),bg.below ba,Ad ba c5,Ad ba c6,Ad ba c8,Ad ba c9⟩
     obtain⟨⟨en,eo,ep,eq,er,es,f6,eu⟩,_⟩:=em;clear b6 dz d0 dy ba bp;go_upto_region 9 with fail
     generalize wr.alloc (Ap k m u g o nh d ks h)=eO at*;go_wp2_with fail
     refine nn d2.out ?_;rintro e bd ⟨rfl,be⟩;have b7:Hid (Bw w bd∧BV bd (w.heap.size+1)∧Ce bd Q 0 (.slice I us.length uc)∧Ce bd Q 1 (.slice J gs.length gc)∧Ce bd Q 2 (.int .i64 G)∧Ce bd Q 3 (.int .i64 H)):=by
      obtain⟨a7,bg,c5,c6,c8,c9⟩:=d3.out;exact⟨a7.trans (be.mono a7.size),bg.below be,Ad be c5,Ad be c6,Ad be c8,Ad be c9⟩
     clear be d2 d3 ek q1 q2 el q4 q5 q6 q7 en eo ep eq er es f6 eu;by_cases hF:bb=0
     ·rw[Cr hF]
      have ev:=hid hF;clear hF;go_wp2;go_roundw
      case rel=>
       refine⟨j+1,by omega,by go_num,b7,fun t y bo da=>?_⟩;by_cases e:t=j
       ·subst e
        rw[ej.out]at da;cases da;rw[d1.out,ev.out]
       ·exact cB.out t y (by omega) da
      case measure=>(simp[intOf];try omega)
     ·have bl:=AH (n:=bb) rfl hF
      rw[bl];have eB:=hid hF;have eE:=hid b7.out.2.1;clear c3;have z3:=eE.out;obtain⟨R,T,V,ad⟩:=z3.store (x:=zN) (hd:=zH) (nZ _);have Y:=hid T;have Z:=hid ((b7.out.1).trans (V.below (Nat.le_succ _) (b7.out.1).size));obtain⟨aa,O⟩:∃aa,Ar bd (w.heap.size+1) zN zH=aa:=⟨_,rfl⟩;rw[O]at R Y Z;simp only[zN,zH,Ar,nQ]at O;obtain⟨⟨z0,bA,bB,z4,z5,bC,bF,bG⟩,F⟩:=z3.1;have bH:=F 0;have bY:=F 1;have b0:=F 2;have b1:=F 3;have b2:=F 4;have b3:=F 5;have b4:=F 6;have b5:=F 7;obtain⟨⟨ak,g1,ao,g3,g4,ap,az,a1⟩,_⟩:=R;have a6:Hid _:=O;clear O F T V ad z3;go_wp2;rw[a6.out];refine nF (v:=.tuple #[.agg #[.int .i64 0,.int .i64 0,.int .i64 0,.int .i64 0,.bool false,.slice none 0 0,.string ⟨#[]⟩,.slice none 0 0],.iface 74 (.int .i64 bb)]) (by simp[results,results14,go_sem,zH,ak,g1,ao,g3,g4,ap,az,a1]) rfl ⟨⟨bb,zN,zH,by rw[bl];rfl,Y.out,fun e=>absurd e (eB.out)⟩,Z.out⟩
    ·obtain rfl:j=N:=by omega
     have c3:=nA (by omega);have eF:Hid (∀x∈xs,DN false x=0):=fun x hx=>by
      obtain⟨t,bo⟩:=n5 hx;exact cB.out t x (by have:=(nw.1 bo).1;rw[bv.out]at this;exact this) bo
     obtain⟨a7,bg,c0,c1,c2,ab⟩:=id bp.out;rw[←dr.out]at c0 c1 c2 ab;have b9:=hid a7;have d4:=hid bg;have bs:Hid _:=Hk (W:=wr) (S:=fun _=>false) (fun _ eG=>(by cases eG)) (x:=(.mk 2 493 G H false [] ⟨#[]⟩ [])) (h:=zH) (by rw[C4];exact Ly _ _ _ _ _ _ _) (GB _ (by rw[cnt,cntL];omega) (by rw[AB,Bt];exact⟨⟨by decide,fun r eH=>(by cases eH)⟩,by decide,trivial⟩)) (by rw[cnt,cntL];omega) ed.out (M:=⟨I,J,uc,gc,us,gs⟩) (ea.out.below a7);obtain⟨cb,d5⟩:∃cb,Hid (Bh true us gs (.mk 2 493 G H false [] ⟨#[]⟩ [])=cb):=⟨_,rfl⟩;have bs:Hid (Calls prog 30 #[.agg #[.slice I us.length uc,.slice J gs.length gc],.agg #[.int .i64 2,.int .i64 493,.int .i64 G,.int .i64 H,.bool false,.slice none 0 0,.string ⟨#[]⟩,.slice none 0 0]] wr fun e c4=>Hh wr c4 (fun _=>false) e cb):=by
      have e:=bs.out;rw[d5.out]at e;exact e
     clear a7 bg bp cB dx;go_upto_region 13 with fail
     clear c3;go_wp2_with fail
     refine nn bs.out ?_;cases cb with
     |none=>
      rintro e db ⟨rfl,q5⟩;have bu:=hid (b9.out.trans (q5.mono b9.out.size));have dd:=hid (d4.out.below q5);clear q5 bs c0 c1 c2 ab;rw[show Ao zN zH=.agg #[.int .i64 0,.int .i64 0,.int .i64 0,.int .i64 0,.bool false,.slice none 0 0,.string ⟨#[]⟩,.slice none 0 0]from rfl];have z3:=dd.out;obtain⟨R,T,V,ad⟩:=z3.store (x:=zN) (hd:=zH) (nZ _);have Y:=hid T;have Z:=hid ((bu.out).trans (V.below (Nat.le_succ _) (bu.out).size));obtain⟨aa,O⟩:∃aa,Ar db (w.heap.size+1) zN zH=aa:=⟨_,rfl⟩;rw[O]at R Y Z;simp only[zN,zH,Ar,nQ]at O;obtain⟨⟨z0,bA,bB,z4,z5,bC,bF,bG⟩,F⟩:=z3.1;have bH:=F 0;have bY:=F 1;have b0:=F 2;have b1:=F 3;have b2:=F 4;have b3:=F 5;have b4:=F 6;have b5:=F 7;obtain⟨⟨ak,g1,ao,g3,g4,ap,az,a1⟩,_⟩:=R;have a6:Hid _:=O;clear O F T V ad z3;go_wp2;rw[a6.out];refine nF (v:=.tuple #[.agg #[.int .i64 0,.int .i64 0,.int .i64 0,.int .i64 0,.bool false,.slice none 0 0,.string ⟨#[]⟩,.slice none 0 0],.iface 74 (.int .i64 11)]) (by simp[results,results14,go_sem,zH,ak,g1,ao,g3,g4,ap,az,a1]) rfl ⟨⟨11,zN,zH,rfl,Y.out,fun e=>absurd e (by decide)⟩,Z.out⟩
     |some y=>
      rintro e db ⟨⟨bi,rfl,de⟩,q5⟩;rw[C4]at de;have eI:=hid de;have bu:=hid (b9.out.trans (q5.mono b9.out.size));have dd:=hid (d4.out.below q5);have eJ:Hid (Mf us gs cs G H ck q xs y):=⟨bn.out.1,bn.out.2.1,bn.out.2.2.1,bn.out.2.2.2.1,bn.out.2.2.2.2,by rw[bv.out];exact ef.out,eF.out,d5.out⟩;clear q5 bs c0 c1 c2 ab de;obtain⟨k,m,u,g,o,nh,d,ks⟩:=y;rw[show Ao (.mk k m u g o nh d ks) bi=(AY k m u g o nh d ks bi)from rfl];have z3:=dd.out;obtain⟨R,T,V,ad⟩:=z3.store (x:=(.mk k m u g o nh d ks)) (hd:=bi) eI.out;have Y:=hid T;have Z:=hid ((bu.out).trans (V.below (Nat.le_succ _) (bu.out).size));obtain⟨aa,O⟩:∃aa,Ar db (w.heap.size+1) (.mk k m u g o nh d ks) bi=aa:=⟨_,rfl⟩;rw[O]at R Y Z;simp only[Ar]at O;obtain⟨⟨z0,bA,bB,z4,z5,bC,bF,bG⟩,F⟩:=z3.1;have bH:=F 0;have bY:=F 1;have b0:=F 2;have b1:=F 3;have b2:=F 4;have b3:=F 5;have b4:=F 6;have b5:=F 7;obtain⟨⟨ak,g1,ao,g3,g4,ap,az,a1⟩,_⟩:=R;have a6:Hid _:=O;clear O F T V ad z3;go_wp2;rw[a6.out];refine nF (v:=.tuple #[(AY k m u g o nh d ks bi),.nilIface]) (by simp[results,results14,go_sem,ak,g1,ao,g3,g4,ap,az,a1]) rfl ⟨⟨0,(.mk k m u g o nh d ks),bi,rfl,Y.out,fun _=>eJ.out⟩,Z.out⟩
end Go.Proofs.YtgppjbhaimmlpaaGreatDoor
