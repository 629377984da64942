/-
  TopQuota: Um Uk Ul Umb.
-/
import Derived.Test.YtofhphibahcniaaGreatDoorApX
import Derived.Test.YtofhphibahcniaaGreatDoorEaX
import Derived.Test.YtofhphibahcniaaGreatDoorKcX
import Derived.RangeFuncCalls
set_option maxRecDepth 100000
set_option maxHeartbeats 16000000
namespace Go.Proofs.YtofhphibahcniaaGreatDoor
open Go.RowKit Go.Proofs.Tryz
theorem On{us gs:List Rg}{f:Int}:∀{A:List (Nd×BA)} (B:List (Nd×BA)),Cb us gs A=.error f→Cb us gs (A++B)=.error f
 |[],B,h=>by cases h
 |(x,m)::r,B,h=>by
  rw[n9,Cb];rw[Cb]at h;cases hm:Bm true us gs x with
  |none=>rw[hm]at h;exact h
  |some y=>
   rw[hm]at h;dsimp only at h⊢;by_cases F:AY m=false
   ·rw[nD F]at h⊢;exact h
   ·rw[nC F]at h⊢
    cases hb:Cb us gs r with
    |error G=>
     rw[hb]at h;rw[On B hb];exact h
    |ok L=>rw[hb]at h;cases h
def DQ(F:List Nd)(G:List BA):List (Nd×BA):=(F.zip G).map fun p=>(CP p.1,p.2)
theorem Ud{F:List Nd}{G:List BA}(h:F.length≤G.length):(DQ F G).length=F.length:=by
 unfold DQ;rw[rk,List.length_zip,Nat.min_eq_left h]
theorem Vx{F:List Nd}{G:List BA}{j:Nat}{y:Nd}{nm:BA}(H:F[j]? =some y)(I:G[j]? =some nm):(DQ F G)[j]? =some (CP y,nm):=by
 unfold DQ;rw[n4,(List.getElem?_zip_eq_some (z:=(y,nm))).2 ⟨H,I⟩];rfl
theorem ae{F:List Nd}{G:List BA}{j:Nat}{y:Nd}{nm:BA}(H:F[j]? =some y)(I:G[j]? =some nm):(DQ F G).take (j+1)=(DQ F G).take j++[(CP y,nm)]:=Hu (Vx H I)
def DR(n₀:Nat)(v:Value)(S:Nat→Bool):Nat→Bool:=fun k=>(k==n₀||k==n₀+1)||v.ownBlock==some k||S k
structure GT (S:Nat→Bool) (W:World) (ua ga:Option Addr) (nu ng uc gc:Nat) (v:Value) (L:List Fl) (wr:World):Prop where
 low:Below W.heap.size W wr
 m0:wr.cell? ⟨W.heap.size,0,none⟩=some (.slice ua nu uc)
 m1:wr.cell? ⟨W.heap.size,1,none⟩=some (.slice ga ng gc)
 rb:Av wr (W.heap.size+1) zN zH
 row:wr.ownsRow (W.heap.size+1+1) 54 8 v L.length (Bj L)
 nd:∀f∈L,Ah (Ag wr.cell? (DR W.heap.size v S)) f.x f.h
theorem GT.below{S:Nat→Bool}{W:World}{F G:Option Addr}{H I uc gc:Nat}{v:Value}{L:List Fl}{wr w':World}(h:GT S W F G H I uc gc v L wr)(hb:Below wr.heap.size wr w'):GT S W F G H I uc gc v L w':=
 ⟨h.low.trans (hb.mono h.low.size),Aj hb _ _ h.m0,Aj hb _ _ h.m1,h.rb.below hb,Fp h.row hb,fun f J=>(h.nd f J).on (CN hb)⟩
theorem GT.hid{S:Nat→Bool}{W:World}{G H:Option Addr}{I J uc gc:Nat}{v:Value}{L:List Fl}{wr:World}(O:∀k,S k=true→k<W.heap.size)(h:GT S W G H I J uc gc v L wr):∀k,DR W.heap.size v S k=true→k<wr.heap.size:=fun k F=>by
 simp[DR]at F;have Q:=h.rb.1.lt;rcases F with((e|e)|e)|e
 ·omega
 ·omega
 ·exact(h.row.lt k e).2
 ·exact nH (O k e) h.low.size
theorem GT.app{S:Nat→Bool}{W:World}{R T:Option Addr}{V Y uc gc:Nat}{v F:Value}{L:List Fl}{wr w':World}(h:GT S W R T V Y uc gc v L wr){f:Fl}(ab:Ah (Ag wr.cell? (DR W.heap.size v S)) f.x f.h)(ad:w'.ownsRow (W.heap.size+1+1) 54 8 F (L++[f]).length (Bj (L++[f])))(H:wr.grownBy w' v.ownBlock)(ak:F.ownBlock=v.ownBlock∨F.ownBlock=some wr.heap.size):GT S W R T V Y uc gc F (L++[f]) w':=by
 have I:∀g,v.ownBlock=some g→W.heap.size+1+1≤g∧g<wr.heap.size:=fun g e=>h.row.lt g e;have Z:AR (Ag wr.cell? (DR W.heap.size v S)) (Ag w'.cell? (DR W.heap.size F S)):=BN fun k ao G=>by
  simp[DR]at G;refine⟨?_,H.block k ao (fun e=>G.1.2 e.symm)⟩;simp[DR];refine⟨⟨G.1.1,?_⟩,G.2⟩;rcases ak with e|e
  ·rw[e];exact G.1.2
  ·rw[e];intro J;cases J;omega
 have O:∀q:Addr,q.block<W.heap.size+1+1→q.block<wr.heap.size→w'.cell? q=wr.cell? q:=fun q ap Q=>nS (H.block q.block Q (fun e=>by have:=I _ e.symm;omega));have ar:∀q:Addr,q.block<W.heap.size+1+1→q.block<wr.heap.size→w'.frozen? q=wr.frozen? q:=fun q ap Q=>World.frozen?_of_block (H.block q.block Q (fun e=>by have:=I _ e.symm;omega))
 have aa:=h.rb.1.lt;refine⟨h.low.grown H h.low.size (fun g e=>by have:=I g e;omega),(O (aD W.heap.size 0) (by show W.heap.size<_;omega) (bL h.m0)).trans h.m0,(O (aD W.heap.size 1) (by show W.heap.size<_;omega) (bL h.m1)).trans h.m1,⟨?_,fun j=>(ar (aD (W.heap.size+1) j) (by show W.heap.size+1<_;omega) aa).trans (h.rb.2 j)⟩,ad,?_⟩
 ·obtain⟨ay,az,J,a1,a6,a7,a8,ba⟩:=h.rb.1
  have k:∀j u,Ce wr (W.heap.size+1) j u→Ce w' (W.heap.size+1) j u:=fun j u e=>(O (aD (W.heap.size+1) j) (by show W.heap.size+1<_;omega) aa).trans e;exact⟨k _ _ ay,k _ _ az,k _ _ J,k _ _ a1,k _ _ a6,k _ _ a7,k _ _ a8,k _ _ ba⟩
 ·intro bb bd
  rcases rd.1 bd with e|e
  ·exact(h.nd bb e).on Z
  ·rw[rj]at e;rw[e];exact ab.on Z
theorem UV{w:World}{base:Nat}{v:Value}{L:List Fl}(h:w.ownsRow base 54 8 v L.length (Bj L)):L=[]∨∃g cap,v=sL g 0 L.length cap∧base≤g∧L.length≤cap∧(∀(i:Nat) f,L[i]? =some f→Bi w.cell? g (i*8) f.x f.h)∧∀j,w.frozen? (aD g j)=false:=by
 rcases h.2 with⟨_,G⟩|⟨g,cap,Q,rfl,hb,F,H,R,T,I⟩
 ·exact .inl (rq.1 G)
 ·refine .inr ⟨g,cap,rfl,hb,H,fun i f J=>Ec.2 fun q u O=>?_,fun j=>by simp[World.frozen?,F]⟩
  exact F7 F I (JD L i f J q u O)
end Go.Proofs.YtofhphibahcniaaGreatDoor
namespace Go.Proofs.YtofhphibahcniaaGreatDoor
open Go.RowKit Go.Shelf Go.Proofs.Tryz
structure Bt (S:Nat→Bool) (w A:World) (Sx:Nat→Bool) (st:Loop) (vn vf:Value) (L:List Fl) (N:Nd) (hb:Hd) (ly nbx vb vo:Nat) (vs:Value) (c0 c1 c2 c3 c4 c5 c6 c7 c8 c9 c10 c11 c12 c13:Bool) (t24 t25 t26 t27 t28 t29 t30 t31 t32 t33 t34 t35:Value) (W:World):Prop where
 f0:c0=true→t24=vn
 f1:c1=true→t25=Al N hb
 f5:c5=true→t29=vf
 f6:c6=true→t30=vs
 f7:c7=true→t31=.pointer (some ⟨vb,vo,none⟩)
 f8:c8=true→t32=.pointer (some ⟨vb,vo+1,none⟩)
 f9:c9=true→t33=.int .i64 ly
 q2:c2=true→c1=true
 q3:c3=true→c2=true
 q4:c4=true→c0=true∧c3=true
 q10:c10=true→c9=true
 q11:c11=true→c4=true∧c5=true∧c10=true
 q12:c12=true→c11=true
 q13:c13=true→c12=true
 p0:c2=false→XA S w A Sx st vn vf L L vn vf W∧Av W nbx N hb∧Ah (Ag W.cell? (Cc w.heap.size vn vf S)) N hb
 p1:c2=true→c3=false→∃h',t26=Al N h'∧XA S w A Sx st vn vf L L vn vf W∧Ah (Ag W.cell? (Cc w.heap.size vn vf S)) N h'
 p2:c3=true→c4=false→∃h' g,t27=.slice (some ⟨g,0,none⟩) 1 1∧XA S w A Sx st vn vf L L vn vf W∧Ah (Ag W.cell? (Cc w.heap.size vn vf S)) N h'∧∀j u,(Bl N h')[j]? =some u→W.cell? ⟨g,j,none⟩=some u
 p3:c4=true→c11=false→∃h',XA S w A Sx st t28 vf (L++[(⟨N,h',ly⟩:Fl)]) L vn vf W
 p4:c11=true→c12=false→∃h',XA S w A Sx st t28 t35 (L++[(⟨N,h',ly⟩:Fl)]) (L++[(⟨N,h',ly⟩:Fl)]) vn vf W
 p5:c12=true→c13=false→∃h',XA S w A Sx st t28 t35 (L++[(⟨N,h',ly⟩:Fl)]) (L++[(⟨N,h',ly⟩:Fl)]) t28 vf W
 p6:c13=true→∃h',XA S w A Sx st t28 t35 (L++[(⟨N,h',ly⟩:Fl)]) (L++[(⟨N,h',ly⟩:Fl)]) t28 t35 W
 p10:c10=true→c11=false→∃g,t34=.slice (some ⟨g,0,none⟩) 1 1∧W.cell? ⟨g,0,none⟩=some (.int .i64 ly)∧A.heap.size≤g
theorem Bt.below{S:Nat→Bool}{w A:World}{Sx:Nat→Bool}{st:Loop}{vn vf:Value}{L:List Fl}{N:Nd}{hb:Hd}{ly nbx vb vo:Nat}{H:Value}{c0 c1 c2 I J O Q c7 R T V Y Z aa:Bool}{ab t25 ad ak ao ap ar t31 ay az a1 t35:Value}{W a6:World}(h:Bt S w A Sx st vn vf L N hb ly nbx vb vo H c0 c1 c2 I J O Q c7 R T V Y Z aa ab t25 ad ak ao ap ar t31 ay az a1 t35 W)(F:Below W.heap.size W a6):Bt S w A Sx st vn vf L N hb ly nbx vb vo H c0 c1 c2 I J O Q c7 R T V Y Z aa ab t25 ad ak ao ap ar t31 ay az a1 t35 a6:=
 ⟨h.f0,h.f1,h.f5,h.f6,h.f7,h.f8,h.f9,h.q2,h.q3,h.q4,h.q10,h.q11,h.q12,h.q13,fun e=>(h.p0 e).imp (fun x=>x.below F) (fun x=>x.imp (fun y=>y.below F) (fun y=>y.on (CN F))),
   fun e G=>let⟨h',a,b,c⟩:=h.p1 e G;⟨h',a,b.below F,c.on (CN F)⟩,
   fun e G=>let⟨h',g,a,b,c,d⟩:=h.p2 e G;⟨h',g,a,b.below F,c.on (CN F),fun j u a7=>Aj F _ _ (d j u a7)⟩,
   fun e G=>let⟨h',a⟩:=h.p3 e G;⟨h',a.below F⟩,fun e G=>let⟨h',a⟩:=h.p4 e G;⟨h',a.below F⟩,fun e G=>let⟨h',a⟩:=h.p5 e G;⟨h',a.below F⟩,fun e=>let⟨h',a⟩:=h.p6 e;⟨h',a.below F⟩,
   fun e G=>let⟨g,a,b,c⟩:=h.p10 e G;⟨g,a,Aj F _ _ b,c⟩⟩
theorem Bt.o0{S:Nat→Bool}{w A:World}{Sx:Nat→Bool}{st:Loop}{vn vf:Value}{L:List Fl}{N:Nd}{hb:Hd}{ly nbx vb vo:Nat}{F:Value}{c1 c2 G H I J c7 O Q R T V Y:Bool}{ay t25 Z aa ab ad ak t31 ao ap ar t35:Value}{W:World}(h:Bt S w A Sx st vn vf L N hb ly nbx vb vo F false c1 c2 G H I J c7 O Q R T V Y ay t25 Z aa ab ad ak t31 ao ap ar t35 W):Bt S w A Sx st vn vf L N hb ly nbx vb vo F true c1 c2 G H I J c7 O Q R T V Y (vn) t25 Z aa ab ad ak t31 ao ap ar t35 W:=
 ⟨(fun _=>rfl),h.f1,h.f5,h.f6,h.f7,h.f8,h.f9,h.q2,h.q3,(fun e=>⟨rfl,(h.q4 e).2⟩),h.q10,h.q11,h.q12,h.q13,h.p0,h.p1,h.p2,h.p3,h.p4,h.p5,h.p6,h.p10⟩
theorem Bt.o1{S:Nat→Bool}{w A:World}{Sx:Nat→Bool}{st:Loop}{vn vf:Value}{L:List Fl}{N:Nd}{hb:Hd}{ly nbx vb vo:Nat}{F:Value}{c0 c2 G H I J c7 O Q R T V Y:Bool}{Z t25 aa ab ad ak ao t31 ap ar ay t35:Value}{W:World}(h:Bt S w A Sx st vn vf L N hb ly nbx vb vo F c0 false c2 G H I J c7 O Q R T V Y Z t25 aa ab ad ak ao t31 ap ar ay t35 W):Bt S w A Sx st vn vf L N hb ly nbx vb vo F c0 true c2 G H I J c7 O Q R T V Y Z (Al N hb) aa ab ad ak ao t31 ap ar ay t35 W:=
 ⟨h.f0,(fun _=>rfl),h.f5,h.f6,h.f7,h.f8,h.f9,(fun _=>rfl),h.q3,h.q4,h.q10,h.q11,h.q12,h.q13,h.p0,h.p1,h.p2,h.p3,h.p4,h.p5,h.p6,h.p10⟩
theorem Bt.o5{S:Nat→Bool}{w A:World}{Sx:Nat→Bool}{st:Loop}{vn vf:Value}{L:List Fl}{N:Nd}{hb:Hd}{ly nbx vb vo:Nat}{F:Value}{c0 c1 c2 G H I c7 J O Q R T V:Bool}{Y t25 Z aa ab ar ad t31 ak ao ap t35:Value}{W:World}(h:Bt S w A Sx st vn vf L N hb ly nbx vb vo F c0 c1 c2 G H false I c7 J O Q R T V Y t25 Z aa ab ar ad t31 ak ao ap t35 W):Bt S w A Sx st vn vf L N hb ly nbx vb vo F c0 c1 c2 G H true I c7 J O Q R T V Y t25 Z aa ab (vf) ad t31 ak ao ap t35 W:=
 ⟨h.f0,h.f1,(fun _=>rfl),h.f6,h.f7,h.f8,h.f9,h.q2,h.q3,h.q4,h.q10,(fun e=>⟨(h.q11 e).1,rfl,(h.q11 e).2.2⟩),h.q12,h.q13,h.p0,h.p1,h.p2,h.p3,h.p4,h.p5,h.p6,h.p10⟩
theorem Bt.o6{S:Nat→Bool}{w A:World}{Sx:Nat→Bool}{st:Loop}{vn vf:Value}{L:List Fl}{N:Nd}{hb:Hd}{ly nbx vb vo:Nat}{F:Value}{c0 c1 c2 G H I c7 J O Q R T V:Bool}{Y t25 Z aa ab ad ar t31 ak ao ap t35:Value}{W:World}(h:Bt S w A Sx st vn vf L N hb ly nbx vb vo F c0 c1 c2 G H I false c7 J O Q R T V Y t25 Z aa ab ad ar t31 ak ao ap t35 W):Bt S w A Sx st vn vf L N hb ly nbx vb vo F c0 c1 c2 G H I true c7 J O Q R T V Y t25 Z aa ab ad (F) t31 ak ao ap t35 W:=
 ⟨h.f0,h.f1,h.f5,(fun _=>rfl),h.f7,h.f8,h.f9,h.q2,h.q3,h.q4,h.q10,h.q11,h.q12,h.q13,h.p0,h.p1,h.p2,h.p3,h.p4,h.p5,h.p6,h.p10⟩
theorem Bt.o7{S:Nat→Bool}{w A:World}{Sx:Nat→Bool}{st:Loop}{vn vf:Value}{L:List Fl}{N:Nd}{hb:Hd}{ly nbx vb vo:Nat}{F:Value}{c0 c1 c2 G H I J O Q R T V:Bool}{Y t25 Z aa ab ad ak t31 ao ap ar t35:Value}{W:World}(h:Bt S w A Sx st vn vf L N hb ly nbx vb vo F c0 c1 c2 G H I true false J O Q R T V Y t25 Z aa ab ad ak t31 ao ap ar t35 W):Bt S w A Sx st vn vf L N hb ly nbx vb vo F c0 c1 c2 G H I true true J O Q R T V Y t25 Z aa ab ad ak (pO vb vo) ao ap ar t35 W:=
 ⟨h.f0,h.f1,h.f5,h.f6,(fun _=>rfl),h.f8,h.f9,h.q2,h.q3,h.q4,h.q10,h.q11,h.q12,h.q13,h.p0,h.p1,h.p2,h.p3,h.p4,h.p5,h.p6,h.p10⟩
theorem Bt.o8{S:Nat→Bool}{w A:World}{Sx:Nat→Bool}{st:Loop}{vn vf:Value}{L:List Fl}{N:Nd}{hb:Hd}{ly nbx vb vo:Nat}{F:Value}{c0 c1 c2 G H I J O Q R T V:Bool}{Y t25 Z aa ab ad ak t31 ar ao ap t35:Value}{W:World}(h:Bt S w A Sx st vn vf L N hb ly nbx vb vo F c0 c1 c2 G H I J true false O Q R T V Y t25 Z aa ab ad ak t31 ar ao ap t35 W):Bt S w A Sx st vn vf L N hb ly nbx vb vo F c0 c1 c2 G H I J true true O Q R T V Y t25 Z aa ab ad ak t31 (pO vb (vo+1)) ao ap t35 W:=
 ⟨h.f0,h.f1,h.f5,h.f6,h.f7,(fun _=>rfl),h.f9,h.q2,h.q3,h.q4,h.q10,h.q11,h.q12,h.q13,h.p0,h.p1,h.p2,h.p3,h.p4,h.p5,h.p6,h.p10⟩
theorem Bt.o9{S:Nat→Bool}{w A:World}{Sx:Nat→Bool}{st:Loop}{vn vf:Value}{L:List Fl}{N:Nd}{hb:Hd}{ly nbx vb vo:Nat}{F:Value}{c0 c1 c2 G H I J c7 O Q R T:Bool}{V t25 Y Z aa ab ad t31 ak ap ao t35:Value}{W:World}(h:Bt S w A Sx st vn vf L N hb ly nbx vb vo F c0 c1 c2 G H I J c7 true false O Q R T V t25 Y Z aa ab ad t31 ak ap ao t35 W):Bt S w A Sx st vn vf L N hb ly nbx vb vo F c0 c1 c2 G H I J c7 true true O Q R T V t25 Y Z aa ab ad t31 ak (iN ly) ao t35 W:=
 ⟨h.f0,h.f1,h.f5,h.f6,h.f7,h.f8,(fun _=>rfl),h.q2,h.q3,h.q4,(fun _=>rfl),h.q11,h.q12,h.q13,h.p0,h.p1,h.p2,h.p3,h.p4,h.p5,h.p6,h.p10⟩
theorem Bt.o2{S:Nat→Bool}{w A:World}{Sx:Nat→Bool}{st:Loop}{vn vf:Value}{L:List Fl}{N:Nd}{hb:Hd}{ly nbx vb vo:Nat}{G:Value}{c0 H I J O c7 Q R T V Y Z:Bool}{aa t25 az ab ad ak ao t31 ap ar ay t35:Value}{W F:World}(h:Bt S w A Sx st vn vf L N hb ly nbx vb vo G c0 true false H I J O c7 Q R T V Y Z aa t25 az ab ad ak ao t31 ap ar ay t35 W){h':Hd}(a1:Below W.heap.size W F)(a6:Ah (Ag F.cell? (Cc w.heap.size vn vf S)) N h'):Bt S w A Sx st vn vf L N hb ly nbx vb vo G c0 true true H I J O c7 Q R T V Y Z aa t25 (Al N h') ab ad ak ao t31 ap ar ay t35 F:=by
 have h:=h.below a1;exact⟨h.f0,h.f1,h.f5,h.f6,h.f7,h.f8,h.f9,(fun _=>rfl),(fun _=>rfl),h.q4,h.q10,h.q11,h.q12,h.q13,(fun e=>by cases e),(fun _ _=>⟨h',rfl,(h.p0 rfl).1,a6⟩),(fun e=>by cases h.q3 e),h.p3,h.p4,h.p5,h.p6,h.p10⟩
theorem Bt.o3{S:Nat→Bool}{w A:World}{Sx:Nat→Bool}{st:Loop}{vn vf:Value}{L:List Fl}{N:Nd}{hb:Hd}{ly nbx vb vo:Nat}{I:Value}{c0 c1 J O Q c7 R T V Y Z aa:Bool}{ab t25 F az ad ak ao t31 ap ar ay t35:Value}{W G:World}(h:Bt S w A Sx st vn vf L N hb ly nbx vb vo I c0 c1 true false J O Q c7 R T V Y Z aa ab t25 F az ad ak ao t31 ap ar ay t35 W){h':Hd}{g:Nat}(_ht:F=Al N h')(a1:Ah (Ag W.cell? (Cc w.heap.size vn vf S)) N h')(H:Below W.heap.size W G)(a6:∀j u,(Bl N h')[j]? =some u→G.cell? (aD g j)=some u):Bt S w A Sx st vn vf L N hb ly nbx vb vo I c0 c1 true true J O Q c7 R T V Y Z aa ab t25 F (sL g 0 1 1) ad ak ao t31 ap ar ay t35 G:=by
 have a7:=(let⟨_,_,b,_⟩:=(h.below H).p1 rfl rfl;b);have h:=h.below H;exact⟨h.f0,h.f1,h.f5,h.f6,h.f7,h.f8,h.f9,h.q2,(fun _=>rfl),(fun e=>⟨(h.q4 e).1,rfl⟩),h.q10,h.q11,h.q12,h.q13,h.p0,(fun _ e=>by cases e),(fun _ _=>⟨h',g,rfl,a7,a1.on (CN H),a6⟩),(fun e=>by cases (h.q4 e).2),h.p4,h.p5,h.p6,h.p10⟩
theorem Bt.o4{S:Nat→Bool}{w A:World}{Sx:Nat→Bool}{st:Loop}{vn vf:Value}{L:List Fl}{N:Nd}{hb:Hd}{ly nbx vb vo:Nat}{H:Value}{c1 c2 I J c7 O Q R T V Y:Bool}{Z t25 aa ab az ad ak t31 ao ap ar t35:Value}{W G:World}(h:Bt S w A Sx st vn vf L N hb ly nbx vb vo H true c1 c2 true false I J c7 O Q R T V Y Z t25 aa ab az ad ak t31 ao ap ar t35 W){h':Hd}{F:Value}(a1:∀g,vn.ownBlock=some g→g<A.heap.size)(a6:XA S w A Sx st vn vf L L vn vf W)(a7:Ah (Ag W.cell? (Cc w.heap.size vn vf S)) N h')(a8:G.ownsRow (w.heap.size+1+1) 54 8 F (L++[(⟨N,h',ly⟩:Fl)]).length (Bj (L++[(⟨N,h',ly⟩:Fl)])))(ay:W.grownBy G vn.ownBlock)(ba:F.ownBlock=vn.ownBlock∨F.ownBlock=some W.heap.size):Bt S w A Sx st vn vf L N hb ly nbx vb vo H true c1 c2 true true I J c7 O Q R T V Y Z t25 aa ab (F) ad ak t31 ao ap ar t35 G:=by
 exact⟨h.f0,h.f1,h.f5,h.f6,h.f7,h.f8,h.f9,h.q2,h.q3,(fun _=>⟨rfl,rfl⟩),h.q10,(fun e=>⟨rfl,(h.q11 e).2⟩),h.q12,h.q13,(fun e=>by cases e.symm.trans (h.q3 rfl)),(fun _ e=>by cases e),(fun _ e=>by cases e),(fun _ _=>⟨h',a6.appN (f:=⟨N,h',ly⟩) a7 a8 ay ba⟩),(fun e=>by cases (h.q11 e).1),(fun e=>by cases (h.q11 (h.q12 e)).1),(fun e=>by cases (h.q11 (h.q12 (h.q13 e))).1),(fun e bb=>let⟨g,a,b,c⟩:=h.p10 e bb;⟨g,a,(nS (a:=(aD g 0)) (ay.block g (bL b) (fun e=>by have:=a1 g e.symm;omega))).trans b,c⟩)⟩
theorem Bt.o10{S:Nat→Bool}{w A:World}{Sx:Nat→Bool}{st:Loop}{vn vf:Value}{L:List Fl}{N:Nd}{hb:Hd}{ly nbx vb vo:Nat}{G:Value}{c0 c1 c2 H I J O c7 Q R T V:Bool}{Y t25 Z aa ab ad ak t31 ao ap ar t35:Value}{W F:World}(h:Bt S w A Sx st vn vf L N hb ly nbx vb vo G c0 c1 c2 H I J O c7 Q true false R T V Y t25 Z aa ab ad ak t31 ao ap ar t35 W){g:Nat}(ay:Below W.heap.size W F)(az:F.cell? (aD g 0)=some (iN ly))(a1:A.heap.size≤g):Bt S w A Sx st vn vf L N hb ly nbx vb vo G c0 c1 c2 H I J O c7 Q true true R T V Y t25 Z aa ab ad ak t31 ao ap (sL g 0 1 1) t35 F:=by
 have h:=h.below ay;exact⟨h.f0,h.f1,h.f5,h.f6,h.f7,h.f8,h.f9,h.q2,h.q3,h.q4,(fun _=>rfl),(fun e=>⟨(h.q11 e).1,(h.q11 e).2.1,rfl⟩),h.q12,h.q13,h.p0,h.p1,h.p2,h.p3,h.p4,h.p5,h.p6,(fun _ _=>⟨g,rfl,az,a1⟩)⟩
theorem Bt.o11{S:Nat→Bool}{w A:World}{Sx:Nat→Bool}{st:Loop}{vn vf:Value}{L:List Fl}{N:Nd}{hb:Hd}{ly nbx vb vo:Nat}{I:Value}{c0 c1 c2 J O c7 Q R T V:Bool}{Y t25 Z aa G ab ad t31 ak ao ap t35:Value}{W H:World}(h:Bt S w A Sx st vn vf L N hb ly nbx vb vo I c0 c1 c2 J true true O c7 Q R true false T V Y t25 Z aa G ab ad t31 ak ao ap t35 W){h':Hd}{F:Value}(ar:XA S w A Sx st G vf (L++[(⟨N,h',ly⟩:Fl)]) L vn vf W)(ay:H.ownsRow (w.heap.size+1+1) 3 1 F (L++[(⟨N,h',ly⟩:Fl)]).length (Fk (L++[(⟨N,h',ly⟩:Fl)])))(az:W.grownBy H vf.ownBlock)(a1:F.ownBlock=vf.ownBlock∨F.ownBlock=some W.heap.size):Bt S w A Sx st vn vf L N hb ly nbx vb vo I c0 c1 c2 J true true O c7 Q R true true T V Y t25 Z aa G ab ad t31 ak ao ap (F) H:=by
 exact⟨h.f0,h.f1,h.f5,h.f6,h.f7,h.f8,h.f9,h.q2,h.q3,h.q4,h.q10,(fun _=>⟨rfl,rfl,rfl⟩),(fun _=>rfl),h.q13,(fun e=>by cases e.symm.trans (h.q3 (h.q4 rfl).2)),(fun _ e=>by cases e.symm.trans (h.q4 rfl).2),(fun _ e=>by cases e),(fun _ e=>by cases e),(fun _ _=>⟨h',ar.appF (f:=⟨N,h',ly⟩) ay az a1⟩),(fun e=>by cases h.q12 e),(fun e=>by cases h.q12 (h.q13 e)),(fun _ e=>by cases e)⟩
theorem Bt.o12{S:Nat→Bool}{w A:World}{Sx:Nat→Bool}{st:Loop}{vn vf:Value}{L:List Fl}{N:Nd}{hb:Hd}{ly nbx vb vo:Nat}{G:Value}{c0 c1 c2 H I J c7 O Q R T:Bool}{V t25 Y Z F aa ab t31 ad ak ao t35:Value}{W:World}(h:Bt S w A Sx st vn vf L N hb ly nbx vb vo G c0 c1 c2 H true I J c7 O Q R true false T V t25 Y Z F aa ab t31 ad ak ao t35 W):Bt S w A Sx st vn vf L N hb ly nbx vb vo G c0 c1 c2 H true I J c7 O Q R true true T V t25 Y Z F aa ab t31 ad ak ao t35 (W.setCell (aD w.heap.size 0) F):=by
 exact⟨h.f0,h.f1,h.f5,h.f6,h.f7,h.f8,h.f9,h.q2,h.q3,h.q4,h.q10,h.q11,(fun _=>rfl),(fun _=>rfl),(fun e=>by cases e.symm.trans (h.q3 (h.q4 rfl).2)),(fun _ e=>by cases e.symm.trans (h.q4 rfl).2),(fun _ e=>by cases e),(fun _ e=>by cases e),(fun _ e=>by cases e),(fun _ _=>let⟨h',a⟩:=h.p4 rfl rfl;⟨h',a.set6 _⟩),(fun e=>by cases h.q13 e),(fun _ e=>by cases e)⟩
theorem Bt.o13{S:Nat→Bool}{w A:World}{Sx:Nat→Bool}{st:Loop}{vn vf:Value}{L:List Fl}{N:Nd}{hb:Hd}{ly nbx vb vo:Nat}{F:Value}{c0 c1 c2 G H I J c7 O Q R:Bool}{T t25 V Y Z aa ab t31 ad ak ao t35:Value}{W:World}(h:Bt S w A Sx st vn vf L N hb ly nbx vb vo F c0 c1 c2 G H I J c7 O Q R true true false T t25 V Y Z aa ab t31 ad ak ao t35 W):Bt S w A Sx st vn vf L N hb ly nbx vb vo F c0 c1 c2 G H I J c7 O Q R true true true T t25 V Y Z aa ab t31 ad ak ao t35 (W.setCell (aD (w.heap.size+1) 0) t35):=by
 exact⟨h.f0,h.f1,h.f5,h.f6,h.f7,h.f8,h.f9,h.q2,h.q3,h.q4,h.q10,h.q11,h.q12,(fun _=>rfl),(fun e=>by cases e.symm.trans (h.q3 (h.q4 (h.q11 rfl).1).2)),(fun _ e=>by cases e.symm.trans (h.q4 (h.q11 rfl).1).2),(fun _ e=>by cases e.symm.trans (h.q11 rfl).1),(fun _ e=>by cases e),(fun _ e=>by cases e),(fun _ e=>by cases e),(fun _=>let⟨h',a⟩:=h.p5 rfl rfl;⟨h',a.set7 _⟩),(fun _ e=>by cases e)⟩
theorem Zk{md:Region.Mode}{G:Array Oper}{F:Array Bool}(H:Region.ready md G F=[])(j:Nat)(I:F.getD j true=false)(o:Oper)(J:G[j]? =some o)(O:∀e∈o.after,Region.binds md e=true→F.getD e.on false=true):False:=by
 have:=mem_ready.2 ⟨I,o,J,O⟩;rw[H]at this;cases this
theorem Fr{l n:Nat}{P:Program}{F:Array Oper}{G:Exit→Act→World→Prop}{i:Nat}{o:Oper}{K:Act→World→Prop}{a:Act}{w:World}(H:F[i]? =some o)(I:o.guard=none)(J:∀c,o.op≠.defer c)(O:∀r args w',(execOp a.eval o).run P w≠.ok (.row r args) w')
 (h:o.wp P a w K G):wpOpIn (Fence.wide.inRound l) n P F G i K a w:=by
 unfold wpOpIn;rw[H];have Q:Region.wanted o (yielded F a.tmps)=true:=by simp[Region.wanted,I]
 simp only[Q,if_true];refine⟨fun f _=>trivial,?_⟩;unfold Oper.wp at h;rw[Fence.inRound_round,Oper.semAt_some _ _ _ J];generalize(execOp a.eval o).run P w=r at*;cases r with
 |ok x w'=>
  cases x<;>simp only[Oper.upon,Oper.uponIn]at h⊢
  case value=>exact h
  case skip=>exact h
  case defer=>exact h
  case enter f args=>exact⟨fun e=>by simp[Fence.inRound,Fence.wide]at e,CallsIn.inRound l (rX.2 h)⟩
  case row=>exact absurd rfl (O _ _ _)
 |halt x w'=>cases x<;>simp only[Oper.upon,Oper.uponIn]at h⊢<;>exact h
theorem PK{l a6:Nat}{P:Program}(w:World){O:Array Oper}{a7:Exit→Act→World→Prop}{j:Nat}{o:Oper}{K:Act→World→Prop}{a:Act}(a8:O[j]? =some o)(ba:o.guard=none)(s x:Operand)(t:TypeId)
 (J:o.op=.call {callee:=.builtin .append,args:=#[s,x],argTypes:=#[t,t]})
 (base:Nat) (e:TypeId) (i:TypeInfo) (z:Value) (size I:Nat) (Q:P.underlying t=some (.slice e)) (R:P.info? e=some i) (T:i.zero=some z)
 (V:i.size=size) (Y:i.bytes=I) (Z:z.cells.size=size) (aa:0<size)
 (v:Value) (n:Nat) (xs:List Value) (ab:a.eval s=v) (ad:w.ownsRow base e size v n xs)
 (G:Option Addr) (m c:Nat) (F:List Value) (hx:a.eval x=.slice G m c) (ak:F.length=m*size) (ao:(G=none∧m=0)∨∃ap,G=some ap∧∀j u,F[j]? =some u→w.cell? (ap.add j)=some u) (ar:∀u∈F,u.oneCell'=true)
 (ay:n+m≤maxLen) (az:(n+m)*I≤140737488355328) (a1:base≤w.heap.size)
 (h:∀H w',w'.ownsRow base e size H (n+m) (xs++F)→w.grownBy w' v.ownBlock→(H.ownBlock=v.ownBlock∨H.ownBlock=some w.heap.size)→K (a.put o.dst H) w'):wpOpIn (Fence.wide.inRound l) a6 P O a7 j K a w:=by
 obtain⟨H,w',bb,bd,be,bf⟩:=PM (P:=P) w base t o.type e i z size I Q R T V Y Z aa v n xs ad G m c F ak ao ar ay az a1;refine Fr a8 ba (fun c=>by rw[J];simp) ?_ (MT w s x t J base e i z size I Q R T V Y Z aa v n xs ab ad G m c F hx ak ao ar ay az a1 h);intro r args w';unfold execOp;simp only[J,resolve,invoke,builtin,Sem.run_bind,Sem.run_pure,Result.andThen_ok,List.map_toArray,rh,List.map_nil,ab,hx,bb];simp
theorem Oo(w:World)(x:Nd)(h:Hd)(t:TypeId):∀j u,(Bl x h)[j]? =some u→(w.alloc (.cells (Bl x h).toArray t)).cell? (aD w.heap.size j)=some u:=by
 intro j u F;refine aC.trans ?_;simpa using F
theorem L1(k m u g:Int)(o:Bool)(nh:List Kv)(d:BA)(ks:Ar)(h:Hd):Al (.mk k m u g o nh d ks) h=.agg #[.int .i64 k,.int .i64 m,.int .i64 u,.int .i64 g,.bool o,.slice h.aa nh.length h.ca,.string d,.slice h.ak ks.length h.ck]:=rfl
theorem Bt.early{S:Nat→Bool}{w A:World}{Sx:Nat→Bool}{st:Loop}{vn vf:Value}{L:List Fl}{N:Nd}{hb:Hd}{ly nbx vb vo:Nat}{H:Value}{c0 c1 c2 F G I J c7 O Q R T V Y:Bool}{Z t25 aa ab ad ak ao t31 ap ar ay t35:Value}{W:World}(h:Bt S w A Sx st vn vf L N hb ly nbx vb vo H c0 c1 c2 F G I J c7 O Q R T V Y Z t25 aa ab ad ak ao t31 ap ar ay t35 W)(e:G=false):XA S w A Sx st vn vf L L vn vf W:=by
 cases h2:c2 with
 |false=>exact(h.p0 h2).1
 |true=>
  cases h3:F with
  |false=>obtain⟨_,_,b,_⟩:=h.p1 h2 h3;exact b
  |true=>obtain⟨_,_,_,b,_⟩:=h.p2 h3 e;exact b
theorem Bt.mid{S:Nat→Bool}{w A:World}{Sx:Nat→Bool}{st:Loop}{vn vf:Value}{L:List Fl}{N:Nd}{hb:Hd}{ly nbx vb vo:Nat}{H:Value}{c0 c1 c2 I F J O c7 Q R T G V Y:Bool}{Z t25 aa ab ad ak ao t31 ap ar ay t35:Value}{W:World}(h:Bt S w A Sx st vn vf L N hb ly nbx vb vo H c0 c1 c2 I F J O c7 Q R T G V Y Z t25 aa ab ad ak ao t31 ap ar ay t35 W)(e:G=false):∃cn az,XA S w A Sx st cn vf az L vn vf W:=by
 cases h4:F with
 |false=>exact⟨_,_,h.early h4⟩
 |true=>obtain⟨_,b⟩:=h.p3 h4 e;exact⟨_,_,b⟩
theorem XA.hid{S:Nat→Bool}{w A:World}{Sx:Nat→Bool}{st:Loop}{cn F:Value}{H I:List Fl}{J O:Value}{W:World}(Q:∀k,S k=true→k<w.heap.size)(h:XA S w A Sx st cn F H I J O W):∀k,Cc w.heap.size cn F S k=true→k<W.heap.size:=fun k G=>by
 simp[Cc]at G;have R:=(nJ.1 h.lk).1;rcases G with(((e|e)|e)|e|e)|e
 ·rw[e];exact h.bn.lt
 ·rw[e];exact h.bf.lt
 ·omega
 ·exact(h.r.rn.lt k e).2
 ·exact(h.r.rf.lt k e).2
 ·exact nH (Q k e) h.low.size
theorem Tryz.infoNd:(prog.info? 54).map (fun i=>(i.zero,i.size,i.bytes))=some (some (.agg #[.int .i64 0,.int .i64 0,.int .i64 0,.int .i64 0,.bool false,.slice none 0 0,.string ⟨#[]⟩,.slice none 0 0]),8,104):=by kernel_rfl
theorem Tryz.infoInt:(prog.info? 3).map (fun i=>(i.zero,i.size,i.bytes))=some (some (.int .i64 0),1,8):=by kernel_rfl
def fS(S:Nat→Bool)(w A:World)(Sx:Nat→Bool)(st:Loop)(vn vf:Value)(L:List Fl)(N:Nd)(hb:Hd)(ly nbx vb vo:Nat)(F:Value)(az a1 a6 a7 a8 ba bb bd be bf bg bi bk bl bn bo bp bs bu bv bx bA:Value)(bB:Array Bool)(a:Act)(W:World):Prop:=∃(c0 c1 c2 G H I J c7 O Q R T V Y:Bool) (Z t25 aa ab ad ak ao t31 ap ar ay t35:Value),bB=#[c0,c1,c2,G,H,I,J,c7,O,Q,R,T,V,Y]∧a=(⟨(az::a1::a6::a7::a8::ba::.pointer (some ⟨w.heap.size,0,none⟩)::.pointer (some ⟨w.heap.size+1,0,none⟩)::F::.pointer (some ⟨nbx,0,none⟩)::bb::bd::be::bf::bg::bi::bk::bl::bn::bo::bp::bs::bu::bv::Z::t25::aa::ab::ad::ak::ao::t31::ap::ar::ay::t35::bx::bA::[]).toArray,[]⟩:Act)∧Bt S w A Sx st vn vf L N hb ly nbx vb vo F c0 c1 c2 G H I J c7 O Q R T V Y Z t25 aa ab ad ak ao t31 ap ar ay t35 W
theorem fX{S:Nat→Bool}{w A:World}{Sx:Nat→Bool}{st:Loop}{vn vf bu:Value}{L:List Fl}{N:Nd}{hb:Hd}{ly nbx vb vo dl vc:Nat}(dk:∀k,S k=true→k<w.heap.size)(dm:Be N)(dn:cnt N≤1000)(dp:∀g,vn.ownBlock=some g→g<A.heap.size)(ef:L.length≤1000)(dr:Ag A.cell? Sx (aD vb (vo+1))=some (iN ly))(ds:bu=sL vb vo (dl+1) vc)
 {bH:Exit→Act→World→Prop} {l:Nat} {bY b0 b1 b2 b3 b4 b5 b6 b7 b9 cb cd cf cg ch cl co cp cr cu cx c3:Value} {ar t25 ba bb Z ay bd t31 be bf bg t35:Value} {c4:World} (du:Bt S w A Sx st vn vf L N hb ly nbx vb vo bu false false false false false false false false false false false false false false ar t25 ba bb Z ay bd t31 be bf bg t35 c4.drew)
 (dw:∀a az Z t35 h',XA S w A Sx st Z t35 (L++[(⟨N,h',ly⟩:Fl)]) (L++[(⟨N,h',ly⟩:Fl)]) Z t35 az→bH .normal a az):
 (Code.region 8 #[{dst:=some 24,op:=Op.load 30 (Operand.tmp 6),type:=30,pos:= "merge.go:30",after:=#[],guard:=none},{dst:=some 25,op:=Op.load 54 (Operand.tmp 9),type:=54,pos:= "merge.go:30",after:=#[],guard:=none},{dst:=some 26,op:=Op.call {callee:=Callee.value (Operand.func 18),args:=#[Operand.tmp 25],argTypes:=#[54]},type:=54,pos:= "merge.go:30",after:=#[{on:=1,ground:=Ground.data}],guard:=none},{dst:=some 27,op:=Op.buildSlice 30 1 #[(0,Operand.tmp 26)],type:=30,pos:= "merge.go:30",after:=#[{on:=2,ground:=Ground.data}],guard:=none},{dst:=some 28,op:=Op.call {callee:=Callee.builtin Builtin.append,args:=#[Operand.tmp 24,Operand.tmp 27],argTypes:=#[30,30]},type:=30,pos:= "merge.go:30",after:=#[{on:=0,ground:=Ground.data},{on:=3,ground:=Ground.data},{on:=2,ground:=Ground.chain}],guard:=none},{dst:=some 29,op:=Op.load 25 (Operand.tmp 7),type:=25,pos:= "merge.go:30",after:=#[],guard:=none},{dst:=some 30,op:=Op.move (Operand.tmp 8),type:=131,pos:= "merge.go:30",after:=#[],guard:=none},{dst:=some 31,op:=Op.indexAddr 131 (Operand.tmp 30) (Operand.const (Value.int IntKind.i64 0)),type:=0,pos:= "merge.go:30",after:=#[{on:=6,ground:=Ground.data}],guard:=none},{dst:=some 32,op:=Op.fieldAddr 179 (Operand.tmp 31) 1,type:=0,pos:= "merge.go:30",after:=#[{on:=7,ground:=Ground.data}],guard:=none},{dst:=some 33,op:=Op.load 3 (Operand.tmp 32),type:=3,pos:= "merge.go:30",after:=#[{on:=8,ground:=Ground.data}],guard:=none},{dst:=some 34,op:=Op.buildSlice 25 1 #[(0,Operand.tmp 33)],type:=25,pos:= "merge.go:30",after:=#[{on:=9,ground:=Ground.data}],guard:=none},{dst:=some 35,op:=Op.call {callee:=Callee.builtin Builtin.append,args:=#[Operand.tmp 29,Operand.tmp 34],argTypes:=#[25,25]},type:=25,pos:= "merge.go:30",after:=#[{on:=5,ground:=Ground.data},{on:=10,ground:=Ground.data},{on:=4,ground:=Ground.chain}],guard:=none},{dst:=none,op:=Op.store 30 (Operand.tmp 6) (Operand.tmp 28),type:=0,pos:= "merge.go:30",after:=#[{on:=4,ground:=Ground.data},{on:=11,ground:=Ground.chain},{on:=0,ground:=Ground.phase},{on:=1,ground:=Ground.phase},{on:=2,ground:=Ground.phase},{on:=3,ground:=Ground.phase},{on:=4,ground:=Ground.phase},{on:=5,ground:=Ground.textOnly Departure.inlinedCapture},{on:=6,ground:=Ground.textOnly Departure.lateStores},{on:=7,ground:=Ground.textOnly Departure.inlinedCapture},{on:=8,ground:=Ground.textOnly Departure.inlinedCapture},{on:=9,ground:=Ground.textOnly Departure.inlinedCapture},{on:=10,ground:=Ground.textOnly Departure.inlinedCapture},{on:=11,ground:=Ground.textOnly Departure.lateStoresUnsure}],guard:=none},{dst:=none,op:=Op.store 25 (Operand.tmp 7) (Operand.tmp 35),type:=0,pos:= "merge.go:30",after:=#[{on:=11,ground:=Ground.data},{on:=12,ground:=Ground.chain},{on:=0,ground:=Ground.phase},{on:=1,ground:=Ground.phase},{on:=2,ground:=Ground.phase},{on:=3,ground:=Ground.phase},{on:=4,ground:=Ground.phase},{on:=5,ground:=Ground.phase},{on:=6,ground:=Ground.phase},{on:=7,ground:=Ground.phase},{on:=8,ground:=Ground.phase},{on:=9,ground:=Ground.phase},{on:=10,ground:=Ground.phase},{on:=11,ground:=Ground.phase},{on:=12,ground:=Ground.phase}],guard:=none}] true).wpIn (Fence.wide.inRound l) 0 prog bH ⟨(bY::b0::b1::b2::b3::b4::pO w.heap.size 0::pO (w.heap.size+1) 0::bu::pO nbx 0::b5::b6::b7::b9::cb::cd::cf::cg::ch::cl::co::cp::cr::cu::ar::t25::ba::bb::Z::ay::bd::t31::be::bf::bg::t35::cx::c3::[]).toArray,[]⟩ c4:=by
 subst ds;obtain⟨k,m,u,g,o,nh,d,ks⟩:=N;obtain⟨dx,c5,c6,c8,c9⟩:=DC Tryz.infoNd;have dy:Hid _:=c5;have dz:Hid _:=c6;have d0:Hid _:=c8;have d1:Hid _:=c9;obtain⟨d2,da,db,dd,de⟩:=DC Tryz.infoInt;have d3:Hid _:=da;have d4:Hid _:=db;have d5:Hid _:=dd;have d6:Hid _:=de;clear c5 c6 c8 c9 da db dd de;refine wpIn_region_any (by first|assumption|rfl|kernel_rfl) ?_;refine QN (fS S w A Sx st vn vf L (.mk k m u g o nh d ks) hb ly nbx vb vo (sL vb vo (dl+1) vc) bY b0 b1 b2 b3 b4 b5 b6 b7 b9 cb cd cf cg ch cl co cp cr cu cx c3) ?step ?fin _ _ _ _ ?le ?init
 case le=>decide
 case init=>exact⟨_,_,_,_,_,_,_,_,_,_,_,_,_,_,_,_,_,_,_,_,_,_,_,_,_,_,rfl,rfl,du⟩
 case fin=>
  rintro d7 a W ⟨c0,c1,c2,a1,ak,bi,bk,c7,bl,bn,bo,aa,bp,bv,ar,t25,ba,bb,Z,ay,bd,t31,be,bf,bg,t35,rfl,rfl,h⟩ d8;have J:=Zk d8;have O:c0=true:=by
   cases e:c0 with
   |true=>rfl
   |false=>exact(J 0 (by simp[e]) _ rfl (by simp[Region.binds])).elim
  have Q:c1=true:=by
   cases e:c1 with
   |true=>rfl
   |false=>exact(J 1 (by simp[e]) _ rfl (by simp[Region.binds,O])).elim
  have R:bi=true:=by
   cases e:bi with
   |true=>rfl
   |false=>exact(J 5 (by simp[e]) _ rfl (by simp[Region.binds,O,Q])).elim
  have T:bk=true:=by
   cases e:bk with
   |true=>rfl
   |false=>exact(J 6 (by simp[e]) _ rfl (by simp[Region.binds,O,Q,R])).elim
  have Y:c2=true:=by
   cases e:c2 with
   |true=>rfl
   |false=>exact(J 2 (by simp[e]) _ rfl (by simp[Region.binds,O,Q,R,T])).elim
  have ab:a1=true:=by
   cases e:a1 with
   |true=>rfl
   |false=>exact(J 3 (by simp[e]) _ rfl (by simp[Region.binds,O,Q,R,T,Y])).elim
  have ad:ak=true:=by
   cases e:ak with
   |true=>rfl
   |false=>exact(J 4 (by simp[e]) _ rfl (by simp[Region.binds,O,Q,R,T,Y,ab])).elim
  have ao:c7=true:=by
   cases e:c7 with
   |true=>rfl
   |false=>exact(J 7 (by simp[e]) _ rfl (by simp[Region.binds,O,Q,R,T,Y,ab,ad])).elim
  have a6:bl=true:=by
   cases e:bl with
   |true=>rfl
   |false=>exact(J 8 (by simp[e]) _ rfl (by simp[Region.binds,O,Q,R,T,Y,ab,ad,ao])).elim
  have bs:bn=true:=by
   cases e:bn with
   |true=>rfl
   |false=>exact(J 9 (by simp[e]) _ rfl (by simp[Region.binds,O,Q,R,T,Y,ab,ad,ao,a6])).elim
  have bx:bo=true:=by
   cases e:bo with
   |true=>rfl
   |false=>exact(J 10 (by simp[e]) _ rfl (by simp[Region.binds,O,Q,R,T,Y,ab,ad,ao,a6,bs])).elim
  have dg:aa=true:=by
   cases e:aa with
   |true=>rfl
   |false=>exact(J 11 (by simp[e]) _ rfl (by simp[Region.binds,O,Q,R,T,Y,ab,ad,ao,a6,bs,bx])).elim
  have d9:bp=true:=by
   cases e:bp with
   |true=>rfl
   |false=>exact(J 12 (by simp[e]) _ rfl (by simp[Region.binds,O,Q,R,T,Y,ab,ad,ao,a6,bs,bx,dg])).elim
  have ea:bv=true:=by
   cases e:bv with
   |true=>rfl
   |false=>exact(J 13 (by simp[e]) _ rfl (by simp[Region.binds,O,Q,R,T,Y,ab,ad,ao,a6,bs,bx,dg,d9])).elim
  obtain⟨h',G⟩:=h.p6 ea;exact dw _ _ _ _ _ G
 case step=>
  rintro d7 a W i ⟨c0,c1,c2,a1,ak,bi,bk,c7,bl,bn,bo,aa,bp,bv,ar,t25,ba,bb,Z,ay,bd,t31,be,bf,bg,t35,rfl,rfl,h⟩ dj;obtain⟨H,o,F,hd⟩:=mem_ready.1 dj;have eg:i<14:=(nJ.1 F).1;clear dj;obtain rfl|rfl|rfl|rfl|rfl|rfl|rfl|rfl|rfl|rfl|rfl|rfl|rfl|rfl:i=0∨i=1∨i=2∨i=3∨i=4∨i=5∨i=6∨i=7∨i=8∨i=9∨i=10∨i=11∨i=12∨i=13:=by omega
  ·have I:=F
   simp at F;subst F
   simp[Region.binds]at hd H;subst H;have V:=(h.early (by cases e:ak with|false=>rfl|true=>cases (h.q4 e).1)).bn.cell;refine Fr I rfl (by intro c;simp) ?_ ?_
   ·intro r args w';go_simp
   ·go_simp;exact⟨_,_,_,_,_,_,_,_,_,_,_,_,_,_,_,_,_,_,_,_,_,_,_,_,_,_,rfl,rfl,h.o0⟩
  ·have I:=F
   simp at F;subst F
   simp[Region.binds]at hd H;subst H;have V:=(h.p0 (by cases e:c2 with|false=>rfl|true=>cases h.q2 e)).2.1.1;obtain⟨ej,ek,el,em,en,eo,f6,ep⟩:=V;refine Fr I rfl (by intro c;simp) ?_ ?_
   ·intro r args w';go_simp
   ·go_simp;exact⟨_,_,_,_,_,_,_,_,_,_,_,_,_,_,_,_,_,_,_,_,_,_,_,_,_,_,rfl,rfl,h.o1⟩
  ·have I:=F
   simp at F;subst F
   simp[Region.binds]at hd H;subst H;subst hd;obtain rfl:=h.f1 rfl;have G:=h.p0 rfl;have eb:Hid (cL 18 #[(A5 k m u g o nh d ks hb)] W fun e az=>(∃h',e=.returned ((A5 k m u g o nh d ks h'))∧Ah (Ag az.cell? (Cc w.heap.size vn vf S)) (.mk k m u g o nh d ks) h')∧Below W.heap.size W az):=ka (x:=(.mk k m u g o nh d ks)) (h:=hb) (G.1.hid dk) G.2.2 dm dn;clear G;refine Fr I rfl (by intro c;simp) ?_ ?_
   ·intro r args w';rw[L1];go_simp
   ·rw[L1];go_simp
    with_reducible refine np eb.out ?_
    rintro e w' ⟨⟨h',rfl,a7⟩,ec⟩;exact⟨_,_,_,_,_,_,_,_,_,_,_,_,_,_,_,_,_,_,_,_,_,_,_,_,_,_,rfl,rfl,h.o2 ec a7⟩
  ·have I:=F
   simp at F;subst F
   simp[Region.binds]at hd H;subst H;subst hd;obtain⟨h',rfl,G,a7⟩:=h.p1 rfl rfl;refine Fr I rfl (by intro c;simp) ?_ ?_
   ·intro r args w';rw[L1];go_simp
   ·rw[L1];go_simp;exact⟨_,_,_,_,_,_,_,_,_,_,_,_,_,_,_,_,_,_,_,_,_,_,_,_,_,_,rfl,rfl,h.o3 rfl a7 bN (Oo W _ h' _)⟩
  ·have I:=F
   simp at F;subst F
   simp[Region.binds]at hd H;subst H;obtain⟨rfl,rfl,rfl⟩:=hd;obtain rfl:=h.f0 rfl;obtain⟨h',a8,rfl,G,a7,V⟩:=h.p2 rfl rfl;refine PK W I rfl (.tmp 24) (.tmp 27) 30 rfl (w.heap.size+1+1) 54 dx _ 8 104 underlying30 dy.out dz.out d0.out d1.out rfl (by decide) ar L.length (Bj L) rfl G.r.rn (some (aD a8 0)) 1 1 (Bl (.mk k m u g o nh d ks) h') rfl (by rw[D1]) (.inr ⟨_,rfl,fun j u ap=>by rw[D2,nU];exact V j u ap⟩) (Kh _ _) (by unfold maxLen;omega) (by omega) (by have:=G.low.size;have:=G.az;have:=G.bf.lt;omega) ?_;intro bA w' bB bC bF;have bG:w'.ownsRow (w.heap.size+1+1) 54 8 bA (L++[(⟨(.mk k m u g o nh d ks),h',ly⟩:Fl)]).length (Bj (L++[(⟨(.mk k m u g o nh d ks),h',ly⟩:Fl)])):=by rw[LZ,nM];simpa [Bj]using bB
   exact⟨_,_,_,_,_,_,_,_,_,_,_,_,_,_,_,_,_,_,_,_,_,_,_,_,_,_,rfl,rfl,h.o4 dp G a7 bG bC bF⟩
  ·have I:=F
   simp at F;subst F
   simp[Region.binds]at hd H;subst H;obtain⟨_,_,G⟩:=h.mid (by cases e:aa with|false=>rfl|true=>cases (h.q11 e).2.1);have V:=G.bf.cell;clear G;refine Fr I rfl (by intro c;simp) ?_ ?_
   ·intro r args w';go_simp
   ·go_simp;exact⟨_,_,_,_,_,_,_,_,_,_,_,_,_,_,_,_,_,_,_,_,_,_,_,_,_,_,rfl,rfl,h.o5⟩
  ·have I:=F
   simp at F;subst F
   simp[Region.binds]at hd H;subst H;refine Fr I rfl (by intro c;simp) ?_ ?_
   ·intro r args w';go_simp
   ·go_simp;exact⟨_,_,_,_,_,_,_,_,_,_,_,_,_,_,_,_,_,_,_,_,_,_,_,_,_,_,rfl,rfl,h.o6⟩
  ·have I:=F
   simp at F;subst F
   simp[Region.binds]at hd H;subst H;subst hd;obtain rfl:=h.f6 rfl;refine Fr I rfl (by intro c;simp) ?_ ?_
   ·intro r args w';go_simp
   ·go_simp;exact⟨_,_,_,_,_,_,_,_,_,_,_,_,_,_,_,_,_,_,_,_,_,_,_,_,_,_,rfl,rfl,h.o7⟩
  ·have I:=F
   simp at F;subst F
   simp[Region.binds]at hd H;subst H;subst hd;obtain rfl:=h.f7 rfl;refine Fr I rfl (by intro c;simp) ?_ ?_
   ·intro r args w';go_simp
   ·go_simp;exact⟨_,_,_,_,_,_,_,_,_,_,_,_,_,_,_,_,_,_,_,_,_,_,_,_,_,_,rfl,rfl,h.o8⟩
  ·have I:=F
   simp at F;subst F
   simp[Region.binds]at hd H;subst H;subst hd;obtain rfl:=h.f8 rfl;obtain⟨_,_,G⟩:=h.mid (by cases e:aa with|false=>rfl|true=>cases h.q10 (h.q11 e).2.2);have V:=Ci _ _ _ _ (G.ml _ _ dr);clear G;refine Fr I rfl (by intro c;simp) ?_ ?_
   ·intro r args w';go_simp
   ·go_simp;exact⟨_,_,_,_,_,_,_,_,_,_,_,_,_,_,_,_,_,_,_,_,_,_,_,_,_,_,rfl,rfl,h.o9⟩
  ·have I:=F
   simp at F;subst F
   simp[Region.binds]at hd H;subst H;subst hd;obtain rfl:=h.f9 rfl;obtain⟨_,_,G⟩:=h.mid (by cases e:aa with|false=>rfl|true=>cases (h.q11 e).2.2);have ed:=hid G.az;clear G;refine Fr I rfl (by intro c;simp) ?_ ?_
   ·intro r args w';go_simp
   ·go_simp;exact⟨_,_,_,_,_,_,_,_,_,_,_,_,_,_,_,_,_,_,_,_,_,_,_,_,_,_,rfl,rfl,h.o10 bN aC ed.out⟩
  ·have I:=F
   simp at F;subst F
   simp[Region.binds]at hd H;subst H;obtain⟨rfl,rfl,rfl⟩:=hd;obtain rfl:=h.f5 rfl;obtain⟨h',G⟩:=h.p3 rfl rfl;obtain⟨a8,rfl,V,_⟩:=h.p10 rfl rfl;refine PK W I rfl (.tmp 29) (.tmp 34) 25 rfl (w.heap.size+1+1) 3 d2 _ 1 8 underlying25 d3.out d4.out d5.out d6.out rfl (by decide) ay L.length (Fk L) rfl G.r.rf (some (aD a8 0)) 1 1 [iN ly] rfl rfl (.inr ⟨_,rfl,fun j u ap=>by rw[D2,nU];match j,ap with|0,ap=>simp at ap;subst ap;exact V⟩) (by simp[Value.oneCell']) (by unfold maxLen;omega) (by omega) (by have:=G.low.size;have:=G.az;have:=G.bf.lt;omega) ?_;intro bA w' bB bC bF;have bG:w'.ownsRow (w.heap.size+1+1) 3 1 bA (L++[(⟨(.mk k m u g o nh d ks),h',ly⟩:Fl)]).length (Fk (L++[(⟨(.mk k m u g o nh d ks),h',ly⟩:Fl)])):=by rw[TZ,nM];simpa [Fk]using bB
   exact⟨_,_,_,_,_,_,_,_,_,_,_,_,_,_,_,_,_,_,_,_,_,_,_,_,_,_,rfl,rfl,h.o11 G bG bC bF⟩
  ·have I:=F
   simp at F;subst F
   simp[Region.binds]at hd H;subst H;obtain⟨rfl,rfl,rfl,rfl,rfl,rfl⟩:ak=true∧aa=true∧c0=true∧c1=true∧c2=true∧a1=true:=by simp[hd]
   obtain⟨h',G⟩:=h.p4 rfl rfl;obtain⟨a8,cc,rfl⟩:=ownsRow_succ (show W.ownsRow _ _ _ Z (L.length+1) _ from by have:=G.r.rn;rw[nM]at this;exact this);have V:=G.bn.cell;have ee:=G.bn.frozen;clear G;refine Fr I rfl (by intro c;simp) ?_ ?_
   ·intro r args w';go_simp
   ·go_simp;exact⟨_,_,_,_,_,_,_,_,_,_,_,_,_,_,_,_,_,_,_,_,_,_,_,_,_,_,rfl,rfl,h.o12⟩
  ·have I:=F
   simp at F;subst F
   simp[Region.binds]at hd H;subst H;obtain⟨rfl,rfl,rfl,rfl,rfl,rfl,rfl,rfl,rfl,rfl,rfl,rfl,rfl⟩:c0=true∧c1=true∧c2=true∧a1=true∧ak=true∧bi=true∧bk=true∧c7=true∧bl=true∧bn=true∧bo=true∧aa=true∧bp=true:=by simp[hd]
   obtain⟨h',G⟩:=h.p5 rfl rfl;obtain⟨a8,cc,rfl⟩:=ownsRow_succ (show W.ownsRow _ _ _ t35 (L.length+1) _ from by have:=G.r.rf;rw[nM]at this;exact this);have V:=G.bf.cell;have ee:=G.bf.frozen;clear G;refine Fr I rfl (by intro c;simp) ?_ ?_
   ·intro r args w';go_simp
   ·go_simp;exact⟨_,_,_,_,_,_,_,_,_,_,_,_,_,_,_,_,_,_,_,_,_,_,_,_,_,_,rfl,rfl,h.o13⟩
end Go.Proofs.YtofhphibahcniaaGreatDoor
namespace Go.Proofs.YtofhphibahcniaaGreatDoor
open Go.RowKit Go.Proofs.Tryz
structure Iw (S:Nat→Bool) (W:World) (v:Value) (g:Nat) (L:List Fl) (P:List (Nd×BA)) (t:Nat) (w2:World):Prop where
 low:Below W.heap.size W w2
 gl:W.heap.size+1<g
 gz:g<w2.heap.size
 rb:Av w2 (W.heap.size+1) zN zH
 fz:∀j,w2.frozen? ⟨g,j,none⟩=false
 ab:∀(s:Nat) f,s<t→L[s]? =some f→Bi w2.cell? g (s*8) f.x f.h∧Ah (Ag w2.cell? (DR W.heap.size v S)) f.x f.h
 ch:∃hc,Bi w2.cell? g (t*8) (Ct (P.drop t)) hc∧Ah (Ag w2.cell? (DR W.heap.size v S)) (Ct (P.drop t)) hc
theorem Iw.below{S:Nat→Bool}{W:World}{v:Value}{g:Nat}{L:List Fl}{P:List (Nd×BA)}{t:Nat}{F G:World}(h:Iw S W v g L P t F)(hb:Below F.heap.size F G):Iw S W v g L P t G:=by
 obtain⟨J,O,Q⟩:=h.ch;exact⟨h.low.trans (hb.mono h.low.size),h.gl,nH h.gz hb.size,h.rb.below hb,fun j=>(hb.frozen (p:=(aD g j)) h.gz).trans (h.fz j),fun s f H I=>⟨(h.ab s f H I).1.below hb,(h.ab s f H I).2.on (CN hb)⟩,J,O.below hb,Q.on (CN hb)⟩
theorem XI{P:List (Nd×BA)}{t:Nat}{p q:Nd×BA}(G:P[t]? =some p)(H:P[t+1]? =some q):Ct (P.drop t)=p.1.with [(q.2,Ct (P.drop (t+1)))]:=by
 obtain⟨I,J⟩:=ny.1 G;obtain⟨O,Q⟩:=ny.1 H;have F:=nO I;have a2:=nO O;rw[J]at F;rw[Q]at a2;rw[F,a2,Ct]
theorem Iw.step{S:Nat→Bool}{W:World}{v:Value}{g:Nat}{L:List Fl}{P:List (Nd×BA)}{t:Nat}{F:World}(h:Iw S W v g L P (t+1) F)(ak:v.ownBlock=some g){f:Fl}{p q:Nd×BA}(ao:L[t]? =some f)(ap:P[t]? =some p)(ar:P[t+1]? =some q)(ay:f.x=p.1){I:Hd}(_hC1:Bi F.cell? g ((t+1)*8) (Ct (P.drop (t+1))) I)(Y:Ah (Ag F.cell? (DR W.heap.size v S)) (Ct (P.drop (t+1))) I)
 (Z:DR W.heap.size v S F.heap.size=false):Iw S W v g L P t ((F.alloc (.cells (.string q.2::Bl (Ct (P.drop (t+1))) I).toArray 89)).setCell (aD g (t*8+7)) (sL F.heap.size 0 1 1)):=by
 have hb:=(nv _ F).alloc (nn _) (.cells (.string q.2::Bl (Ct (P.drop (t+1))) I).toArray 89);have G:=h.below hb;obtain⟨aa,fn⟩:=G.ab t f (by omega) ao;have Q:∀j u,(Value.string q.2::Bl (Ct (P.drop (t+1))) I)[j]? =some u→Ce (F.alloc (.cells (.string q.2::Bl (Ct (P.drop (t+1))) I).toArray 89)) F.heap.size j u:=fun j u J=>by
  refine aC.trans ?_;simpa using J
 have az:=h.gz;have ab:=Y.on (CN hb);have a1:=XI ap ar;generalize F.alloc (.cells (.string q.2::Bl (Ct (P.drop (t+1))) I).toArray 89)=O at G Q aa fn ab;generalize F.heap.size=b at Q az Z;clear hb Y h;have H:∀(k j:Nat),k≠g∨j≠t*8+7→(O.setCell (aD g (t*8+7)) (sL b 0 1 1)).cell? (aD k j)=O.cell? (aD k j):=fun k j a6=>nA _ _ _ _ (fun e=>by cases e;rcases a6 with e|e<;>exact e rfl)
 have R:AR (Ag O.cell? (DR W.heap.size v S)) (Ag (O.setCell (aD g (t*8+7)) (sL b 0 1 1)).cell? (DR W.heap.size v S)):=BN fun k _ T=>⟨T,re _ _ _ _ (by
  show k≠g;intro e;subst e;simp[DR,ak]at T)⟩
 refine⟨G.low.setCell (p:=(aD g (t*8+7))) (by show W.heap.size≤g;have:=G.gl;omega) _,G.gl,?_,G.rb.other (by show g≠_;have:=G.gl;omega) _,?_,?_,?_⟩
 ·have:=G.gz;simpa using this
 ·intro j
  have e:=G.fz j;simpa using e
 ·intro s a7 T a8
  obtain⟨ba,a2⟩:=G.ab s a7 (by omega) a8;refine⟨Ec.2 fun j u J=>?_,a2.on R⟩;have bb:=(ny.1 J).1;rw[D1]at bb;exact(H g _ (.inr (by omega))).trans (Ec.1 ba j u J)
 ·rw[a1,←ay]
  obtain⟨⟨k,m,u,bp,o,nh,d,ks⟩,ad,bs⟩:=f;refine⟨⟨ad.aa,ad.ca,some (aD b 0),1⟩,?_,?_⟩
  ·obtain⟨bd,be,bf,bg,bi,bk,bl,bn⟩:=aa
   refine⟨(H g _ (.inr (by omega))).trans bd,(H g _ (.inr (by omega))).trans be,(H g _ (.inr (by omega))).trans bf,(H g _ (.inr (by omega))).trans bg,(H g _ (.inr (by omega))).trans bi,(H g _ (.inr (by omega))).trans bk,(H g _ (.inr (by omega))).trans bl,?_⟩;exact nI _ _ _ bn
  ·obtain⟨q1,q2,_,_⟩:=Cq.1 (fn.on R)
   refine Cq.2 ⟨q1,q2,⟨nn _,by show(1:Nat)≤_;omega⟩,.inr ⟨b,0,rfl,fun _=>I,fun i n x V=>?_⟩⟩;cases i with
   |succ i=>simp at V
   |zero=>
    simp at V;obtain⟨rfl,rfl⟩:=V;refine⟨Jz.2 fun j bo J=>?_,ab.on R⟩;rw[show 0+0*9+j=j by omega,Ck Z];exact(H b j (.inl (by omega))).trans (Q j bo J)
end Go.Proofs.YtofhphibahcniaaGreatDoor
