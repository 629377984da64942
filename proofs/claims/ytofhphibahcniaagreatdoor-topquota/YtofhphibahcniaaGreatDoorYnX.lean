/-
  TopQuota: Yn Yi Yx Yy.
-/
import Derived.Test.YtofhphibahcniaaGreatDoorApX
import Derived.Test.YtofhphibahcniaaGreatDoorXwX
import Derived.Test.YtofhphibahcniaaGreatDoorYmX
import Derived.Test.YtofhphibahcniaaGreatDoorCcX
import Derived.Test.YtofhphibahcniaaGreatDoorWoX
import Derived.Test.YtofhphibahcniaaGreatDoorFjX
import Derived.Test.YtofhphibahcniaaGreatDoorYvX
import Derived.Test.YtofhphibahcniaaGreatDoorYhX
import Derived.Test.YtofhphibahcniaaGreatDoorYbX
import Derived.Test.YtofhphibahcniaaGreatDoorCdX
set_option maxRecDepth 100000
set_option maxHeartbeats 16000000
namespace Go.Proofs.YtofhphibahcniaaGreatDoor
open Go.RowKit Go.Proofs.Tryz
theorem X5{s:BA}(h:Db s≠0):s.size≤255:=by
 have F:He (s.data.toList.drop 2)=true:=by
  by_cases e:He (s.data.toList.drop 2)=true
  ·exact e
  ·exact absurd (by unfold Db I1;rw[nC e]) h
 unfold He at F;simp only[Bool.and_eq_true,r5]at F;have:=F.1.1.1.2;rw[List.length_drop]at this;show s.data.size≤255;rw[←Array.length_toList];omega
theorem Hk.low{l:List Kv}(h:Hk l):l.length≤255∧EP l:=⟨by have:=h.1;omega,fun x hx=>⟨X5 (h.2.1 x hx).1,by have:=(h.2.1 x hx).2;omega⟩⟩
theorem TM:([]:List Kv).length≤255∧EP []:=⟨nN _,fun _ hx=>by cases hx⟩
theorem ZD{l:List Kv}{m v:BA}:(Gq l m v).length≤255∧EP (Gq l m v):=by
 unfold Gq;split
 ·exact TM
 ·exact(Z0 (Decidable.not_not.1 ‹_›)).2.2.low
theorem ax{l:List Kv}{m:BA}:(Gu l m).length≤255∧EP (Gu l m):=by
 unfold Gu;split
 ·exact TM
 ·exact(bU (Decidable.not_not.1 ‹_›)).2.2.low
def Pr(w:World)(F:List Kv→List Kv)(J:List Kv→Int)(O:Value):Prop:=∃gf lb,O=.func (.func gf) #[] lb∧(∀args w,(callFunc gf args).run prog w=.ok (.enter gf args) w)∧
 ∀(W:World) (a:Option Addr) (l:List Kv) (cap:Nat),Bw w W→l.length≤255→EP l→(l.length≤cap∧cap≤9223372036854775807)→Bp W.cell? a l→
  Calls prog gf (#[.slice a l.length cap]++lb) W fun e H=>(∃I G,e=.returned (.tuple #[.slice I (F l).length G,Am (J l)])∧((F l).length≤G∧G≤9223372036854775807)∧Bp H.cell? I (F l)∧(F l).length≤255∧EP (F l))∧Bw W H
theorem aR{w:World}{F:Nat}{m v:BA}(O:m.size≤1000)(Q:w.cell? ⟨F,3,none⟩=some (.string m))(R:w.cell? ⟨F,4,none⟩=some (.string v)):Pr w (fun l=>Gq l m v) (fun l=>FP l m v) (.func (.func 56) #[] #[.pointer (some ⟨F,0,none⟩)]):=by
 refine⟨_,_,rfl,fun args w=>by kernel_rfl,fun W a l cap H ak T I V=>?_⟩;dsimp only;have a1:=Af H Q;have a6:=Af H R;have G:=hid (aX a cap l m v W (by omega) I.1 I.2 T O V);have Y:Hid ((Gq l m v).length≤255∧EP (Gq l m v)):=ZD;generalize Gq l m v=ao at G Y⊢;generalize FP l m v=a7 at G⊢;clear Q R T I V ak O H;show Calls prog 56 #[.slice a l.length cap,.pointer (some ⟨F,0,none⟩)] W _;go_enter func56,ntmps56;go_wp2_with fail
 refine np G.out ?_;rintro e a8 ⟨⟨ap,J,rfl,Z,aa,ab⟩,ad⟩;have ar:Hid (ao.length≤J∧J≤9223372036854775807):=⟨Z,aa⟩;have ay:=hid ab;have az:=hid ad;clear Z aa ab ad G;go_wp2;go_ret2;exact⟨⟨ap,J,rfl,ar.out,ay.out,Y.out⟩,az.out⟩
theorem bt{w:World}{G:Nat}{m:BA}(J:m.size≤1000)(O:w.cell? ⟨G,3,none⟩=some (.string m)):Pr w (fun l=>Gu l m) (fun l=>GR l m) (.func (.func 58) #[] #[.pointer (some ⟨G,0,none⟩)]):=by
 refine⟨_,_,rfl,fun args w=>by kernel_rfl,fun W a l cap Q ad R H T=>?_⟩;dsimp only;have az:=Af Q O;have F:=hid (YZ a cap l m W (by omega) H.1 H.2 R J T);have V:Hid ((Gu l m).length≤255∧EP (Gu l m)):=ax;generalize Gu l m=ak at F V⊢;generalize GR l m=a1 at F⊢;clear O R H T ad J Q;show Calls prog 58 #[.slice a l.length cap,.pointer (some ⟨G,0,none⟩)] W _;go_enter func58,ntmps58;go_wp2_with fail
 refine np F.out ?_;rintro e a6 ⟨⟨ao,I,rfl,Y,Z,aa⟩,ab⟩;have ap:Hid (ak.length≤I∧I≤9223372036854775807):=⟨Y,Z⟩;have ar:=hid aa;have ay:=hid ab;clear Y Z aa ab F;go_wp2;go_ret2;exact⟨⟨ao,I,rfl,ap.out,ar.out,V.out⟩,ay.out⟩
theorem Av.set5b{w:World}{b:Nat}{k m u g:Int}{o:Bool}{nh:List Kv}{d:BA}{ks:Ar}{h:Hd}(G:Av w b (.mk k m u g o nh d ks) h)(F:Option Addr)(l:List Kv)(ca:Nat):Av (w.setCell ⟨b,5,none⟩ (.slice F l.length ca)) b (.mk k m u g o l d ks) ⟨F,ca,h.ak,h.ck⟩:=by
 obtain⟨⟨H,I,J,O,Q,R,T,V⟩,Y⟩:=G;exact⟨⟨(AA (by omega)).trans H,(AA (by omega)).trans I,(AA (by omega)).trans J,(AA (by omega)).trans O,(AA (by omega)).trans Q,nI _ _ _ R,(AA (by omega)).trans T,(AA (by omega)).trans V⟩,fun j=>by rw[rJ];exact Y j⟩
theorem Zz{c:AH}{k m u g:Int}{o:Bool}{nh l:List Kv}{d:BA}{ks:Ar}{h:Hd}{a:Option Addr}{cap:Nat}(F:Ah c (.mk k m u g o nh d ks) h)(G:Bp c a l)(H:l.length≤cap∧cap≤9223372036854775807):Ah c (.mk k m u g o l d ks) ⟨a,cap,h.ak,h.ck⟩:=Cq.2 ⟨G,H,(Cq.1 F).2.2⟩
theorem Wy{w:World}{I:Nat}{G:Option Addr}{L:List Kv}{F:Nat}(c0:w.cell? ⟨I,0,none⟩=some (.slice G L.length F))(T:Bp w.cell? G L)(V:L.length≤F∧F≤9223372036854775807)(J:L.length≤255∧EP L):
 JF w (Nd.otA L) (.func (.func 105) #[] #[.pointer (some ⟨I,0,none⟩)]):=by
 refine⟨_,_,rfl,fun args w=>by kernel_rfl,fun W nx x Y O bb H Z aa Q ab=>?_⟩;have bd:=Af O c0;obtain⟨k,m,u,g,o,nh,d,ks⟩:=x;obtain⟨⟨ao,ap,ar,ay,az,be,a1,a6⟩,ad⟩:=id H;have bf:=ad 5;have R:Ao nx W (W.setCell ⟨nx,5,none⟩ (.slice G L.length F)):=(Ao.refl nx W).setCell 5 none _;have a7:Hid (∃h',Av (W.setCell ⟨nx,5,none⟩ (.slice G L.length F)) nx (.mk k m u g o L d ks) h'∧Ah (W.setCell ⟨nx,5,none⟩ (.slice G L.length F)).cell? (.mk k m u g o L d ks) h'∧(AB (.mk k m u g o L d ks)∧AP (.mk k m u g o L d ks)∧cnt (.mk k m u g o L d ks)≤cnt (.mk k m u g o nh d ks))∧Ao nx W (W.setCell ⟨nx,5,none⟩ (.slice G L.length F))):=⟨⟨G,F,Y.ak,Y.ck⟩,H.set5b G L F,Kq R H.1 Z (Zz aa (T.on (Aj O)) V),⟨by rw[AB]at Q⊢;exact⟨⟨J.1,J.2⟩,Q.2⟩,Nq ab,K3⟩,R⟩;clear c0 T V J O H Z aa Q ab R ad ao ap ar ay az a1 a6;show Calls prog 105 #[.pointer (some ⟨nx,0,none⟩),.pointer (some ⟨I,0,none⟩)] W _;go_enter func105,ntmps105;go_wp2;go_end0
 exact⟨⟨_,rfl⟩,a7.out⟩
noncomputable def AO.desS (c:AO) (x0:Nd) (ni:List Nd) (cop:Int) (p a8 dat:BA) (ba:List Kv→List Kv) (ak:List Kv→Int):Int×Nd:=match c.deP cop p a8 dat 2 with
 |.error E=>(E,x0)
 |.ok f=>if ak f.2.2.2.1.atl=0 then Fj c.us c.gs x0 ni (A4 p.data.toList) (Nd.otA (ba f.2.2.2.1.atl))else(ak f.2.2.2.1.atl,x0)
theorem PP{w:World}{b:Nat}{B:Bx}{x0:Nd}{ni:List Nd}(h:AX w b B)(ap:Bv B x0 ni){cop cA cB:Int}{cpath coth cname cdata:BA}(bn:Int)(bo:w.cell? ⟨0,0,none⟩=some (.int .i64 bn))(cd:cname.size≤1000){I:List Kv→List Kv}{G:List Kv→Int}{bp:Value}(cf:Pr w I G bp):
 Calls prog 55 #[.pointer (some ⟨b,0,none⟩),.agg #[.int .i64 cop,.string cpath,.string coth,.string cname,.string cdata,.int .i64 cA,.int .i64 cB],bp] w fun e w'=>e=.returned (Am (fin B.q x0 (B.cor.desS x0 ni cop cpath cname cdata I G)).1)∧Cw w w' b B ni (fin B.q x0 (B.cor.desS x0 ni cop cpath cname cdata I G)).2 B.crd:=by
 obtain⟨S,F⟩:∃S,Hid (B.cor.desS x0 ni cop cpath cname cdata I G=S):=⟨_,rfl⟩;rw[F.out];obtain⟨⟨cg,ch⟩,ar⟩:∃cl,Hid (fin B.q x0 S=cl):=⟨_,rfl⟩;rw[ar.out];unfold AO.desS at F;obtain⟨gf,lb,rfl,dk,bs⟩:=cf;have bu:Hid _:=bs;have T:Bw w (w.alloc (Az cop cpath coth cname cdata cA cB)):=(nv _ _).alloc (nn _) _;have ay:=hid T;have co:Ce (w.alloc (Az cop cpath coth cname cdata cA cB)) w.heap.size 0 (.int .i64 cop):=nl _ _ _ _ rfl;have cp:Ce (w.alloc (Az cop cpath coth cname cdata cA cB)) w.heap.size 1 (.string cpath):=nl _ _ _ _ rfl;have cr:Ce (w.alloc (Az cop cpath coth cname cdata cA cB)) w.heap.size 2 (.string coth):=nl _ _ _ _ rfl;have cu:Ce (w.alloc (Az cop cpath coth cname cdata cA cB)) w.heap.size 3 (.string cname):=nl _ _ _ _ rfl;have cx:Ce (w.alloc (Az cop cpath coth cname cdata cA cB)) w.heap.size 4 (.string cdata):=nl _ _ _ _ rfl;have c3:Ce (w.alloc (Az cop cpath coth cname cdata cA cB)) w.heap.size 5 (.int .i64 cA):=nl _ _ _ _ rfl;have c4:Ce (w.alloc (Az cop cpath coth cname cdata cA cB)) w.heap.size 6 (.int .i64 cB):=nl _ _ _ _ rfl;have bv:Hid (Calls prog 47 #[.pointer (some ⟨b,0,none⟩),PB cop cpath coth cname cdata cA cB,.int .i64 2] (w.alloc (Az cop cpath coth cname cdata cA cB)) fun e w'=>CL B w' cpath true (B.cor.deP cop cpath cname cdata 2) e∧Bw (w.alloc (Az cop cpath coth cname cdata cA cB)) w'):=PQ (h.below T) ap 2 bn (Af T bo) cd;have bx:=hid h;have az:=hid ap;have bA:=hid (Cw.stay bx.out az.out);have bB:Hid (∀E,E≠0→S=(E,x0)→cg=E∧ch=x0):=fun E J e=>Hf J (e▸ar.out);clear h ap T bo bs
 go_enter func55,ntmps55;go_wp2_with fail
 generalize(w.alloc (Az cop cpath coth cname cdata cA cB))=dm at*;refine np bv.out ?_;rintro e V ⟨c5,q2⟩;clear bv co cp cr cu cx c3 c4;obtain⟨cs,E,rfl,a1,bC,bF,bG⟩:=c5;obtain⟨a6,dn,a7,a8,c6⟩:=F5 V cs a1 bC;have c8:=BV cs;unfold Value.cells at c8;have dp:=hid a1;have c9:=hid (q2.trans (a8.out.mono q2.size));have Y:=hid (ay.out.trans (c9.out.mono ay.out.size));have bH:Hid _:=bF;have bY:Hid _:=bG;have dr:=hid (nP ay.out.size q2.size);clear bC bF a1 bG;by_cases J:E=0
 ·subst J
  obtain⟨f,ba,b0,Z,bb,bd,aa,be,b1⟩:=bH.out rfl;clear bH bY;rw[b1]at F;have O:=Fs b0;rw[←Z]at O;obtain⟨t,dir,na,nc,nf,ds,⟨du,dw,dx,dy,dz,H,d0,xs⟩,ab,ly⟩:=f;dsimp only at Z bb bd aa be O;rw[←Z]at F;replace F:Hid ((if G H=0 then Fj B.M.us B.M.gs x0 ni nf (Nd.otA (I H))else(G H,x0))=S):=F.out;have b2:Ce a6 V.heap.size 10 (.slice na nf.length nc):=a7.out 10 _ (by rw[ba];rfl);have da:Ce a6 V.heap.size 17 (.slice ab.aa H.length ab.ca):=a7.out 17 _ (by rw[ba];rfl);have db:=hid (bb.on (Aj a8.out));have b3:Hid ((∀s∈nf,AY s=true)∧nf.length≤6):=⟨O.1,O.2.1⟩;have dd:=hid bd;have bf:=Kn az.out aa (be rfl);have bg:=aa.nd.on (Aj a8.out);have ad:=hid (bu.out a6 ab.aa H ab.ca Y.out bf.1 bf.2 (Cq.1 bg).2.1 (Cq.1 bg).1);generalize I H=L at ad F;generalize G H=bi at ad F;rw[show Am 0=Value.nilIface from rfl];clear ba b0 Z bb bd aa be b1 O c6 a7 bu bf bg;go_wp2_with fail
  refine np ad.out ?_;rintro e bk ⟨⟨b4,b5,rfl,b6,b7,b9⟩,Q⟩;have de:Ce (bk.alloc (.cells #[.slice b4 L.length b5] 51)) V.heap.size 10 (.slice na nf.length nc):=AE (Af Q b2);have ak:Bw bk (bk.alloc (.cells #[.slice b4 L.length b5] 51)):=(nv _ _).alloc (nn _) _;have bl:=hid (Y.out.trans ((Q.trans (ak.mono Q.size)).mono Y.out.size));have dg:=hid ((db.out.on (Aj Q)).on (Aj ak));have ao:=hid (J2 (bx.out.below bl.out) az.out dg.out b3.out.1 (by have:=b3.out.2;omega) dd.out rfl (Wy (nl _ _ _ _ rfl) (b7.on (Aj ak)) b6 b9));clear ad Q b2 da b6 b7 b9 ak;by_cases hF:bi=0
  ·subst hF
   rw[nD rfl]at F;rw[F.out,ar.out]at ao;rw[show Am 0=Value.nilIface from rfl];go_wp2_with fail
   refine np ao.out ?_;rintro e d1 ⟨rfl,cb⟩;have dj:=hid (cb.up bl.out);clear cb ao;go_wp2;go_ret;exact⟨rfl,dj.out⟩
  ·have R:=AG (n:=bi) rfl hF
   rw[R];clear de ao;go_wp2;go_ret;obtain⟨rfl,rfl⟩:=bB.out bi hF (by rw[←F.out,nC hF]);exact⟨by rw[R];rfl,bA.out _ bl.out⟩
 ·have R:=AG (n:=E) rfl J
  rw[R];go_wp2;go_ret;obtain⟨rfl,rfl⟩:=bB.out E J (by rw[←F.out,bY.out J]);exact⟨by rw[R];rfl,bA.out _ Y.out⟩
theorem Qp{w:World}{b:Nat}{B:Bx}{x0:Nd}{ni:List Nd}(h:AX w b B)(H:Bv B x0 ni):
 Calls prog 13 #[.pointer (some ⟨b,0,none⟩)] w fun e w'=>(∃h',e=.returned (Al x0 h')∧Ah w'.cell? x0 h')∧Bw w w':=by
 have O:Bw w (w.alloc AJ):=(nv _ _).alloc (nn _) _;have Q:=h.below O;have R:=Q.lay;have T:=Q.cells.2.2.1;rw[H.xs]at R T;have ab:=hid (Ga T R);have ad:=Av.zero w;have ak:∀o,8≤o→(w.alloc AJ).cell? ⟨w.heap.size,o,none⟩=none:=fun o be=>by
  rw[nl _ _ _ _ rfl];exact rG (by simpa using be)
 have bf:Hid (Ca (w.alloc AJ) w.heap.size):=⟨ad,ak⟩;have ao:=hid O;have V:Hid (AB x0∧cnt x0≤60):=⟨H.fine.lil,H.fine.cnt⟩;clear h H Q R T ad ak O;go_enter func13,ntmps13;go_wp2_with fail
 generalize(w.alloc AJ)=bG at*;refine np ab.out ?_;rintro e Y ⟨⟨ap,rfl,_,ar⟩,q2⟩;have ay:Hid (Calls prog 18 #[Al x0 ap] Y fun e az=>(∃h',e=.returned (Al x0 h')∧Ah az.cell? x0 h')∧Bw Y az):=by
  have e:=ka (W:=Y) (S:=fun _=>false) (fun _ bg=>(by cases bg)) (x:=x0) (h:=ap) (by rw[Dg];exact ar) (GI x0 (by have:=V.out.2;omega) V.out.1) (by have:=V.out.2;omega);refine np e ?_;rintro e w' ⟨⟨h',bi,a1⟩,bk⟩;rw[Dg]at a1;exact⟨⟨h',bi,a1⟩,bk⟩
 have bl:=hid (bf.out.below q2);have Z:=hid (ao.out.trans (q2.mono ao.out.size));clear ab ar q2;go_wp2_with fail
 refine np ay.out ?_;rintro e bn ⟨⟨G,rfl,a6⟩,I⟩;have z3:=bl.out.below I;obtain⟨aa,a7,a8,bo⟩:=z3.store a6;have ba:=hid a7;have bb:=hid ((Z.out.trans (I.mono Z.out.size)).trans (a8.below (nn _) (nP Z.out.size I.size)));obtain⟨k,m,u,g,o,nh,d,ks⟩:=x0;obtain⟨bd,J⟩:∃bd,Au bn w.heap.size (.mk k m u g o nh d ks) G=bd:=⟨_,rfl⟩;rw[J]at aa ba bb;simp only[Au]at J;obtain⟨⟨z0,bH,bY,z4,z5,b0,b1,b2⟩,F⟩:=z3.1;have b3:=F 0;have b4:=F 1;have b5:=F 2;have b6:=F 3;have b7:=F 4;have b9:=F 5;have cb:=F 6;have cd:=F 7;obtain⟨bp,bs,bu,bv,bx,bA,bB,bC⟩:=aa.1;have bF:Hid _:=J;rw[show Al (.mk k m u g o nh d ks) G=(A5 k m u g o nh d ks G)from rfl];clear ay a6 I z3 a7 a8 bo aa F J;go_wp2;rw[bF.out];refine nG (v:=Al (.mk k m u g o nh d ks) G) (by simp[results,results13,go_sem,Al,bp,bs,bu,bv,bx,bA,bB,bC]) rfl ⟨⟨G,rfl,ba.out⟩,bb.out⟩
noncomputable def AO.actS (c:AO) (q:Int) (x0:Nd) (ni:List Nd) (cop cA cB:Int) (p o n d:BA):Int×Nd×Int×Int×List Int×Int:=if cop=4 then((fin q x0 (c.wriS x0 ni cA p d)).1,(fin q x0 (c.wriS x0 ni cA p d)).2,c.u,c.g,c.cs,c.k)else if cop=5 then((fin q x0 (c.makS x0 ni cA p)).1,(fin q x0 (c.makS x0 ni cA p)).2,c.u,c.g,c.cs,c.k)else if cop=6 then((fin q x0 (c.gonS x0 ni p)).1,(fin q x0 (c.gonS x0 ni p)).2,c.u,c.g,c.cs,c.k)else if cop=7 then((fin q x0 (c.mvS x0 ni p o)).1,(fin q x0 (c.mvS x0 ni p o)).2,c.u,c.g,c.cs,c.k)else if cop=8 then((fin q x0 (c.modeS x0 ni cA p)).1,(fin q x0 (c.modeS x0 ni cA p)).2,c.u,c.g,c.cs,c.k)else if cop=9 then((fin q x0 (c.givS x0 ni cA cB p)).1,(fin q x0 (c.givS x0 ni cA cB p)).2,c.u,c.g,c.cs,c.k)else if cop=10 then((fin q x0 (c.desS x0 ni 10 p n d (fun l=>Gq l n d) (fun l=>FP l n d))).1,(fin q x0 (c.desS x0 ni 10 p n d (fun l=>Gq l n d) (fun l=>FP l n d))).2,c.u,c.g,c.cs,c.k)else if cop=11 then((fin q x0 (c.desS x0 ni 11 p n d (fun l=>Gu l n) (fun l=>GR l n))).1,(fin q x0 (c.desS x0 ni 11 p n d (fun l=>Gu l n) (fun l=>GR l n))).2,c.u,c.g,c.cs,c.k)else if cop=13 then((c.beS cA cB).1,x0,(c.beS cA cB).2)else(3,x0,c.u,c.g,c.cs,c.k)
theorem bK{w:World}{b:Nat}{B:Bx}{x0:Nd}{ni:List Nd}(h:AX w b B)(T:Bv B x0 ni){cop cA cB:Int}{cpath coth cname cdata:BA}(aa:Int)(bd:w.cell? ⟨0,0,none⟩=some (.int .i64 aa))(ak:cname.size≤1000):
 Calls prog 31 #[.pointer (some ⟨b,0,none⟩),.agg #[.int .i64 cop,.string cpath,.string coth,.string cname,.string cdata,.int .i64 cA,.int .i64 cB]] w fun e w'=>e=.returned (Am (B.cor.actS B.q x0 ni cop cA cB cpath coth cname cdata).1)∧Cw w w' b B ni (B.cor.actS B.q x0 ni cop cA cB cpath coth cname cdata).2.1 (B.cor.actS B.q x0 ni cop cA cB cpath coth cname cdata).2.2:=by
 obtain⟨⟨bk,bl,V⟩,H⟩:∃S,Hid (B.cor.actS B.q x0 ni cop cA cB cpath coth cname cdata=S):=⟨_,rfl⟩;rw[H.out];unfold AO.actS at H;have ao:Bw w (w.alloc (Az cop cpath coth cname cdata cA cB)):=(nv _ _).alloc (nn _) _;have Y:=h.below ao;have ab:=Af ao bd;have bb:Ce (w.alloc (Az cop cpath coth cname cdata cA cB)) w.heap.size 3 (.string cname):=nl _ _ _ _ rfl;have be:Ce (w.alloc (Az cop cpath coth cname cdata cA cB)) w.heap.size 4 (.string cdata):=nl _ _ _ _ rfl;have ap:=hid (XY (cop:=cop) (cA:=cA) (cB:=cB) (cpath:=cpath) (coth:=coth) (cname:=cname) (cdata:=cdata) Y T aa ab);have ar:=hid (WF (cop:=cop) (cA:=cA) (cB:=cB) (cpath:=cpath) (coth:=coth) (cname:=cname) (cdata:=cdata) Y T aa ab);have ay:=hid (WJ (cop:=cop) (cA:=cA) (cB:=cB) (cpath:=cpath) (coth:=coth) (cname:=cname) (cdata:=cdata) Y T aa ab);have az:=hid (Yg (cop:=cop) (cA:=cA) (cB:=cB) (cpath:=cpath) (coth:=coth) (cname:=cname) (cdata:=cdata) Y T aa ab);have a1:=hid (Y8 (cop:=cop) (cA:=cA) (cB:=cB) (cpath:=cpath) (coth:=coth) (cname:=cname) (cdata:=cdata) Y T aa ab);have a6:=hid (Yv (cop:=cop) (cA:=cA) (cB:=cB) (cpath:=cpath) (coth:=coth) (cname:=cname) (cdata:=cdata) Y T aa ab);have a7:=hid (PP (cop:=cop) (cA:=cA) (cB:=cB) (cpath:=cpath) (coth:=coth) (cname:=cname) (cdata:=cdata) Y T aa ab ak (aR ak bb be));have a8:=hid (PP (cop:=cop) (cA:=cA) (cB:=cB) (cpath:=cpath) (coth:=coth) (cname:=cname) (cdata:=cdata) Y T aa ab ak (bt ak bb));have ba:=hid (WN (cop:=cop) (cA:=cA) (cB:=cB) (cpath:=cpath) (coth:=coth) (cname:=cname) (cdata:=cdata) Y T);have Z:=hid ao;have bg:=hid h;have bi:=hid T;have bf:=hid (Cw.stay bg.out bi.out);clear h T ao Y ab bd bb be;go_enter func31,ntmps31;by_cases F:cop=4
 ·rw[nD F]at H
  obtain⟨J,I⟩:=Prod.mk.inj H.out;obtain⟨O,G⟩:=Prod.mk.inj I;subst F;replace G:B.crd=V:=G;rw[J,O,G]at ap;clear J O G I H;go_wp2_with fail
  refine np ap.out ?_;rintro e ad ⟨rfl,Q⟩;have R:=hid (Q.up Z.out);clear Q ap;go_wp2;go_ret;exact⟨rfl,R.out⟩
 rw[nC F]at H;have bn:(cop==4)=false:=by simpa using F
 clear F ap;by_cases F:cop=5
 ·rw[nD F]at H
  obtain⟨J,I⟩:=Prod.mk.inj H.out;obtain⟨O,G⟩:=Prod.mk.inj I;subst F;replace G:B.crd=V:=G;rw[J,O,G]at ar;clear J O G I H;go_wp2_with fail
  refine np ar.out ?_;rintro e ad ⟨rfl,Q⟩;have R:=hid (Q.up Z.out);clear Q ar;go_wp2;go_ret;exact⟨rfl,R.out⟩
 rw[nC F]at H;have bo:(cop==5)=false:=by simpa using F
 clear F ar;by_cases F:cop=6
 ·rw[nD F]at H
  obtain⟨J,I⟩:=Prod.mk.inj H.out;obtain⟨O,G⟩:=Prod.mk.inj I;subst F;replace G:B.crd=V:=G;rw[J,O,G]at ay;clear J O G I H;go_wp2_with fail
  refine np ay.out ?_;rintro e ad ⟨rfl,Q⟩;have R:=hid (Q.up Z.out);clear Q ay;go_wp2;go_ret;exact⟨rfl,R.out⟩
 rw[nC F]at H;have bp:(cop==6)=false:=by simpa using F
 clear F ay;by_cases F:cop=7
 ·rw[nD F]at H
  obtain⟨J,I⟩:=Prod.mk.inj H.out;obtain⟨O,G⟩:=Prod.mk.inj I;subst F;replace G:B.crd=V:=G;rw[J,O,G]at az;clear J O G I H;go_wp2_with fail
  refine np az.out ?_;rintro e ad ⟨rfl,Q⟩;have R:=hid (Q.up Z.out);clear Q az;go_wp2;go_ret;exact⟨rfl,R.out⟩
 rw[nC F]at H;have bs:(cop==7)=false:=by simpa using F
 clear F az;by_cases F:cop=8
 ·rw[nD F]at H
  obtain⟨J,I⟩:=Prod.mk.inj H.out;obtain⟨O,G⟩:=Prod.mk.inj I;subst F;replace G:B.crd=V:=G;rw[J,O,G]at a1;clear J O G I H;go_wp2_with fail
  refine np a1.out ?_;rintro e ad ⟨rfl,Q⟩;have R:=hid (Q.up Z.out);clear Q a1;go_wp2;go_ret;exact⟨rfl,R.out⟩
 rw[nC F]at H;have bu:(cop==8)=false:=by simpa using F
 clear F a1;by_cases F:cop=9
 ·rw[nD F]at H
  obtain⟨J,I⟩:=Prod.mk.inj H.out;obtain⟨O,G⟩:=Prod.mk.inj I;subst F;replace G:B.crd=V:=G;rw[J,O,G]at a6;clear J O G I H;go_wp2_with fail
  refine np a6.out ?_;rintro e ad ⟨rfl,Q⟩;have R:=hid (Q.up Z.out);clear Q a6;go_wp2;go_ret;exact⟨rfl,R.out⟩
 rw[nC F]at H;have bv:(cop==9)=false:=by simpa using F
 clear F a6;by_cases F:cop=10
 ·rw[nD F]at H
  obtain⟨J,I⟩:=Prod.mk.inj H.out;obtain⟨O,G⟩:=Prod.mk.inj I;subst F;replace G:B.crd=V:=G;rw[J,O,G]at a7;clear J O G I H;go_wp2_with fail
  refine np a7.out ?_;rintro e ad ⟨rfl,Q⟩;have R:=hid (Q.up Z.out);clear Q a7;go_wp2;go_ret;exact⟨rfl,R.out⟩
 rw[nC F]at H;have bx:(cop==10)=false:=by simpa using F
 clear F a7;by_cases F:cop=11
 ·rw[nD F]at H
  obtain⟨J,I⟩:=Prod.mk.inj H.out;obtain⟨O,G⟩:=Prod.mk.inj I;subst F;replace G:B.crd=V:=G;rw[J,O,G]at a8;clear J O G I H;go_wp2_with fail
  refine np a8.out ?_;rintro e ad ⟨rfl,Q⟩;have R:=hid (Q.up Z.out);clear Q a8;go_wp2;go_ret;exact⟨rfl,R.out⟩
 rw[nC F]at H;have bA:(cop==11)=false:=by simpa using F
 clear F a8;by_cases F:cop=13
 ·rw[nD F]at H
  obtain⟨J,I⟩:=Prod.mk.inj H.out;obtain⟨O,G⟩:=Prod.mk.inj I;subst F;replace G:(B.cor.beS cA cB).2=V:=G;rw[J,O,G]at ba;clear J O G I H;go_wp2_with fail
  refine np ba.out ?_;rintro e ad ⟨rfl,Q⟩;have R:=hid (Q.up Z.out);clear Q ba;go_wp2;go_ret;exact⟨rfl,R.out⟩
 rw[nC F]at H;have bB:(cop==13)=false:=by simpa using F
 clear F ba;obtain⟨rfl,I⟩:=Prod.mk.inj H.out;obtain⟨rfl,G⟩:=Prod.mk.inj I;replace G:B.crd=V:=G;rw[G]at bf;clear I G H;go_wp2;go_ret;exact⟨rfl,bf.out _ Z.out⟩
theorem IB{w:World}{b i:Nat}{v:Value}(h:w.cell? ⟨b,i,none⟩=some v):w.setCell ⟨b,i,none⟩ v=w:=by
 have e:w.heap.modify b (fun
  |.cells c F G=>.cells (if(⟨b,i,none⟩:Addr).spot.isSome then c else c.setIfInBounds i v) F G
  |o=>o)=w.heap:=by
  apply Array.ext
  ·simp
  ·intro j T I
   rw[Array.getElem_modify];by_cases H:b=j
   ·subst H
    rw[nD rfl];unfold World.cell? at h;have J:=Array.getElem?_eq_getElem I;simp only[J]at h;cases hx:w.heap[b]with
    |cells c F G=>
     rw[hx]at h;have h:c[i]? =some v:=h;have O:c.setIfInBounds i v=c:=by
      apply Array.ext
      ·simp
      ·intro k Q R
       rw[Array.getElem_setIfInBounds (by simpa using Q)];split
       ·rename_i hk
        subst hk;rw[Array.getElem?_eq_getElem R]at h;exact(Option.some.inj h).symm
       ·rfl
     show Obj.cells (c.setIfInBounds i v) F G=_;rw[O]
    |_=>rfl
   ·rw[nC H]
 unfold World.setCell;obtain⟨heap,tape,drawn,os,output⟩:=w;exact nW (fun q=>({heap:=q,tape:=tape,drawn:=drawn,os:=os,output:=output}:World)) e
theorem aJ{w:World}{r:Nat}(h:Dd w r):Bf w r (.int .i64 0) (.int .i64 0) (.int .i64 0) (.int .i64 0) (.int .i64 0) (.slice none 0 0) (.string ⟨#[]⟩)=w:=by
 obtain⟨⟨F,G,H,I,J,O,Q⟩,_⟩:=h;unfold Bf;rw[IB F,IB G,IB H,IB I,IB J,IB O,IB Q]
theorem Dd.but{w w':World}{b r:Nat}(h:Dd w r)(hb:Ao b w w')(F:r≠b):Dd w' r:=by
 obtain⟨⟨G,H,I,J,O,Q,R⟩,T⟩:=id h;exact⟨⟨(hb.cell (p:=⟨r,0,none⟩) h.lt F).trans G,(hb.cell (p:=⟨r,1,none⟩) h.lt F).trans H,(hb.cell (p:=⟨r,2,none⟩) h.lt F).trans I,(hb.cell (p:=⟨r,3,none⟩) h.lt F).trans J,(hb.cell (p:=⟨r,4,none⟩) h.lt F).trans O,(hb.cell (p:=⟨r,5,none⟩) h.lt F).trans Q,(hb.cell (p:=⟨r,6,none⟩) h.lt F).trans R⟩,fun j=>(hb.frozen (p:=⟨r,j,none⟩) h.lt F).trans (T j)⟩
noncomputable def AO.doF (c:AO) (q:Int) (x0:Nd) (ni:List Nd) (cop cA cB:Int) (p o n d:BA):Int×Gx×Nd×Int×Int×List Int×Int:=if cop=1 then((c.staT p).1,(c.staT p).2,x0,c.u,c.g,c.cs,c.k)else if cop=2 then((c.lisT p).1,(c.lisT p).2,x0,c.u,c.g,c.cs,c.k)else if cop=3 then((c.reaT p).1,(c.reaT p).2,x0,c.u,c.g,c.cs,c.k)else if cop=12 then((c.getT cop p n d).1,(c.getT cop p n d).2,x0,c.u,c.g,c.cs,c.k)else if cop=14 then(0,⟨0,0,0,0,CH x0,[],⟨#[]⟩⟩,x0,c.u,c.g,c.cs,c.k)else((c.actS q x0 ni cop cA cB p o n d).1,JN,(c.actS q x0 ni cop cA cB p o n d).2.1,(c.actS q x0 ni cop cA cB p o n d).2.2)
theorem Um{w:World}{b:Nat}{B:Bx}{x0:Nd}{ni:List Nd}(h:AX w b B)(be:Bv B x0 ni){cop cA cB:Int}{cpath coth cname cdata:BA}(bl:Int)(cu:w.cell? ⟨0,0,none⟩=some (.int .i64 bl))(cx:cname.size≤1000){S:Int×Gx×Nd×Int×Int×List Int×Int}(c3:B.cor.doF B.q x0 ni cop cA cB cpath coth cname cdata=S):
 Calls prog 10 #[.pointer (some ⟨b,0,none⟩),.agg #[.int .i64 cop,.string cpath,.string coth,.string cname,.string cdata,.int .i64 cA,.int .i64 cB]] w fun e w'=>GQ w' (fun _=>false) (S.1,S.2.1) e∧Cw w w' b B ni S.2.2.1 S.2.2.2:=by
 have G:=hid c3;clear c3;unfold AO.doF at G;have cl:Bw w (w.alloc (Az cop cpath coth cname cdata cA cB)):=(nv _ _).alloc (nn _) _;have bG:Bw w ((w.alloc (Az cop cpath coth cname cdata cA cB)).alloc C9):=cl.alloc cl.size _;have bf:=h.below bG;have bn:=Af bG cu;have bg:Hid (Dd ((w.alloc (Az cop cpath coth cname cdata cA cB)).alloc C9) (w.heap.size+1)):=Dd.new _ _ (by rw[nw]);have bH:=hid (Yl (cop:=cop) (cA:=cA) (cB:=cB) (cpath:=cpath) (coth:=coth) (cname:=cname) (cdata:=cdata) bf be bl bn (SS:=fun k=>k==w.heap.size+1))
 have bY:=hid (Yq (cop:=cop) (cA:=cA) (cB:=cB) (cpath:=cpath) (coth:=coth) (cname:=cname) (cdata:=cdata) bf be bl bn h bG (r:=w.heap.size+1) (by omega) bg.out (fun o da=>(by
  rw[nl _ _ _ _ (by rw[nw])];exact rG (by simpa using da))))
 have b0:=hid (Yr (cop:=cop) (cA:=cA) (cB:=cB) (cpath:=cpath) (coth:=coth) (cname:=cname) (cdata:=cdata) bf be bl bn (SS:=fun k=>k==w.heap.size+1));have b1:=hid (Zt (cop:=cop) (cA:=cA) (cB:=cB) (cpath:=cpath) (coth:=coth) (cname:=cname) (cdata:=cdata) bf be bl bn cx (SS:=fun k=>k==w.heap.size+1));have cf:=hid (bK (cop:=cop) (cA:=cA) (cB:=cB) (cpath:=cpath) (coth:=coth) (cname:=cname) (cdata:=cdata) bf be bl bn cx);have c4:Hid (Calls prog 23 #[.pointer (some ⟨b,0,none⟩)] ((w.alloc (Az cop cpath coth cname cdata cA cB)).alloc C9) fun e w'=>(∃h',e=.returned (Al x0 h')∧Ah w'.cell? x0 h')∧Bw ((w.alloc (Az cop cpath coth cname cdata cA cB)).alloc C9) w'):=by
  have c5:=bf.cells.2.2.1;have c6:=bf.lay;rw[be.xs]at c5 c6;refine np (Ga c5 c6) ?_;rintro e dn ⟨⟨h',db,_,dd⟩,de⟩;exact⟨⟨h',db,dd⟩,de⟩
 have a6:=hid bG;have dg:=hid h;have b2:=hid be;have b3:=hid (Cw.stay dg.out b2.out);have dp:=h.lt;obtain⟨bo,bp,bs,bu,bv,bx,bA⟩:=c7 w cop cpath coth cname cdata cA cB C9;clear h be cl bG bf bn cu;go_enter func10,ntmps10;go_upto_region 1 with fail
 generalize((w.alloc (Az cop cpath coth cname cdata cA cB)).alloc C9)=dr at*;by_cases I:cop=1
 ·rw[nD I]at G
  subst I;replace G:Hid (((B.cor.staT cpath).1,(B.cor.staT cpath).2,x0,B.crd)=S):=G.out;generalize B.cor.staT cpath=bi at bH G;obtain⟨E,Q,R,T,V,vn,J,Y⟩:=bi;obtain rfl:=G.out;dsimp only[GQ]at bH;clear G;go_wp2_with fail
  refine np bH.out ?_;rintro e Z ⟨⟨H,vc,rfl,a7,a8⟩,q2⟩;have bb:=hid (a6.out.trans (q2.mono a6.out.size));have aa:=hid (bg.out.below q2);have bk:=hid a7;have ba:Hid (AW (Ag (Bf Z (w.heap.size+1) (.int .i64 Q) (.int .i64 R) (.int .i64 T) (.int .i64 V) (.int .i64 vn) (.slice H J.length vc) (.string Y)).cell? (fun _=>false)) H J):=by rw[Dg];exact a8.on (Gh Kd)
  clear q2 bH a7 a8;have ab:Hid (Bw w (Bf Z (w.heap.size+1) (.int .i64 Q) (.int .i64 R) (.int .i64 T) (.int .i64 V) (.int .i64 vn) (.slice H J.length vc) (.string Y))):=EU (by omega) (bb.out);obtain⟨ad,ak,ao,ap,ar,ay,az⟩:=(aa.out).store (.int .i64 Q) (.int .i64 R) (.int .i64 T) (.int .i64 V) (.int .i64 vn) (.slice H J.length vc) (.string Y);obtain⟨⟨t0,bB,bC,t3,t4,t5,bF⟩,F⟩:=id (aa.out);have b4:=F 0;have b5:=F 1;have b6:=F 2;have b7:=F 3;have b9:=F 4;have cb:=F 5;have cd:=F 6;obtain⟨a1,O⟩:∃a1,Bf Z (w.heap.size+1) (.int .i64 Q) (.int .i64 R) (.int .i64 T) (.int .i64 V) (.int .i64 vn) (.slice H J.length vc) (.string Y)=a1:=⟨_,rfl⟩;rw[O]at ad ak ao ap ar ay az ab ba;unfold Bf at O;have bd:Hid _:=O;clear O F bo bp bs bu bv bx bA;go_wp2;rw[bd.out];refine nG (v:=.tuple #[.agg #[.int .i64 Q,.int .i64 R,.int .i64 T,.int .i64 V,.int .i64 vn,.slice H J.length vc,.string Y],Am E]) (by simp[results,results10,go_sem,ad,ak,ao,ap,ar,ay,az]) rfl ⟨⟨H,vc,rfl,bk.out,ba.out⟩,b3.out _ ab.out⟩
 rw[nC I]at G;have ds:(cop==1)=false:=by simpa using I
 clear I bH;by_cases I:cop=2
 ·rw[nD I]at G
  subst I;replace G:Hid (((B.cor.lisT cpath).1,(B.cor.lisT cpath).2,x0,B.crd)=S):=G.out;generalize B.cor.lisT cpath=bi at bY G;obtain⟨E,Q,R,T,V,vn,J,Y⟩:=bi;obtain rfl:=G.out;dsimp only[GQ]at bY;clear G;go_wp2_with fail
  refine np bY.out ?_;rintro e Z ⟨⟨H,vc,rfl,a7,a8⟩,q2⟩;have bb:=hid (a6.out.trans (q2.mono a6.out.size));have aa:=hid (bg.out.below q2);have bk:=hid a7;have ba:Hid (AW (Ag (Bf Z (w.heap.size+1) (.int .i64 Q) (.int .i64 R) (.int .i64 T) (.int .i64 V) (.int .i64 vn) (.slice H J.length vc) (.string Y)).cell? (fun _=>false)) H J):=by rw[Dg];exact a8.on (Gh Kd)
  clear q2 bY a7 a8;have ab:Hid (Bw w (Bf Z (w.heap.size+1) (.int .i64 Q) (.int .i64 R) (.int .i64 T) (.int .i64 V) (.int .i64 vn) (.slice H J.length vc) (.string Y))):=EU (by omega) (bb.out);obtain⟨ad,ak,ao,ap,ar,ay,az⟩:=(aa.out).store (.int .i64 Q) (.int .i64 R) (.int .i64 T) (.int .i64 V) (.int .i64 vn) (.slice H J.length vc) (.string Y);obtain⟨⟨t0,bB,bC,t3,t4,t5,bF⟩,F⟩:=id (aa.out);have b4:=F 0;have b5:=F 1;have b6:=F 2;have b7:=F 3;have b9:=F 4;have cb:=F 5;have cd:=F 6;obtain⟨a1,O⟩:∃a1,Bf Z (w.heap.size+1) (.int .i64 Q) (.int .i64 R) (.int .i64 T) (.int .i64 V) (.int .i64 vn) (.slice H J.length vc) (.string Y)=a1:=⟨_,rfl⟩;rw[O]at ad ak ao ap ar ay az ab ba;unfold Bf at O;have bd:Hid _:=O;clear O F bo bp bs bu bv bx bA;go_wp2;rw[bd.out];refine nG (v:=.tuple #[.agg #[.int .i64 Q,.int .i64 R,.int .i64 T,.int .i64 V,.int .i64 vn,.slice H J.length vc,.string Y],Am E]) (by simp[results,results10,go_sem,ad,ak,ao,ap,ar,ay,az]) rfl ⟨⟨H,vc,rfl,bk.out,ba.out⟩,b3.out _ ab.out⟩
 rw[nC I]at G;have du:(cop==2)=false:=by simpa using I
 clear I bY;by_cases I:cop=3
 ·rw[nD I]at G
  subst I;replace G:Hid (((B.cor.reaT cpath).1,(B.cor.reaT cpath).2,x0,B.crd)=S):=G.out;generalize B.cor.reaT cpath=bi at b0 G;obtain⟨E,Q,R,T,V,vn,J,Y⟩:=bi;obtain rfl:=G.out;dsimp only[GQ]at b0;clear G;go_wp2_with fail
  refine np b0.out ?_;rintro e Z ⟨⟨H,vc,rfl,a7,a8⟩,q2⟩;have bb:=hid (a6.out.trans (q2.mono a6.out.size));have aa:=hid (bg.out.below q2);have bk:=hid a7;have ba:Hid (AW (Ag (Bf Z (w.heap.size+1) (.int .i64 Q) (.int .i64 R) (.int .i64 T) (.int .i64 V) (.int .i64 vn) (.slice H J.length vc) (.string Y)).cell? (fun _=>false)) H J):=by rw[Dg];exact a8.on (Gh Kd)
  clear q2 b0 a7 a8;have ab:Hid (Bw w (Bf Z (w.heap.size+1) (.int .i64 Q) (.int .i64 R) (.int .i64 T) (.int .i64 V) (.int .i64 vn) (.slice H J.length vc) (.string Y))):=EU (by omega) (bb.out);obtain⟨ad,ak,ao,ap,ar,ay,az⟩:=(aa.out).store (.int .i64 Q) (.int .i64 R) (.int .i64 T) (.int .i64 V) (.int .i64 vn) (.slice H J.length vc) (.string Y);obtain⟨⟨t0,bB,bC,t3,t4,t5,bF⟩,F⟩:=id (aa.out);have b4:=F 0;have b5:=F 1;have b6:=F 2;have b7:=F 3;have b9:=F 4;have cb:=F 5;have cd:=F 6;obtain⟨a1,O⟩:∃a1,Bf Z (w.heap.size+1) (.int .i64 Q) (.int .i64 R) (.int .i64 T) (.int .i64 V) (.int .i64 vn) (.slice H J.length vc) (.string Y)=a1:=⟨_,rfl⟩;rw[O]at ad ak ao ap ar ay az ab ba;unfold Bf at O;have bd:Hid _:=O;clear O F bo bp bs bu bv bx bA;go_wp2;rw[bd.out];refine nG (v:=.tuple #[.agg #[.int .i64 Q,.int .i64 R,.int .i64 T,.int .i64 V,.int .i64 vn,.slice H J.length vc,.string Y],Am E]) (by simp[results,results10,go_sem,ad,ak,ao,ap,ar,ay,az]) rfl ⟨⟨H,vc,rfl,bk.out,ba.out⟩,b3.out _ ab.out⟩
 rw[nC I]at G;have dw:(cop==3)=false:=by simpa using I
 clear I b0;by_cases I:cop=12
 ·rw[nD I]at G
  subst I;replace G:Hid (((B.cor.getT 12 cpath cname cdata).1,(B.cor.getT 12 cpath cname cdata).2,x0,B.crd)=S):=G.out;generalize B.cor.getT 12 cpath cname cdata=bi at b1 G;obtain⟨E,Q,R,T,V,vn,J,Y⟩:=bi;obtain rfl:=G.out;dsimp only[GQ]at b1;clear G;go_wp2_with fail
  refine np b1.out ?_;rintro e Z ⟨⟨H,vc,rfl,a7,a8⟩,q2⟩;have bb:=hid (a6.out.trans (q2.mono a6.out.size));have aa:=hid (bg.out.below q2);have bk:=hid a7;have ba:Hid (AW (Ag (Bf Z (w.heap.size+1) (.int .i64 Q) (.int .i64 R) (.int .i64 T) (.int .i64 V) (.int .i64 vn) (.slice H J.length vc) (.string Y)).cell? (fun _=>false)) H J):=by rw[Dg];exact a8.on (Gh Kd)
  clear q2 b1 a7 a8;have ab:Hid (Bw w (Bf Z (w.heap.size+1) (.int .i64 Q) (.int .i64 R) (.int .i64 T) (.int .i64 V) (.int .i64 vn) (.slice H J.length vc) (.string Y))):=EU (by omega) (bb.out);obtain⟨ad,ak,ao,ap,ar,ay,az⟩:=(aa.out).store (.int .i64 Q) (.int .i64 R) (.int .i64 T) (.int .i64 V) (.int .i64 vn) (.slice H J.length vc) (.string Y);obtain⟨⟨t0,bB,bC,t3,t4,t5,bF⟩,F⟩:=id (aa.out);have b4:=F 0;have b5:=F 1;have b6:=F 2;have b7:=F 3;have b9:=F 4;have cb:=F 5;have cd:=F 6;obtain⟨a1,O⟩:∃a1,Bf Z (w.heap.size+1) (.int .i64 Q) (.int .i64 R) (.int .i64 T) (.int .i64 V) (.int .i64 vn) (.slice H J.length vc) (.string Y)=a1:=⟨_,rfl⟩;rw[O]at ad ak ao ap ar ay az ab ba;unfold Bf at O;have bd:Hid _:=O;clear O F bo bp bs bu bv bx bA;go_wp2;rw[bd.out];refine nG (v:=.tuple #[.agg #[.int .i64 Q,.int .i64 R,.int .i64 T,.int .i64 V,.int .i64 vn,.slice H J.length vc,.string Y],Am E]) (by simp[results,results10,go_sem,ad,ak,ao,ap,ar,ay,az]) rfl ⟨⟨H,vc,rfl,bk.out,ba.out⟩,b3.out _ ab.out⟩
 rw[nC I]at G;have dx:(cop==12)=false:=by simpa using I
 clear I b1;by_cases I:cop=14
 ·rw[nD I]at G
  subst I;obtain⟨cg,c8⟩:∃n,Hid (CH x0=n):=⟨_,rfl⟩;replace G:Hid ((0,⟨0,0,0,0,CH x0,[],⟨#[]⟩⟩,x0,B.crd)=S):=G.out;rw[c8.out]at G;obtain rfl:=G.out;clear G;go_wp2_with fail
  refine np c4.out ?_;rintro e dy ⟨⟨dz,rfl,c9⟩,ch⟩;have co:=hid (JV c9 b2.out.fine.lil (by have:=b2.out.fine.cnt;omega) (by have:=LK x0 b2.out.fine.lil;have:=b2.out.fine.cnt;omega));rw[c8.out]at co;clear c4 c9;go_wp2_with fail
  refine np co.out ?_;rintro e Z ⟨rfl,q2⟩;have bb:=hid ((a6.out.trans (ch.mono a6.out.size)).trans (q2.mono (a6.out.trans (ch.mono a6.out.size)).size));have aa:=hid ((bg.out.below ch).below q2);clear q2 ch co;have ab:Hid (Bw w (Bf Z (w.heap.size+1) (.int .i64 0) (.int .i64 0) (.int .i64 0) (.int .i64 0) (.int .i64 cg) (.slice none 0 0) (.string ⟨#[]⟩))):=EU (by omega) (bb.out);obtain⟨ad,ak,ao,ap,ar,ay,az⟩:=(aa.out).store (.int .i64 0) (.int .i64 0) (.int .i64 0) (.int .i64 0) (.int .i64 cg) (.slice none 0 0) (.string ⟨#[]⟩);obtain⟨⟨t0,bB,bC,t3,t4,t5,bF⟩,F⟩:=id (aa.out);have b4:=F 0;have b5:=F 1;have b6:=F 2;have b7:=F 3;have b9:=F 4;have cb:=F 5;have cd:=F 6;obtain⟨a1,O⟩:∃a1,Bf Z (w.heap.size+1) (.int .i64 0) (.int .i64 0) (.int .i64 0) (.int .i64 0) (.int .i64 cg) (.slice none 0 0) (.string ⟨#[]⟩)=a1:=⟨_,rfl⟩;rw[O]at ad ak ao ap ar ay az ab;unfold Bf at O;have bd:Hid _:=O;clear O F bo bp bs bu bv bx bA;go_wp2;rw[bd.out];refine nG (v:=.tuple #[.agg #[.int .i64 0,.int .i64 0,.int .i64 0,.int .i64 0,.int .i64 cg,.slice none 0 0,.string ⟨#[]⟩],.nilIface]) (by simp[results,results10,go_sem,ad,ak,ao,ap,ar,ay,az]) rfl ⟨⟨none,0,rfl,⟨nn _,by decide⟩,.inl rfl⟩,b3.out _ ab.out⟩
 rw[nC I]at G;have d0:(cop==14)=false:=by simpa using I
 clear I;generalize B.cor.actS B.q x0 ni cop cA cB cpath coth cname cdata=dj at cf G;obtain⟨E,d1,C⟩:=dj;obtain rfl:=G.out;dsimp only at cf;clear G;go_wp2_with fail
 refine np cf.out ?_;rintro e Z ⟨rfl,cp⟩;have aa:=hid (bg.out.but cp.1 (by omega));have dk:=hid (cp.up a6.out);have cr:=aJ aa.out;unfold Bf at cr;have dm:Hid _:=cr;obtain⟨⟨t0,bB,bC,t3,t4,t5,bF⟩,F⟩:=id aa.out;have b4:=F 0;have b5:=F 1;have b6:=F 2;have b7:=F 3;have b9:=F 4;have cb:=F 5;have cd:=F 6;clear cp cf cr F bo bp bs bu bv bx bA;go_wp2;rw[dm.out];refine nG (v:=.tuple #[.agg #[.int .i64 0,.int .i64 0,.int .i64 0,.int .i64 0,.int .i64 0,.slice none 0 0,.string ⟨#[]⟩],Am E]) (by simp[results,results10,go_sem,t0,bB,bC,t3,t4,t5,bF]) rfl ⟨⟨none,0,rfl,⟨nn _,by decide⟩,.inl rfl⟩,dk.out⟩
def MQ(w w':World)(n:Nat)(H:List Value)(e:Ending):Prop:=(∃F G,e=.returned (.slice F n G)∧(n≤G∧G≤9223372036854775807)∧(n=0∨∃g,F=some ⟨g,0,none⟩∧w.heap.size≤g∧∀j u,H[j]? =some u→w'.cell? ⟨g,j,none⟩=some u)∧∀p,F=some p→p.block<w'.heap.size)∧Bw w w'
theorem Tryz.infoRg:(prog.info? 65).map (fun i=>(i.zero,i.size,i.bytes))=some (some (.agg #[.int .i64 0,.int .i64 0,.int .i64 0]),3,24):=by kernel_rfl
theorem XJ{w:World}(a:Option Addr)(n cap:Nat)(F:List Value)(ay:F.length=n*3)(bn:n≤1000)(az:(a=none∧n=0)∨∃G,a=some G∧∀j u,F[j]? =some u→w.cell? (G.add j)=some u)(a1:∀u∈F,u.oneCell'=true):
 Calls prog 19 #[.slice a n cap] w fun e w'=>MQ w w' n F e:=by
 obtain⟨a6,a7,a8,ba,bb⟩:=DC Tryz.infoRg;have V:Bw w (w.alloc (.cells #[] 65)):=(nv _ _).alloc (nn _) _;have Y:(w.alloc (.cells #[] 65)).ownsRow w.heap.size 65 3 (.slice (some ⟨w.heap.size,0,none⟩) 0 0) 0 []:=⟨rfl,.inr ⟨w.heap.size,0,#[],rfl,nn _,by unfold World.alloc;simp,nn _,nN _,rfl,rfl⟩⟩;rcases az with⟨rfl,rfl⟩|⟨G,rfl,bd⟩
 ·have be:=fun(W:World) (n c:Nat)=>rY (P:=prog) W 22 65 none n c 0 0 underlying22
  go_enter func19,ntmps19;go_wp2;go_ret;exact⟨⟨none,0,rfl,⟨nn _,by omega⟩,.inl rfl,fun p H=>by cases H⟩,nv _ _⟩
 ·have be:=fun(W:World) (n c:Nat)=>rY (P:=prog) W 22 65 (some G) n c 0 0 underlying22
  have Z:∀j u,F[j]? =some u→(w.alloc (.cells #[] 65)).cell? (G.add j)=some u:=fun j u I=>Af V (bd j u I);have J:=hid V
  go_enter func19,ntmps19;go_wp2_with (at_builtin;refine DZ (w.alloc (.cells #[] 65)) rfl (.tmp 5) (.tmp 6) 22 rfl w.heap.size 65 a6 (.agg #[.int .i64 0,.int .i64 0,.int .i64 0]) 3 24 underlying22 a7 a8 ba bb rfl (by decide) (.slice (some ⟨w.heap.size,0,none⟩) 0 0) 0 [] rfl Y (some G) n cap F rfl ay (.inr ⟨G,rfl,Z⟩) a1 (by unfold maxLen;omega) (by omega) (by have:=J.out.size;omega) ?_)
  intro bo w' aa ab bf;obtain⟨ad,ak,rfl,ao,O,Q⟩:=KN aa;have bg:Hid (MQ w w' n F (.returned (.slice ad n ak))):=by
   unfold maxLen at O;have bi:Bw w w':=J.out.grown ab J.out.size (fun k e=>by cases e;exact nn _);refine⟨⟨ad,ak,rfl,⟨ao,O⟩,?_,fun p H=>?_⟩,bi⟩
   ·rcases Q with⟨_,R,_,_⟩|⟨g,bk,rfl,ap,T,bl,ar⟩
    ·exact .inl R
    ·exact .inr ⟨g,rfl,ap,fun j u I=>F7 T ar (by simpa using I)⟩
   ·rcases Q with⟨R,_⟩|⟨g,bk,rfl,ap,T,bl,ar⟩
    ·rw[R]at H;cases H
    ·cases H
     exact(nJ.1 T).1
  clear aa ab bf ao O Q Z Y;go_wp2;go_ret;exact bg.out
theorem Tryz.infoI:(prog.info? 3).map (fun i=>(i.zero,i.size,i.bytes))=some (some (.int .i64 0),1,8):=by kernel_rfl
theorem Xz{w:World}(a:Option Addr)(n cap:Nat)(F:List Value)(ay:F.length=n*1)(bn:n≤1000)(az:(a=none∧n=0)∨∃G,a=some G∧∀j u,F[j]? =some u→w.cell? (G.add j)=some u)(a1:∀u∈F,u.oneCell'=true):
 Calls prog 39 #[.slice a n cap] w fun e w'=>MQ w w' n F e:=by
 obtain⟨a6,a7,a8,ba,bb⟩:=DC Tryz.infoI;have V:Bw w (w.alloc (.cells #[] 3)):=(nv _ _).alloc (nn _) _;have Y:(w.alloc (.cells #[] 3)).ownsRow w.heap.size 3 1 (.slice (some ⟨w.heap.size,0,none⟩) 0 0) 0 []:=⟨rfl,.inr ⟨w.heap.size,0,#[],rfl,nn _,by unfold World.alloc;simp,nn _,nN _,rfl,rfl⟩⟩;rcases az with⟨rfl,rfl⟩|⟨G,rfl,bd⟩
 ·have be:=fun(W:World) (n c:Nat)=>rY (P:=prog) W 25 3 none n c 0 0 underlying25
  go_enter func39,ntmps39;go_wp2;go_ret;exact⟨⟨none,0,rfl,⟨nn _,by omega⟩,.inl rfl,fun p H=>by cases H⟩,nv _ _⟩
 ·have be:=fun(W:World) (n c:Nat)=>rY (P:=prog) W 25 3 (some G) n c 0 0 underlying25
  have Z:∀j u,F[j]? =some u→(w.alloc (.cells #[] 3)).cell? (G.add j)=some u:=fun j u I=>Af V (bd j u I);have J:=hid V
  go_enter func39,ntmps39;go_wp2_with (at_builtin;refine DZ (w.alloc (.cells #[] 3)) rfl (.tmp 5) (.tmp 6) 25 rfl w.heap.size 3 a6 (.int .i64 0) 1 8 underlying25 a7 a8 ba bb rfl (by decide) (.slice (some ⟨w.heap.size,0,none⟩) 0 0) 0 [] rfl Y (some G) n cap F rfl ay (.inr ⟨G,rfl,Z⟩) a1 (by unfold maxLen;omega) (by omega) (by have:=J.out.size;omega) ?_)
  intro bo w' aa ab bf;obtain⟨ad,ak,rfl,ao,O,Q⟩:=KN aa;have bg:Hid (MQ w w' n F (.returned (.slice ad n ak))):=by
   unfold maxLen at O;have bi:Bw w w':=J.out.grown ab J.out.size (fun k e=>by cases e;exact nn _);refine⟨⟨ad,ak,rfl,⟨ao,O⟩,?_,fun p H=>?_⟩,bi⟩
   ·rcases Q with⟨_,R,_,_⟩|⟨g,bk,rfl,ap,T,bl,ar⟩
    ·exact .inl R
    ·exact .inr ⟨g,rfl,ap,fun j u I=>F7 T ar (by simpa using I)⟩
   ·rcases Q with⟨R,_⟩|⟨g,bk,rfl,ap,T,bl,ar⟩
    ·rw[R]at H;cases H
    ·cases H
     exact(nJ.1 T).1
  clear aa ab bf ao O Q Z Y;go_wp2;go_ret;exact bg.out
def D8:List Rg→List Value
 |[]=>[]
 |r::l=>.int .i64 r.i::.int .i64 r.o::.int .i64 r.n::D8 l
theorem TR:∀rs:List Rg,(D8 rs).length=rs.length*3
 |[]=>rfl
 |r::l=>by rw[D8,n3,n3,n3,n3,TR l];omega
theorem UR:∀rs:List Rg,∀u∈D8 rs,u.oneCell'=true
 |[],u,h=>by cases h
 |r::l,u,h=>by
  rw[D8]at h;simp only[nY]at h;rcases h with rfl|rfl|rfl|h
  ·rfl
  ·rfl
  ·rfl
  ·exact UR l u h
theorem U8:∀{rs:List Rg} {j:Nat} {u:Value},(D8 rs)[j]? =some u→∃k r,rs[k]? =some r∧((j=k*3∧u=.int .i64 r.i)∨(j=k*3+1∧u=.int .i64 r.o)∨(j=k*3+2∧u=.int .i64 r.n))
 |[],j,u,h=>by simp[D8]at h
 |r::l,0,u,h=>⟨0,r,rfl,.inl ⟨rfl,by simp[D8]at h;exact h.symm⟩⟩
 |r::l,1,u,h=>⟨0,r,rfl,.inr (.inl ⟨rfl,by simp[D8]at h;exact h.symm⟩)⟩
 |r::l,2,u,h=>⟨0,r,rfl,.inr (.inr ⟨rfl,by simp[D8]at h;exact h.symm⟩)⟩
 |r::l,j+3,u,h=>by
  have h:(D8 l)[j]? =some u:=by simpa [D8]using h
  obtain⟨k,H,I,J⟩:=U8 h;refine⟨k+1,H,by simpa using I,?_⟩;rcases J with⟨G,F⟩|⟨G,F⟩|⟨G,F⟩
  ·exact .inl ⟨by omega,F⟩
  ·exact .inr (.inl ⟨by omega,F⟩)
  ·exact .inr (.inr ⟨by omega,F⟩)
theorem U2:∀{rs:List Rg} {k:Nat} {r:Rg},rs[k]? =some r→(D8 rs)[k*3]? =some (.int .i64 r.i)∧(D8 rs)[k*3+1]? =some (.int .i64 r.o)∧(D8 rs)[k*3+2]? =some (.int .i64 r.n)
 |[],k,r,h=>by simp at h
 |q::l,0,r,h=>by
  have:q=r:=by simpa using h
  subst this;exact⟨rfl,rfl,rfl⟩
 |q::l,k+1,r,h=>by
  obtain⟨a,b,c⟩:=U2 (rs:=l) (k:=k) (r:=r) (by simpa using h);rw[show(k+1)*3=k*3+3 by omega];exact⟨by simpa [D8]using a,by simpa [D8]using b,by simpa [D8]using c⟩
theorem PW{w:World}{a:Option Addr}(cap:Nat){rs:List Rg}(h:Rgs w a rs)(ap:rs.length≤100):
 Calls prog 19 #[.slice a rs.length cap] w fun e w'=>(∃F G,e=.returned (.slice F rs.length G)∧(rs.length≤G∧G≤9223372036854775807)∧Rgs w' F rs∧(∀p,F=some p→p.block<w'.heap.size)∧∀p,F=some p→rs≠[]→w.heap.size≤p.block)∧Bw w w':=by
 refine np (XJ a rs.length cap (D8 rs) (TR rs) (by omega) ?_ (UR rs)) ?_
 ·rcases h with rfl|⟨b,ar,rfl,H⟩
  ·cases a with
   |none=>exact .inl ⟨rfl,rfl⟩
   |some R=>exact .inr ⟨R,rfl,fun j u I=>by simp[D8]at I⟩
  ·refine .inr ⟨_,rfl,fun j u I=>?_⟩
   rw[D2];obtain⟨k,r,J,T⟩:=U8 I;obtain⟨V,g1,Y⟩:=H k r J;rcases T with⟨rfl,rfl⟩|⟨rfl,rfl⟩|⟨rfl,rfl⟩
   ·exact V
   ·exact g1
   ·exact Y
 ·rintro e w' ⟨⟨F,G,rfl,Z,Q,aa⟩,hb⟩
  refine⟨⟨F,G,rfl,Z,?_,aa,fun p ab ad=>?_⟩,hb⟩;rotate_left
  ·rcases Q with O|⟨g,rfl,ak,_⟩
   ·exact absurd (rq.1 O) ad
   ·cases ab
    exact ak
  rcases Q with O|⟨g,rfl,_,H⟩
  ·exact .inl (rq.1 O)
  ·refine .inr ⟨g,0,rfl,fun k r J=>?_⟩
   obtain⟨ao,a2,a3⟩:=U2 J;rw[nU];exact⟨H _ _ ao,H _ _ a2,H _ _ a3⟩
theorem WO{w:World}{a:Option Addr}(cap:Nat){F:List Int}(h:A6 w a F)(ad:F.length≤100):
 Calls prog 39 #[.slice a F.length cap] w fun e w'=>(∃G H,e=.returned (.slice G F.length H)∧(F.length≤H∧H≤9223372036854775807)∧(F=[]∨∃g,G=some ⟨g,0,none⟩∧w.heap.size≤g∧∀i,i<F.length→Ce w' g i (.int .i64 (F.getD i 0)))∧∀p,G=some p→p.block<w'.heap.size)∧Bw w w':=by
 refine np (Xz a F.length cap (F.map (Value.int .i64)) (by simp) (by omega) ?_ (fun u T=>by obtain⟨z,_,rfl⟩:=rx.1 T;rfl)) ?_
 ·rcases h with rfl|⟨b,ak,rfl,J⟩
  ·cases a with
   |none=>exact .inl ⟨rfl,rfl⟩
   |some V=>exact .inr ⟨V,rfl,fun j u I=>by simp at I⟩
  ·refine .inr ⟨_,rfl,fun j u I=>?_⟩
   rw[D2];rw[n4]at I;obtain⟨z,Q,rfl⟩:=n0.1 I;have O:=(ny.1 Q).1;rw[J j O];simp[List.getD,Q]
 ·rintro e w' ⟨⟨G,H,rfl,Y,Z,O⟩,hb⟩
  refine⟨⟨G,H,rfl,Y,?_,O⟩,hb⟩;rcases Z with aa|⟨g,rfl,ab,J⟩
  ·exact .inl (rq.1 aa)
  ·refine .inr ⟨g,rfl,ab,fun i R=>J _ _ ?_⟩
   rw[n4,nt R];simp[List.getD,nt R]
theorem bh{w:World}{F G ck:Int}{ca:Option Addr}{cc:Nat}{cs:List Int}(h:A6 w ca cs)(bn:cs.length≤100):
 Calls prog 20 #[.agg #[.int .i64 F,.int .i64 G,.slice ca cs.length cc,.int .i64 ck]] w fun e w'=>(∃H Q,e=.returned (.agg #[.int .i64 F,.int .i64 G,.slice H cs.length Q,.int .i64 ck])∧(cs.length≤Q∧Q≤9223372036854775807)∧A6 w' H cs∧∀p,H=some p→p.block<w'.heap.size)∧Bw w w':=by
 have R:(w.alloc (.cells #[.int .i64 F,.int .i64 G,.slice ca cs.length cc,.int .i64 ck] 27)).heap.size=w.heap.size+1:=nw _ _;have Y:Bw w (w.alloc (.cells #[.int .i64 F,.int .i64 G,.slice ca cs.length cc,.int .i64 ck] 27)):=(nv _ _).alloc (nn _) _;have Z:Bw w ((w.alloc (.cells #[.int .i64 F,.int .i64 G,.slice ca cs.length cc,.int .i64 ck] 27)).alloc (.cells #[.int .i64 0,.int .i64 0,.slice none 0 0,.int .i64 0] 27)):=Y.alloc Y.size _;have ar:Bw (w.alloc (.cells #[.int .i64 F,.int .i64 G,.slice ca cs.length cc,.int .i64 ck] 27)) ((w.alloc (.cells #[.int .i64 F,.int .i64 G,.slice ca cs.length cc,.int .i64 ck] 27)).alloc (.cells #[.int .i64 0,.int .i64 0,.slice none 0 0,.int .i64 0] 27)):=(nv _ _).alloc (nn _) _;have c0:((w.alloc (.cells #[.int .i64 F,.int .i64 G,.slice ca cs.length cc,.int .i64 ck] 27)).alloc (.cells #[.int .i64 0,.int .i64 0,.slice none 0 0,.int .i64 0] 27)).cell? ⟨w.heap.size,0,none⟩=some (.int .i64 F):=AE (nl _ _ _ _ rfl);have c1:((w.alloc (.cells #[.int .i64 F,.int .i64 G,.slice ca cs.length cc,.int .i64 ck] 27)).alloc (.cells #[.int .i64 0,.int .i64 0,.slice none 0 0,.int .i64 0] 27)).cell? ⟨w.heap.size,1,none⟩=some (.int .i64 G):=AE (nl _ _ _ _ rfl);have c2:((w.alloc (.cells #[.int .i64 F,.int .i64 G,.slice ca cs.length cc,.int .i64 ck] 27)).alloc (.cells #[.int .i64 0,.int .i64 0,.slice none 0 0,.int .i64 0] 27)).cell? ⟨w.heap.size,2,none⟩=some (.slice ca cs.length cc):=AE (nl _ _ _ _ rfl);have ay:((w.alloc (.cells #[.int .i64 F,.int .i64 G,.slice ca cs.length cc,.int .i64 ck] 27)).alloc (.cells #[.int .i64 0,.int .i64 0,.slice none 0 0,.int .i64 0] 27)).cell? ⟨w.heap.size,3,none⟩=some (.int .i64 ck):=AE (nl _ _ _ _ rfl);have aa:((w.alloc (.cells #[.int .i64 F,.int .i64 G,.slice ca cs.length cc,.int .i64 ck] 27)).alloc (.cells #[.int .i64 0,.int .i64 0,.slice none 0 0,.int .i64 0] 27)).cell? ⟨w.heap.size+1,0,none⟩=some (.int .i64 0):=nl _ _ _ _ R.symm;have ab:((w.alloc (.cells #[.int .i64 F,.int .i64 G,.slice ca cs.length cc,.int .i64 ck] 27)).alloc (.cells #[.int .i64 0,.int .i64 0,.slice none 0 0,.int .i64 0] 27)).cell? ⟨w.heap.size+1,1,none⟩=some (.int .i64 0):=nl _ _ _ _ R.symm;have ad:((w.alloc (.cells #[.int .i64 F,.int .i64 G,.slice ca cs.length cc,.int .i64 ck] 27)).alloc (.cells #[.int .i64 0,.int .i64 0,.slice none 0 0,.int .i64 0] 27)).cell? ⟨w.heap.size+1,2,none⟩=some (.slice none 0 0):=nl _ _ _ _ R.symm;have ak:((w.alloc (.cells #[.int .i64 F,.int .i64 G,.slice ca cs.length cc,.int .i64 ck] 27)).alloc (.cells #[.int .i64 0,.int .i64 0,.slice none 0 0,.int .i64 0] 27)).cell? ⟨w.heap.size+1,3,none⟩=some (.int .i64 0):=nl _ _ _ _ R.symm;have az:∀q,((w.alloc (.cells #[.int .i64 F,.int .i64 G,.slice ca cs.length cc,.int .i64 ck] 27)).alloc (.cells #[.int .i64 0,.int .i64 0,.slice none 0 0,.int .i64 0] 27)).frozen? ⟨w.heap.size,q,none⟩=false:=fun q=>by
  rw[ar.frozen (p:=⟨w.heap.size,q,none⟩) (by show w.heap.size<_;omega)];exact nQ _ _ _ _ rfl
 have T:∀q,((w.alloc (.cells #[.int .i64 F,.int .i64 G,.slice ca cs.length cc,.int .i64 ck] 27)).alloc (.cells #[.int .i64 0,.int .i64 0,.slice none 0 0,.int .i64 0] 27)).frozen? ⟨w.heap.size+1,q,none⟩=false:=fun q=>nQ _ _ _ _ R.symm;have a1:Hid (Calls prog 39 #[.slice ca cs.length cc] ((w.alloc (.cells #[.int .i64 F,.int .i64 G,.slice ca cs.length cc,.int .i64 ck] 27)).alloc (.cells #[.int .i64 0,.int .i64 0,.slice none 0 0,.int .i64 0] 27)) fun e w'=>(∃H Q,e=.returned (.slice H cs.length Q)∧(cs.length≤Q∧Q≤9223372036854775807)∧(cs=[]∨∃g,H=some ⟨g,0,none⟩∧((w.alloc (.cells #[.int .i64 F,.int .i64 G,.slice ca cs.length cc,.int .i64 ck] 27)).alloc (.cells #[.int .i64 0,.int .i64 0,.slice none 0 0,.int .i64 0] 27)).heap.size≤g∧∀i,i<cs.length→Ce w' g i (.int .i64 (cs.getD i 0)))∧∀p,H=some p→p.block<w'.heap.size)∧Bw ((w.alloc (.cells #[.int .i64 F,.int .i64 G,.slice ca cs.length cc,.int .i64 ck] 27)).alloc (.cells #[.int .i64 0,.int .i64 0,.slice none 0 0,.int .i64 0] 27)) w'):=WO cc (h.below Z) bn
 have a6:Hid (((w.alloc (.cells #[.int .i64 F,.int .i64 G,.slice ca cs.length cc,.int .i64 ck] 27)).alloc (.cells #[.int .i64 0,.int .i64 0,.slice none 0 0,.int .i64 0] 27)).heap.size=w.heap.size+1+1):=by show _=_;rw[nw,R]
 have a7:Hid (Bw w ((w.alloc (.cells #[.int .i64 F,.int .i64 G,.slice ca cs.length cc,.int .i64 ck] 27)).alloc (.cells #[.int .i64 0,.int .i64 0,.slice none 0 0,.int .i64 0] 27))):=Z;clear Y Z ar h R;go_enter func20,ntmps20;go_upto_region 1 with fail
 generalize((w.alloc (.cells #[.int .i64 F,.int .i64 G,.slice ca cs.length cc,.int .i64 ck] 27)).alloc (.cells #[.int .i64 0,.int .i64 0,.slice none 0 0,.int .i64 0] 27))=ao at*;go_wp2_with fail
 refine np a1.out ?_;rintro e O ⟨⟨H,I,rfl,a8,ba,bb⟩,J⟩;have bo:=a6.out;have la:w.heap.size<ao.heap.size:=by omega
 have lb:w.heap.size+1<ao.heap.size:=by omega
 have c0:=Af J c0;have c1:=Af J c1;have c2:=Af J c2;have ay:=Af J ay;have aa:=Af J aa;have ab:=Af J ab;have ad:=Af J ad;have ak:=Af J ak;have bC:=(J.frozen (p:=⟨w.heap.size,2,none⟩) la).trans (az 2);have bF:=(J.frozen (p:=⟨w.heap.size+1,0,none⟩) lb).trans (T 0);have bG:=(J.frozen (p:=⟨w.heap.size+1,1,none⟩) lb).trans (T 1);have bH:=(J.frozen (p:=⟨w.heap.size+1,2,none⟩) lb).trans (T 2);have bY:=(J.frozen (p:=⟨w.heap.size+1,3,none⟩) lb).trans (T 3);have bp:Hid (cs.length≤I∧I≤9223372036854775807):=a8;have bd:∀g i,ao.heap.size≤g→(((((O.setCell ⟨w.heap.size,2,none⟩ (.slice H cs.length I)).setCell ⟨w.heap.size+1,0,none⟩ (.int .i64 F)).setCell ⟨w.heap.size+1,1,none⟩ (.int .i64 G)).setCell ⟨w.heap.size+1,2,none⟩ (.slice H cs.length I)).setCell ⟨w.heap.size+1,3,none⟩ (.int .i64 ck)).cell? ⟨g,i,none⟩=O.cell? ⟨g,i,none⟩:=fun g i be=>by
  rw[Bk (by show g≠w.heap.size+1;omega),Bk (by show g≠w.heap.size+1;omega),Bk (by show g≠w.heap.size+1;omega),Bk (by show g≠w.heap.size+1;omega),Bk (by show g≠w.heap.size;omega)]
 have V:Hid (A6 (((((O.setCell ⟨w.heap.size,2,none⟩ (.slice H cs.length I)).setCell ⟨w.heap.size+1,0,none⟩ (.int .i64 F)).setCell ⟨w.heap.size+1,1,none⟩ (.int .i64 G)).setCell ⟨w.heap.size+1,2,none⟩ (.slice H cs.length I)).setCell ⟨w.heap.size+1,3,none⟩ (.int .i64 ck)) H cs∧(∀p,H=some p→p.block<(((((O.setCell ⟨w.heap.size,2,none⟩ (.slice H cs.length I)).setCell ⟨w.heap.size+1,0,none⟩ (.int .i64 F)).setCell ⟨w.heap.size+1,1,none⟩ (.int .i64 G)).setCell ⟨w.heap.size+1,2,none⟩ (.slice H cs.length I)).setCell ⟨w.heap.size+1,3,none⟩ (.int .i64 ck)).heap.size)∧Bw w (((((O.setCell ⟨w.heap.size,2,none⟩ (.slice H cs.length I)).setCell ⟨w.heap.size+1,0,none⟩ (.int .i64 F)).setCell ⟨w.heap.size+1,1,none⟩ (.int .i64 G)).setCell ⟨w.heap.size+1,2,none⟩ (.slice H cs.length I)).setCell ⟨w.heap.size+1,3,none⟩ (.int .i64 ck))):=by
  have bs:=a7.out.trans (J.mono a7.out.size);refine⟨?_,fun p bu=>?_,?_⟩
  ·rcases ba with e|⟨g,bv,be,bx⟩
   ·exact .inl e
   ·refine .inr ⟨g,0,bv,fun i bA=>?_⟩
    rw[nU,bd _ _ be];exact bx i bA
  ·have:=bb p bu
   simpa using this
  ·exact((((bs.setCell (p:=⟨w.heap.size,2,none⟩) (nn _) _).setCell (p:=⟨w.heap.size+1,0,none⟩) (Nat.le_succ _) _).setCell (p:=⟨w.heap.size+1,1,none⟩) (Nat.le_succ _) _).setCell (p:=⟨w.heap.size+1,2,none⟩) (Nat.le_succ _) _).setCell (p:=⟨w.heap.size+1,3,none⟩) (Nat.le_succ _) _
 have bf:(((((O.setCell ⟨w.heap.size,2,none⟩ (.slice H cs.length I)).setCell ⟨w.heap.size+1,0,none⟩ (.int .i64 F)).setCell ⟨w.heap.size+1,1,none⟩ (.int .i64 G)).setCell ⟨w.heap.size+1,2,none⟩ (.slice H cs.length I)).setCell ⟨w.heap.size+1,3,none⟩ (.int .i64 ck)).cell? ⟨w.heap.size+1,0,none⟩=some (.int .i64 F):=by
  rw[AA (by omega),AA (by omega),AA (by omega)];exact nI _ _ _ ((Bk (by show w.heap.size+1≠w.heap.size;omega)).trans aa)
 have bg:(((((O.setCell ⟨w.heap.size,2,none⟩ (.slice H cs.length I)).setCell ⟨w.heap.size+1,0,none⟩ (.int .i64 F)).setCell ⟨w.heap.size+1,1,none⟩ (.int .i64 G)).setCell ⟨w.heap.size+1,2,none⟩ (.slice H cs.length I)).setCell ⟨w.heap.size+1,3,none⟩ (.int .i64 ck)).cell? ⟨w.heap.size+1,1,none⟩=some (.int .i64 G):=by
  rw[AA (by omega),AA (by omega)];exact nI _ _ _ ((AA (by omega)).trans ((Bk (by show w.heap.size+1≠w.heap.size;omega)).trans ab))
 have bi:(((((O.setCell ⟨w.heap.size,2,none⟩ (.slice H cs.length I)).setCell ⟨w.heap.size+1,0,none⟩ (.int .i64 F)).setCell ⟨w.heap.size+1,1,none⟩ (.int .i64 G)).setCell ⟨w.heap.size+1,2,none⟩ (.slice H cs.length I)).setCell ⟨w.heap.size+1,3,none⟩ (.int .i64 ck)).cell? ⟨w.heap.size+1,2,none⟩=some (.slice H cs.length I):=by
  rw[AA (by omega)];exact nI _ _ _ ((AA (by omega)).trans ((AA (by omega)).trans ((Bk (by show w.heap.size+1≠w.heap.size;omega)).trans ad)))
 have bk:(((((O.setCell ⟨w.heap.size,2,none⟩ (.slice H cs.length I)).setCell ⟨w.heap.size+1,0,none⟩ (.int .i64 F)).setCell ⟨w.heap.size+1,1,none⟩ (.int .i64 G)).setCell ⟨w.heap.size+1,2,none⟩ (.slice H cs.length I)).setCell ⟨w.heap.size+1,3,none⟩ (.int .i64 ck)).cell? ⟨w.heap.size+1,3,none⟩=some (.int .i64 ck):=nI _ _ _ ((AA (by omega)).trans ((AA (by omega)).trans ((AA (by omega)).trans ((Bk (by show w.heap.size+1≠w.heap.size;omega)).trans ak))));obtain⟨bl,ap⟩:∃bl,(((((O.setCell ⟨w.heap.size,2,none⟩ (.slice H cs.length I)).setCell ⟨w.heap.size+1,0,none⟩ (.int .i64 F)).setCell ⟨w.heap.size+1,1,none⟩ (.int .i64 G)).setCell ⟨w.heap.size+1,2,none⟩ (.slice H cs.length I)).setCell ⟨w.heap.size+1,3,none⟩ (.int .i64 ck))=bl:=⟨_,rfl⟩;rw[ap]at bf bg bi bk V;have bB:Hid _:=ap;clear ap bd ba bb J a1 az T bo la lb a8 a6;go_wp2;rw[bB.out];refine nG (v:=.agg #[.int .i64 F,.int .i64 G,.slice H cs.length I,.int .i64 ck]) (by simp[results,results20,go_sem,bf,bg,bi,bk]) rfl ⟨⟨H,I,rfl,bp.out,V.out.1,V.out.2.1⟩,V.out.2.2⟩
theorem aN{w:World}{I H ca lwa:Option Addr}{uc gc cc lwn lwc:Nat}{us gs:List Rg}{cs:List Int}{F G ck q:Int}(bg:Rgs w I us)(bi:Rgs w H gs)(bk:us.length≤100)(bl:gs.length≤100)(bn:us.length≤uc)(bo:gs.length≤gc)(bp:∀r∈us,r.ok)(bs:∀r∈gs,r.ok)(bu:A6 w ca cs)(bv:cs.length≤8):
 Calls prog 35 #[.agg #[.slice I us.length uc,.slice H gs.length gc,.int .i64 F,.int .i64 G,.slice ca cs.length cc,.int .i64 ck,.int .i64 q,.slice lwa lwn lwc]] w fun e w'=>(∃E,e=.returned (Am E)∧(E=0→CZ us=0∧CZ gs=0∧Cx F G cs ck=0∧1≤q∧q≤64)∧(E≠0→¬(CZ us=0∧CZ gs=0∧Cx F G cs ck=0∧1≤q∧q≤64)))∧Bw w w':=by
 have a1:Bw w (w.alloc (A0 I H ca lwa uc gc cc lwn lwc us gs cs F G ck q)):=(nv _ _).alloc (nn _) _;have c0:Ce (w.alloc (A0 I H ca lwa uc gc cc lwn lwc us gs cs F G ck q)) w.heap.size 0 (.slice I us.length uc):=nl _ _ _ _ rfl;have c1:Ce (w.alloc (A0 I H ca lwa uc gc cc lwn lwc us gs cs F G ck q)) w.heap.size 1 (.slice H gs.length gc):=nl _ _ _ _ rfl;have c2:Ce (w.alloc (A0 I H ca lwa uc gc cc lwn lwc us gs cs F G ck q)) w.heap.size 2 (.int .i64 F):=nl _ _ _ _ rfl;have R:Ce (w.alloc (A0 I H ca lwa uc gc cc lwn lwc us gs cs F G ck q)) w.heap.size 3 (.int .i64 G):=nl _ _ _ _ rfl;have T:Ce (w.alloc (A0 I H ca lwa uc gc cc lwn lwc us gs cs F G ck q)) w.heap.size 4 (.slice ca cs.length cc):=nl _ _ _ _ rfl;have V:Ce (w.alloc (A0 I H ca lwa uc gc cc lwn lwc us gs cs F G ck q)) w.heap.size 5 (.int .i64 ck):=nl _ _ _ _ rfl;have O:Ce (w.alloc (A0 I H ca lwa uc gc cc lwn lwc us gs cs F G ck q)) w.heap.size 6 (.int .i64 q):=nl _ _ _ _ rfl;have a6:=hid (Jp I uc us _ bk bn bp (bg.below a1));have bx:=hid a1;have Z:Hid (Rgs w H gs∧gs.length≤100∧gs.length≤gc∧∀r∈gs,r.ok):=⟨bi,bl,bo,bs⟩;have bA:Hid (A6 w ca cs∧cs.length≤8):=⟨bu,bv⟩;obtain⟨a7,a8⟩:∃Y,Hid (CZ us=Y):=⟨_,rfl⟩;obtain⟨F2,ba⟩:∃Y,Hid (CZ gs=Y):=⟨_,rfl⟩;obtain⟨aa,bb⟩:∃Y,Hid (Cx F G cs ck=Y):=⟨_,rfl⟩;rw[a8.out]at a6;clear bg bi bk bl bn bo bp bs bu bv a1;go_enter func35,ntmps35;go_upto_region 1 with fail
 generalize w.alloc (A0 I H ca lwa uc gc cc lwn lwc us gs cs F G ck q)=bY at*;generalize w.heap.size=b0 at c0 c1 c2 R T V O⊢;go_wp2_with fail
 refine np a6.out ?_;rintro e bd ⟨rfl,q2⟩;have ab:=hid (bx.out.trans (q2.mono bx.out.size));replace c1:=Af q2 c1;replace c2:=Af q2 c2;replace R:=Af q2 R;replace T:=Af q2 T;replace V:=Af q2 V;replace O:=Af q2 O;clear a6 q2 c0;by_cases ad:a7=0
 case neg=>
  have J:=AG (n:=a7) rfl ad;rw[J];go_wp2;go_ret;exact⟨⟨a7,by rw[J];rfl,fun e=>absurd e ad,fun _ c=>ad (a8.out.symm.trans c.1)⟩,ab.out⟩
 case pos=>
  subst ad;rw[show Am 0=Value.nilIface from rfl];have bB:Hid (Calls prog 62 #[.slice H gs.length gc] bd fun e w'=>e=.returned (Am F2)∧Bw bd w'):=by
   have e:=Jp H gc gs bd Z.out.2.1 Z.out.2.2.1 Z.out.2.2.2 (Z.out.1.below ab.out);rw[ba.out]at e;exact e
  go_wp2_with fail
  refine np bB.out ?_;rintro e be ⟨rfl,Q⟩;have ak:=hid (ab.out.trans (Q.mono ab.out.size));replace c2:=Af Q c2;replace R:=Af Q R;replace T:=Af Q T;replace V:=Af Q V;replace O:=Af Q O;clear bB Q c1;by_cases ao:F2=0
  case neg=>
   have J:=AG (n:=F2) rfl ao;rw[J];go_wp2;go_ret;exact⟨⟨F2,by rw[J];rfl,fun e=>absurd e ao,fun _ c=>ao (ba.out.symm.trans c.2.1)⟩,ak.out⟩
  case pos=>
   subst ao;rw[show Am 0=Value.nilIface from rfl];have bC:Hid (Calls prog 25 #[.agg #[.int .i64 F,.int .i64 G,.slice ca cs.length cc,.int .i64 ck]] be fun e w'=>e=.returned (Am aa)∧Bw be w'):=by
    have e:=Hs F G ck ca cc cs be bA.out.2 (bA.out.1.below ak.out);rw[bb.out]at e;exact e
   go_wp2_with fail
   refine np bC.out ?_;rintro e b1 ⟨rfl,q4⟩;have ap:=hid (ak.out.trans (q4.mono ak.out.size));replace O:=Af q4 O;clear bC q4 c2 R T V;by_cases ar:aa=0
   case neg=>
    have J:=AG (n:=aa) rfl ar;rw[J];go_wp2;go_ret;exact⟨⟨aa,by rw[J];rfl,fun e=>absurd e ar,fun _ c=>ar (bb.out.symm.trans c.2.2.1)⟩,ap.out⟩
   case pos=>
    subst ar;rw[show Am 0=Value.nilIface from rfl];by_cases ay:q<1
    ·have bG:decide (q<1)=true:=nF ay
     have bf:=hid ay;go_wp2;go_ret;exact⟨⟨1,rfl,fun e=>absurd e (by decide),fun _ c=>by have:=bf.out;have:=c.2.2.2.1;omega⟩,ap.out⟩
    ·have bG:decide (q<1)=false:=nB ay
     by_cases az:64<q
     ·have bH:decide (64<q)=true:=nF az
      have bf:=hid az;go_wp2;go_ret;exact⟨⟨1,rfl,fun e=>absurd e (by decide),fun _ c=>by have:=bf.out;have:=c.2.2.2.2;omega⟩,ap.out⟩
     ·have bH:decide (64<q)=false:=nB az
      have bF:Hid (1≤q∧q≤64):=⟨by omega,by omega⟩;clear ay az;go_wp2;go_ret;exact⟨⟨0,rfl,fun _=>⟨a8.out,ba.out,bb.out,bF.out.1,bF.out.2⟩,fun e=>absurd rfl e⟩,ap.out⟩
end Go.Proofs.YtofhphibahcniaaGreatDoor
