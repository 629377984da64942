/-
  TopOwned: Un Ui.
-/
import Derived.Test.YtgppjbhaimmlpaaGreatDoorApX
import Derived.Test.YtgppjbhaimmlpaaGreatDoorUmX
import Derived.Test.YtgppjbhaimmlpaaGreatDoorWrX
import Derived.Test.YtgppjbhaimmlpaaGreatDoorKbX
set_option maxRecDepth 100000
set_option maxHeartbeats 16000000
namespace Go.Proofs.YtgppjbhaimmlpaaGreatDoor
open Go.RowKit Go.Proofs.Tryz
def Mj(W F:World)(S:Nat→Bool)(e:Ending):Except Int (List (Nd×BA))→Prop
 |.error f=>e=.returned (.tuple #[Ao zN zH,.iface 74 (.int .i64 f)])∧Below W.heap.size W F
 |.ok L=>(∃h',e=.returned (.tuple #[Ao (BN L) h',.nilIface])∧Ah (Ag F.cell? S) (BN L) h')∧Below W.heap.size W F
theorem TQ{W F:World}{S:Nat→Bool}{f:Int}{G:Except Int (List (Nd×BA))}(H:G=.error f)(hb:Below W.heap.size W F):Mj W F S (.returned (.tuple #[Ao zN zH,.iface 74 (.int .i64 f)])) G:=by subst H;exact⟨rfl,hb⟩
theorem X5(w:World){g:Nat}(F:g<w.heap.size)(i:Nat)(v:Value)(o:Obj):(w.alloc o).setCell (aD g i) v=(w.setCell (aD g i) v).alloc o:=by
 exact World.setCell_alloc_past o g i v F
theorem Yx{c:AJ}{k m u g:Int}{o:Bool}{nh:List Kv}{d:BA}{h:Hd}(F:Ah c (.mk k m u g o nh d []) h):Ah c (CF (.mk k m u g o nh d [])) h:=Cj.2 (Cj.1 F)
theorem YQ{x:Nd}(h:A7 x):A7 (CF x):=by
 obtain⟨k,m,u,g,o,nh,d,ks⟩:=x;rw[A7]at h;show A7 (.mk k m u g false nh d []);rw[A7];exact⟨h.1,by simp,by rw[Dl];trivial⟩
theorem Wr{W:World}{S:Nat→Bool}(ej:∀k,S k=true→k<W.heap.size){na:Option Addr}{cn:Nat}{Y:List Nd}{cp:Option Addr}{cs:Nat}{aa:List BA}(hx:Ch (Ag W.cell? S) na Y)(bb:A0 (Ag W.cell? S) cp aa)(ek:Y≠[])(fa:Y.length≤1000)(du:Y.length≤aa.length)(el:∀y∈Y,y.kids=[]∧A7 y∧Eu y){M:CE}(em:DD W M):
 Calls prog 164 #[M.v,.slice na Y.length cn,.slice cp aa.length cs] W fun e cq=>Mj W cq S e (BW M.us M.gs (DI Y aa)):=by
 obtain⟨be,bf,uc,gc,us,gs⟩:=M;obtain⟨fb,en,eo,ep,eq⟩:=Eb Tryz.infoNd;have fc:Hid _:=en;have fd:Hid _:=eo;have fe:Hid _:=ep;have ff:Hid _:=eq;clear en eo ep eq;obtain⟨c0,c1,ap,er,fg⟩:=UE W _ _ be bf us.length gs.length uc gc rfl rfl;have fh:=hid hx;have es:=hid bb;have fi:=hid em;have fj:=hid el;have fl:=hid ek;obtain⟨cr,cu⟩:=A3 (BW us gs (DI Y aa));show cL 164 #[.agg #[.slice be us.length uc,.slice bf gs.length gc],.slice na Y.length cn,.slice cp aa.length cs] W fun e cq=>Mj W cq S e (BW us gs (DI Y aa));rw[cu.out]
 obtain⟨N,bg⟩:=A3 Y.length;obtain⟨eu,cx⟩:=A3 aa.length;rw[bg.out]at fa du⊢;rw[cx.out]at du⊢;have ak:Hid (GN S W be bf us.length gs.length uc gc nL [] ((W.alloc (.cells #[.slice be us.length uc,.slice bf gs.length gc] 24)).alloc AO)):=⟨er,c0,c1,ap,rB _ _ _ _,fun f bo=>by cases bo⟩;clear hx bb em el ek c0 c1 ap er fg;go_enter func164,ntmps164;go_upto_region 1 with fail
 generalize((W.alloc (.cells #[.slice be us.length uc,.slice bf gs.length gc] 24)).alloc AO)=fO at ak⊢;go_wp2;go_loopw [8,16] (fun v i wr=>∃(j:Nat) (L:List Fl) (P:List (Nd×BA)),j≤N∧i=iN j∧Hid (BW us gs ((DI Y aa).take j)=.ok P)∧Hid (P.map Prod.fst=L.map Fl.x)∧Hid (L.length=j)∧Hid (GN S W be bf us.length gs.length uc gc v L wr)) (fun _ i _=>N-(intOf i).toNat)
 case atStart=>exact⟨0,[],[],nM _,rfl,rfl,rfl,rfl,ak.out⟩
 case round=>
  clear ak;obtain⟨j,L,P,fP,rfl,bG,dw,bH,ak⟩:=hrel;by_cases fm:j<N;rotate_left
  ·obtain rfl:j=N:=by omega
   have hb:=nA (by omega);have ev:Hid (cr=.ok P):=by
    have e:=bG.out;rw[n1 (by rw[Tp (by rw[bg.out,cx.out];exact du),bg.out];omega),cu.out]at e;exact e
   have d6:Hid (P.map Prod.snd=(DI Y aa).map Prod.snd∧P.length=j):=by
    have e:=ev.out;rw[←cu.out]at e;have az:=(Om e).1;refine⟨az,?_⟩;have a7:=nV List.length az;rw[rk,rk,Tp (by rw[bg.out,cx.out];exact du),bg.out]at a7;exact a7
   have fQ:0<j:=by
    have e:=bg.out;rcases Nat.eq_zero_or_pos j with a7|a7
    ·rw[a7]at e;exact absurd (rp.1 e) fl.out
    ·exact a7
   obtain⟨ao,rfl⟩:∃ao,j=ao+1:=⟨j-1,by omega⟩;obtain⟨g,eB,rfl,fR,fS,d7,eE⟩:∃g cap,u8=sL g 0 (ao+1) cap∧W.heap.size+1+1≤g∧ao+1≤cap∧(∀(i:Nat) f,L[i]? =some f→Bj wr.cell? g (i*8) f.x f.h)∧∀j,Fz wr g j:=by
    have e:=Uf ak.out.row;rw[bH.out]at e;rcases e with e|e
    ·have:=bH.out;rw[e]at this;cases this
    ·exact e
   have d8:∀(t:Nat),t<ao+1→∃f p,L[t]? =some f∧P[t]? =some p∧f.x=p.1∧aa[t]? =some p.2:=fun t dx=>by
    obtain⟨f,bo⟩:∃f,L[t]? =some f:=⟨_,np (by rw[bH.out];exact dx)⟩;obtain⟨p,d9⟩:∃p,P[t]? =some p:=⟨_,np (by rw[d6.out.2];exact dx)⟩;obtain⟨y,Z⟩:∃y,Y[t]? =some y:=⟨_,np (by rw[bg.out];exact dx)⟩;obtain⟨nm,eF⟩:∃nm,aa[t]? =some nm:=⟨_,np (by rw[cx.out];omega)⟩;have az:=nV (fun l=>l[t]?) dw.out;simp only[n4,bo,d9,r0,nU]at az;have a7:=nV (fun l=>l[t]?) d6.out.1;simp only[n4,d9,UL Z eF,r0,nU]at a7;exact⟨f,p,bo,d9,az.symm,by rw[eF,a7]⟩
   have dy:Hid _:=d8;have eG:Hid (Im S W (sL g 0 (ao+1) eB) g L P ao wr):=by
    obtain⟨f,p,eH,eI,eJ,fT⟩:=d8 ao (by omega);have eK:P.drop ao=[p]:=by
     have az:=nN (nw.1 eI).1;rw[(nw.1 eI).2,show P.drop (ao+1)=[]from n7 (by rw[d6.out.2];omega)]at az;exact az
    refine⟨ak.out.low,by omega,(ak.out.row.lt g rfl).2,ak.out.rb,eE,fun s f bb bo=>⟨d7 s f bo,ak.out.nd f (nD bo)⟩,f.h,?_,?_⟩
    ·rw[eK,BN,←eJ];exact d7 ao f eH
    ·rw[eK,BN,←eJ];exact ak.out.nd f (nD eH)
   clear d8 d7 eE dw bG bH;have fo:=hid ak.out;clear ak;go_wp2;go_loopw [13] (fun i fp=>∃t:Nat,t≤ao∧i=iN t∧Hid (Im S W (sL g 0 (ao+1) eB) g L P t fp)) (fun i _=>(intOf i).toNat)
   case atStart=>exact⟨ao,nl _,by go_num,eG.out⟩
   case round=>
    clear eG;obtain⟨t,dx,rfl,a1⟩:=hrel;cases t with
    |zero=>
     obtain⟨F,bY,bi⟩:=a1.out.ch;obtain⟨C,b0⟩:=A3 (BN (P.drop 0));rw[b0.out]at bY bi;obtain⟨G,H,I,J,O,Q,R,T⟩:=C;have eL:Hid (BN P=(.mk G H I J O Q R T)):=b0.out;have fq:Hid _:=bi;have ap:=a1.out.rb;have eM:=a1.out.low;have eN:=ap.store (.mk G H I J O Q R T) F;have b8:Au (W.heap.size+1) wr (Ar wr (W.heap.size+1) (.mk G H I J O Q R T) F):=Cf;have eO:Below W.heap.size W (Ar wr (W.heap.size+1) (.mk G H I J O Q R T) F):=eM.trans (b8.below (by omega) eM.size)
     have eP:Hid (Ah (Ag (Ar wr (W.heap.size+1) (.mk G H I J O Q R T) F).cell? S) (.mk G H I J O Q R T) F):=bi.on (Cb fun q cA bb=>by
      simp[DJ]at bb;exact⟨bb.2,b8.block q cA bb.1.1.2⟩)
     have z0:=ap.2 0;have dz:=ap.2 1;have d0:=ap.2 2;have z3:=ap.2 3;have z4:=ap.2 4;have z5:=ap.2 5;have d1:=ap.2 6;have d2:=ap.2 7;obtain⟨fU,fV,fW,fX,fY,fZ,f0,f1⟩:=ap.1;obtain⟨b1,b2,b3,b4,b5,b6,f6,b7⟩:=bY;simp only[r3,nT]at b1 b2 b3 b4 b5 b6 f6 b7;clear ap a1 b0 bi fq dy fo b8;go_wp2;obtain⟨f2,eQ⟩:=A3 (Ar wr (W.heap.size+1) (.mk G H I J O Q R T) F);rw[eQ.out]at eN eO eP;have eR:=eQ.out;simp only[Ar]at eR;rw[eR];obtain⟨cB,c3,c4,c5,c6,c8,c9,da⟩:=eN.1;refine nF (v:=.tuple #[Ao (.mk G H I J O Q R T) F,.nilIface]) (by simp[results,results164,go_sem,Ao,cB,c3,c4,c5,c6,c8,c9,da]) rfl ?_;rw[ev.out];refine⟨⟨F,by rw[eL.out],?_⟩,eO⟩;rw[eL.out];exact eP.out
    |succ t=>
     obtain⟨f,p,ea,a2,a3,a4⟩:=dy.out t (by omega);obtain⟨_,q,_,eS,_,b9⟩:=dy.out (t+1) (by omega);obtain⟨F,bY,bi⟩:=a1.out.ch
     have db:Hid _:=a1.out.step rfl ea a2 eS a3 bY bi (by
      have:=ej wr.heap.size;have a7:=a1.out.low.size;have f3:=a1.out.gz;have f4:=a1.out.rb.1.lt;simp[DJ,Value.ownBlock];refine⟨⟨⟨by omega,by omega⟩,by omega⟩,?_⟩;cases hh:S wr.heap.size with
      |false=>rfl
      |true=>have:=this hh;omega)
     have fs:=a1.out.gz;obtain⟨C,b0⟩:=A3 (BN (P.drop (t+1)));rw[b0.out]at bY bi db;obtain⟨G,H,I,J,O,Q,R,T⟩:=C;obtain⟨bd,bp,rfl,cb⟩:∃b bk,cp=some (aD b bk)∧∀i s,aa[i]? =some s→Ag W.cell? S (aD b (bk+i))=some (.string s):=by
      rcases es.out with e|e
      ·rw[e]at b9;simp at b9
      ·exact e
     have cf:Ce wr bd (bp+(t+1)) (.string q.2):=Aj a1.out.low _ _ (Ci _ _ _ _ (cb _ _ b9));have f5:bd≠g:=fun e=>by
      have az:=bL (Ci _ _ _ _ (cb _ _ b9));have:bd<W.heap.size:=az;omega
     have ft:=a1.out.fz (t*8+7);obtain⟨fk,fu⟩:∃u7,Ce wr g (t*8+7) u7:=by
      obtain⟨az,_⟩:=a1.out.ab t f (by omega) ea;obtain⟨⟨k,m,u,f7,o,nh,d,ks⟩,f8,f9⟩:=f;exact⟨_,az.2.2.2.2.2.2.2⟩
     obtain⟨b1,b2,b3,b4,b5,b6,f6,b7⟩:=bY;obtain⟨q1,V⟩:=q;dsimp only at cf db b9;clear a1 dy bi b0 ea a2 a3 a4 eS b9 cb;rw[show((t+1:Nat):Int)=(t:Int)+1 by omega];have hb:decide ((0:Int)<(t:Int)+1)=true:=nE (by omega);have ga:(0:Int)≤(t:Int)+1:=by omega
     have gb:(t:Int)+1<(eu:Int):=by omega
     have gd:(t:Int)+1<(ao:Int)+1:=by omega
     have gg:(t:Int)<(ao:Int)+1:=by omega
     have gh:((t:Int)+1).toNat=t+1:=by omega
     have gi:(t:Int)≤(ao:Int):=by omega
     have gj:IntKind.i64.wrap (t:Int)=(t:Int):=Ez (by omega) (by omega);have gl:IntKind.i64.wrap ((t:Int)+1-1)=(t:Int):=(Ez (by omega) (by omega)).trans (by omega);have ad:Ce wr bd (bp+(t+1)) (.string V)∧Ce wr g ((t+1)*8) (iN G)∧Ce wr g ((t+1)*8+1) (iN H)∧Ce wr g ((t+1)*8+2) (iN I)∧Ce wr g ((t+1)*8+3) (iN J)∧Ce wr g ((t+1)*8+4) (.bool O)∧Ce wr g ((t+1)*8+5) (.slice F.aa Q.length F.ca)∧Ce wr g ((t+1)*8+6) (.string R)∧Ce wr g ((t+1)*8+7) (.slice F.ak T.length F.ck):=⟨cf,b1,b2,b3,b4,b5,b6,f6,b7⟩;have eT:Ce wr.drew bd (bp+(t+1)) (.string V)∧Ce wr.drew g ((t+1)*8) (iN G)∧Ce wr.drew g ((t+1)*8+1) (iN H)∧Ce wr.drew g ((t+1)*8+2) (iN I)∧Ce wr.drew g ((t+1)*8+3) (iN J)∧Ce wr.drew g ((t+1)*8+4) (.bool O)∧Ce wr.drew g ((t+1)*8+5) (.slice F.aa Q.length F.ca)∧Ce wr.drew g ((t+1)*8+6) (.string R)∧Ce wr.drew g ((t+1)*8+7) (.slice F.ak T.length F.ck):=ad;have eU:(wr.alloc (.cells #[.string V,.int .i64 G,.int .i64 H,.int .i64 I,.int .i64 J,.bool O,.slice F.aa Q.length F.ca,.string R,.slice F.ak T.length F.ck] 73)).drew.cell? ⟨bd,bp+(t+1),none⟩=some (.string V)∧(wr.alloc (.cells #[.string V,.int .i64 G,.int .i64 H,.int .i64 I,.int .i64 J,.bool O,.slice F.aa Q.length F.ca,.string R,.slice F.ak T.length F.ck] 73)).drew.cell? ⟨g,(t+1)*8,none⟩=some (.int .i64 G)∧(wr.alloc (.cells #[.string V,.int .i64 G,.int .i64 H,.int .i64 I,.int .i64 J,.bool O,.slice F.aa Q.length F.ca,.string R,.slice F.ak T.length F.ck] 73)).drew.cell? ⟨g,(t+1)*8+1,none⟩=some (.int .i64 H)∧(wr.alloc (.cells #[.string V,.int .i64 G,.int .i64 H,.int .i64 I,.int .i64 J,.bool O,.slice F.aa Q.length F.ca,.string R,.slice F.ak T.length F.ck] 73)).drew.cell? ⟨g,(t+1)*8+2,none⟩=some (.int .i64 I)∧(wr.alloc (.cells #[.string V,.int .i64 G,.int .i64 H,.int .i64 I,.int .i64 J,.bool O,.slice F.aa Q.length F.ca,.string R,.slice F.ak T.length F.ck] 73)).drew.cell? ⟨g,(t+1)*8+3,none⟩=some (.int .i64 J)∧(wr.alloc (.cells #[.string V,.int .i64 G,.int .i64 H,.int .i64 I,.int .i64 J,.bool O,.slice F.aa Q.length F.ca,.string R,.slice F.ak T.length F.ck] 73)).drew.cell? ⟨g,(t+1)*8+4,none⟩=some (.bool O)∧(wr.alloc (.cells #[.string V,.int .i64 G,.int .i64 H,.int .i64 I,.int .i64 J,.bool O,.slice F.aa Q.length F.ca,.string R,.slice F.ak T.length F.ck] 73)).drew.cell? ⟨g,(t+1)*8+5,none⟩=some (.slice F.aa Q.length F.ca)∧(wr.alloc (.cells #[.string V,.int .i64 G,.int .i64 H,.int .i64 I,.int .i64 J,.bool O,.slice F.aa Q.length F.ca,.string R,.slice F.ak T.length F.ck] 73)).drew.cell? ⟨g,(t+1)*8+6,none⟩=some (.string R)∧(wr.alloc (.cells #[.string V,.int .i64 G,.int .i64 H,.int .i64 I,.int .i64 J,.bool O,.slice F.aa Q.length F.ca,.string R,.slice F.ak T.length F.ck] 73)).drew.cell? ⟨g,(t+1)*8+7,none⟩=some (.slice F.ak T.length F.ck):=⟨Aj (Bq wr _) _ _ ad.1,Aj (Bq wr _) _ _ ad.2.1,Aj (Bq wr _) _ _ ad.2.2.1,Aj (Bq wr _) _ _ ad.2.2.2.1,Aj (Bq wr _) _ _ ad.2.2.2.2.1,Aj (Bq wr _) _ _ ad.2.2.2.2.2.1,Aj (Bq wr _) _ _ ad.2.2.2.2.2.2.1,Aj (Bq wr _) _ _ ad.2.2.2.2.2.2.2.1,Aj (Bq wr _) _ _ ad.2.2.2.2.2.2.2.2⟩
     have eV:((wr.setCell ⟨g,t*8+7,none⟩ (.slice (some ⟨wr.heap.size,0,none⟩) 1 1)).alloc (.cells #[.string V,.int .i64 G,.int .i64 H,.int .i64 I,.int .i64 J,.bool O,.slice F.aa Q.length F.ca,.string R,.slice F.ak T.length F.ck] 73)).drew.cell? ⟨bd,bp+(t+1),none⟩=some (.string V)∧((wr.setCell ⟨g,t*8+7,none⟩ (.slice (some ⟨wr.heap.size,0,none⟩) 1 1)).alloc (.cells #[.string V,.int .i64 G,.int .i64 H,.int .i64 I,.int .i64 J,.bool O,.slice F.aa Q.length F.ca,.string R,.slice F.ak T.length F.ck] 73)).drew.cell? ⟨g,(t+1)*8,none⟩=some (.int .i64 G)∧((wr.setCell ⟨g,t*8+7,none⟩ (.slice (some ⟨wr.heap.size,0,none⟩) 1 1)).alloc (.cells #[.string V,.int .i64 G,.int .i64 H,.int .i64 I,.int .i64 J,.bool O,.slice F.aa Q.length F.ca,.string R,.slice F.ak T.length F.ck] 73)).drew.cell? ⟨g,(t+1)*8+1,none⟩=some (.int .i64 H)∧((wr.setCell ⟨g,t*8+7,none⟩ (.slice (some ⟨wr.heap.size,0,none⟩) 1 1)).alloc (.cells #[.string V,.int .i64 G,.int .i64 H,.int .i64 I,.int .i64 J,.bool O,.slice F.aa Q.length F.ca,.string R,.slice F.ak T.length F.ck] 73)).drew.cell? ⟨g,(t+1)*8+2,none⟩=some (.int .i64 I)∧((wr.setCell ⟨g,t*8+7,none⟩ (.slice (some ⟨wr.heap.size,0,none⟩) 1 1)).alloc (.cells #[.string V,.int .i64 G,.int .i64 H,.int .i64 I,.int .i64 J,.bool O,.slice F.aa Q.length F.ca,.string R,.slice F.ak T.length F.ck] 73)).drew.cell? ⟨g,(t+1)*8+3,none⟩=some (.int .i64 J)∧((wr.setCell ⟨g,t*8+7,none⟩ (.slice (some ⟨wr.heap.size,0,none⟩) 1 1)).alloc (.cells #[.string V,.int .i64 G,.int .i64 H,.int .i64 I,.int .i64 J,.bool O,.slice F.aa Q.length F.ca,.string R,.slice F.ak T.length F.ck] 73)).drew.cell? ⟨g,(t+1)*8+4,none⟩=some (.bool O)∧((wr.setCell ⟨g,t*8+7,none⟩ (.slice (some ⟨wr.heap.size,0,none⟩) 1 1)).alloc (.cells #[.string V,.int .i64 G,.int .i64 H,.int .i64 I,.int .i64 J,.bool O,.slice F.aa Q.length F.ca,.string R,.slice F.ak T.length F.ck] 73)).drew.cell? ⟨g,(t+1)*8+5,none⟩=some (.slice F.aa Q.length F.ca)∧((wr.setCell ⟨g,t*8+7,none⟩ (.slice (some ⟨wr.heap.size,0,none⟩) 1 1)).alloc (.cells #[.string V,.int .i64 G,.int .i64 H,.int .i64 I,.int .i64 J,.bool O,.slice F.aa Q.length F.ca,.string R,.slice F.ak T.length F.ck] 73)).drew.cell? ⟨g,(t+1)*8+6,none⟩=some (.string R)∧((wr.setCell ⟨g,t*8+7,none⟩ (.slice (some ⟨wr.heap.size,0,none⟩) 1 1)).alloc (.cells #[.string V,.int .i64 G,.int .i64 H,.int .i64 I,.int .i64 J,.bool O,.slice F.aa Q.length F.ca,.string R,.slice F.ak T.length F.ck] 73)).drew.cell? ⟨g,(t+1)*8+7,none⟩=some (.slice F.ak T.length F.ck):=⟨Aj (Bq _ _) _ _ ((nz _ _ _ _ (fun e=>by simp only[rc]at e;omega)).trans ad.1),Aj (Bq _ _) _ _ ((nz _ _ _ _ (fun e=>by simp only[rc]at e;omega)).trans ad.2.1),Aj (Bq _ _) _ _ ((nz _ _ _ _ (fun e=>by simp only[rc]at e;omega)).trans ad.2.2.1),Aj (Bq _ _) _ _ ((nz _ _ _ _ (fun e=>by simp only[rc]at e;omega)).trans ad.2.2.2.1),Aj (Bq _ _) _ _ ((nz _ _ _ _ (fun e=>by simp only[rc]at e;omega)).trans ad.2.2.2.2.1),Aj (Bq _ _) _ _ ((nz _ _ _ _ (fun e=>by simp only[rc]at e;omega)).trans ad.2.2.2.2.2.1),Aj (Bq _ _) _ _ ((nz _ _ _ _ (fun e=>by simp only[rc]at e;omega)).trans ad.2.2.2.2.2.2.1),Aj (Bq _ _) _ _ ((nz _ _ _ _ (fun e=>by simp only[rc]at e;omega)).trans ad.2.2.2.2.2.2.2.1),Aj (Bq _ _) _ _ ((nz _ _ _ _ (fun e=>by simp only[rc]at e;omega)).trans ad.2.2.2.2.2.2.2.2)⟩;clear ad cf b1 b2 b3 b4 b5 b6 f6 b7;go_upto_region 16 with fail
     go_region_held3 (fun w'=>w'.cell? ⟨bd,bp+(t+1),none⟩=some (.string V)∧w'.cell? ⟨g,(t+1)*8,none⟩=some (.int .i64 G)∧w'.cell? ⟨g,(t+1)*8+1,none⟩=some (.int .i64 H)∧w'.cell? ⟨g,(t+1)*8+2,none⟩=some (.int .i64 I)∧w'.cell? ⟨g,(t+1)*8+3,none⟩=some (.int .i64 J)∧w'.cell? ⟨g,(t+1)*8+4,none⟩=some (.bool O)∧w'.cell? ⟨g,(t+1)*8+5,none⟩=some (.slice F.aa Q.length F.ca)∧w'.cell? ⟨g,(t+1)*8+6,none⟩=some (.string R)∧w'.cell? ⟨g,(t+1)*8+7,none⟩=some (.slice F.ak T.length F.ck)) (first|with_reducible exact eT|with_reducible exact eU|with_reducible exact eV) (fail)
     have eW:Hid ((wr.alloc (.cells (.string V::Bi (.mk G H I J O Q R T) F).toArray 73)).setCell (aD g (t*8+7)) (sL wr.heap.size 0 1 1)=(wr.setCell (aD g (t*8+7)) (sL wr.heap.size 0 1 1)).alloc (.cells #[.string V,iN G,iN H,iN I,iN J,.bool O,.slice F.aa Q.length F.ca,.string R,.slice F.ak T.length F.ck] 73)):=X5 wr fs _ _ _;rw[eW.out]at db;clear eT eU eV fu ft eW;generalize(wr.setCell (aD g (t*8+7)) (sL wr.heap.size 0 1 1)).alloc (.cells #[.string V,iN G,iN H,iN I,iN J,.bool O,.slice F.aa Q.length F.ca,.string R,.slice F.ak T.length F.ck] 73)=eX at db⊢;go_wp2;go_roundw
     case rel=>exact⟨t,by omega,by go_num,db.out.below (nt _ _).drew⟩
     case measure=>(simp[intOf];try omega)
  have hb:=nE (by omega);obtain⟨y,cg⟩:∃y,Y[j]? =some y:=⟨_,np (by rw[bg.out];exact fm)⟩;obtain⟨nm,dd⟩:∃nm,aa[j]? =some nm:=⟨_,np (by rw[cx.out];omega)⟩;obtain⟨gm,go,rfl,fv,eY⟩:∃b bk,na=some (aD b bk)∧∃f:Nat→Hd,∀i x,Y[i]? =some x→Bj (Ag W.cell? S) b (bk+i*8) x (f i)∧Ah (Ag W.cell? S) x (f i):=by
   rcases fh.out with e|e
   ·rw[e]at cg;simp at cg
   ·exact e
  obtain⟨bd,bp,rfl,cb⟩:∃b bk,cp=some (aD b bk)∧∀i s,aa[i]? =some s→Ag W.cell? S (aD b (bk+i))=some (.string s):=by
   rcases es.out with e|e
   ·rw[e]at dd;simp at dd
   ·exact e
  obtain⟨eb,ec⟩:=eY j y cg;obtain⟨ed,eZ,hid⟩:=fj.out y (nD cg);have cf:=cb j nm dd;have d3:Hid ((DI Y aa).take (j+1)=(DI Y aa).take j++[(CF y,nm)]):=Y4 cg dd;have de:Hid (DI Y aa=(DI Y aa).take (j+1)++(DI Y aa).drop (j+1)):=(ry _ _).symm;generalize fv j=Z at eb ec;obtain⟨bs,bu,bv,bx,e0,bA,bB,fw⟩:=y;have ed:fw=[]:=ed;subst ed;have ee:=ak.out.low
  have dg:AR (Ag W.cell? S) (Ag wr.cell? (DJ W.heap.size u8 S)):=Cb fun q cA bb=>⟨by
   have az:=ak.out.row.lt;simp[DJ,bb];exact⟨⟨by omega,by omega⟩,fun e=>by have:=(az q e).1;omega⟩,ee.block q cA⟩
  have fx:=(eb.on dg).on (Ci _ _);have e1:=ec.on dg;have ef:=Ci _ _ _ _ (dg _ _ cf);have dj:=Bq wr (.cells #[iN bs,iN bu,iN bv,iN bx,.bool false,.slice Z.aa bA.length Z.ca,.string bB,.slice Z.ak 0 Z.ck] 50);have bl:=ak.out.below dj;obtain⟨e2,dk⟩:=A3 (Bh true us gs (CF (.mk bs bu bv bx e0 bA bB [])));have e3:Hid (cL 30 #[.agg #[.slice be us.length uc,.slice bf gs.length gc],.agg #[iN bs,iN bu,iN bv,iN bx,.bool false,.slice Z.aa bA.length Z.ca,.string bB,.slice Z.ak 0 Z.ck]] (wr.alloc (.cells #[iN bs,iN bu,iN bv,iN bx,.bool false,.slice Z.aa bA.length Z.ca,.string bB,.slice Z.ak 0 Z.ck] 50)) fun e cq=>Hh (wr.alloc (.cells #[iN bs,iN bu,iN bv,iN bx,.bool false,.slice Z.aa bA.length Z.ca,.string bB,.slice Z.ak 0 Z.ck] 50)) cq (DJ W.heap.size u8 S) e e2):=by
   have:=Hk (W:=wr.alloc (.cells #[iN bs,iN bu,iN bv,iN bx,.bool false,.slice Z.aa bA.length Z.ca,.string bB,.slice Z.ak 0 Z.ck] 50)) (S:=(DJ W.heap.size u8 S)) (M:=⟨be,bf,uc,gc,us,gs⟩) (x:=CF (.mk bs bu bv bx e0 bA bB [])) (h:=Z) (bl.hid ej) (Ah.on (Yx e1) (CQ dj)) (YQ eZ) (by rw[Sb];omega) (ZD hid) (fi.out.below bl.low);rw[dk.out]at this;exact this
  have fy:=bl.m0;have fA:=bl.m1;obtain⟨fB,fC,fD,fE,fF,fG,fH,e4⟩:=fx;simp only[nQ]at e4;clear eb ec hid eZ cb cf e1 eY cg dd;go_wp2_with fail
  refine nn e3.out ?_;intro e ch e5;clear fB fC fD fE fF fG fH e4 fy fA e3;cases e2 with
  |none=>
   obtain⟨rfl,a6⟩:=e5;have eg:Hid (cr=.error 11):=by
    show cr=_;rw[←cu.out,de.out];refine NN _ ?_;rw[d3.out,JX,bG.out];dsimp only;rw[dk.out]
   have dm:=bl.below a6;have bC:=Bq ch AO;have cl:=dm.below bC;have co:=cl.low;have ab:=cl.rb;rw[show Ao zN zH=.agg #[iN 0,iN 0,iN 0,iN 0,.bool false,nL,.string ⟨#[]⟩,nL]from rfl];clear bl dm cl bC dj a6 ee dg ef ak d3 de bG dw;go_upto_region 7 with fail
   generalize ch.alloc AO=a8 at co ab⊢;have dn:=As.store ab zN zH;have a6:Below W.heap.size W (Ar a8 (W.heap.size+1) zN zH):=co.trans (Cf.below (by omega) co.size);have z0:=ab.2 0;have dz:=ab.2 1;have d0:=ab.2 2;have z3:=ab.2 3;have z4:=ab.2 4;have z5:=ab.2 5;have d1:=ab.2 6;have d2:=ab.2 7;obtain⟨b1,b2,b3,b4,b5,b6,f6,b7⟩:=ab.1;go_wp2;obtain⟨fI,dp⟩:=A3 (Ar a8 (W.heap.size+1) zN zH);rw[dp.out]at dn a6;have bF:=dp.out;simp only[Ar,zN,zH]at bF;simp only[nQ]at bF;rw[bF];obtain⟨cB,c3,c4,c5,c6,c8,c9,da⟩:=dn.1;refine nF (v:=.tuple #[Ao zN zH,.iface 74 (iN 11)]) (by simp[results,results164,go_sem,Ao,zN,zH,cB,c3,c4,c5,c6,c8,c9,da]) rfl (TQ eg.out a6)
  |some z=>
   obtain⟨⟨ba,rfl,e6⟩,a6⟩:=e5;have gp:=hid ((Gz dk.out).2);obtain⟨G,H,I,J,O,Q,R,T⟩:=z;have dm:=bl.below a6;have bC:=Bq ch (Ap G H I J O Q R T ba);have cl:=dm.below bC;have d4:=hid (Ah.on e6 (CQ bC));have dr:=As.new ch G H I J O Q R T ba;have fJ:=Aj bC _ _ (Aj a6 _ _ (Aj dj _ _ ef));have bn:=hid cl;rw[show Ao (.mk G H I J O Q R T) ba=(AY G H I J O Q R T ba)from rfl];have d5:Hid (BW us gs ((DI Y aa).take (j+1))=if AQ nm=false then .error 4 else .ok (P++[((.mk G H I J O Q R T),nm)])):=by
    show _=_;rw[d3.out,JX,bG.out];dsimp only;rw[dk.out]
   clear bl dm cl bC dj a6 ee dg ef ak d3 bG e6 dk;go_upto_region 7 with fail
   generalize ch.alloc (Ap G H I J O Q R T ba)=a8 at bn d4 dr fJ⊢;generalize ch.heap.size=gq at dr⊢;have gr:(j:Int)<(eu:Int):=by omega
   by_cases ds:AQ nm=false
   ·have eg:Hid (cr=.error 4):=by
     show cr=_;rw[←cu.out,de.out];refine NN _ ?_;rw[d5.out,nC ds]
    have co:=bn.out.low;have ab:=bn.out.rb;clear d5 de bn d4 dr;go_wp2_with fail
    refine nn (Gc nm _) ?_;rintro e eX ⟨rfl,rfl⟩;rw[ds];have dn:=As.store ab zN zH;have a6:Below W.heap.size W (Ar a8 (W.heap.size+1) zN zH):=co.trans (Cf.below (by omega) co.size);have z0:=ab.2 0;have dz:=ab.2 1;have d0:=ab.2 2;have z3:=ab.2 3;have z4:=ab.2 4;have z5:=ab.2 5;have d1:=ab.2 6;have d2:=ab.2 7;obtain⟨b1,b2,b3,b4,b5,b6,f6,b7⟩:=ab.1;go_wp2;obtain⟨fI,dp⟩:=A3 (Ar a8 (W.heap.size+1) zN zH);rw[dp.out]at dn a6;have bF:=dp.out;simp only[Ar,zN,zH]at bF;simp only[nQ]at bF;rw[bF];obtain⟨cB,c3,c4,c5,c6,c8,c9,da⟩:=dn.1;refine nF (v:=.tuple #[Ao zN zH,.iface 74 (iN 4)]) (by simp[results,results164,go_sem,Ao,zN,zH,cB,c3,c4,c5,c6,c8,c9,da]) rfl (TQ eg.out a6)
   ·have fK:AQ nm=true:=by simpa using ds
    have fL:Hid (BW us gs ((DI Y aa).take (j+1))=.ok (P++[((.mk G H I J O Q R T),nm)])):=by show _=_;rw[d5.out,nB ds]
    have fM:Hid ((P++[(((.mk G H I J O Q R T):Nd),nm)]).map Prod.fst=(L++[(⟨(.mk G H I J O Q R T),ba,0⟩:Fl)]).map Fl.x):=by show _=_;rw[rA,rA,dw.out];rfl
    have gu:L.length≤1000:=by have:=bH.out;omega
    obtain⟨z0,dz,d0,z3,z4,z5,d1,d2⟩:=dr.1;clear d5 de dr ds;go_wp2_with fail
    refine nn (Gc nm _) ?_;rintro e eX ⟨rfl,rfl⟩;rw[fK];go_wp2_with (at_builtin;refine Ea (a8.alloc (Ap G H I J O Q R T ba)) rfl (.tmp 40) (.tmp 42) 30 rfl (W.heap.size+1+1) 50 fb (.agg #[iN 0,iN 0,iN 0,iN 0,.bool false,nL,.string ⟨#[]⟩,nL]) 8 104 underlying30 fc.out fd.out fe.out ff.out rfl (by decide) u8 L.length (Be L) rfl (bn.out.row.alloc _) (some (aD a8.heap.size 0)) 1 1 (Bi (.mk G H I J O Q R T) ba) rfl rfl (.inr ⟨_,rfl,fun q t cA=>by rw[DV,nT];exact NO a8 _ ba _ q t cA⟩) (J8 _ _) (by unfold maxLen;omega) (by omega) (by have:=bn.out.rb.1.lt;rw[nv];omega) ?_)
    intro gv gw e7 e8 e9;have fN:=hid ((bn.out.below (Bq a8 _)).app (f:=⟨(.mk G H I J O Q R T),ba,0⟩) (d4.out.on (CQ (Bq a8 _))) (by rw[J9,nK];simpa [Be]using e7) e8 (by rw[nv];exact e9));clear e7 e8 e9 bn d4 z0 dz d0 z3 z4 z5 d1 d2;go_wp2;go_roundw
    case rel=>exact⟨j+1,_,_,by omega,by go_num,fL.out,fM.out,(show _=_ from by rw[nK,bH.out];rfl),fN.out⟩
    case measure=>(simp[intOf];try omega)
end Go.Proofs.YtgppjbhaimmlpaaGreatDoor
namespace Go.Proofs.YtgppjbhaimmlpaaGreatDoor
open Go.RowKit Go.Shelf Go.Proofs.Tryz
attribute [local go_sem] Oper.semAt_some
theorem FU.put{S:Nat→Bool}{w A:World}{xs:List Nd}{nf:List BA}{st:Loop}{i:Nat}{Sx:Nat→Bool}(h:FU S w A xs nf st i Sx)(G:Loop):FU S w (A.putObj (w.heap.size+1+1+1+1+1) (.loop G)) xs nf G i Sx:=by
 obtain⟨vn,vf,L,H,I,F,J,O,Q⟩:=h.bx;have R:=Jk (S:=Ca w.heap.size vn vf S) h.lk rfl (.loop G);exact⟨h.low.trans (Fr h.low.size (by omega) _),⟨vn,vf,L,FY H h.lk _,FY I h.lk _,⟨ownsRow_putObj F.rn _ h.lk rfl,ownsRow_putObj F.rf _ h.lk rfl,F.ne,fun f T=>(F.nd f T).on R⟩,J,O,Q⟩,(World.putObj_heap_other (by omega)).trans h.dk,World.putObj_heap_same (nI.1 h.lk).1⟩
theorem Xv{c:AJ}{k m u g:Int}{o:Bool}{nh:List Kv}{d:BA}{ks:At}{h:Hd}(F:Ah c (.mk k m u g o nh d ks) h):Ah c (.mk k m u g o nh d []) ⟨h.aa,h.ca,none,0⟩:=by
 obtain⟨G,H,_,_⟩:=Cj.1 F;exact Cj.2 ⟨G,H,⟨nl _,by simp⟩,.inl rfl⟩
theorem Fy.put{S:Nat→Bool}{n₀:Nat}{A:World}{vn vf:Value}{L I:List Fl}(h:Fy S n₀ A vn vf L I){l:Nat}{o:Obj}(G:A.heap[l]? =some o)(H:o.isCells=false)(F:Obj):Fy S n₀ (A.putObj l F) vn vf L I:=
 ⟨ownsRow_putObj h.rn F G H,ownsRow_putObj h.rf F G H,h.ne,fun f J=>(h.nd f J).on (Jk G H F)⟩
theorem QD{w G:World}{S:Nat→Bool}{xs:List Nd}{nf:List BA}{F:Act}{vn vf:Value}{L:List Fl}(J:F.tmps[4]? =some vn)(O:F.tmps[5]? =some vf)(hd:F.defers=[{target:=.collected (w.heap.size+1+1+1+1),args:=#[]}])(H:G.heap[w.heap.size+1+1+1+1]? =some (.deferred (some [])))(Q:Fy S w.heap.size G vn vf L L)(R:∀(j:Nat) f,L[j]? =some f→∃q r,AP xs (nf.take j)=q::r∧f.x=q.1.with []∧f.ly=q.2)(T:L.length=nf.length+1∨L.length≤nf.length∧AP xs (nf.take L.length)=[])(I:Below w.heap.size w G):
 bodyPostM Fence.wide 0 prog Tryz.f148 (fun e w'=>(∃vn vf L,e=.returned (.tuple #[vn,vf])∧Fy S w.heap.size w' vn vf L L∧(∀(j:Nat) f,L[j]? =some f→∃q r,AP xs (nf.take j)=q::r∧f.x=q.1.with []∧f.ly=q.2)∧(L.length=nf.length+1∨L.length≤nf.length∧AP xs (nf.take L.length)=[]))∧Below w.heap.size w w') .ret F G:=by
 show LeavesInM Fence.wide 0 prog Tryz.f148 F.tmps _ F.defers .returning G;rw[hd];refine⟨by simp,.inl ⟨_,_,rfl,run_takeDeferred H,?_⟩⟩;refine⟨.tuple #[vn,vf],by simp[results,results148,go_sem,J,O],⟨vn,vf,L,rfl,Q.put H rfl _,R,T⟩,I.trans (Fr (l:=w.heap.size+1+1+1+1) I.size (by omega) _)⟩
theorem XA.toJ{S:Nat→Bool}{w A:World}{Sx:Nat→Bool}{st:Loop}{vn vf:Value}{L:List Fl}{W:World}{xs:List Nd}{nf:List BA}{i:Nat}(h:XA S w A Sx st vn vf L L vn vf W)(F:L.length=i)(G:∀(j:Nat) f,L[j]? =some f→∃q r,AP xs (nf.take j)=q::r∧f.x=q.1.with []∧f.ly=q.2):FU S w W xs nf st i (Ca w.heap.size vn vf S):=⟨h.low,⟨vn,vf,L,h.bn,h.bf,h.r,F,G,rfl⟩,h.dk,h.lk⟩
theorem Br.init{S:Nat→Bool}{w A:World}{Sx:Nat→Bool}{st:Loop}{vn vf:Value}{L:List Fl}{N:Nd}{hb:Hd}{ly nbx vb vo:Nat}{F:Value}{G t25 H I J O Q t31 R T V t35:Value}{W:World}(Y:XA S w A Sx st vn vf L L vn vf W)(Z:As W nbx N hb)(aa:Ah (Ag W.cell? (Ca w.heap.size vn vf S)) N hb):Br S w A Sx st vn vf L N hb ly nbx vb vo F false false false false false false false false false false false false false false G t25 H I J O Q t31 R T V t35 W:=
 ⟨(fun e=>by cases e),(fun e=>by cases e),(fun e=>by cases e),(fun e=>by cases e),(fun e=>by cases e),(fun e=>by cases e),(fun e=>by cases e),(fun e=>by cases e),(fun e=>by cases e),(fun e=>by cases e),(fun e=>by cases e),(fun e=>by cases e),(fun e=>by cases e),(fun e=>by cases e),fun _=>⟨Y,Z,aa⟩,(fun e=>by cases e),(fun e=>by cases e),(fun e=>by cases e),(fun e=>by cases e),(fun e=>by cases e),(fun e=>by cases e),(fun e=>by cases e)⟩
theorem Qv{w:World}{S:Nat→Bool}(a6:∀k,S k=true→k<w.heap.size){a:Option Addr}{cap:Nat}{xs:List Nd}{an:Option Addr}{nj:Nat}{nf:List BA}(hx:Ch (Ag w.cell? S) a xs)(a7:A0 (Ag w.cell? S) an nf)(cf:xs.length≤1000)(cg:nf.length≤1000)(bu:DC (BD xs))(ch:EZ (BD xs)):
 Calls prog 148 #[.slice a xs.length cap,.slice an nf.length nj] w fun e w'=>(∃vn vf L,e=.returned (.tuple #[vn,vf])∧Fy S w.heap.size w' vn vf L L∧(∀(j:Nat) f,L[j]? =some f→∃q r,AP xs (nf.take j)=q::r∧f.x=q.1.with []∧f.ly=q.2)∧(L.length=nf.length+1∨L.length≤nf.length∧AP xs (nf.take L.length)=[]))∧Below w.heap.size w w':=by
 refine(rX (n:=0)).1 ?_;refine callsIn_of_wp_marks func148 rfl trivial ?_ rfl;simp only[ntmps148,List.size_toArray,n3,nQ,Nat.reduceAdd,Nat.reduceSub,r9,r8,List.push_toArray,List.append_toArray,ru,n9];gi_wp2_with fail
 refine⟨trivial,rfl,CallsIn.mono (rX.2 (QM _ a an xs.length cap nf.length nj)) ?_⟩;rintro e J ⟨rfl,O⟩;rw[nv,nv];have a8:=(nt _ w).alloc (nl _) (.cells #[nL] 30);have ba:=a8.alloc a8.size (.cells #[nL] 25);have Y:((w.alloc (.cells #[nL] 30)).alloc (.cells #[nL] 25)).heap.size=w.heap.size+1+1:=by rw[nv,nv]
 have bv:Below w.heap.size w J:=by rw[O];exact(ba.alloc ba.size _).alloc (by rw[nv,Y];omega) _
 have bx:J.heap.size=w.heap.size+1+1+1+1:=by rw[O,nv,nv,Y]
 have bA:Boxed J w.heap.size 30 nL:=by rw[O];exact(((Boxed.new w _ _).alloc _).alloc _).alloc _
 have bB:Boxed J (w.heap.size+1) 25 nL:=by
  rw[O];have:=((Boxed.new (w.alloc (.cells #[nL] 30)) 25 nL).alloc (.cells #[.slice a xs.length cap] 30)).alloc (.cells #[.slice an nf.length nj] 40);rwa [nv]at this
 have bC:Boxed J (w.heap.size+1+1) 30 (.slice a xs.length cap):=by
  rw[O];have:=(Boxed.new ((w.alloc (.cells #[nL] 30)).alloc (.cells #[nL] 25)) 30 (.slice a xs.length cap)).alloc (.cells #[.slice an nf.length nj] 40);rwa [Y]at this
 have bF:Boxed J (w.heap.size+1+1+1) 40 (.slice an nf.length nj):=by
  rw[O];have:=Boxed.new (((w.alloc (.cells #[nL] 30)).alloc (.cells #[nL] 25)).alloc (.cells #[.slice a xs.length cap] 30)) 40 (.slice an nf.length nj);rwa [nv,Y]at this
 clear O a8 ba Y;gi_wp2_with fail
 refine Ns (gf:=142) (lb:=#[pO (w.heap.size+1+1) 0,pO (w.heap.size+1+1+1) 0]) rfl (enters_of func142 (by kernel_rfl) rfl) ?_;intro fn rec cl R ak bG bb bd;rw[bx]at ak bG bb bd⊢;have Z:Below J.heap.size J R:=by rw[bx];exact ak
 have bH:∀k,w.heap.size≤k→S k=false:=fun k bY=>by
  cases hh:S k with
  |false=>rfl
  |true=>have:=a6 k hh;omega
 have b0:FU S w R xs nf (rec .ready none) 0 (Ca w.heap.size nL nL S):=⟨bv.trans (ak.mono (by omega)),⟨_,_,[],En bA Z,En bB Z,⟨rB _ _ _ _,rB _ _ _ _,fun g e=>by simp[Value.ownBlock]at e,fun f be=>by cases be⟩,rfl,fun j f G=>by simp at G,rfl⟩,bd,bb⟩;have b1:AR (Ag w.cell? S) (Ag R.cell? (Ca w.heap.size nL nL S)):=Cb fun k bY a7=>⟨by simp[Ca,a7,Value.ownBlock];omega,b0.low.block k bY⟩;have co:Ag R.cell? (Ca w.heap.size nL nL S) (aD (w.heap.size+1+1) 0)=some (.slice a xs.length cap):=by rw[Co (by simp[Ca,Value.ownBlock];exact⟨by omega,bH _ (by omega)⟩)];exact(En bC Z).cell
 have cp:Ag R.cell? (Ca w.heap.size nL nL S) (aD (w.heap.size+1+1+1) 0)=some (.slice an nf.length nj):=by rw[Co (by simp[Ca,Value.ownBlock];exact⟨by omega,bH _ (by omega)⟩)];exact(En bF Z).cell
 clear bv ak Z bG bb bd bA bB bC bF
 refine(P1 (w.heap.size+1+1) (w.heap.size+1+1+1) a cap xs an nj nf (w.heap.size+1+1+1+1+1) (fun i S' A=>FU S w A xs nf (rec .ready none) i S') (fun A=>∃i Sx,i≤nf.length∧AP xs (nf.take i)=[]∧FU S w A xs nf (rec .done (some (.exit 0))) i Sx) R _ co cp (hx.on b1) (a7.on b1) cf cg bu
  (fun i S' A h=>h.hid a6) (fun i S' A B h hb=>h.keep hb) ?rounds b0).mono ?after
 case rounds=>
  intro i S' v A bf F cq;have dm:=Ms bu (nf.take i);have cr:=MI ch (nf.take i);obtain⟨cu,vc,D,rfl,g1,dn,g3,g4,bg⟩:=cq;obtain⟨vn,vf,L,aa,ab,H,T,ad,rfl⟩:=F.bx;refine M7 cl F.lk rfl ?_;gi_wp2
  refine⟨F.lk,?_⟩;have b2:=(nI.1 F.lk).1;cases D with
  |nil=>
   have bi:AP xs (nf.take i)=[]:=by rw[←bg];rfl
   gi_wp2
   exact⟨World.putObj_heap_same b2,.inr ⟨rfl,i,bf,bi,_,(F.put (rec .busy none)).put (rec .done (some (.exit 0)))⟩⟩
  |cons s D=>
   obtain⟨cx,cA,ly,⟨k,m,u,g,o,nh,d,ks⟩,h⟩:=s;have b3:=g4 _ (nJ ..);obtain⟨vb,vo,rfl,cB⟩:∃b bk,cu=some (aD b bk)∧∀j ao,((⟨cx,cA,ly,(.mk k m u g o nh d ks),h⟩:Sp)::D)[j]? =some ao→Ag A.cell? (Ca w.heap.size vn vf S) (aD b (bk+j*2))=some (pO ao.b ao.p)∧Ag A.cell? (Ca w.heap.size vn vf S) (aD b (bk+j*2+1))=some (iN ao.ly):=by
    rcases g3 with e|e
    ·cases e
    ·exact e
   obtain⟨bl,ap⟩:=cB 0 _ rfl;dsimp only at bl ap;rw[r3,rT]at bl ap;have c3:((.mk k m u g o nh d ks),ly)∈AP xs (nf.take i):=by rw[←bg];exact nJ ..
   have c4:Hid (∃r,AP xs (nf.take i)=((.mk k m u g o nh d ks),ly)::r):=⟨_,bg.symm⟩;have c5:A7 (.mk k m u g o nh d []):=by have e:=cr _ c3;rw[A7]at e⊢;exact⟨e.1,by simp,by rw[Dl];trivial⟩
   have c6:cnt (.mk k m u g o nh d [])≤1000:=by rw[cnt,cntL];omega
   have V:AR (Ag A.cell? (Ca w.heap.size vn vf S)) (Ag (A.putObj (w.heap.size+1+1+1+1+1) (.loop (rec .busy none))).cell? (Ca w.heap.size vn vf S)):=Jk F.lk rfl _;have bn:XA S w A (Ca w.heap.size vn vf S) (rec .busy none) vn vf L L vn vf (A.putObj (w.heap.size+1+1+1+1+1) (.loop (rec .busy none))):=⟨F.low.trans (Fr F.low.size (by omega) _),by rw[World.putObj_size];exact nl _,FY aa F.lk _,FY ab F.lk _,⟨ownsRow_putObj H.rn _ F.lk rfl,ownsRow_putObj H.rf _ F.lk rfl,H.ne,fun f be=>(H.nd f be).on V⟩,V,(World.putObj_heap_other (by omega)).trans F.dk,World.putObj_heap_same b2⟩;have c8:∀g,vn.ownBlock=some g→g<A.heap.size:=fun g e=>(H.rn.lt g e).2;have b4:=b3.1.on V
   have bo:=hid (b3.2.on V);have b5:=V _ _ bl;have b6:=V _ _ ap;have b7:(A.putObj (w.heap.size+1+1+1+1+1) (.loop (rec .busy none))).heap.size=A.heap.size:=World.putObj_size ..;have dp:Hid (A.heap.size=A.heap.size):=rfl;generalize A.putObj (w.heap.size+1+1+1+1+1) (.loop (rec .busy none))=az at bn b4 bo b5 b6 b7⊢;have t0:=Ci _ _ _ _ b5;have dr:=Ci _ _ _ _ b6;obtain⟨ds,du,dw,dx,dy,dz,d0,d1⟩:=b4.on (Ci _ _);have bp:Below az.heap.size az (az.alloc (.cells #[iN k,iN m,iN u,iN g,.bool o,.slice h.aa nh.length h.ca,.string d,nL] 50)):=bN;have bs:=As.new az k m u g o nh d [] ⟨h.aa,h.ca,none,0⟩;rw[b7]at bs;have b9:=bn.below bp;have cb:=(Xv bo.out).on (CQ bp);have c9:Hid _:=b9;have da:Hid _:=cb;have db:Hid _:=bs;clear b9 cb bs bn bo bp;gi_wp2
   refine ei (S:=S) (w:=w) (A:=A) (Sx:=Ca w.heap.size vn vf S) (st:=rec .busy none) (vn:=vn) (vf:=vf) (L:=L) (N:=.mk k m u g o nh d []) (hb:=⟨h.aa,h.ca,none,0⟩) (ly:=ly) (nbx:=A.heap.size) (vb:=vb) (vo:=vo) (dl:=D.length) (vc:=vc) a6 c5 c6 c8 (by omega) ap rfl (Br.init (c9.out.below (nt _ _).drew) db.out da.out) ?_;intro d2 d3 d4 t35 h' a1
   have Q:=(a1.toJ (xs:=xs) (nf:=nf) (i:=i+1) (by rw[nK,T];rfl) (fun j f G=>by
    rw[List.getElem?_append]at G;split at G
    ·exact ad j f G
    ·rename_i hge
     have e:j-L.length=0:=by
      rcases Nat.eq_zero_or_pos (j-L.length)with e|e
      ·exact e
      ·rw[List.getElem?_eq_none (by simp;omega)]at G;cases G
     rw[e]at G;simp at G;subst G;obtain⟨r,dd⟩:=c4.out;have de:j=i:=by omega
     rw[de];exact⟨_,r,dd,rfl,rfl⟩)).put (rec .ready none)
   exact⟨a1.lk,.inl ⟨rfl,_,Q,a1.ml.trans (Jk a1.lk rfl _)⟩⟩
 case after=>
  rintro e W2 ⟨⟨v,rfl⟩,(⟨S',Q⟩|⟨i,S',bf,bi,Q⟩)⟩
  ·refine⟨⟨_,rfl⟩,.inl ⟨Q.lk,?_⟩⟩
   have I:=Q.put (rec .exhausted none);generalize W2.putObj (w.heap.size+1+1+1+1+1) (.loop (rec .exhausted none))=dg at I⊢;obtain⟨vn,vf,L,aa,ab,H,T,ad,_⟩:=I.bx;have dj:=aa.cell;have dk:=ab.cell;gi_wp2
   gi_quiet (fail)
   all_goals
    gi_wp2
    exact QD rfl rfl rfl I.dk (H.below (Ig (nt _ _) _)) ad (.inl T) (Ig I.low _)
  ·refine⟨⟨_,rfl⟩,.inr ⟨.exit 0,Q.lk,?_⟩⟩
   have I:=Q.put (rec .exhausted (some (.exit 0)));generalize W2.putObj (w.heap.size+1+1+1+1+1) (.loop (rec .exhausted (some (.exit 0))))=dg at I⊢;obtain⟨vn,vf,L,aa,ab,H,T,ad,_⟩:=I.bx;have dj:=aa.cell;have dk:=ab.cell;gi_wp2
   gi_quiet (fail)
   all_goals
    gi_wp2
    exact QD rfl rfl rfl I.dk (H.below (Ig (nt _ _) _)) ad (.inr ⟨by rw[T];exact bf,by rw[T];exact bi⟩) (Ig I.low _)
end Go.Proofs.YtgppjbhaimmlpaaGreatDoor
