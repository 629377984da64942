/-
  TopQuota: Un Ui.
-/
import Derived.Test.YtofhphibahcniaaGreatDoorApX
import Derived.Test.YtofhphibahcniaaGreatDoorUmX
import Derived.Test.YtofhphibahcniaaGreatDoorUbX
import Derived.Test.YtofhphibahcniaaGreatDoorKcX
set_option maxRecDepth 100000
set_option maxHeartbeats 16000000
namespace Go.Proofs.YtofhphibahcniaaGreatDoor
open Go.RowKit Go.Proofs.Tryz
def MK(W F:World)(S:Nat→Bool)(e:Ending):Except Int (List (Nd×BA))→Prop
 |.error f=>e=.returned (.tuple #[Al zN zH,.iface 78 (.int .i64 f)])∧Below W.heap.size W F
 |.ok L=>(∃h',e=.returned (.tuple #[Al (Ct L) h',.nilIface])∧Ah (Ag F.cell? S) (Ct L) h')∧Below W.heap.size W F
theorem UH{W F:World}{S:Nat→Bool}{f:Int}{G:Except Int (List (Nd×BA))}(H:G=.error f)(hb:Below W.heap.size W F):MK W F S (.returned (.tuple #[Al zN zH,.iface 78 (.int .i64 f)])) G:=by subst H;exact⟨rfl,hb⟩
theorem Y5(w:World){g:Nat}(F:g<w.heap.size)(i:Nat)(v:Value)(o:Obj):(w.alloc o).setCell (aD g i) v=(w.setCell (aD g i) v).alloc o:=by
 exact World.setCell_alloc_past o g i v F
theorem Zv{c:AH}{k m u g:Int}{o:Bool}{nh:List Kv}{d:BA}{h:Hd}(F:Ah c (.mk k m u g o nh d []) h):Ah c (CP (.mk k m u g o nh d [])) h:=Cq.2 (Cq.1 F)
theorem ZP{x:Nd}(h:Be x):Be (CP x):=by
 obtain⟨k,m,u,g,o,nh,d,ks⟩:=x;rw[Be]at h;show Be (.mk k m u g false nh d []);rw[Be];exact⟨h.1,by simp,by rw[DI];trivial⟩
theorem Xw{W:World}{S:Nat→Bool}(eg:∀k,S k=true→k<W.heap.size){na:Option Addr}{cn:Nat}{Y:List Nd}{cg:Option Addr}{cs:Nat}{aa:List BA}(hx:Cn (Ag W.cell? S) na Y)(a7:AW (Ag W.cell? S) cg aa)(ej:Y≠[])(f5:Y.length≤1000)(ds:Y.length≤aa.length)(ek:∀y∈Y,y.kids=[]∧Be y∧Ez y){M:CO}(el:Ek W M):
 Calls prog 173 #[M.v,.slice na Y.length cn,.slice cg aa.length cs] W fun e ch=>MK W ch S e (Cb M.us M.gs (DQ Y aa)):=by
 obtain⟨ba,bb,uc,gc,us,gs⟩:=M;obtain⟨f7,em,en,eo,ep⟩:=DC Tryz.infoNd;have f8:Hid _:=em;have f9:Hid _:=en;have ga:Hid _:=eo;have gb:Hid _:=ep;clear em en eo ep;obtain⟨c0,c1,RB,eq,gg⟩:=Vs W _ _ ba bb us.length gs.length uc gc rfl rfl;have gl:=hid hx;have er:=hid a7;have go:=hid el;have gq:=hid ek;have gr:=hid ej;obtain⟨cl,co⟩:=AQ (Cb us gs (DQ Y aa));show cL 173 #[.agg #[.slice ba us.length uc,.slice bb gs.length gc],.slice na Y.length cn,.slice cg aa.length cs] W fun e ch=>MK W ch S e (Cb us gs (DQ Y aa));rw[co.out]
 obtain⟨N,bd⟩:=AQ Y.length;obtain⟨es,cp⟩:=AQ aa.length;rw[bd.out]at f5 ds⊢;rw[cp.out]at ds⊢;have ak:Hid (GT S W ba bb us.length gs.length uc gc nL [] ((W.alloc (.cells #[.slice ba us.length uc,.slice bb gs.length gc] 24)).alloc AJ)):=⟨eq,c0,c1,RB,rB _ _ _ _,fun f bk=>by cases bk⟩;clear hx a7 el ek ej c0 c1 RB eq gg;go_enter func173,ntmps173;go_upto_region 1 with fail
 generalize((W.alloc (.cells #[.slice ba us.length uc,.slice bb gs.length gc] 24)).alloc AJ)=gW at ak⊢;go_wp2;go_loopw [8,16] (fun v i wr=>∃(j:Nat) (L:List Fl) (P:List (Nd×BA)),j≤N∧i=iN j∧Hid (Cb us gs ((DQ Y aa).take j)=.ok P)∧Hid (P.map Prod.fst=L.map Fl.x)∧Hid (L.length=j)∧Hid (GT S W ba bb us.length gs.length uc gc v L wr)) (fun _ i _=>N-(intOf i).toNat)
 case atStart=>exact⟨0,[],[],nN _,rfl,rfl,rfl,rfl,ak.out⟩
 case round=>
  clear ak;obtain⟨j,L,P,gX,rfl,bB,du,bC,ak⟩:=hrel;by_cases gu:j<N;rotate_left
  ·obtain rfl:j=N:=by omega
   have hb:=nB (by omega);have eu:Hid (cl=.ok P):=by
    have e:=bB.out;rw[n1 (by rw[Ud (by rw[bd.out,cp.out];exact ds),bd.out];omega),co.out]at e;exact e
   have d5:Hid (P.map Prod.snd=(DQ Y aa).map Prod.snd∧P.length=j):=by
    have e:=eu.out;rw[←co.out]at e;have ap:=(OL e).1;refine⟨ap,?_⟩;have az:=nW List.length ap;rw[rk,rk,Ud (by rw[bd.out,cp.out];exact ds),bd.out]at az;exact az
   have gY:0<j:=by
    have e:=bd.out;rcases Nat.eq_zero_or_pos j with az|az
    ·rw[az]at e;exact absurd (rq.1 e) gr.out
    ·exact az
   obtain⟨ao,rfl⟩:∃ao,j=ao+1:=⟨j-1,by omega⟩;obtain⟨g,ev,rfl,gZ,g0,d6,eB⟩:∃g cap,u8=sL g 0 (ao+1) cap∧W.heap.size+1+1≤g∧ao+1≤cap∧(∀(i:Nat) f,L[i]? =some f→Bi wr.cell? g (i*8) f.x f.h)∧∀j,Fz wr g j:=by
    have e:=UV ak.out.row;rw[bC.out]at e;rcases e with e|e
    ·have:=bC.out;rw[e]at this;cases this
    ·exact e
   have d7:∀(t:Nat),t<ao+1→∃f p,L[t]? =some f∧P[t]? =some p∧f.x=p.1∧aa[t]? =some p.2:=fun t dw=>by
    obtain⟨f,bk⟩:∃f,L[t]? =some f:=⟨_,nt (by rw[bC.out];exact dw)⟩;obtain⟨p,d8⟩:∃p,P[t]? =some p:=⟨_,nt (by rw[d5.out.2];exact dw)⟩;obtain⟨y,Z⟩:∃y,Y[t]? =some y:=⟨_,nt (by rw[bd.out];exact dw)⟩;obtain⟨nm,eE⟩:∃nm,aa[t]? =some nm:=⟨_,nt (by rw[cp.out];omega)⟩;have ap:=nW (fun l=>l[t]?) du.out;simp only[n4,bk,d8,r0,nV]at ap;have az:=nW (fun l=>l[t]?) d5.out.1;simp only[n4,d8,Vx Z eE,r0,nV]at az;exact⟨f,p,bk,d8,ap.symm,by rw[eE,az]⟩
   have dx:Hid _:=d7;have eL:Hid (Iw S W (sL g 0 (ao+1) ev) g L P ao wr):=by
    obtain⟨f,p,e0,e1,e2,g2⟩:=d7 ao (by omega);have e3:P.drop ao=[p]:=by
     have ap:=nO (ny.1 e1).1;rw[(ny.1 e1).2,show P.drop (ao+1)=[]from n7 (by rw[d5.out.2];omega)]at ap;exact ap
    refine⟨ak.out.low,by omega,(ak.out.row.lt g rfl).2,ak.out.rb,eB,fun s f a7 bk=>⟨d6 s f bk,ak.out.nd f (nE bk)⟩,f.h,?_,?_⟩
    ·rw[e3,Ct,←e2];exact d6 ao f e0
    ·rw[e3,Ct,←e2];exact ak.out.nd f (nE e0)
   clear d7 d6 eB du bB bC;have gv:=hid ak.out;clear ak;go_wp2;go_loopw [13] (fun i gw=>∃t:Nat,t≤ao∧i=iN t∧Hid (Iw S W (sL g 0 (ao+1) ev) g L P t gw)) (fun i _=>(intOf i).toNat)
   case atStart=>exact⟨ao,nn _,by go_num,eL.out⟩
   case round=>
    clear eL;obtain⟨t,dw,rfl,ar⟩:=hrel;cases t with
    |zero=>
     obtain⟨F,bF,be⟩:=ar.out.ch;obtain⟨C,bG⟩:=AQ (Ct (P.drop 0));rw[bG.out]at bF be;obtain⟨G,H,I,J,O,Q,R,T⟩:=C;have e4:Hid (Ct P=(.mk G H I J O Q R T)):=bG.out;have gx:Hid _:=be;have RB:=ar.out.rb;have e5:=ar.out.low;have e6:=RB.store (.mk G H I J O Q R T) F;have b8:Ao (W.heap.size+1) wr (Au wr (W.heap.size+1) (.mk G H I J O Q R T) F):=Cz;have e7:Below W.heap.size W (Au wr (W.heap.size+1) (.mk G H I J O Q R T) F):=e5.trans (b8.below (by omega) e5.size)
     have e8:Hid (Ah (Ag (Au wr (W.heap.size+1) (.mk G H I J O Q R T) F).cell? S) (.mk G H I J O Q R T) F):=be.on (BN fun q cr a7=>by
      simp[DR]at a7;exact⟨a7.2,b8.block q cr a7.1.1.2⟩)
     have z0:=RB.2 0;have dy:=RB.2 1;have dz:=RB.2 2;have z3:=RB.2 3;have z4:=RB.2 4;have z5:=RB.2 5;have d0:=RB.2 6;have d1:=RB.2 7;obtain⟨g5,g6,g7,g8,g9,ha,hc,he⟩:=RB.1;obtain⟨bH,bY,b0,b1,b2,b3,f6,b4⟩:=bF;simp only[r3,nU]at bH bY b0 b1 b2 b3 f6 b4;clear RB ar bG be gx dx gv b8;go_wp2;obtain⟨hf,e9⟩:=AQ (Au wr (W.heap.size+1) (.mk G H I J O Q R T) F);rw[e9.out]at e6 e7 e8;have fa:=e9.out;simp only[Au]at fa;rw[fa];obtain⟨cu,cx,c3,c4,c5,c6,c8,c9⟩:=e6.1;refine nG (v:=.tuple #[Al (.mk G H I J O Q R T) F,.nilIface]) (by simp[results,results173,go_sem,Al,cu,cx,c3,c4,c5,c6,c8,c9]) rfl ?_;rw[eu.out];refine⟨⟨F,by rw[e4.out],?_⟩,e7⟩;rw[e4.out];exact e8.out
    |succ t=>
     obtain⟨f,p,d9,a2,a3,a4⟩:=dx.out t (by omega);obtain⟨_,q,_,fb,_,b5⟩:=dx.out (t+1) (by omega);obtain⟨F,bF,be⟩:=ar.out.ch
     have da:Hid _:=ar.out.step rfl d9 a2 fb a3 bF be (by
      have:=eg wr.heap.size;have az:=ar.out.low.size;have hg:=ar.out.gz;have hi:=ar.out.rb.1.lt;simp[DR,Value.ownBlock];refine⟨⟨⟨by omega,by omega⟩,by omega⟩,?_⟩;cases hh:S wr.heap.size with
      |false=>rfl
      |true=>have:=this hh;omega)
     have gy:=ar.out.gz;obtain⟨C,bG⟩:=AQ (Ct (P.drop (t+1)));rw[bG.out]at bF be da;obtain⟨G,H,I,J,O,Q,R,T⟩:=C;obtain⟨a8,bl,rfl,b6⟩:∃b bf,cg=some (aD b bf)∧∀i s,aa[i]? =some s→Ag W.cell? S (aD b (bf+i))=some (.string s):=by
      rcases er.out with e|e
      ·rw[e]at b5;simp at b5
      ·exact e
     have b7:Ce wr a8 (bl+(t+1)) (.string q.2):=Aj ar.out.low _ _ (Ci _ _ _ _ (b6 _ _ b5));have hj:a8≠g:=fun e=>by
      have ap:=bL (Ci _ _ _ _ (b6 _ _ b5));have:a8<W.heap.size:=ap;omega
     have gz:=ar.out.fz (t*8+7);obtain⟨fk,gC⟩:∃u7,Ce wr g (t*8+7) u7:=by
      obtain⟨ap,_⟩:=ar.out.ab t f (by omega) d9;obtain⟨⟨k,m,u,hk,o,nh,d,ks⟩,hl,hm⟩:=f;exact⟨_,ap.2.2.2.2.2.2.2⟩
     obtain⟨bH,bY,b0,b1,b2,b3,f6,b4⟩:=bF;obtain⟨q1,V⟩:=q;dsimp only at b7 da b5;clear ar dx be bG d9 a2 a3 a4 fb b5 b6;rw[show((t+1:Nat):Int)=(t:Int)+1 by omega];have hb:decide ((0:Int)<(t:Int)+1)=true:=nF (by omega);have hn:(0:Int)≤(t:Int)+1:=by omega
     have ho:(t:Int)+1<(es:Int):=by omega
     have hp:(t:Int)+1<(ao:Int)+1:=by omega
     have hq:(t:Int)<(ao:Int)+1:=by omega
     have hr:((t:Int)+1).toNat=t+1:=by omega
     have hs:(t:Int)≤(ao:Int):=by omega
     have ht:IntKind.i64.wrap (t:Int)=(t:Int):=EG (by omega) (by omega);have hu:IntKind.i64.wrap ((t:Int)+1-1)=(t:Int):=(EG (by omega) (by omega)).trans (by omega);have ad:Ce wr a8 (bl+(t+1)) (.string V)∧Ce wr g ((t+1)*8) (iN G)∧Ce wr g ((t+1)*8+1) (iN H)∧Ce wr g ((t+1)*8+2) (iN I)∧Ce wr g ((t+1)*8+3) (iN J)∧Ce wr g ((t+1)*8+4) (.bool O)∧Ce wr g ((t+1)*8+5) (.slice F.aa Q.length F.ca)∧Ce wr g ((t+1)*8+6) (.string R)∧Ce wr g ((t+1)*8+7) (.slice F.ak T.length F.ck):=⟨b7,bH,bY,b0,b1,b2,b3,f6,b4⟩;have fc:Ce wr.drew a8 (bl+(t+1)) (.string V)∧Ce wr.drew g ((t+1)*8) (iN G)∧Ce wr.drew g ((t+1)*8+1) (iN H)∧Ce wr.drew g ((t+1)*8+2) (iN I)∧Ce wr.drew g ((t+1)*8+3) (iN J)∧Ce wr.drew g ((t+1)*8+4) (.bool O)∧Ce wr.drew g ((t+1)*8+5) (.slice F.aa Q.length F.ca)∧Ce wr.drew g ((t+1)*8+6) (.string R)∧Ce wr.drew g ((t+1)*8+7) (.slice F.ak T.length F.ck):=ad;have fd:(wr.alloc (.cells #[.string V,.int .i64 G,.int .i64 H,.int .i64 I,.int .i64 J,.bool O,.slice F.aa Q.length F.ca,.string R,.slice F.ak T.length F.ck] 89)).drew.cell? ⟨a8,bl+(t+1),none⟩=some (.string V)∧(wr.alloc (.cells #[.string V,.int .i64 G,.int .i64 H,.int .i64 I,.int .i64 J,.bool O,.slice F.aa Q.length F.ca,.string R,.slice F.ak T.length F.ck] 89)).drew.cell? ⟨g,(t+1)*8,none⟩=some (.int .i64 G)∧(wr.alloc (.cells #[.string V,.int .i64 G,.int .i64 H,.int .i64 I,.int .i64 J,.bool O,.slice F.aa Q.length F.ca,.string R,.slice F.ak T.length F.ck] 89)).drew.cell? ⟨g,(t+1)*8+1,none⟩=some (.int .i64 H)∧(wr.alloc (.cells #[.string V,.int .i64 G,.int .i64 H,.int .i64 I,.int .i64 J,.bool O,.slice F.aa Q.length F.ca,.string R,.slice F.ak T.length F.ck] 89)).drew.cell? ⟨g,(t+1)*8+2,none⟩=some (.int .i64 I)∧(wr.alloc (.cells #[.string V,.int .i64 G,.int .i64 H,.int .i64 I,.int .i64 J,.bool O,.slice F.aa Q.length F.ca,.string R,.slice F.ak T.length F.ck] 89)).drew.cell? ⟨g,(t+1)*8+3,none⟩=some (.int .i64 J)∧(wr.alloc (.cells #[.string V,.int .i64 G,.int .i64 H,.int .i64 I,.int .i64 J,.bool O,.slice F.aa Q.length F.ca,.string R,.slice F.ak T.length F.ck] 89)).drew.cell? ⟨g,(t+1)*8+4,none⟩=some (.bool O)∧(wr.alloc (.cells #[.string V,.int .i64 G,.int .i64 H,.int .i64 I,.int .i64 J,.bool O,.slice F.aa Q.length F.ca,.string R,.slice F.ak T.length F.ck] 89)).drew.cell? ⟨g,(t+1)*8+5,none⟩=some (.slice F.aa Q.length F.ca)∧(wr.alloc (.cells #[.string V,.int .i64 G,.int .i64 H,.int .i64 I,.int .i64 J,.bool O,.slice F.aa Q.length F.ca,.string R,.slice F.ak T.length F.ck] 89)).drew.cell? ⟨g,(t+1)*8+6,none⟩=some (.string R)∧(wr.alloc (.cells #[.string V,.int .i64 G,.int .i64 H,.int .i64 I,.int .i64 J,.bool O,.slice F.aa Q.length F.ca,.string R,.slice F.ak T.length F.ck] 89)).drew.cell? ⟨g,(t+1)*8+7,none⟩=some (.slice F.ak T.length F.ck):=⟨Aj (Cs wr _) _ _ ad.1,Aj (Cs wr _) _ _ ad.2.1,Aj (Cs wr _) _ _ ad.2.2.1,Aj (Cs wr _) _ _ ad.2.2.2.1,Aj (Cs wr _) _ _ ad.2.2.2.2.1,Aj (Cs wr _) _ _ ad.2.2.2.2.2.1,Aj (Cs wr _) _ _ ad.2.2.2.2.2.2.1,Aj (Cs wr _) _ _ ad.2.2.2.2.2.2.2.1,Aj (Cs wr _) _ _ ad.2.2.2.2.2.2.2.2⟩
     have fe:((wr.setCell ⟨g,t*8+7,none⟩ (.slice (some ⟨wr.heap.size,0,none⟩) 1 1)).alloc (.cells #[.string V,.int .i64 G,.int .i64 H,.int .i64 I,.int .i64 J,.bool O,.slice F.aa Q.length F.ca,.string R,.slice F.ak T.length F.ck] 89)).drew.cell? ⟨a8,bl+(t+1),none⟩=some (.string V)∧((wr.setCell ⟨g,t*8+7,none⟩ (.slice (some ⟨wr.heap.size,0,none⟩) 1 1)).alloc (.cells #[.string V,.int .i64 G,.int .i64 H,.int .i64 I,.int .i64 J,.bool O,.slice F.aa Q.length F.ca,.string R,.slice F.ak T.length F.ck] 89)).drew.cell? ⟨g,(t+1)*8,none⟩=some (.int .i64 G)∧((wr.setCell ⟨g,t*8+7,none⟩ (.slice (some ⟨wr.heap.size,0,none⟩) 1 1)).alloc (.cells #[.string V,.int .i64 G,.int .i64 H,.int .i64 I,.int .i64 J,.bool O,.slice F.aa Q.length F.ca,.string R,.slice F.ak T.length F.ck] 89)).drew.cell? ⟨g,(t+1)*8+1,none⟩=some (.int .i64 H)∧((wr.setCell ⟨g,t*8+7,none⟩ (.slice (some ⟨wr.heap.size,0,none⟩) 1 1)).alloc (.cells #[.string V,.int .i64 G,.int .i64 H,.int .i64 I,.int .i64 J,.bool O,.slice F.aa Q.length F.ca,.string R,.slice F.ak T.length F.ck] 89)).drew.cell? ⟨g,(t+1)*8+2,none⟩=some (.int .i64 I)∧((wr.setCell ⟨g,t*8+7,none⟩ (.slice (some ⟨wr.heap.size,0,none⟩) 1 1)).alloc (.cells #[.string V,.int .i64 G,.int .i64 H,.int .i64 I,.int .i64 J,.bool O,.slice F.aa Q.length F.ca,.string R,.slice F.ak T.length F.ck] 89)).drew.cell? ⟨g,(t+1)*8+3,none⟩=some (.int .i64 J)∧((wr.setCell ⟨g,t*8+7,none⟩ (.slice (some ⟨wr.heap.size,0,none⟩) 1 1)).alloc (.cells #[.string V,.int .i64 G,.int .i64 H,.int .i64 I,.int .i64 J,.bool O,.slice F.aa Q.length F.ca,.string R,.slice F.ak T.length F.ck] 89)).drew.cell? ⟨g,(t+1)*8+4,none⟩=some (.bool O)∧((wr.setCell ⟨g,t*8+7,none⟩ (.slice (some ⟨wr.heap.size,0,none⟩) 1 1)).alloc (.cells #[.string V,.int .i64 G,.int .i64 H,.int .i64 I,.int .i64 J,.bool O,.slice F.aa Q.length F.ca,.string R,.slice F.ak T.length F.ck] 89)).drew.cell? ⟨g,(t+1)*8+5,none⟩=some (.slice F.aa Q.length F.ca)∧((wr.setCell ⟨g,t*8+7,none⟩ (.slice (some ⟨wr.heap.size,0,none⟩) 1 1)).alloc (.cells #[.string V,.int .i64 G,.int .i64 H,.int .i64 I,.int .i64 J,.bool O,.slice F.aa Q.length F.ca,.string R,.slice F.ak T.length F.ck] 89)).drew.cell? ⟨g,(t+1)*8+6,none⟩=some (.string R)∧((wr.setCell ⟨g,t*8+7,none⟩ (.slice (some ⟨wr.heap.size,0,none⟩) 1 1)).alloc (.cells #[.string V,.int .i64 G,.int .i64 H,.int .i64 I,.int .i64 J,.bool O,.slice F.aa Q.length F.ca,.string R,.slice F.ak T.length F.ck] 89)).drew.cell? ⟨g,(t+1)*8+7,none⟩=some (.slice F.ak T.length F.ck):=⟨Aj (Cs _ _) _ _ ((nA _ _ _ _ (fun e=>by simp only[rc]at e;omega)).trans ad.1),Aj (Cs _ _) _ _ ((nA _ _ _ _ (fun e=>by simp only[rc]at e;omega)).trans ad.2.1),Aj (Cs _ _) _ _ ((nA _ _ _ _ (fun e=>by simp only[rc]at e;omega)).trans ad.2.2.1),Aj (Cs _ _) _ _ ((nA _ _ _ _ (fun e=>by simp only[rc]at e;omega)).trans ad.2.2.2.1),Aj (Cs _ _) _ _ ((nA _ _ _ _ (fun e=>by simp only[rc]at e;omega)).trans ad.2.2.2.2.1),Aj (Cs _ _) _ _ ((nA _ _ _ _ (fun e=>by simp only[rc]at e;omega)).trans ad.2.2.2.2.2.1),Aj (Cs _ _) _ _ ((nA _ _ _ _ (fun e=>by simp only[rc]at e;omega)).trans ad.2.2.2.2.2.2.1),Aj (Cs _ _) _ _ ((nA _ _ _ _ (fun e=>by simp only[rc]at e;omega)).trans ad.2.2.2.2.2.2.2.1),Aj (Cs _ _) _ _ ((nA _ _ _ _ (fun e=>by simp only[rc]at e;omega)).trans ad.2.2.2.2.2.2.2.2)⟩;clear ad b7 bH bY b0 b1 b2 b3 f6 b4;go_upto_region 16 with fail
     go_region_held3 (fun w'=>w'.cell? ⟨a8,bl+(t+1),none⟩=some (.string V)∧w'.cell? ⟨g,(t+1)*8,none⟩=some (.int .i64 G)∧w'.cell? ⟨g,(t+1)*8+1,none⟩=some (.int .i64 H)∧w'.cell? ⟨g,(t+1)*8+2,none⟩=some (.int .i64 I)∧w'.cell? ⟨g,(t+1)*8+3,none⟩=some (.int .i64 J)∧w'.cell? ⟨g,(t+1)*8+4,none⟩=some (.bool O)∧w'.cell? ⟨g,(t+1)*8+5,none⟩=some (.slice F.aa Q.length F.ca)∧w'.cell? ⟨g,(t+1)*8+6,none⟩=some (.string R)∧w'.cell? ⟨g,(t+1)*8+7,none⟩=some (.slice F.ak T.length F.ck)) (first|with_reducible exact fc|with_reducible exact fd|with_reducible exact fe) (fail)
     have ff:Hid ((wr.alloc (.cells (.string V::Bl (.mk G H I J O Q R T) F).toArray 89)).setCell (aD g (t*8+7)) (sL wr.heap.size 0 1 1)=(wr.setCell (aD g (t*8+7)) (sL wr.heap.size 0 1 1)).alloc (.cells #[.string V,iN G,iN H,iN I,iN J,.bool O,.slice F.aa Q.length F.ca,.string R,.slice F.ak T.length F.ck] 89)):=Y5 wr gy _ _ _;rw[ff.out]at da;clear fc fd fe gC gz ff;generalize(wr.setCell (aD g (t*8+7)) (sL wr.heap.size 0 1 1)).alloc (.cells #[.string V,iN G,iN H,iN I,iN J,.bool O,.slice F.aa Q.length F.ca,.string R,.slice F.ak T.length F.ck] 89)=fg at da⊢;go_wp2;go_roundw
     case rel=>exact⟨t,by omega,by go_num,da.out.below (nv _ _).drew⟩
     case measure=>(simp[intOf];try omega)
  have hb:=nF (by omega);obtain⟨y,b9⟩:∃y,Y[j]? =some y:=⟨_,nt (by rw[bd.out];exact gu)⟩;obtain⟨nm,db⟩:∃nm,aa[j]? =some nm:=⟨_,nt (by rw[cp.out];omega)⟩;obtain⟨hv,hw,rfl,gD,fh⟩:∃b bf,na=some (aD b bf)∧∃f:Nat→Hd,∀i x,Y[i]? =some x→Bi (Ag W.cell? S) b (bf+i*8) x (f i)∧Ah (Ag W.cell? S) x (f i):=by
   rcases gl.out with e|e
   ·rw[e]at b9;simp at b9
   ·exact e
  obtain⟨a8,bl,rfl,b6⟩:∃b bf,cg=some (aD b bf)∧∀i s,aa[i]? =some s→Ag W.cell? S (aD b (bf+i))=some (.string s):=by
   rcases er.out with e|e
   ·rw[e]at db;simp at db
   ·exact e
  obtain⟨ea,eb⟩:=fh j y b9;obtain⟨ec,fl,hid⟩:=gq.out y (nE b9);have b7:=b6 j nm db;have d2:Hid ((DQ Y aa).take (j+1)=(DQ Y aa).take j++[(CP y,nm)]):=ae b9 db;have dd:Hid (DQ Y aa=(DQ Y aa).take (j+1)++(DQ Y aa).drop (j+1)):=(ry _ _).symm;generalize gD j=Z at ea eb;obtain⟨bn,bo,bp,bs,fr,bu,bv,gE⟩:=y;have ec:gE=[]:=ec;subst ec;have ed:=ak.out.low
  have de:AR (Ag W.cell? S) (Ag wr.cell? (DR W.heap.size u8 S)):=BN fun q cr a7=>⟨by
   have ap:=ak.out.row.lt;simp[DR,a7];exact⟨⟨by omega,by omega⟩,fun e=>by have:=(ap q e).1;omega⟩,ed.block q cr⟩
  have gG:=(ea.on de).on (Ci _ _);have fs:=eb.on de;have ee:=Ci _ _ _ _ (de _ _ b7);have dg:=Cs wr (.cells #[iN bn,iN bo,iN bp,iN bs,.bool false,.slice Z.aa bu.length Z.ca,.string bv,.slice Z.ak 0 Z.ck] 54);have bg:=ak.out.below dg;obtain⟨fv,dj⟩:=AQ (Bm true us gs (CP (.mk bn bo bp bs fr bu bv [])));have fx:Hid (cL 37 #[.agg #[.slice ba us.length uc,.slice bb gs.length gc],.agg #[iN bn,iN bo,iN bp,iN bs,.bool false,.slice Z.aa bu.length Z.ca,.string bv,.slice Z.ak 0 Z.ck]] (wr.alloc (.cells #[iN bn,iN bo,iN bp,iN bs,.bool false,.slice Z.aa bu.length Z.ca,.string bv,.slice Z.ak 0 Z.ck] 54)) fun e ch=>Jh (wr.alloc (.cells #[iN bn,iN bo,iN bp,iN bs,.bool false,.slice Z.aa bu.length Z.ca,.string bv,.slice Z.ak 0 Z.ck] 54)) ch (DR W.heap.size u8 S) e fv):=by
   have:=Jn (W:=wr.alloc (.cells #[iN bn,iN bo,iN bp,iN bs,.bool false,.slice Z.aa bu.length Z.ca,.string bv,.slice Z.ak 0 Z.ck] 54)) (S:=(DR W.heap.size u8 S)) (M:=⟨ba,bb,uc,gc,us,gs⟩) (x:=CP (.mk bn bo bp bs fr bu bv [])) (h:=Z) (bg.hid eg) (Ah.on (Zv fs) (CN dg)) (ZP fl) (by rw[SQ];omega) (bm hid) (go.out.below bg.low);rw[dj.out]at this;exact this
  have gH:=bg.m0;have gI:=bg.m1;obtain⟨gJ,gK,gL,gM,gN,gO,gP,fY⟩:=gG;simp only[nR]at fY;clear ea eb hid fl b6 b7 fs fh b9 db;go_wp2_with fail
  refine np fx.out ?_;intro e cb f0;clear gJ gK gL gM gN gO gP fY gH gI fx;cases fv with
  |none=>
   obtain⟨rfl,ay⟩:=f0;have ef:Hid (cl=.error 11):=by
    show cl=_;rw[←co.out,dd.out];refine On _ ?_;rw[d2.out,J8,bB.out];dsimp only;rw[dj.out]
   have dk:=bg.below ay;have bx:=Cs cb AJ;have cd:=dk.below bx;have cf:=cd.low;have ab:=cd.rb;rw[show Al zN zH=.agg #[iN 0,iN 0,iN 0,iN 0,.bool false,nL,.string ⟨#[]⟩,nL]from rfl];clear bg dk cd bx dg ay ed de ee ak d2 dd bB du;go_upto_region 7 with fail
   generalize cb.alloc AJ=a1 at cf ab⊢;have dm:=Av.store ab zN zH;have ay:Below W.heap.size W (Au a1 (W.heap.size+1) zN zH):=cf.trans (Cz.below (by omega) cf.size);have z0:=ab.2 0;have dy:=ab.2 1;have dz:=ab.2 2;have z3:=ab.2 3;have z4:=ab.2 4;have z5:=ab.2 5;have d0:=ab.2 6;have d1:=ab.2 7;obtain⟨bH,bY,b0,b1,b2,b3,f6,b4⟩:=ab.1;go_wp2;obtain⟨gQ,dn⟩:=AQ (Au a1 (W.heap.size+1) zN zH);rw[dn.out]at dm ay;have bA:=dn.out;simp only[Au,zN,zH]at bA;simp only[nR]at bA;rw[bA];obtain⟨cu,cx,c3,c4,c5,c6,c8,c9⟩:=dm.1;refine nG (v:=.tuple #[Al zN zH,.iface 78 (iN 11)]) (by simp[results,results173,go_sem,Al,zN,zH,cu,cx,c3,c4,c5,c6,c8,c9]) rfl (UH ef.out ay)
  |some z=>
   obtain⟨⟨a6,rfl,f1⟩,ay⟩:=f0;have hy:=hid ((L3 dj.out).2);obtain⟨G,H,I,J,O,Q,R,T⟩:=z;have dk:=bg.below ay;have bx:=Cs cb (As G H I J O Q R T a6);have cd:=dk.below bx;have d3:=hid (Ah.on f1 (CN bx));have dp:=Av.new cb G H I J O Q R T a6;have gR:=Aj bx _ _ (Aj ay _ _ (Aj dg _ _ ee));have bi:=hid cd;rw[show Al (.mk G H I J O Q R T) a6=(A5 G H I J O Q R T a6)from rfl];have d4:Hid (Cb us gs ((DQ Y aa).take (j+1))=if AY nm=false then .error 4 else .ok (P++[((.mk G H I J O Q R T),nm)])):=by
    show _=_;rw[d2.out,J8,bB.out];dsimp only;rw[dj.out]
   clear bg dk cd bx dg ay ed de ee ak d2 bB f1 dj;go_upto_region 7 with fail
   generalize cb.alloc (As G H I J O Q R T a6)=a1 at bi d3 dp gR⊢;generalize cb.heap.size=hz at dp⊢;have hA:(j:Int)<(es:Int):=by omega
   by_cases dr:AY nm=false
   ·have ef:Hid (cl=.error 4):=by
     show cl=_;rw[←co.out,dd.out];refine On _ ?_;rw[d4.out,nD dr]
    have cf:=bi.out.low;have ab:=bi.out.rb;clear d4 dd bi d3 dp;go_wp2_with fail
    refine np (Ge nm _) ?_;rintro e fg ⟨rfl,rfl⟩;rw[dr];have dm:=Av.store ab zN zH;have ay:Below W.heap.size W (Au a1 (W.heap.size+1) zN zH):=cf.trans (Cz.below (by omega) cf.size);have z0:=ab.2 0;have dy:=ab.2 1;have dz:=ab.2 2;have z3:=ab.2 3;have z4:=ab.2 4;have z5:=ab.2 5;have d0:=ab.2 6;have d1:=ab.2 7;obtain⟨bH,bY,b0,b1,b2,b3,f6,b4⟩:=ab.1;go_wp2;obtain⟨gQ,dn⟩:=AQ (Au a1 (W.heap.size+1) zN zH);rw[dn.out]at dm ay;have bA:=dn.out;simp only[Au,zN,zH]at bA;simp only[nR]at bA;rw[bA];obtain⟨cu,cx,c3,c4,c5,c6,c8,c9⟩:=dm.1;refine nG (v:=.tuple #[Al zN zH,.iface 78 (iN 4)]) (by simp[results,results173,go_sem,Al,zN,zH,cu,cx,c3,c4,c5,c6,c8,c9]) rfl (UH ef.out ay)
   ·have gS:AY nm=true:=by simpa using dr
    have gT:Hid (Cb us gs ((DQ Y aa).take (j+1))=.ok (P++[((.mk G H I J O Q R T),nm)])):=by show _=_;rw[d4.out,nC dr]
    have gU:Hid ((P++[(((.mk G H I J O Q R T):Nd),nm)]).map Prod.fst=(L++[(⟨(.mk G H I J O Q R T),a6,0⟩:Fl)]).map Fl.x):=by show _=_;rw[rA,rA,du.out];rfl
    have hB:L.length≤1000:=by have:=bC.out;omega
    obtain⟨z0,dy,dz,z3,z4,z5,d0,d1⟩:=dp.1;clear d4 dd dp dr;go_wp2_with fail
    refine np (Ge nm _) ?_;rintro e fg ⟨rfl,rfl⟩;rw[gS];go_wp2_with (at_builtin;refine DZ (a1.alloc (As G H I J O Q R T a6)) rfl (.tmp 40) (.tmp 42) 30 rfl (W.heap.size+1+1) 54 f7 (.agg #[iN 0,iN 0,iN 0,iN 0,.bool false,nL,.string ⟨#[]⟩,nL]) 8 104 underlying30 f8.out f9.out ga.out gb.out rfl (by decide) u8 L.length (Bj L) rfl (bi.out.row.alloc _) (some (aD a1.heap.size 0)) 1 1 (Bl (.mk G H I J O Q R T) a6) rfl rfl (.inr ⟨_,rfl,fun q t cr=>by rw[D2,nU];exact Oo a1 _ a6 _ q t cr⟩) (Kh _ _) (by unfold maxLen;omega) (by omega) (by have:=bi.out.rb.1.lt;rw[nw];omega) ?_)
    intro hC hD f2 f3 f4;have gV:=hid ((bi.out.below (Cs a1 _)).app (f:=⟨(.mk G H I J O Q R T),a6,0⟩) (d3.out.on (CN (Cs a1 _))) (by rw[LZ,nM];simpa [Bj]using f2) f3 (by rw[nw];exact f4));clear f2 f3 f4 bi d3 z0 dy dz z3 z4 z5 d0 d1;go_wp2;go_roundw
    case rel=>exact⟨j+1,_,_,by omega,by go_num,gT.out,gU.out,(show _=_ from by rw[nM,bC.out];rfl),gV.out⟩
    case measure=>(simp[intOf];try omega)
end Go.Proofs.YtofhphibahcniaaGreatDoor
namespace Go.Proofs.YtofhphibahcniaaGreatDoor
open Go.RowKit Go.Shelf Go.Proofs.Tryz
attribute [local go_sem] Oper.semAt_some
theorem FZ.put{S:Nat→Bool}{w A:World}{xs:List Nd}{nf:List BA}{st:Loop}{i:Nat}{Sx:Nat→Bool}(h:FZ S w A xs nf st i Sx)(G:Loop):FZ S w (A.putObj (w.heap.size+1+1+1+1+1) (.loop G)) xs nf G i Sx:=by
 obtain⟨vn,vf,L,H,I,F,J,O,Q⟩:=h.bx;have R:=JA (S:=Cc w.heap.size vn vf S) h.lk rfl (.loop G);exact⟨h.low.trans (Fq h.low.size (by omega) _),⟨vn,vf,L,F8 H h.lk _,F8 I h.lk _,⟨ownsRow_putObj F.rn _ h.lk rfl,ownsRow_putObj F.rf _ h.lk rfl,F.ne,fun f T=>(F.nd f T).on R⟩,J,O,Q⟩,(World.putObj_heap_other (by omega)).trans h.dk,World.putObj_heap_same (nJ.1 h.lk).1⟩
theorem Yy{c:AH}{k m u g:Int}{o:Bool}{nh:List Kv}{d:BA}{ks:Ar}{h:Hd}(F:Ah c (.mk k m u g o nh d ks) h):Ah c (.mk k m u g o nh d []) ⟨h.aa,h.ca,none,0⟩:=by
 obtain⟨G,H,_,_⟩:=Cq.1 F;exact Cq.2 ⟨G,H,⟨nn _,by simp⟩,.inl rfl⟩
theorem FC.put{S:Nat→Bool}{n₀:Nat}{A:World}{vn vf:Value}{L I:List Fl}(h:FC S n₀ A vn vf L I){l:Nat}{o:Obj}(G:A.heap[l]? =some o)(H:o.isCells=false)(F:Obj):FC S n₀ (A.putObj l F) vn vf L I:=
 ⟨ownsRow_putObj h.rn F G H,ownsRow_putObj h.rf F G H,h.ne,fun f J=>(h.nd f J).on (JA G H F)⟩
theorem Rm{w G:World}{S:Nat→Bool}{xs:List Nd}{nf:List BA}{F:Act}{vn vf:Value}{L:List Fl}(J:F.tmps[4]? =some vn)(O:F.tmps[5]? =some vf)(hd:F.defers=[{target:=.collected (w.heap.size+1+1+1+1),args:=#[]}])(H:G.heap[w.heap.size+1+1+1+1]? =some (.deferred (some [])))(Q:FC S w.heap.size G vn vf L L)(R:∀(j:Nat) f,L[j]? =some f→∃q r,AI xs (nf.take j)=q::r∧f.x=q.1.with []∧f.ly=q.2)(T:L.length=nf.length+1∨L.length≤nf.length∧AI xs (nf.take L.length)=[])(I:Below w.heap.size w G):
 bodyPostM Fence.wide 0 prog Tryz.f154 (fun e w'=>(∃vn vf L,e=.returned (.tuple #[vn,vf])∧FC S w.heap.size w' vn vf L L∧(∀(j:Nat) f,L[j]? =some f→∃q r,AI xs (nf.take j)=q::r∧f.x=q.1.with []∧f.ly=q.2)∧(L.length=nf.length+1∨L.length≤nf.length∧AI xs (nf.take L.length)=[]))∧Below w.heap.size w w') .ret F G:=by
 show LeavesInM Fence.wide 0 prog Tryz.f154 F.tmps _ F.defers .returning G;rw[hd];refine⟨by simp,.inl ⟨_,_,rfl,run_takeDeferred H,?_⟩⟩;refine⟨.tuple #[vn,vf],by simp[results,results154,go_sem,J,O],⟨vn,vf,L,rfl,Q.put H rfl _,R,T⟩,I.trans (Fq (l:=w.heap.size+1+1+1+1) I.size (by omega) _)⟩
theorem XA.toJ{S:Nat→Bool}{w A:World}{Sx:Nat→Bool}{st:Loop}{vn vf:Value}{L:List Fl}{W:World}{xs:List Nd}{nf:List BA}{i:Nat}(h:XA S w A Sx st vn vf L L vn vf W)(F:L.length=i)(G:∀(j:Nat) f,L[j]? =some f→∃q r,AI xs (nf.take j)=q::r∧f.x=q.1.with []∧f.ly=q.2):FZ S w W xs nf st i (Cc w.heap.size vn vf S):=⟨h.low,⟨vn,vf,L,h.bn,h.bf,h.r,F,G,rfl⟩,h.dk,h.lk⟩
theorem Bt.init{S:Nat→Bool}{w A:World}{Sx:Nat→Bool}{st:Loop}{vn vf:Value}{L:List Fl}{N:Nd}{hb:Hd}{ly nbx vb vo:Nat}{F:Value}{G t25 H I J O Q t31 R T V t35:Value}{W:World}(Y:XA S w A Sx st vn vf L L vn vf W)(Z:Av W nbx N hb)(aa:Ah (Ag W.cell? (Cc w.heap.size vn vf S)) N hb):Bt S w A Sx st vn vf L N hb ly nbx vb vo F false false false false false false false false false false false false false false G t25 H I J O Q t31 R T V t35 W:=
 ⟨(fun e=>by cases e),(fun e=>by cases e),(fun e=>by cases e),(fun e=>by cases e),(fun e=>by cases e),(fun e=>by cases e),(fun e=>by cases e),(fun e=>by cases e),(fun e=>by cases e),(fun e=>by cases e),(fun e=>by cases e),(fun e=>by cases e),(fun e=>by cases e),(fun e=>by cases e),fun _=>⟨Y,Z,aa⟩,(fun e=>by cases e),(fun e=>by cases e),(fun e=>by cases e),(fun e=>by cases e),(fun e=>by cases e),(fun e=>by cases e),(fun e=>by cases e)⟩
theorem Re{w:World}{S:Nat→Bool}(az:∀k,S k=true→k<w.heap.size){a:Option Addr}{cap:Nat}{xs:List Nd}{an:Option Addr}{nj:Nat}{nf:List BA}(hx:Cn (Ag w.cell? S) a xs)(a1:AW (Ag w.cell? S) an nf)(b9:xs.length≤1000)(cb:nf.length≤1000)(bp:DL (BJ xs))(cd:E0 (BJ xs)):
 Calls prog 154 #[.slice a xs.length cap,.slice an nf.length nj] w fun e w'=>(∃vn vf L,e=.returned (.tuple #[vn,vf])∧FC S w.heap.size w' vn vf L L∧(∀(j:Nat) f,L[j]? =some f→∃q r,AI xs (nf.take j)=q::r∧f.x=q.1.with []∧f.ly=q.2)∧(L.length=nf.length+1∨L.length≤nf.length∧AI xs (nf.take L.length)=[]))∧Below w.heap.size w w':=by
 refine(rX (n:=0)).1 ?_;refine callsIn_of_wp_marks func154 rfl trivial ?_ rfl;simp only[ntmps154,List.size_toArray,n3,nR,Nat.reduceAdd,Nat.reduceSub,r9,r8,List.push_toArray,List.append_toArray,ru,n9];gi_wp2_with fail
 refine⟨trivial,rfl,CallsIn.mono (rX.2 (Rt _ a an xs.length cap nf.length nj)) ?_⟩;rintro e J ⟨rfl,O⟩;rw[nw,nw];have a6:=(nv _ w).alloc (nn _) (.cells #[nL] 30);have a7:=a6.alloc a6.size (.cells #[nL] 25);have Y:((w.alloc (.cells #[nL] 30)).alloc (.cells #[nL] 25)).heap.size=w.heap.size+1+1:=by rw[nw,nw]
 have bs:Below w.heap.size w J:=by rw[O];exact(a7.alloc a7.size _).alloc (by rw[nw,Y];omega) _
 have bu:J.heap.size=w.heap.size+1+1+1+1:=by rw[O,nw,nw,Y]
 have bv:Boxed J w.heap.size 30 nL:=by rw[O];exact(((Boxed.new w _ _).alloc _).alloc _).alloc _
 have bx:Boxed J (w.heap.size+1) 25 nL:=by
  rw[O];have:=((Boxed.new (w.alloc (.cells #[nL] 30)) 25 nL).alloc (.cells #[.slice a xs.length cap] 30)).alloc (.cells #[.slice an nf.length nj] 42);rwa [nw]at this
 have bA:Boxed J (w.heap.size+1+1) 30 (.slice a xs.length cap):=by
  rw[O];have:=(Boxed.new ((w.alloc (.cells #[nL] 30)).alloc (.cells #[nL] 25)) 30 (.slice a xs.length cap)).alloc (.cells #[.slice an nf.length nj] 42);rwa [Y]at this
 have bB:Boxed J (w.heap.size+1+1+1) 42 (.slice an nf.length nj):=by
  rw[O];have:=Boxed.new (((w.alloc (.cells #[nL] 30)).alloc (.cells #[nL] 25)).alloc (.cells #[.slice a xs.length cap] 30)) 42 (.slice an nf.length nj);rwa [nw,Y]at this
 clear O a6 a7 Y;gi_wp2_with fail
 refine Oa (gf:=162) (lb:=#[pO (w.heap.size+1+1) 0,pO (w.heap.size+1+1+1) 0]) rfl (enters_of func162 (by kernel_rfl) rfl) ?_;intro fn rec cf R ak bC a8 ba;rw[bu]at ak bC a8 ba⊢;have Z:Below J.heap.size J R:=by rw[bu];exact ak
 have bF:∀k,w.heap.size≤k→S k=false:=fun k bG=>by
  cases hh:S k with
  |false=>rfl
  |true=>have:=az k hh;omega
 have bH:FZ S w R xs nf (rec .ready none) 0 (Cc w.heap.size nL nL S):=⟨bs.trans (ak.mono (by omega)),⟨_,_,[],Et bv Z,Et bx Z,⟨rB _ _ _ _,rB _ _ _ _,fun g e=>by simp[Value.ownBlock]at e,fun f bb=>by cases bb⟩,rfl,fun j f G=>by simp at G,rfl⟩,ba,a8⟩;have bY:AR (Ag w.cell? S) (Ag R.cell? (Cc w.heap.size nL nL S)):=BN fun k bG a1=>⟨by simp[Cc,a1,Value.ownBlock];omega,bH.low.block k bG⟩;have cg:Ag R.cell? (Cc w.heap.size nL nL S) (aD (w.heap.size+1+1) 0)=some (.slice a xs.length cap):=by rw[Ck (by simp[Cc,Value.ownBlock];exact⟨by omega,bF _ (by omega)⟩)];exact(Et bA Z).cell
 have ch:Ag R.cell? (Cc w.heap.size nL nL S) (aD (w.heap.size+1+1+1) 0)=some (.slice an nf.length nj):=by rw[Ck (by simp[Cc,Value.ownBlock];exact⟨by omega,bF _ (by omega)⟩)];exact(Et bB Z).cell
 clear bs ak Z bC a8 ba bv bx bA bB
 refine(Qy (w.heap.size+1+1) (w.heap.size+1+1+1) a cap xs an nj nf (w.heap.size+1+1+1+1+1) (fun i S' A=>FZ S w A xs nf (rec .ready none) i S') (fun A=>∃i Sx,i≤nf.length∧AI xs (nf.take i)=[]∧FZ S w A xs nf (rec .done (some (.exit 0))) i Sx) R _ cg ch (hx.on bY) (a1.on bY) b9 cb bp
  (fun i S' A h=>h.hid az) (fun i S' A B h hb=>h.keep hb) ?rounds bH).mono ?after
 case rounds=>
  intro i S' v A bd F cl;have dm:=MV bp (nf.take i);have co:=Nf cd (nf.take i);obtain⟨cp,vc,D,rfl,g1,dn,g3,g4,be⟩:=cl;obtain⟨vn,vf,L,aa,ab,H,T,ad,rfl⟩:=F.bx;refine NJ cf F.lk rfl ?_;gi_wp2
  refine⟨F.lk,?_⟩;have b0:=(nJ.1 F.lk).1;cases D with
  |nil=>
   have bf:AI xs (nf.take i)=[]:=by rw[←be];rfl
   gi_wp2
   exact⟨World.putObj_heap_same b0,.inr ⟨rfl,i,bd,bf,_,(F.put (rec .busy none)).put (rec .done (some (.exit 0)))⟩⟩
  |cons s D=>
   obtain⟨cr,cu,ly,⟨k,m,u,g,o,nh,d,ks⟩,h⟩:=s;have b1:=g4 _ (nK ..);obtain⟨vb,vo,rfl,cx⟩:∃b bg,cp=some (aD b bg)∧∀j ao,((⟨cr,cu,ly,(.mk k m u g o nh d ks),h⟩:Sp)::D)[j]? =some ao→Ag A.cell? (Cc w.heap.size vn vf S) (aD b (bg+j*2))=some (pO ao.b ao.p)∧Ag A.cell? (Cc w.heap.size vn vf S) (aD b (bg+j*2+1))=some (iN ao.ly):=by
    rcases g3 with e|e
    ·cases e
    ·exact e
   obtain⟨bi,ap⟩:=cx 0 _ rfl;dsimp only at bi ap;rw[r3,rT]at bi ap;have c3:((.mk k m u g o nh d ks),ly)∈AI xs (nf.take i):=by rw[←be];exact nK ..
   have c4:Hid (∃r,AI xs (nf.take i)=((.mk k m u g o nh d ks),ly)::r):=⟨_,be.symm⟩;have c5:Be (.mk k m u g o nh d []):=by have e:=co _ c3;rw[Be]at e⊢;exact⟨e.1,by simp,by rw[DI];trivial⟩
   have c6:cnt (.mk k m u g o nh d [])≤1000:=by rw[cnt,cntL];omega
   have V:AR (Ag A.cell? (Cc w.heap.size vn vf S)) (Ag (A.putObj (w.heap.size+1+1+1+1+1) (.loop (rec .busy none))).cell? (Cc w.heap.size vn vf S)):=JA F.lk rfl _;have bk:XA S w A (Cc w.heap.size vn vf S) (rec .busy none) vn vf L L vn vf (A.putObj (w.heap.size+1+1+1+1+1) (.loop (rec .busy none))):=⟨F.low.trans (Fq F.low.size (by omega) _),by rw[World.putObj_size];exact nn _,F8 aa F.lk _,F8 ab F.lk _,⟨ownsRow_putObj H.rn _ F.lk rfl,ownsRow_putObj H.rf _ F.lk rfl,H.ne,fun f bb=>(H.nd f bb).on V⟩,V,(World.putObj_heap_other (by omega)).trans F.dk,World.putObj_heap_same b0⟩;have c8:∀g,vn.ownBlock=some g→g<A.heap.size:=fun g e=>(H.rn.lt g e).2;have b2:=b1.1.on V
   have bl:=hid (b1.2.on V);have b3:=V _ _ bi;have b4:=V _ _ ap;have b5:(A.putObj (w.heap.size+1+1+1+1+1) (.loop (rec .busy none))).heap.size=A.heap.size:=World.putObj_size ..;have dp:Hid (A.heap.size=A.heap.size):=rfl;generalize A.putObj (w.heap.size+1+1+1+1+1) (.loop (rec .busy none))=ar at bk b2 bl b3 b4 b5⊢;have t0:=Ci _ _ _ _ b3;have dr:=Ci _ _ _ _ b4;obtain⟨ds,du,dw,dx,dy,dz,d0,d1⟩:=b2.on (Ci _ _);have bn:Below ar.heap.size ar (ar.alloc (.cells #[iN k,iN m,iN u,iN g,.bool o,.slice h.aa nh.length h.ca,.string d,nL] 54)):=bN;have bo:=Av.new ar k m u g o nh d [] ⟨h.aa,h.ca,none,0⟩;rw[b5]at bo;have b6:=bk.below bn;have b7:=(Yy bl.out).on (CN bn);have c9:Hid _:=b6;have da:Hid _:=b7;have db:Hid _:=bo;clear b6 b7 bo bk bl bn;gi_wp2
   refine fX (S:=S) (w:=w) (A:=A) (Sx:=Cc w.heap.size vn vf S) (st:=rec .busy none) (vn:=vn) (vf:=vf) (L:=L) (N:=.mk k m u g o nh d []) (hb:=⟨h.aa,h.ca,none,0⟩) (ly:=ly) (nbx:=A.heap.size) (vb:=vb) (vo:=vo) (dl:=D.length) (vc:=vc) az c5 c6 c8 (by omega) ap rfl (Bt.init (c9.out.below (nv _ _).drew) db.out da.out) ?_;intro d2 d3 d4 t35 h' ay
   have Q:=(ay.toJ (xs:=xs) (nf:=nf) (i:=i+1) (by rw[nM,T];rfl) (fun j f G=>by
    rw[List.getElem?_append]at G;split at G
    ·exact ad j f G
    ·rename_i hge
     have e:j-L.length=0:=by
      rcases Nat.eq_zero_or_pos (j-L.length)with e|e
      ·exact e
      ·rw[List.getElem?_eq_none (by simp;omega)]at G;cases G
     rw[e]at G;simp at G;subst G;obtain⟨r,dd⟩:=c4.out;have de:j=i:=by omega
     rw[de];exact⟨_,r,dd,rfl,rfl⟩)).put (rec .ready none)
   exact⟨ay.lk,.inl ⟨rfl,_,Q,ay.ml.trans (JA ay.lk rfl _)⟩⟩
 case after=>
  rintro e W2 ⟨⟨v,rfl⟩,(⟨S',Q⟩|⟨i,S',bd,bf,Q⟩)⟩
  ·refine⟨⟨_,rfl⟩,.inl ⟨Q.lk,?_⟩⟩
   have I:=Q.put (rec .exhausted none);generalize W2.putObj (w.heap.size+1+1+1+1+1) (.loop (rec .exhausted none))=dg at I⊢;obtain⟨vn,vf,L,aa,ab,H,T,ad,_⟩:=I.bx;have dj:=aa.cell;have dk:=ab.cell;gi_wp2
   gi_quiet (fail)
   all_goals
    gi_wp2
    exact Rm rfl rfl rfl I.dk (H.below (Ip (nv _ _) _)) ad (.inl T) (Ip I.low _)
  ·refine⟨⟨_,rfl⟩,.inr ⟨.exit 0,Q.lk,?_⟩⟩
   have I:=Q.put (rec .exhausted (some (.exit 0)));generalize W2.putObj (w.heap.size+1+1+1+1+1) (.loop (rec .exhausted (some (.exit 0))))=dg at I⊢;obtain⟨vn,vf,L,aa,ab,H,T,ad,_⟩:=I.bx;have dj:=aa.cell;have dk:=ab.cell;gi_wp2
   gi_quiet (fail)
   all_goals
    gi_wp2
    exact Rm rfl rfl rfl I.dk (H.below (Ip (nv _ _) _)) ad (.inr ⟨by rw[T];exact bd,by rw[T];exact bf⟩) (Ip I.low _)
end Go.Proofs.YtofhphibahcniaaGreatDoor
