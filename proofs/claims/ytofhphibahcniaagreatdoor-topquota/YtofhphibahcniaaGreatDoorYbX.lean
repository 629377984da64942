/-
  TopQuota: Yb Yo Yp Yq Yr Gc.
-/
import Derived.Test.YtofhphibahcniaaGreatDoorApX
import Derived.Test.YtofhphibahcniaaGreatDoorCdX
import Derived.Test.YtofhphibahcniaaGreatDoorCcX
import Derived.Deep.Cut
import Derived.Test.YtofhphibahcniaaGreatDoorXwX
import Derived.Test.YtofhphibahcniaaGreatDoorFjX
import Derived.Deep.AppendSrc
import Derived.Deep.LoopGhost
set_option maxRecDepth 100000
set_option maxHeartbeats 16000000
namespace Go.Proofs.YtofhphibahcniaaGreatDoor
open Go.RowKit Go.Proofs.Tryz
theorem cW{us gs:List Rg}{k m u g:Int}{o:Bool}{nh:List Kv}{d:BA}{ks:Ar}{y:Nd}(h:Bm true us gs (.mk k m u g o nh d ks)=some y):∃F G,y=.mk k m F G o nh d ks:=by
 rw[Bm]at h;split at h
 ·cases h;exact⟨_,_,rfl⟩
 ·cases h
theorem O0{us gs:List Rg}{k m u g H I F G:Int}{o J:Bool}{nh O:List Kv}{d Q:BA}{ks R:Ar}(h:Bm true us gs (.mk k m u g o nh d ks)=some (.mk H I F G J O Q R)):A2 F∧A2 G:=by
 rw[Bm]at h;simp only[if_true]at h;split at h
 ·rename_i a b e1 e2
  cases h;exact⟨MB e1,MB e2⟩
 ·cases h
theorem df{u g:Int}{F:List Int}{c:Int}(h:Cx u g F c=0):(0≤c∧c≤15∧F.length≤8)∧A2 u∧A2 g:=by
 unfold Cx at h;split at h
 ·cases h
 ·rename_i hq
  split at h
  ·cases h
  ·rename_i h4
   have G:Bo u=true:=by
    cases e:Bo u with
    |true=>rfl
    |false=>exact absurd (.inl e) hq
   have H:Bo g=true:=by
    cases e:Bo g with
    |true=>rfl
    |false=>exact absurd (.inr (.inl e)) hq
   have I:¬(c<0∨15<c):=fun e=>hq (.inr (.inr e));unfold Bo at G H
   simp at G H;exact⟨⟨by omega,by omega,by omega⟩,⟨by omega,by omega⟩,⟨by omega,by omega⟩⟩
def Im(us gs:List Rg)(u:Int)(x0:Nd)(ni:List Nd)(nf:List BA)(kd m F:Int)(dat:BA):Int×Nd:=match Bm true us gs (.mk kd m u F false [] dat [])with
 |none=>(11,x0)
 |some (.mk _ _ ux gx _ _ _ _)=>MJ us gs x0 ni nf kd m ux gx dat
def AO.crS(c:AO)(x0:Nd)(ni:List Nd)(t:Th)(nf:List BA)(kd md:Int)(dat:BA):Int×Nd:=if c.bx.mayE t 2=0 then(if bits .and .i64 t.m 1024=0 then Im c.us c.gs c.u x0 ni nf kd (Ev c.g c.cs c.k md c.g) c.g dat else if t.p=true then Im c.us c.gs c.u x0 ni nf kd (if kd=2 then bits .or .i64 (Ev c.g c.cs c.k md t.g) 1024 else Ev c.g c.cs c.k md t.g) t.g dat else(11,x0))else(c.bx.mayE t 2,x0)
structure EA (w wx:World) (x:Nd) (hd:Hd) (fs:List Value):Prop where
 n:Av wx (w.heap.size+1) x hd
 e:∀o,8≤o→wx.cell? ⟨w.heap.size+1,o,none⟩=none
 f:A7 wx w.heap.size 0 fs
 b:Bw w wx
theorem EA.below{w F w':World}{x:Nd}{hd:Hd}{G:List Value}(h:EA w F x hd G)(q:Bw F w'):EA w w' x hd G:=⟨h.n.below q,fun o H=>(q.cell (p:=⟨w.heap.size+1,o,none⟩) h.n.1.lt).trans (h.e o H),h.f.below q,h.b.trans (q.mono h.b.size)⟩
theorem EA.drew{w F:World}{x:Nd}{hd:Hd}{G:List Value}(h:EA w F x hd G):EA w F.drew x hd G:=h.below (nv _ _).drew
theorem EA.put{w F:World}{x G:Nd}{hd:Hd}{H:List Value}(h:EA w F x hd H){i:Nat}{v:Value}(Q:i<8)(I:Av (F.setCell ⟨w.heap.size+1,i,none⟩ v) (w.heap.size+1) G hd):EA w (F.setCell ⟨w.heap.size+1,i,none⟩ v) G hd H:=⟨I,fun o J=>(AA (by omega)).trans (h.e o J),fun j u O=>(Bk (by show w.heap.size≠w.heap.size+1;omega)).trans (h.f j u O),h.b.setCell (Nat.le_succ _) _⟩
theorem EA.sto{w G:World}{x:Nd}{hd:Hd}{H:List Value}(h:EA w G x hd H)(I:Nd)(hx:Hd):EA w (Au G (w.heap.size+1) I hx) I hx H:=by
 refine⟨h.n.store _ _,fun o J=>?_,fun j u F=>?_,h.b.trans (Cz.below (Nat.le_succ _) h.b.size)⟩
 ·rw[Ic]
  exact(G5 (fun j F e=>by injection e with _ e2;omega)).trans (h.e o J)
 ·rw[Ic]
  exact(G5 (fun j F e=>by injection e with e1 _;omega)).trans (h.f j u F)
def MO(F:Bool)(kd z:Int):Int:=if(F&&kd==2)=true then bits .or .i64 z 1024 else z
theorem Qt{w:World}{b:Nat}{B:Bx}{x0:Nd}{ni:List Nd}(h:AX w b B)(cl:Bv B x0 ni){f:Fd}(co:GS B w f.nf f)(ed:f.there=false)(cp:AW w.cell? f.na f.nf)(cr:∀s∈f.nf,AY s=true)(cu:f.nf.length≤100)(cx:f.nf.length≤f.nc∧f.nc≤9223372036854775807)
 {kd md:Int} {dat:BA} (c3:kd=1∨kd=2) (ee:0≤md∧md≤4095) (ef:dat.size≤300):
 Calls prog 81 #[.pointer (some ⟨b,0,none⟩),BT f.l,.agg #[.int .i64 kd,.int .i64 md,.int .i64 0,.int .i64 0,.bool false,.slice none 0 0,.string dat,.slice none 0 0]] w fun e w'=>e=.returned (Am (fin B.q x0 (B.cor.crS x0 ni f.dir f.nf kd md dat)).1)∧Cw w w' b B ni (fin B.q x0 (B.cor.crS x0 ni f.dir f.nf kd md dat)).2 B.crd:=by
 obtain⟨S,H⟩:∃S,Hid (B.cor.crS x0 ni f.dir f.nf kd md dat=S):=⟨_,rfl⟩;rw[H.out];obtain⟨⟨eg,ej⟩,c4⟩:∃bl,Hid (fin B.q x0 S=bl):=⟨_,rfl⟩;rw[c4.out];have ek:Hid (f.nf≠[]):=co.no ed;have bG:=co.dir;clear co ed;obtain⟨F,a1⟩:∃F,f.l=F:=⟨_,rfl⟩;rw[a1];obtain⟨t,⟨bn,ay,bo,R,ad⟩,na,nc,nf,gP,⟨gQ,gR,gS,gT,gU,gV,gW,xs⟩,gX,ly⟩:=f;have el:F[5]? =some (.bool bn):=by rw[←a1];rfl
 have c5:F[6]? =some (.int .i64 ay):=by rw[←a1];rfl
 have em:F[7]? =some (.int .i64 bo):=by rw[←a1];rfl
 have c6:F[8]? =some (.int .i64 R):=by rw[←a1];rfl
 have c8:F[9]? =some (.bool ad):=by rw[←a1];rfl
 have en:F[10]? =some (.slice na nf.length nc):=by rw[←a1];rfl
 clear a1;dsimp only at cp cr cu cx ek bG H;unfold AO.crS at H;replace H:Hid ((if B.mayE ⟨bn,ay,bo,R,ad⟩ 2=0 then(if bits .and .i64 ay 1024=0 then Im B.M.us B.M.gs B.u x0 ni nf kd (Ev B.g B.cs B.k md B.g) B.g dat else if ad=true then Im B.M.us B.M.gs B.u x0 ni nf kd (if kd=2 then bits .or .i64 (Ev B.g B.cs B.k md R) 1024 else Ev B.g B.cs B.k md R) R dat else(11,x0))else(B.mayE ⟨bn,ay,bo,R,ad⟩ 2,x0))=S):=H.out;have a6:Hid (AX w b B):=h;have bH:Hid (Bv B x0 ni):=cl;have fY:Hid (AW w.cell? na nf):=cp;have f0:Hid (∀s∈nf,AY s=true):=cr;have f1:Hid (nf.length≤100):=cu;have f2:Hid (nf.length≤nc∧nc≤9223372036854775807):=cx;have f3:Hid (kd=1∨kd=2):=c3;have eo:Hid (0≤md∧md≤4095):=ee;have f4:Hid (dat.size≤300):=ef;have bY:=df cl.cred.1;have c9:Hid (0≤B.k∧B.k≤15∧B.cs.length≤8):=bY.1;have f5:Hid (A2 B.u∧A2 B.g):=bY.2;have f7:Hid (A2 B.g):=bY.2.2;have f8:Hid (A2 R):=bG.2.2;have da:=hid (Cw.stay a6.out bH.out);have db:Hid (∀E,E≠0→S=(E,x0)→eg=E∧ej=x0):=fun E f9 e=>Hf f9 (e▸c4.out);have ep:=A7.new2 w _ rfl F 101
 have dd:Bw w (w.alloc (.cells F.toArray 101)):=(nv _ _).alloc (nn _) _;have eq:Bw (w.alloc (.cells F.toArray 101)) ((w.alloc (.cells F.toArray 101)).alloc (.cells #[.int .i64 kd,.int .i64 md,.int .i64 0,.int .i64 0,.bool false,.slice none 0 0,.string dat,.slice none 0 0] 54)):=(nv _ _).alloc (nn _) _;have de:=Av.new (w.alloc (.cells F.toArray 101)) kd md 0 0 false [] dat [] zH;rw[nw]at de
 have a7:Hid (EA w ((w.alloc (.cells F.toArray 101)).alloc (.cells #[.int .i64 kd,.int .i64 md,.int .i64 0,.int .i64 0,.bool false,.slice none 0 0,.string dat,.slice none 0 0] 54)) (.mk kd md 0 0 false [] dat []) zH F):=⟨de,fun o ga=>by
  rw[nl _ _ _ _ (by rw[nw])];exact rG (by simpa using ga),ep.below eq,dd.alloc dd.size _⟩
 have er:=hid (IU (a6.out.below a7.out.b) ⟨bn,ay,bo,R,ad⟩ 2 bG.1);generalize B.mayE ⟨bn,ay,bo,R,ad⟩ 2=bl at*;have b0:Hid (F[6]? =some (.int .i64 ay)∧F[8]? =some (.int .i64 R)∧F[9]? =some (.bool ad)∧F[10]? =some (.slice na nf.length nc)):=⟨c5,c6,c8,en⟩;have gb:=a7.out.f 5 _ el;have gg:=a7.out.f 6 _ c5;have gl:=a7.out.f 7 _ em;have go:=a7.out.f 8 _ c6;have gq:=a7.out.f 9 _ c8;have gr:=BV F;unfold Value.cells at gr;clear ep dd eq de el c5 em c6 c8 en h cl cp cr cu cx bY ee ef bG;go_enter func81,ntmps81;go_wp2_with fail
 generalize((w.alloc (.cells F.toArray 101)).alloc (.cells #[.int .i64 kd,.int .i64 md,.int .i64 0,.int .i64 0,.bool false,.slice none 0 0,.string dat,.slice none 0 0] 54))=gY at*;refine np er.out ?_;rintro e O ⟨rfl,es⟩;have bb:=hid (a7.out.below es);clear er gb gg gl go gq a7 es;by_cases b1:bl=0
 case neg=>
  have eu:=AG (n:=bl) rfl b1;rw[eu];go_wp2;go_ret;obtain⟨rfl,rfl⟩:=db.out bl b1 (by rw[←H.out,nC b1]);exact⟨by rw[eu];rfl,da.out _ bb.out.b⟩
 subst b1;rw[nD rfl]at H;rw[show Am 0=Value.nilIface from rfl];have dg:=a6.out.below bb.out.b;have G:Ce O.drew b 3 (.int .i64 B.u)∧Ce O.drew b 4 (.int .i64 B.g):=⟨dg.cells.2.2.2.1,dg.cells.2.2.2.2.1⟩;obtain⟨⟨_,_,bp,ak,_,_,_,_⟩,bi⟩:=id bb.out.n;have gu:Ce O.drew (w.heap.size+1) 2 (.int .i64 0):=bp;have gv:Ce O.drew (w.heap.size+1) 3 (.int .i64 0):=ak;have gw:O.drew.frozen? ⟨w.heap.size+1,2,none⟩=false:=bi 2;have ev:O.drew.frozen? ⟨w.heap.size+1,3,none⟩=false:=bi 3;have eB:b<w.heap.size:=a6.out.lt;have T:Ce (O.setCell ⟨w.heap.size+1,2,none⟩ (.int .i64 B.u)).drew b 3 (.int .i64 B.u)∧Ce (O.setCell ⟨w.heap.size+1,2,none⟩ (.int .i64 B.u)).drew b 4 (.int .i64 B.g):=⟨(Bk (w:=O) (by show b≠w.heap.size+1;omega)).trans G.1,(Bk (w:=O) (by show b≠w.heap.size+1;omega)).trans G.2⟩;have eE:Ce ((O.setCell ⟨w.heap.size+1,2,none⟩ (.int .i64 B.u)).setCell ⟨w.heap.size+1,3,none⟩ (.int .i64 B.g)).drew b 3 (.int .i64 B.u)∧Ce ((O.setCell ⟨w.heap.size+1,2,none⟩ (.int .i64 B.u)).setCell ⟨w.heap.size+1,3,none⟩ (.int .i64 B.g)).drew b 4 (.int .i64 B.g):=⟨(Bk (w:=(O.setCell ⟨w.heap.size+1,2,none⟩ (.int .i64 B.u))) (by show b≠w.heap.size+1;omega)).trans T.1,(Bk (w:=(O.setCell ⟨w.heap.size+1,2,none⟩ (.int .i64 B.u))) (by show b≠w.heap.size+1;omega)).trans T.2⟩;have gx:Ce (O.setCell ⟨w.heap.size+1,2,none⟩ (.int .i64 B.u)).drew (w.heap.size+1) 3 (.int .i64 0):=(AA (w:=O) (by omega)).trans ak;have gy:(O.setCell ⟨w.heap.size+1,2,none⟩ (.int .i64 B.u)).drew.frozen? ⟨w.heap.size+1,3,none⟩=false:=by have:=bi 3;simpa using this
 have V:=hid ((bb.out.put (by omega) (bb.out.n.set2 B.u)).put (by omega) ((bb.out.n.set2 B.u).set3 B.g)).drew;clear dg bp ak bi;go_upto_region 4 with fail
 go_region_held3 (fun w'=>Ce w' b 3 (.int .i64 B.u)∧Ce w' b 4 (.int .i64 B.g)) (first|with_reducible exact G|with_reducible exact T|with_reducible exact eE) (fail)
 all_goals
  clear G T eE gx gy gu gv gw ev bb eB;generalize((O.setCell ⟨w.heap.size+1,2,none⟩ (.int .i64 B.u)).setCell ⟨w.heap.size+1,3,none⟩ (.int .i64 B.g)).drew=dj at*;have b2:Ce dj w.heap.size 6 (.int .i64 ay):=V.out.f 6 _ b0.out.1;have gz:Ce dj w.heap.size 8 (.int .i64 R):=V.out.f 8 _ b0.out.2.1;have a9:Ce dj w.heap.size 9 (.bool ad):=V.out.f 9 _ b0.out.2.2.1;obtain⟨a8,eL⟩:∃a8,(bits .and .i64 ay 1024 !=0)=a8:=⟨_,rfl⟩;have dk:=hid eL;by_cases dm:a8=true∧ad=false
  ·obtain⟨rfl,rfl⟩:=dm
   rw[nC (by simpa using dk.out)]at H;go_wp2;go_ret;obtain⟨rfl,rfl⟩:=db.out 11 (by decide) (by rw[←H.out];exact nC (by decide));exact⟨rfl,da.out _ V.out.b⟩
  go_upto_if 34 with fail
  clear b2 eL;go_cut []from 35 (fun ab=>∃Q,A2 Q∧EA w ab (.mk kd md B.u Q false [] dat []) zH F∧Im B.M.us B.M.gs B.u x0 ni nf kd (MO a8 kd (Ev B.g B.cs B.k md Q)) Q dat=S)
  case first=>
   cases a8 with
   |false=>
    rw[nD (by simpa using dk.out)]at H;go_wp2;go_meet
    exact⟨B.g,f7.out,V.out,H.out⟩
   |true=>
    obtain rfl:ad=true:=by cases ad;exact absurd ⟨rfl,rfl⟩ dm;rfl
    rw[nC (by simpa using dk.out),nD rfl]at H;have gC:Hid (Im B.M.us B.M.gs B.u x0 ni nf kd (MO true kd (Ev B.g B.cs B.k md R)) R dat=S):=by have e:=H.out;rcases c3 with rfl|rfl<;>exact e
    have ak:=V.out.n.1.2.2.2.1;have ev:=V.out.n.2 3;have gD:=hid (V.out.put (by omega) (V.out.n.set3 R));go_wp2;go_meet
    exact⟨R,f8.out,gD.out,gC.out⟩
  case rest=>
   clear V H gz a9 dm;obtain⟨Q,e0,e1,e2⟩:=hcut;have V:=hid e1;have H:=hid e2;have gE:=hid e0;clear e0 e1 e2;generalize wc=bd at*;go_upto_region 10 with fail
   have dn:=a6.out.below V.out.b;obtain⟨_,_,_,a3,a4,a5,b2,_⟩:=dn.cells;obtain⟨⟨_,bs,_,ak,_,_,_,_⟩,_⟩:=V.out.n;have G:Ce bd.drew b 3 (.int .i64 B.u)∧Ce bd.drew b 4 (.int .i64 B.g)∧Ce bd.drew b 5 (.slice B.ca B.cs.length B.cc)∧Ce bd.drew b 6 (.int .i64 B.k)∧Ce bd.drew (w.heap.size+1) 3 (.int .i64 Q):=⟨a3,a4,a5,b2,ak⟩;obtain⟨t3,t4,t5,e3,e4⟩:=id G;have e5:Ce bd.drew (w.heap.size+1) 1 (.int .i64 md):=bs;have b3:=hid (RM B.u B.g B.k md Q B.ca B.cc B.cs bd.drew c9.out.2.2 (dn.grp.below (nv _ _).drew) c9.out.1 c9.out.2.1 eo.out.1 eo.out.2);obtain⟨Y,gG⟩:∃Y,Hid (Ev B.g B.cs B.k md Q=Y):=⟨_,rfl⟩;rw[gG.out]at b3 H;have e6:=hid V.out.drew;have eB:b<w.heap.size+1:=by have:=a6.out.lt;omega
   clear dn bs ak a3 a4 a5 b2;go_cut []from 44 (fun ab=>EA w ab (.mk kd Y B.u Q false [] dat []) zH F)
   case first=>
    go_region_with (first|(go_at_call 100;(refine np b3.out ?_);rintro e Z ⟨rfl,q6⟩;have T:Ce Z b 3 (.int .i64 B.u)∧Ce Z b 4 (.int .i64 B.g)∧Ce Z b 5 (.slice B.ca B.cs.length B.cc)∧Ce Z b 6 (.int .i64 B.k)∧Ce Z (w.heap.size+1) 3 (.int .i64 Q):=⟨Af q6 G.1,Af q6 G.2.1,Af q6 G.2.2.1,Af q6 G.2.2.2.1,Af q6 G.2.2.2.2⟩;have bu:=hid (e6.out.below q6);have dp:Ce Z (w.heap.size+1) 1 (.int .i64 md):=bu.out.n.1.2.1;have dr:Z.frozen? ⟨w.heap.size+1,1,none⟩=false:=bu.out.n.2 1;have ao:=hid (bu.out.put (by omega) (bu.out.n.set1 Y));have gH:Ce (Z.setCell ⟨w.heap.size+1,1,none⟩ (.int .i64 Y)) b 3 (.int .i64 B.u)∧Ce (Z.setCell ⟨w.heap.size+1,1,none⟩ (.int .i64 Y)) b 4 (.int .i64 B.g)∧Ce (Z.setCell ⟨w.heap.size+1,1,none⟩ (.int .i64 Y)) b 5 (.slice B.ca B.cs.length B.cc)∧Ce (Z.setCell ⟨w.heap.size+1,1,none⟩ (.int .i64 Y)) b 6 (.int .i64 B.k)∧Ce (Z.setCell ⟨w.heap.size+1,1,none⟩ (.int .i64 Y)) (w.heap.size+1) 3 (.int .i64 Q):=⟨(Bk (by show b≠w.heap.size+1;omega)).trans T.1,(Bk (by show b≠w.heap.size+1;omega)).trans T.2.1,(Bk (by show b≠w.heap.size+1;omega)).trans T.2.2.1,(Bk (by show b≠w.heap.size+1;omega)).trans T.2.2.2.1,(AA (by show(3:Nat)≠1;omega)).trans T.2.2.2.2⟩;clear b3 q6))
    all_goals
     generalize Z.setCell ⟨w.heap.size+1,1,none⟩ (.int .i64 Y)=bv at ao⊢;clear G T gH e5 dp dr bu t3 t4 t5 e3 e4;go_wp2_with fail
     go_meet
     exact ao.out
   case rest=>
    have ao:=hid hcut;clear hcut G e5 b3 e6 V t3 t4 t5 e3 e4;generalize wc=bv at*;have gI:Ce bv (w.heap.size+1) 0 (.int .i64 kd):=ao.out.n.1.1;have dp:Ce bv (w.heap.size+1) 1 (.int .i64 Y):=ao.out.n.1.2.1;have dr:bv.frozen? ⟨w.heap.size+1,1,none⟩=false:=ao.out.n.2 1;obtain⟨I,bx⟩:∃I,Hid (MO a8 kd Y=I):=⟨_,rfl⟩;rw[bx.out]at H;have e7:=hid (ao.out.put (by omega) (ao.out.n.set1 I));obtain⟨bk,e8⟩:∃bk,Hid ((a8&&kd==2)=bk):=⟨_,rfl⟩;unfold MO at bx;rw[e8.out]at bx;go_upto_region 11 with fail
    go_cut [59]from 54 (fun bA ab=>bA=.bool bk∧ab=bv)
    case first=>
     have e9:=e8.out;cases a8;case' true=>rcases c3 with rfl|rfl
     all_goals
      first|obtain rfl:false=bk:=e9|obtain rfl:true=bk:=e9
      go_wp2;go_meet
      exact⟨rfl,rfl⟩
    case' rest=>
    obtain⟨rfl,rfl⟩:=hcut;go_upto_if 59 with fail
    go_cut []from 60 (fun ab=>EA w ab (.mk kd I B.u Q false [] dat []) zH F)
    case first=>
     have fa:=bx.out;cases bk with
     |false=>
      obtain rfl:Y=I:=fa;go_wp2;go_meet
      exact ao.out
     |true=>
      rw[nD rfl]at fa;go_wp2;go_meet
      exact e7.out
    case rest=>
     have N8:=hid hcut;clear hcut gI dp dr ao e7 bx;generalize wc=aa at*;go_upto_region 13 with fail
     have ds:=a6.out.below N8.out.b;obtain⟨a0,fb,_⟩:=ds.cells;obtain⟨⟨fc,bs,bp,ak,fd,fe,ff,fg⟩,bi⟩:=N8.out.n;have G:Ce aa.drew b 0 (.slice B.M.ua B.M.us.length B.M.uc)∧Ce aa.drew b 1 (.slice B.M.ga B.M.gs.length B.M.gc):=⟨a0,fb⟩;obtain⟨t0,b4⟩:=id G;have b5:Ce aa.drew (w.heap.size+1) 0 (.int .i64 kd):=fc;have b6:Ce aa.drew (w.heap.size+1) 1 (.int .i64 I):=bs;have b7:Ce aa.drew (w.heap.size+1) 2 (.int .i64 B.u):=bp;have b9:Ce aa.drew (w.heap.size+1) 3 (.int .i64 Q):=ak;have cb:Ce aa.drew (w.heap.size+1) 4 (.bool false):=fd;have cd:Ce aa.drew (w.heap.size+1) 5 (.slice none 0 0):=fe;have cf:Ce aa.drew (w.heap.size+1) 6 (.string dat):=ff;have cg:Ce aa.drew (w.heap.size+1) 7 (.slice none 0 0):=fg;have be:Hid (Calls prog 37 #[.agg #[.slice B.M.ua B.M.us.length B.M.uc,.slice B.M.ga B.M.gs.length B.M.gc],.agg #[.int .i64 kd,.int .i64 I,.int .i64 B.u,.int .i64 Q,.bool false,.slice none 0 0,.string dat,.slice none 0 0]] aa.drew fun e gJ=>Jh aa.drew gJ (fun _=>false) e (Bm true B.M.us B.M.gs (.mk kd I B.u Q false [] dat []))):=Jn (W:=aa.drew) (S:=fun _=>false) (x:=.mk kd I B.u Q false [] dat []) (h:=zH) (M:=B.M) (fun _ gK=>(by cases gK)) (UE _ _ _ _ _ _ _) (by rw[Be,DI];exact⟨by decide,by decide,trivial⟩) (by rw[cnt,cntL];omega) ⟨f5.out.1,gE.out⟩ (ds.maps.below (nv _ _).drew);have fh:=hid N8.out.drew;clear ds a0 fb fc bs bp ak fd fe ff fg bi;obtain⟨du,bB⟩:∃du,Hid (Bm true B.M.us B.M.gs (.mk kd I B.u Q false [] dat [])=du):=⟨_,rfl⟩;rw[bB.out]at be;cases du with
     |none=>
      go_cut [9]from 64 (fun bA ab=>bA=.iface 78 (.int .i64 11)∧Bw w ab)
      case first=>
       go_region_with (first|(go_at_call 37;(refine np be.out ?_);rintro e ba ⟨rfl,bf⟩;have T:Ce ba b 0 (.slice B.M.ua B.M.us.length B.M.uc)∧Ce ba b 1 (.slice B.M.ga B.M.gs.length B.M.gc):=⟨Af bf G.1,Af bf G.2⟩;have bC:=hid (fh.out.below bf);obtain⟨⟨dw,dx,dy,dz,d0,d1,d2,d3⟩,J⟩:=bC.out.n;have d4:=J 0;have d5:=J 1;have d6:=J 2;have d7:=J 3;have d8:=J 4;have d9:=J 5;have ea:=J 6;have eb:=J 7;rw[show Al zN zH=.agg #[.int .i64 0,.int .i64 0,.int .i64 0,.int .i64 0,.bool false,.slice none 0 0,.string ⟨#[]⟩,.slice none 0 0]from rfl];clear be J))
       all_goals
        have ch:=hid (bC.out.sto zN zH).b;obtain⟨bF,az⟩:∃bF,Au ba (w.heap.size+1) zN zH=bF:=⟨_,rfl⟩;rw[az]at ch;simp only[Au,zN,zH,nR]at az;rw[az];clear dw dx dy dz d0 d1 d2 d3 d4 d5 d6 d7 d8 d9 ea eb G T b5 b6 b7 b9 cb cd cf cg az t0 b4;go_wp2_with fail
        go_meet
        exact⟨rfl,ch.out⟩
      case rest=>
       obtain⟨rfl,fl⟩:=hcut;have ch:=hid fl;clear fl be G b5 b6 b7 b9 cb cd cf cg t0 b4;go_wp2;go_ret;obtain⟨rfl,rfl⟩:=db.out 11 (by decide) (by rw[←H.out];unfold Im;rw[bB.out]);exact⟨rfl,da.out _ ch.out⟩
     |some y=>
      obtain⟨ap,ar,rfl⟩:∃ap ar,y=.mk kd I ap ar false [] dat []:=cW bB.out;have gL:Hid (MJ B.M.us B.M.gs x0 ni nf kd I ap ar dat=S):=by show _=_;rw[←H.out];unfold Im;rw[bB.out]
      have gM:=hid (O0 bB.out);go_cut [9]from 64 (fun bA ab=>bA=.nilIface∧∃hx,EA w ab (.mk kd I ap ar false [] dat []) hx F∧Ah ab.cell? (.mk kd I ap ar false [] dat []) hx)
      case first=>
       go_region_with (first|(go_at_call 37;(refine np be.out ?_);rintro e ba ⟨⟨hx,rfl,ec⟩,bf⟩;have T:Ce ba b 0 (.slice B.M.ua B.M.us.length B.M.uc)∧Ce ba b 1 (.slice B.M.ga B.M.gs.length B.M.gc):=⟨Af bf G.1,Af bf G.2⟩;have bC:=hid (fh.out.below bf);obtain⟨⟨dw,dx,dy,dz,d0,d1,d2,d3⟩,J⟩:=bC.out.n;have d4:=J 0;have d5:=J 1;have d6:=J 2;have d7:=J 3;have d8:=J 4;have d9:=J 5;have ea:=J 6;have eb:=J 7;have gN:Hid (Ah ba.cell? (.mk kd I ap ar false [] dat []) hx):=(by rw[Dg]at ec;exact ec);rw[show Al (.mk kd I ap ar false [] dat []) hx=.agg #[.int .i64 kd,.int .i64 I,.int .i64 ap,.int .i64 ar,.bool false,.slice hx.aa 0 hx.ca,.string dat,.slice hx.ak 0 hx.ck]from rfl];clear be J ec))
       all_goals
        have fr:=hid (bC.out.sto (.mk kd I ap ar false [] dat []) hx);obtain⟨bF,az⟩:∃bF,Au ba (w.heap.size+1) (.mk kd I ap ar false [] dat []) hx=bF:=⟨_,rfl⟩;rw[az]at fr;simp only[Au,nR]at az;rw[az];clear dw dx dy dz d0 d1 d2 d3 d4 d5 d6 d7 d8 d9 ea eb G T b5 b6 b7 b9 cb cd cf cg az t0 b4;go_wp2_with fail
        go_meet
        exact⟨rfl,hx,fr.out,LR gN.out⟩
      case rest=>
       obtain⟨rfl,hx,bg,fs⟩:=hcut;have fv:Hid (Calls prog 87 #[.pointer (some ⟨b,0,none⟩),.func (.func 134) #[] #[.pointer (some ⟨w.heap.size,0,none⟩),.pointer (some ⟨w.heap.size+1,0,none⟩)]] wc fun e w'=>e=.returned (Am eg)∧Cw w w' b B ni ej B.crd):=by have e:=KX a6.out bg.b bH.out (WP bg.b bH.out.fine bH.out.sz fY.out f0.out ek.out f1.out f2.out f3.out gM.out f4.out (bg.f 10 _ b0.out.2.2.2) fs bg.n (LI bg.n.1 bg.e) (by omega));rw[gL.out,c4.out]at e;exact e
       clear bg fs be G b5 b6 b7 b9 cb cd cf cg t0 b4;go_wp2_with fail
       refine np fv.out ?_;rintro e gZ ⟨rfl,fx⟩;have gO:=hid fx;clear fx fv;go_wp2;go_ret;exact⟨rfl,gO.out⟩
theorem VK{B:Bx}{x0:Nd}{ni:List Nd}(h:Bv B x0 ni):fin B.q x0 (0,x0)=(0,x0):=by
 unfold fin;rw[nC (by simp),nC (by simp[h.ok]),nC (by have:=h.quo;show¬B.q<CH x0;omega)]
def Wa(us gs:List Rg)(F:Bool)(x0:Nd)(ni:List Nd)(nf:List BA)(U G k:Int):Int×Nd:=if F=true then(match Bm true us gs (.mk 0 0 U G false [] ⟨#[]⟩ [])with
 |none=>(11,x0)
 |some (.mk _ _ ux gx _ _ _ _)=>Fj us gs x0 ni nf (Nd.otG (FN k) ux gx))else(10,x0)
noncomputable def AO.givS (c:AO) (x0:Nd) (ni:List Nd) (cA cB:Int) (p:BA):Int×Nd:=if-1≤cA∧cA≤65535 then(if-1≤cB∧cB≤65535 then(match c.atP true p with
 |.error E=>(E,x0)
 |.ok f=>if cA=-1∧cB=-1 then(0,x0)else Wa c.us c.gs (c.bx.mgF f.1.p f.1.u f.1.g (if cA=-1 then f.1.u else cA) (if cB=-1 then f.1.g else cB)) x0 ni (A4 p.data.toList) (if cA=-1 then f.1.u else cA) (if cB=-1 then f.1.g else cB) c.k)else(1,x0))else(1,x0)
theorem Yv{w:World}{b:Nat}{B:Bx}{x0:Nd}{ni:List Nd}(h:AX w b B)(b2:Bv B x0 ni){cop cA cB:Int}{cpath coth cname cdata:BA}(dz:Int)(d0:w.cell? ⟨0,0,none⟩=some (.int .i64 dz)):
 Calls prog 54 #[.pointer (some ⟨b,0,none⟩),.agg #[.int .i64 cop,.string cpath,.string coth,.string cname,.string cdata,.int .i64 cA,.int .i64 cB]] w fun e w'=>e=.returned (Am (fin B.q x0 (B.cor.givS x0 ni cA cB cpath)).1)∧Cw w w' b B ni (fin B.q x0 (B.cor.givS x0 ni cA cB cpath)).2 B.crd:=by
 obtain⟨S,F⟩:∃S,Hid (B.cor.givS x0 ni cA cB cpath=S):=⟨_,rfl⟩;rw[F.out];obtain⟨⟨eo,ep⟩,bp⟩:∃eq,Hid (fin B.q x0 S=eq):=⟨_,rfl⟩;rw[bp.out];unfold AO.givS at F;have b3:Bw w ((w.alloc (.cells #[.pointer (some ⟨b,0,none⟩)] 35)).alloc (Az cop cpath coth cname cdata cA cB)):=((nv _ _).alloc (nn _) _).alloc ((nv _ _).alloc (nn _) _:Bw w _).size _;have bs:=hid b3;have d1:Ce ((w.alloc (.cells #[.pointer (some ⟨b,0,none⟩)] 35)).alloc (Az cop cpath coth cname cdata cA cB)) w.heap.size 0 (.pointer (some ⟨b,0,none⟩)):=AE (nl _ _ _ _ rfl);have er:Ce ((w.alloc (.cells #[.pointer (some ⟨b,0,none⟩)] 35)).alloc (Az cop cpath coth cname cdata cA cB)) (w.heap.size+1) 1 (.string cpath):=nl _ _ _ _ (by rw[nw]);have d2:Ce ((w.alloc (.cells #[.pointer (some ⟨b,0,none⟩)] 35)).alloc (Az cop cpath coth cname cdata cA cB)) (w.heap.size+1) 5 (.int .i64 cA):=nl _ _ _ _ (by rw[nw]);have d3:Ce ((w.alloc (.cells #[.pointer (some ⟨b,0,none⟩)] 35)).alloc (Az cop cpath coth cname cdata cA cB)) (w.heap.size+1) 6 (.int .i64 cB):=nl _ _ _ _ (by rw[nw]);have d4:Hid (Calls prog 44 #[.pointer (some ⟨b,0,none⟩),.string cpath] ((w.alloc (.cells #[.pointer (some ⟨b,0,none⟩)] 35)).alloc (Az cop cpath coth cname cdata cA cB)) fun e w'=>CL B w' cpath true (B.cor.atP true cpath) e∧Bw ((w.alloc (.cells #[.pointer (some ⟨b,0,none⟩)] 35)).alloc (Az cop cpath coth cname cdata cA cB)) w'):=by
  refine np (JH (h.below b3) b2.good cpath (Da _).1 (Da _).2 dz (Af b3 d0)) ?_;rintro e w' ⟨cp,cr⟩;exact⟨IW b2.good cp,cr⟩
 have ao:=hid h;have ay:=hid b2;have az:=hid (Cw.stay ao.out ay.out);have a6:Hid (∀E,E≠0→S=(E,x0)→eo=E∧ep=x0):=fun E bk e=>Hf bk (e▸bp.out);have d5:Hid (∀ak,Calls prog 101 #[.int .i64 cA] ak fun e w'=>e=.returned (.bool (decide (-1≤cA∧cA≤65535)))∧ak=w'):=fun ak=>P1 ak cA
 have d6:Hid (∀ak,Calls prog 101 #[.int .i64 cB] ak fun e w'=>e=.returned (.bool (decide (-1≤cB∧cB≤65535)))∧ak=w'):=fun ak=>P1 ak cB;clear h b2 b3 d0
 go_enter func54,ntmps54;go_wp2_with fail
 generalize((w.alloc (.cells #[.pointer (some ⟨b,0,none⟩)] 35)).alloc (Az cop cpath coth cname cdata cA cB))=ak at*;refine np (d5.out _) ?_;rintro e bu ⟨rfl,rfl⟩;by_cases a1:-1≤cA∧cA≤65535;rotate_left
 ·rw[nB a1]
  go_wp2;go_ret;obtain⟨rfl,rfl⟩:=a6.out 1 (by decide) (by rw[←F.out];exact nC a1);exact⟨rfl,az.out _ bs.out⟩
 rw[nF a1];rw[nD a1]at F;go_wp2_with fail
 refine np (d6.out _) ?_;rintro e bu ⟨rfl,rfl⟩;by_cases bl:-1≤cB∧cB≤65535;rotate_left
 ·rw[nB bl]
  go_wp2;go_ret;obtain⟨rfl,rfl⟩:=a6.out 1 (by decide) (by rw[←F.out];exact nC bl);exact⟨rfl,az.out _ bs.out⟩
 rw[nF bl];rw[nD bl]at F;have es:Hid ((-1≤cA∧cA≤65535)∧-1≤cB∧cB≤65535):=⟨a1,bl⟩;clear d5 d6 a1 bl;go_wp2_with fail
 refine np d4.out ?_;rintro e O ⟨a1,q2⟩;clear d4;obtain⟨cs,E,rfl,cu,d7,d8,d9⟩:=a1;obtain⟨Z,e1,a7,ea,eu⟩:=F5 O cs cu d7;have ev:=BV cs;unfold Value.cells at ev;have e2:=hid cu;have b4:=hid (q2.trans (ea.out.mono q2.size));have bn:=hid (bs.out.trans (b4.out.mono bs.out.size));have eb:Hid _:=d8;have ec:Hid _:=d9;have e3:=hid (nP bs.out.size q2.size);clear d7 d8 cu d9;have b5:=Af b4.out d1;have cx:=Af b4.out d2;have c3:=Af b4.out d3;clear d1 er d2 d3;by_cases bk:E=0;rotate_left
 ·have ed:=AG (n:=E) rfl bk
  rw[ed];go_wp2;go_ret;obtain⟨rfl,rfl⟩:=a6.out E bk (by rw[←F.out,ec.out bk]);exact⟨by rw[ed];rfl,az.out _ bn.out⟩
 subst bk;obtain⟨f,a8,ee,b6,c4,c5,c6,ef,eg⟩:=eb.out rfl;clear eb ec;rw[eg]at F;have bv:=Fs ee;rw[←b6]at bv;obtain⟨⟨c8,c9,R,T,bo⟩,dir,na,nc,nf,e4,⟨e5,e6,e7,e8,e9,fa,fb,xs⟩,fc,ly⟩:=f;dsimp only[Fd.pur]at b6 c4 c5 c6 ef bv F;have b7:Ce Z O.heap.size 0 (.bool c8):=a7.out 0 _ (by rw[a8];rfl);have b9:Ce Z O.heap.size 1 (.int .i64 c9):=a7.out 1 _ (by rw[a8];rfl);have bx:Ce Z O.heap.size 2 (.int .i64 R):=a7.out 2 _ (by rw[a8];rfl);have bA:Ce Z O.heap.size 3 (.int .i64 T):=a7.out 3 _ (by rw[a8];rfl);have cb:Ce Z O.heap.size 4 (.bool bo):=a7.out 4 _ (by rw[a8];rfl);have cd:Ce Z O.heap.size 10 (.slice na nf.length nc):=a7.out 10 _ (by rw[a8];rfl);have cf:=hid (c4.on (Aj ea.out));have cg:Hid ((∀s∈nf,AY s=true)∧nf.length≤6):=⟨bv.1,bv.2.1⟩;have ej:=hid c5;obtain⟨U,da⟩:∃U,Hid ((if cA=-1 then R else cA)=U):=⟨_,rfl⟩;obtain⟨Q,db⟩:∃Q,Hid ((if cB=-1 then T else cB)=Q):=⟨_,rfl⟩;rw[←b6]at F;replace F:Hid ((if cA=-1∧cB=-1 then(0,x0)else Wa B.M.us B.M.gs (B.mgF bo R T (if cA=-1 then R else cA) (if cB=-1 then T else cB)) x0 ni nf (if cA=-1 then R else cA) (if cB=-1 then T else cB) B.k)=S):=F.out;rw[da.out,db.out]at F;have ek:Hid (A2 U∧A2 Q):=by
  have el:=c6.t;have fd:=es.out;show A2 U∧A2 Q;rw[←da.out,←db.out];refine⟨?_,?_⟩
  ·split
   ·exact el.2.1
   ·unfold A2;omega
  ·split
   ·exact el.2.2
   ·unfold A2;omega
 have ch:Hid (∀w',Calls prog 102 #[.int .i64 cA,.int .i64 R] w' fun e dd=>e=.returned (.int .i64 U)∧w'=dd):=fun w'=>by
  have e:=QG w' cA R;rw[da.out]at e;exact e
 have cl:Hid (∀w',Calls prog 102 #[.int .i64 cB,.int .i64 T] w' fun e dd=>e=.returned (.int .i64 Q)∧w'=dd):=fun w'=>by
  have e:=QG w' cB T;rw[db.out]at e;exact e
 rw[show Am 0=Value.nilIface from rfl];have co:Ce Z.drew (w.heap.size+1) 5 (.int .i64 cA)∧Ce Z.drew (w.heap.size+1) 6 (.int .i64 cB)∧Ce Z.drew O.heap.size 2 (.int .i64 R)∧Ce Z.drew O.heap.size 3 (.int .i64 T):=⟨cx,c3,bx,bA⟩;clear a8 ee b6 c4 c5 c6 ef eg bv a7 eu;by_cases bB:cA=-1∧cB=-1
 ·rw[nD bB]at F
  obtain rfl:=F.out;obtain⟨rfl,rfl⟩:=Prod.mk.inj ((VK ay.out).symm.trans bp.out);obtain⟨rfl,rfl⟩:=bB;go_wp2;go_ret;exact⟨rfl,az.out _ bn.out⟩
 have eB:Hid (∀(P:Prop),(cA≠-1→P)→(cA=-1→cB≠-1→P)→P):=fun P cp cr=>by
  by_cases q:cA=-1
  ·exact cr q (fun e=>bB ⟨q,e⟩)
  ·exact cp q
 rw[nC bB]at F;clear bB;refine eB.out _ (fun em=>?_) (fun eE en=>?_)
 ·have hd:decide (cA=-1)=false:=nB em
  go_upto_region 6 with fail
  clear em hd;go_cut [7,8]from 41 (fun de dg dj=>de=.int .i64 U∧dg=.int .i64 Q∧Bw Z dj)
  case first=>
   go_region_held3 (fun w'=>Ce w' (w.heap.size+1) 5 (.int .i64 cA)∧Ce w' (w.heap.size+1) 6 (.int .i64 cB)∧Ce w' O.heap.size 2 (.int .i64 R)∧Ce w' O.heap.size 3 (.int .i64 T)) (first|with_reducible exact co) (first|(go_at_call 102;(with_reducible refine np (ch.out _) ?_);rintro e bu ⟨rfl,rfl⟩)|(go_at_call 102;(with_reducible refine np (cl.out _) ?_);rintro e bu ⟨rfl,rfl⟩))
   all_goals
    go_wp2_with fail
    go_meet
    exact⟨rfl,rfl,(nv _ _).drew⟩
  case rest=>
   obtain⟨rfl,rfl,G⟩:=hcut;have ba:=hid (bn.out.trans (G.mono bn.out.size));have bC:=Af G b5;have dk:=Af G b7;have dm:=Af G b9;have dn:=Af G bx;have dp:=Af G bA;have dr:=Af G cb;have bF:=Af G cd;have bG:=hid (cf.out.on (Aj G));have bb:=hid (Qe (ao.out.below ba.out) ay.out c8 bo c9 R T U Q);obtain⟨r,ds⟩:∃r,Hid (B.mgF bo R T U Q=r):=⟨_,rfl⟩;rw[ds.out]at bb F;clear co b5 cx c3 b7 b9 bx bA cb cd cf ch cl G;go_wp2_with fail
   refine np bb.out ?_;rintro e du ⟨rfl,aa⟩;have V:=hid (ba.out.trans (aa.mono ba.out.size));have ap:=Af aa bC;have ar:=Af aa bF;have bH:=hid (bG.out.on (Aj aa));clear bb bC dk dm dn dp dr bF bG aa;cases r with
   |false=>
    clear ap ar;go_wp2;go_ret;obtain⟨rfl,rfl⟩:=a6.out 10 (by decide) (by rw[←F.out];exact nC (by decide));exact⟨rfl,az.out _ V.out⟩
   |true=>
    replace F:=hid ((nD rfl).symm.trans F.out);have bd:=ao.out.below V.out;obtain⟨a0,bY,_⟩:=bd.cells;have be:=Jn (W:=du) (S:=fun _=>false) (x:=.mk 0 0 U Q false [] ⟨#[]⟩ []) (h:=zH) (M:=B.M) (fun _ dw=>(by cases dw)) (O3 _ _ _ _ _ _ _) (by rw[Be,DI];exact⟨by decide,by decide,trivial⟩) (by rw[cnt,cntL];omega) ek.out bd.maps;obtain⟨bf,ab⟩:∃bf,Hid (Bm true B.M.us B.M.gs (.mk 0 0 U Q false [] ⟨#[]⟩ [])=bf):=⟨_,rfl⟩;rw[ab.out]at be;have bg:=hid be;clear be bd;go_wp2_with fail
    refine np bg.out ?_;cases bf with
    |none=>
     rintro e ad ⟨rfl,H⟩;rw[show Al zN zH=.agg #[.int .i64 0,.int .i64 0,.int .i64 0,.int .i64 0,.bool false,.slice none 0 0,.string ⟨#[]⟩,.slice none 0 0]from rfl];have Y:=hid (V.out.trans (H.mono V.out.size));clear bg H ap ar a0 bY;go_wp2;go_ret;obtain⟨rfl,rfl⟩:=a6.out 11 (by decide) (by rw[←F.out,ab.out]);exact⟨rfl,az.out _ (Y.out.alloc Y.out.size _)⟩
    |some y=>
     obtain⟨I,J,rfl⟩:∃I J,y=.mk 0 0 I J false [] ⟨#[]⟩ []:=by
      have e:=ab.out;rw[Bm]at e;split at e
      ·cases e;exact⟨_,_,rfl⟩
      ·cases e
     rintro e ad ⟨⟨hx,rfl,_⟩,H⟩;rw[show Al (.mk 0 0 I J false [] ⟨#[]⟩ []) hx=.agg #[.int .i64 0,.int .i64 0,.int .i64 I,.int .i64 J,.bool false,.slice hx.aa 0 hx.ca,.string ⟨#[]⟩,.slice hx.ak 0 hx.ck]from rfl];have BX:Bw ad (ad.alloc (.cells #[.int .i64 0,.int .i64 0,.int .i64 I,.int .i64 J,.bool false,.slice hx.aa 0 hx.ca,.string ⟨#[]⟩,.slice hx.ak 0 hx.ck] 54)):=(nv _ _).alloc (nn _) _;have Y:=hid (V.out.trans ((H.trans (BX.mono H.size)).mono V.out.size));have dx:Ce (ad.alloc (.cells #[.int .i64 0,.int .i64 0,.int .i64 I,.int .i64 J,.bool false,.slice hx.aa 0 hx.ca,.string ⟨#[]⟩,.slice hx.ak 0 hx.ck] 54)) w.heap.size 0 (.pointer (some ⟨b,0,none⟩)):=AE (Af H ap);have eL:Ce (ad.alloc (.cells #[.int .i64 0,.int .i64 0,.int .i64 I,.int .i64 J,.bool false,.slice hx.aa 0 hx.ca,.string ⟨#[]⟩,.slice hx.ak 0 hx.ck] 54)) O.heap.size 10 (.slice na nf.length nc):=AE (Af H ar);have b0:=(bH.out.on (Aj H)).on (Aj BX);have bi:=hid (J2 (ao.out.below Y.out) ay.out b0 cg.out.1 (by have:=cg.out.2;omega) ej.out rfl (QX (ao.out.below Y.out) ay.out (O0 ab.out) dx (nl _ _ _ _ rfl) (nl _ _ _ _ rfl)));rw[ab.out]at F;rw[show Fj B.M.us B.M.gs x0 ni nf (Nd.otG (FN B.k) I J)=S from F.out,bp.out]at bi;clear bg ap ar a0 bY BX H b0 bH;go_wp2_with fail
     refine np bi.out ?_;rintro e e0 ⟨rfl,b1⟩;have dy:=hid (b1.up Y.out);clear b1 bi;go_wp2;go_ret;exact⟨rfl,dy.out⟩
 ·subst eE
  have hd:(cB==-1)=false:=by simpa using en
  go_upto_region 6 with fail
  clear en hd;go_cut [7,8]from 41 (fun de dg dj=>de=.int .i64 U∧dg=.int .i64 Q∧Bw Z dj)
  case first=>
   go_region_held3 (fun w'=>Ce w' (w.heap.size+1) 5 (.int .i64 (-1))∧Ce w' (w.heap.size+1) 6 (.int .i64 cB)∧Ce w' O.heap.size 2 (.int .i64 R)∧Ce w' O.heap.size 3 (.int .i64 T)) (first|with_reducible exact co) (first|(go_at_call 102;(with_reducible refine np (ch.out _) ?_);rintro e bu ⟨rfl,rfl⟩)|(go_at_call 102;(with_reducible refine np (cl.out _) ?_);rintro e bu ⟨rfl,rfl⟩))
   all_goals
    go_wp2_with fail
    go_meet
    exact⟨rfl,rfl,(nv _ _).drew⟩
  case rest=>
   obtain⟨rfl,rfl,G⟩:=hcut;have ba:=hid (bn.out.trans (G.mono bn.out.size));have bC:=Af G b5;have dk:=Af G b7;have dm:=Af G b9;have dn:=Af G bx;have dp:=Af G bA;have dr:=Af G cb;have bF:=Af G cd;have bG:=hid (cf.out.on (Aj G));have bb:=hid (Qe (ao.out.below ba.out) ay.out c8 bo c9 R T U Q);obtain⟨r,ds⟩:∃r,Hid (B.mgF bo R T U Q=r):=⟨_,rfl⟩;rw[ds.out]at bb F;clear co b5 cx c3 b7 b9 bx bA cb cd cf ch cl G;go_wp2_with fail
   refine np bb.out ?_;rintro e du ⟨rfl,aa⟩;have V:=hid (ba.out.trans (aa.mono ba.out.size));have ap:=Af aa bC;have ar:=Af aa bF;have bH:=hid (bG.out.on (Aj aa));clear bb bC dk dm dn dp dr bF bG aa;cases r with
   |false=>
    clear ap ar;go_wp2;go_ret;obtain⟨rfl,rfl⟩:=a6.out 10 (by decide) (by rw[←F.out];exact nC (by decide));exact⟨rfl,az.out _ V.out⟩
   |true=>
    replace F:=hid ((nD rfl).symm.trans F.out);have bd:=ao.out.below V.out;obtain⟨a0,bY,_⟩:=bd.cells;have be:=Jn (W:=du) (S:=fun _=>false) (x:=.mk 0 0 U Q false [] ⟨#[]⟩ []) (h:=zH) (M:=B.M) (fun _ dw=>(by cases dw)) (O3 _ _ _ _ _ _ _) (by rw[Be,DI];exact⟨by decide,by decide,trivial⟩) (by rw[cnt,cntL];omega) ek.out bd.maps;obtain⟨bf,ab⟩:∃bf,Hid (Bm true B.M.us B.M.gs (.mk 0 0 U Q false [] ⟨#[]⟩ [])=bf):=⟨_,rfl⟩;rw[ab.out]at be;have bg:=hid be;clear be bd;go_wp2_with fail
    refine np bg.out ?_;cases bf with
    |none=>
     rintro e ad ⟨rfl,H⟩;rw[show Al zN zH=.agg #[.int .i64 0,.int .i64 0,.int .i64 0,.int .i64 0,.bool false,.slice none 0 0,.string ⟨#[]⟩,.slice none 0 0]from rfl];have Y:=hid (V.out.trans (H.mono V.out.size));clear bg H ap ar a0 bY;go_wp2;go_ret;obtain⟨rfl,rfl⟩:=a6.out 11 (by decide) (by rw[←F.out,ab.out]);exact⟨rfl,az.out _ (Y.out.alloc Y.out.size _)⟩
    |some y=>
     obtain⟨I,J,rfl⟩:∃I J,y=.mk 0 0 I J false [] ⟨#[]⟩ []:=by
      have e:=ab.out;rw[Bm]at e;split at e
      ·cases e;exact⟨_,_,rfl⟩
      ·cases e
     rintro e ad ⟨⟨hx,rfl,_⟩,H⟩;rw[show Al (.mk 0 0 I J false [] ⟨#[]⟩ []) hx=.agg #[.int .i64 0,.int .i64 0,.int .i64 I,.int .i64 J,.bool false,.slice hx.aa 0 hx.ca,.string ⟨#[]⟩,.slice hx.ak 0 hx.ck]from rfl];have BX:Bw ad (ad.alloc (.cells #[.int .i64 0,.int .i64 0,.int .i64 I,.int .i64 J,.bool false,.slice hx.aa 0 hx.ca,.string ⟨#[]⟩,.slice hx.ak 0 hx.ck] 54)):=(nv _ _).alloc (nn _) _;have Y:=hid (V.out.trans ((H.trans (BX.mono H.size)).mono V.out.size));have dx:Ce (ad.alloc (.cells #[.int .i64 0,.int .i64 0,.int .i64 I,.int .i64 J,.bool false,.slice hx.aa 0 hx.ca,.string ⟨#[]⟩,.slice hx.ak 0 hx.ck] 54)) w.heap.size 0 (.pointer (some ⟨b,0,none⟩)):=AE (Af H ap);have eL:Ce (ad.alloc (.cells #[.int .i64 0,.int .i64 0,.int .i64 I,.int .i64 J,.bool false,.slice hx.aa 0 hx.ca,.string ⟨#[]⟩,.slice hx.ak 0 hx.ck] 54)) O.heap.size 10 (.slice na nf.length nc):=AE (Af H ar);have b0:=(bH.out.on (Aj H)).on (Aj BX);have bi:=hid (J2 (ao.out.below Y.out) ay.out b0 cg.out.1 (by have:=cg.out.2;omega) ej.out rfl (QX (ao.out.below Y.out) ay.out (O0 ab.out) dx (nl _ _ _ _ rfl) (nl _ _ _ _ rfl)));rw[ab.out]at F;rw[show Fj B.M.us B.M.gs x0 ni nf (Nd.otG (FN B.k) I J)=S from F.out,bp.out]at bi;clear bg ap ar a0 bY BX H b0 bH;go_wp2_with fail
     refine np bi.out ?_;rintro e e0 ⟨rfl,b1⟩;have dy:=hid (b1.up Y.out);clear b1 bi;go_wp2;go_ret;exact⟨rfl,dy.out⟩
mutual
def JU:Nd→Int
 |.mk _ _ _ _ _ _ _ ks=>Iv 0 ks
def Iv(a:Int):Ar→Int
 |[]=>a
 |(_,x)::l=>Iv (max a (wrap64 (1+JU x))) l
end
theorem YP{w:World}{x:Nd}{h:Hd}(bl:Ah w.cell? x h):∀(W:World),Below w.heap.size w W→
 Calls prog 143 #[Al x h] W fun e ao=>e=.returned (.int .i64 (JU x))∧Below W.heap.size W ao:=by
 induction bl with
 |@mk k m u g o nh d ks h b a8 f bn bo ap G ba bp bb=>
  intro W bd;have bs:=hid ba;have bu:=hid bb;have bv:=hid G;have cf:=nP ap.1 ap.2;clear ba bp bb G bn bo ap;rw[JU];obtain⟨D,ar⟩:∃D,Hid (Iv 0 ks=D):=⟨_,rfl⟩;rw[ar.out];show Calls prog 143 #[.agg #[.int .i64 k,.int .i64 m,.int .i64 u,.int .i64 g,.bool o,.slice h.aa nh.length h.ca,.string d,.slice h.ak ks.length h.ck]] _ _;have bx:=Ch.new W k m u g o nh d ks h;have I:Below W.heap.size W (W.alloc (.cells #[.int .i64 k,.int .i64 m,.int .i64 u,.int .i64 g,.bool o,.slice h.aa nh.length h.ca,.string d,.slice h.ak ks.length h.ck] 54)):=(nv _ _).alloc (nn _) _;obtain⟨bA,bB,bC,bF,bG,bH,bY,ay⟩:=bx;clear bA bB bC bF bG bH bY;rcases bv.out with b0|G
  ·subst b0
   obtain rfl:0=D:=by rw[←ar.out];rw[Iv]
   go_enter func143,ntmps143;go_wp2;clear ay;generalize W.alloc (.cells #[.int .i64 k,.int .i64 m,.int .i64 u,.int .i64 g,.bool o,.slice h.aa nh.length h.ca,.string d,.slice h.ak 0 h.ck] 54)=b1 at I⊢;first
   |(go_ret;exact⟨rfl,I⟩)
   |(go_loopw [3,9] (fun az i wr=>i=.int .i64 0∧az=.int .i64 0∧Below W.heap.size W wr) (fun _ _ _=>0)
     case atStart=>exact⟨rfl,rfl,I⟩
     case round=>
      obtain⟨rfl,rfl,H⟩:=hrel;go_wp2;go_ret;exact⟨rfl,H⟩)
  have be:W.alloc (.cells #[.int .i64 k,.int .i64 m,.int .i64 u,.int .i64 g,.bool o,.slice h.aa nh.length h.ca,.string d,.slice h.ak ks.length h.ck] 54)=W.alloc (.cells #[.int .i64 k,.int .i64 m,.int .i64 u,.int .i64 g,.bool o,.slice h.aa nh.length h.ca,.string d,.slice (some ⟨b,a8,none⟩) ks.length h.ck] 54):=by rw[G]
  rw[be]at I;clear be;rw[G];rw[G]at ay;clear G;go_enter func143,ntmps143;go_wp2;clear ay;generalize W.alloc (.cells #[.int .i64 k,.int .i64 m,.int .i64 u,.int .i64 g,.bool o,.slice h.aa nh.length h.ca,.string d,.slice (some ⟨b,a8,none⟩) ks.length h.ck] 54)=b1 at I⊢;go_loopw [3,9] (fun az i wr=>∃(j:Nat) (J:Int),j≤ks.length∧i=.int .i64 j∧az=.int .i64 J∧Hid (Iv J (ks.drop j)=D)∧Below W.heap.size W wr) (fun _ i _=>ks.length-(intOf i).toNat)
  case atStart=>exact⟨0,0,nN _,rfl,rfl,ar.out,I⟩
  case round=>
   obtain⟨j,J,cg,rfl,rfl,bf,H⟩:=hrel;by_cases a1:j<ks.length
   ·have b2:(j:Int)<(ks.length:Int):=by omega
    obtain⟨⟨n,x⟩,hx⟩:∃x,ks[j]? =some x:=⟨ks[j],by simp[a1]⟩;have ab:=bd.trans (H.mono bd.size);have a6:=(bs.out j n x hx).below ab;have ad:=hid (bu.out j n x hx);obtain⟨ak,bg⟩:∃ak,Hid (JU x=ak):=⟨_,rfl⟩;rw[bg.out]at ad;have b3:Hid (Iv (max J (wrap64 (1+ak))) (ks.drop (j+1))=D):=by
     show _=_;have e:ks.drop j=(n,x)::ks.drop (j+1):=by
      rw[nO a1];rw[nt a1]at hx;injection hx with hx
      rw[hx]
     rw[←bf.out,e,Iv,bg.out]
    generalize b4:f j=F at a6 ad;obtain⟨O,Q,R,T,V,Y,Z,aa⟩:=x;obtain⟨z0,b5,b6,z3,z4,z5,b7,b9,cb⟩:=a6.nine;have a7:Below W.heap.size W (wr.alloc (.cells #[.string n,.int .i64 O,.int .i64 Q,.int .i64 R,.int .i64 T,.bool V,.slice F.aa Y.length F.ca,.string Z,.slice F.ak aa.length F.ck] 89)):=H.alloc H.size _;have bi:Hid (Calls prog 143 #[.agg #[.int .i64 O,.int .i64 Q,.int .i64 R,.int .i64 T,.bool V,.slice F.aa Y.length F.ca,.string Z,.slice F.ak aa.length F.ck]] (wr.alloc (.cells #[.string n,.int .i64 O,.int .i64 Q,.int .i64 R,.int .i64 T,.bool V,.slice F.aa Y.length F.ca,.string Z,.slice F.ak aa.length F.ck] 89)) fun e ao=>e=.returned (.int .i64 ak)∧Below (wr.alloc (.cells #[.string n,.int .i64 O,.int .i64 Q,.int .i64 R,.int .i64 T,.bool V,.slice F.aa Y.length F.ca,.string Z,.slice F.ak aa.length F.ck] 89)).heap.size (wr.alloc (.cells #[.string n,.int .i64 O,.int .i64 Q,.int .i64 R,.int .i64 T,.bool V,.slice F.aa Y.length F.ca,.string Z,.slice F.ak aa.length F.ck] 89)) ao):=ad.out _ (ab.alloc ab.size _);clear hx b4 ad a6 ab;go_wp2_with fail
    refine bi.out.mono ?_;rintro e ch ⟨rfl,bk⟩;have cd:=a7.trans (bk.mono a7.size);clear z0 b5 b6 z3 z4 z5 b7 b9 cb bk H a7 bi;go_wp2;go_roundw
    case rel=>exact⟨j+1,_,by omega,by go_num,rfl,b3.out,cd⟩
    case measure=>simp[intOf];omega
   ·have b2:decide ((j:Int)<(ks.length:Int))=false:=nB (by omega)
    obtain rfl:J=D:=by
     have e:=bf.out;rw[n7 (by omega),Iv]at e;exact e
    go_wp2;go_ret;exact⟨rfl,H⟩
theorem cj(a V:Option Addr)(c az:Nat)(l F:List BA)(w:World)(bf:l.length≤1000)(h:AW w.cell? a l)(h':AW w.cell? V F):
 Calls prog 91 #[.slice a l.length c,.slice V F.length az] w fun e w'=>e=.returned (.bool (decide (l=F)))∧Bw w w':=by
 obtain⟨H,O⟩:∃H,Hid (decide (l=F)=H):=⟨_,rfl⟩;rw[O.out];have a1:=hid h;have a6:=hid h';clear h h';by_cases Q:l.length=F.length;rotate_left
 ·have d:((l.length:Int)==(F.length:Int))=false:=by simp;omega
  have bg:=nB (by omega);obtain rfl:false=H:=by rw[←O.out];exact(nB (fun e=>Q (by rw[e]))).symm
  go_enter func91,ntmps91;go_wp2;go_ret;exact⟨rfl,nv _ _⟩
 have Y:=hid Q;rw[←Q];clear Q;go_enter func91,ntmps91;go_wp2;go_loopw [13] (fun i wr=>∃j:Nat,j≤l.length∧i=.int .i64 j∧Hid (∀k,k<j→l[k]? =F[k]?)∧Bw w wr) (fun i _=>l.length-(intOf i).toNat)
 case atStart=>exact⟨0,nN _,rfl,fun k I=>absurd I (Nat.not_lt_zero _),nv _ _⟩
 case round=>
  obtain⟨j,bi,rfl,Z,J⟩:=hrel;by_cases T:j<l.length;rotate_left
  ·have a7:decide ((j:Int)<(l.length:Int))=false:=nB (by omega)
   obtain rfl:true=H:=by
    rw[←O.out];refine(nF (List.ext_getElem? fun k=>?_)).symm;rcases Nat.lt_or_ge k j with I|I
    ·exact Z.out k I
    ·rw[List.getElem?_eq_none (by omega),List.getElem?_eq_none (by have:=Y.out;omega)]
   go_wp2;go_ret;exact⟨rfl,J⟩
  have a7:(j:Int)<(l.length:Int):=by omega
  obtain⟨x,hx⟩:∃s,l[j]? =some s:=⟨l[j],nt _⟩;obtain⟨y,G⟩:∃s,F[j]? =some s:=⟨F[j]'(by rw[←Y.out];exact T),nt _⟩;rcases a1.out with e|⟨b,aa,rfl,ab⟩
  ·rw[e]at T;simp at T
  rcases a6.out with e|⟨ad,ak,rfl,ao⟩
  ·rw[e]at G;simp at G
  have a8:=Af J (ab j x hx);have q1:=Af J (ao j y G);have ap:Hid ((x.toList==y.toList)=true→∀k,k<j+1→l[k]? =F[k]?):=fun e k I=>by
   rcases Nat.lt_or_ge k j with h|h
   ·exact Z.out k h
   ·have ba:k=j:=by omega
    subst ba;have R:x.toList=y.toList:=by simpa using e
    rw[r1,r1]at R;have bb:x=y:=by
     cases x;cases y
     exact nW ByteArray.mk (Array.toList_inj.1 R)
    rw[hx,G,bb]
  have ar:Hid ((x.toList==y.toList)=false→false=H):=fun e=>by
   rw[←O.out];refine(nB fun R=>?_).symm;rw[R,G]at hx;injection hx with hx
   rw[hx]at e;simp at e
  clear ab ao hx G;have ay:=hid J.drew;clear J;obtain⟨r,bd⟩:∃r,(x.toList==y.toList)=r:=⟨_,rfl⟩;rw[bd]at ap ar;have be:Ce wr.drew b (aa+j) (.string x)∧Ce wr.drew ad (ak+j) (.string y):=⟨a8,q1⟩;go_upto_region 6 with fail
  go_region_held3 (fun w'=>Ce w' b (aa+j) (.string x)∧Ce w' ad (ak+j) (.string y)) (first|with_reducible exact be) (fail)
  cases r with
  |true=>
   go_wp2;go_roundw
   case rel=>exact⟨j+1,by omega,by go_num,ap.out (by first|rfl|trivial),ay.out⟩
   case measure=>simp[intOf];omega
  |false=>
   obtain rfl:=ar.out rfl;go_wp2;go_ret;exact⟨rfl,ay.out⟩
abbrev fP:Oper:={dst:=some 5,op:=Op.fieldAddr 101 (Operand.tmp 3) 5,type:=0,pos:= "move.go:89",after:=#[],guard:=none}
abbrev fN:Oper:={dst:=some 6,op:=Op.load 3 (Operand.tmp 5),type:=3,pos:= "move.go:89",after:=#[{on:=0,ground:=Ground.data}],guard:=none}
abbrev VS:Oper:={dst:=some 7,op:=Op.binOp BinOp.eql 3 (Operand.tmp 6) (Operand.const (Value.int IntKind.i64 0)) 3,type:=4,pos:= "move.go:89",after:=#[{on:=1,ground:=Ground.data}],guard:=none}
abbrev VU:Oper:={dst:=some 8,op:=Op.move (Operand.tmp 7),type:=4,pos:= "move.go:89",after:=#[{on:=2,ground:=Ground.data}],guard:=none}
abbrev V6:Oper:={dst:=some 9,op:=Op.fieldAddr 101 (Operand.tmp 3) 4,type:=0,pos:= "move.go:89",after:=#[{on:=3,ground:=Ground.guard}],guard:=some (3,true)}
abbrev VQ:Oper:={dst:=some 10,op:=Op.fieldAddr 54 (Operand.tmp 9) 4,type:=0,pos:= "move.go:89",after:=#[{on:=4,ground:=Ground.data},{on:=3,ground:=Ground.guard}],guard:=some (3,true)}
abbrev VW:Oper:={dst:=some 11,op:=Op.load 4 (Operand.tmp 10),type:=4,pos:= "move.go:89",after:=#[{on:=5,ground:=Ground.data},{on:=3,ground:=Ground.guard}],guard:=some (3,true)}
abbrev Pz:Oper:={dst:=some 12,op:=Op.move (Operand.tmp 11),type:=4,pos:= "move.go:89",after:=#[{on:=6,ground:=Ground.data},{on:=3,ground:=Ground.chain},{on:=3,ground:=Ground.guard}],guard:=some (3,true)}
abbrev Px:Oper:={dst:=some 13,op:=Op.move (Operand.tmp 0),type:=35,pos:= "move.go:89",after:=#[{on:=7,ground:=Ground.guard}],guard:=some (7,false)}
abbrev Pv:Oper:={dst:=some 14,op:=Op.nilCheck (Operand.tmp 13),type:=0,pos:= "move.go:89",after:=#[{on:=8,ground:=Ground.data},{on:=7,ground:=Ground.guard}],guard:=some (7,false)}
abbrev Pg:Oper:={dst:=some 15,op:=Op.fieldAddr 70 (Operand.tmp 14) 0,type:=0,pos:= "move.go:89",after:=#[{on:=9,ground:=Ground.data},{on:=7,ground:=Ground.guard}],guard:=some (7,false)}
abbrev O7:Oper:={dst:=some 16,op:=Op.fieldAddr 67 (Operand.tmp 15) 1,type:=0,pos:= "move.go:89",after:=#[{on:=10,ground:=Ground.data},{on:=7,ground:=Ground.guard}],guard:=some (7,false)}
abbrev Pj:Oper:={dst:=some 17,op:=Op.load 30 (Operand.tmp 16),type:=30,pos:= "move.go:89",after:=#[{on:=11,ground:=Ground.data},{on:=7,ground:=Ground.guard}],guard:=some (7,false)}
abbrev O2:Oper:={dst:=some 18,op:=Op.fieldAddr 101 (Operand.tmp 3) 2,type:=0,pos:= "move.go:89",after:=#[{on:=7,ground:=Ground.guard}],guard:=some (7,false)}
abbrev O5:Oper:={dst:=some 19,op:=Op.load 42 (Operand.tmp 18),type:=42,pos:= "move.go:89",after:=#[{on:=13,ground:=Ground.data},{on:=7,ground:=Ground.guard}],guard:=some (7,false)}
abbrev Pi:Oper:={dst:=some 20,op:=Op.call {callee:=Callee.value (Operand.func 97),args:=#[Operand.tmp 17,Operand.tmp 19],argTypes:=#[30,42]},type:=4,pos:= "move.go:89",after:=#[{on:=12,ground:=Ground.data},{on:=14,ground:=Ground.data},{on:=7,ground:=Ground.chain},{on:=7,ground:=Ground.guard}],guard:=some (7,false)}
abbrev Pf:Oper:={dst:=some 21,op:=Op.unOp UnOp.not 4 (Operand.tmp 20),type:=4,pos:= "move.go:89",after:=#[{on:=15,ground:=Ground.data},{on:=7,ground:=Ground.guard}],guard:=some (7,false)}
abbrev Pq:Oper:={dst:=some 22,op:=Op.pick (Operand.tmp 12) (Operand.const (Value.bool true)) (Operand.tmp 21),type:=4,pos:= "move.go:89",after:=#[{on:=7,ground:=Ground.data},{on:=16,ground:=Ground.data},{on:=3,ground:=Ground.guard}],guard:=some (3,true)}
abbrev Pd:Oper:={dst:=some 23,op:=Op.pick (Operand.tmp 8) (Operand.tmp 22) (Operand.const (Value.bool false)),type:=4,pos:= "move.go:89",after:=#[{on:=3,ground:=Ground.data},{on:=17,ground:=Ground.data}],guard:=none}
abbrev Pm:Oper:={dst:=some 4,op:=Op.assign (Operand.tmp 23),type:=4,pos:= "move.go:89",after:=#[{on:=18,ground:=Ground.data},{on:=15,ground:=Ground.chain},{on:=0,ground:=Ground.phase},{on:=1,ground:=Ground.phase},{on:=2,ground:=Ground.phase},{on:=3,ground:=Ground.phase},{on:=4,ground:=Ground.phase},{on:=5,ground:=Ground.phase},{on:=6,ground:=Ground.phase},{on:=7,ground:=Ground.phase},{on:=8,ground:=Ground.phase},{on:=9,ground:=Ground.phase},{on:=10,ground:=Ground.phase},{on:=11,ground:=Ground.phase},{on:=12,ground:=Ground.phase},{on:=13,ground:=Ground.phase},{on:=14,ground:=Ground.phase},{on:=15,ground:=Ground.phase},{on:=16,ground:=Ground.phase},{on:=17,ground:=Ground.phase},{on:=18,ground:=Ground.phase}],guard:=none}
def We(x0:Nd)(ni:List Nd)(nf:List BA)(F:Bool)(ly:Int)(e:Ending):Prop:=e=.returned (.bool (decide (ly=0)&&(F|| !Fi (x0::ni) nf)))
theorem Zl{w:World}{b:Nat}{B:Bx}{x0:Nd}{ni:List Nd}(h:AX w b B)(ao:Bv B x0 ni)(G:List Value){na:Option Addr}{nc:Nat}{nf:List BA}{I:Bool}{ly:Int}(az:G[10]? =some (.slice na nf.length nc))(f16:G[16]? =some (.bool I))(f20:G[20]? =some (.int .i64 ly))(a1:AW w.cell? na nf)(a6:nf.length≤1000)(a7:nf.length≤nc∧nc≤9223372036854775807):
 Calls prog 142 #[.pointer (some ⟨b,0,none⟩),BT G] w fun e w'=>We x0 ni nf I ly e∧Bw w w':=by
 have Z:=A7.new2 w _ rfl G 101;have aa:Bw w (w.alloc (.cells G.toArray 101)):=(nv _ _).alloc (nn _) _;have ap:=h.below aa;have ar:=ap.lay;have ay:=ap.cells.2.2.1;rw[ao.xs]at ar ay;have a8:(w.alloc (.cells G.toArray 101)).cell? ⟨w.heap.size,10,none⟩=some (.slice na nf.length nc):=by simpa using Z 10 _ az
 have ba:(w.alloc (.cells G.toArray 101)).cell? ⟨w.heap.size,16,none⟩=some (.bool I):=by simpa using Z 16 _ f16
 have bb:(w.alloc (.cells G.toArray 101)).cell? ⟨w.heap.size,20,none⟩=some (.int .i64 ly):=by simpa using Z 20 _ f20
 have O:Ce (w.alloc (.cells G.toArray 101)).drew w.heap.size 10 (.slice na nf.length nc)∧Ce (w.alloc (.cells G.toArray 101)).drew w.heap.size 16 (.bool I)∧Ce (w.alloc (.cells G.toArray 101)).drew w.heap.size 20 (.int .i64 ly)∧Ce (w.alloc (.cells G.toArray 101)).drew b 2 (.slice B.la (ni.length+1) B.lc):=⟨a8,ba,bb,ay⟩;obtain⟨J,bd⟩:∃J,Hid (Fi (x0::ni) nf=J):=⟨_,rfl⟩;have bg:Hid (Calls prog 97 #[.slice B.la (ni.length+1) B.lc,.slice na nf.length nc] (w.alloc (.cells G.toArray 101)).drew fun e w'=>e=.returned (.bool J)∧Bw (w.alloc (.cells G.toArray 101)).drew w'):=by
  have e:=Nj (w:=(w.alloc (.cells G.toArray 101)).drew) (S:=fun _=>false) (xs:=x0::ni) (a:=B.la) (cap:=B.lc) (an:=na) (nj:=nc) (nf:=nf) (fun _ bi=>(by cases bi)) (by rw[Dg];exact ar) (by rw[Dg];exact a1.on (Aj aa.drew)) (ao.sz.ok (by omega)) a6 a7;rw[bd.out]at e;exact e
 have ab:=hid aa.drew;have be:=BV G;unfold Value.cells at be;clear Z az f16 f20 a8 ba bb ar ay ap aa h ao a1 a6 a7;go_enter func142,ntmps142;go_upto_region 1 with fail
 clear be;generalize(w.alloc (.cells G.toArray 101))=bn at*;refine wp_region_held_drew (S:=fun w'=>Ce w' w.heap.size 10 (.slice na nf.length nc)∧Ce w' w.heap.size 16 (.bool I)∧Ce w' w.heap.size 20 (.int .i64 ly)∧Ce w' b 2 (.slice B.la (ni.length+1) B.lc)) (by kernel_rfl) O (fun F=>?_);refine tI 0 fP (.pointer (some ⟨w.heap.size,20,none⟩)) F ?_;simp only[tk];refine tI 1 fN (.int .i64 ly) F ?_;simp only[tk];by_cases Q:ly=0
 ·refine nT (i:=2) (oi:=VS) (v:=.bool true) rfl (by kernel_rfl) (by kernel_rfl) (by kernel_rfl) (fun _ _ _ h=>h) (Or.inl ⟨by rfl,fun w H=>by obtain⟨R,T,V,Y⟩:=H;first|(go_simp;done)|(go_simp;simp[Q])⟩) F ?_
  simp only[tk];refine tI 3 VU (.bool true) F ?_;simp only[tk];refine tI 4 V6 (.pointer (some ⟨w.heap.size,12,none⟩)) F ?_;simp only[tk];refine tI 5 VQ (.pointer (some ⟨w.heap.size,16,none⟩)) F ?_;simp only[tk];refine tI 6 VW (.bool I) F ?_;simp only[tk];cases I with
  |true=>
   refine tI 7 Pz (.bool true) F ?_;simp only[tk];refine tO 8 Px F ?_;simp only[tk];refine tO 9 Pv F ?_;simp only[tk];refine tO 10 Pg F ?_;simp only[tk];refine tO 11 O7 F ?_;simp only[tk];refine tO 12 Pj F ?_;simp only[tk];refine tO 13 O2 F ?_;simp only[tk];refine tO 14 O5 F ?_;simp only[tk];refine tO 15 Pi F ?_;simp only[tk];refine tO 16 Pf F ?_;simp only[tk];refine tI 17 Pq (.bool true) F ?_;simp only[tk];refine tI 18 Pd (.bool true) F ?_;simp only[tk];refine tI 19 Pm (.bool true) F ?_;simp only[tk];refine rN (by kernel_rfl) ?_ _;go_wp2;go_ret;exact⟨nW (fun x=>Ending.returned (.bool x)) (show true=_ by simp[Q]),ab.out⟩
  |false=>
   refine tI 7 Pz (.bool false) F ?_;simp only[tk];refine tI 8 Px (.pointer (some ⟨b,0,none⟩)) F ?_;simp only[tk];refine tI 9 Pv (.pointer (some ⟨b,0,none⟩)) F ?_;simp only[tk];refine tI 10 Pg (.pointer (some ⟨b,0,none⟩)) F ?_;simp only[tk];refine tI 11 O7 (.pointer (some ⟨b,2,none⟩)) F ?_;simp only[tk];refine tI 12 Pj (.slice B.la (ni.length+1) B.lc) F ?_;simp only[tk];refine tI 13 O2 (.pointer (some ⟨w.heap.size,10,none⟩)) F ?_;simp only[tk];refine tI 14 O5 (.slice na nf.length nc) F ?_;simp only[tk];refine wpAnyH_ready (rs:=[15]) (by kernel_rfl) (by simp) ?_;refine AllReadyH.cons (o:=Pi) rfl (fun K bf=>?_) AllReadyH.nil;rw[nD (by rfl)];go_simp;refine np bg.out ?_;rintro e ad ⟨rfl,q6⟩;have bk:Ce ad w.heap.size 10 (.slice na nf.length nc)∧Ce ad w.heap.size 16 (.bool false)∧Ce ad w.heap.size 20 (.int .i64 ly)∧Ce ad b 2 (.slice B.la (ni.length+1) B.lc):=⟨Af q6 O.1,Af q6 O.2.1,Af q6 O.2.2.1,Af q6 O.2.2.2⟩;have bl:=hid (ab.out.trans (q6.mono ab.out.size));clear q6;go_wp2_with fail
   refine bf.out _ _ bk (fun ak=>?_);clear bf K;refine nT (i:=16) (oi:=Pf) (v:=.bool (!J)) rfl (by kernel_rfl) (by kernel_rfl) (by kernel_rfl) (fun _ _ _ h=>h) (Or.inl ⟨by rfl,fun w H=>by obtain⟨R,T,V,Y⟩:=H;go_simp⟩) ak ?_;simp only[tk];refine nT (i:=17) (oi:=Pq) (v:=.bool (!J)) rfl (by kernel_rfl) (by kernel_rfl) (by kernel_rfl) (fun _ _ _ h=>h) (Or.inl ⟨by rfl,fun w H=>by obtain⟨R,T,V,Y⟩:=H;go_simp⟩) ak ?_;simp only[tk];refine nT (i:=18) (oi:=Pd) (v:=.bool (!J)) rfl (by kernel_rfl) (by kernel_rfl) (by kernel_rfl) (fun _ _ _ h=>h) (Or.inl ⟨by rfl,fun w H=>by obtain⟨R,T,V,Y⟩:=H;go_simp⟩) ak ?_;simp only[tk];refine nT (i:=19) (oi:=Pm) (v:=.bool (!J)) rfl (by kernel_rfl) (by kernel_rfl) (by kernel_rfl) (fun _ _ _ h=>h) (Or.inl ⟨by rfl,fun w H=>by obtain⟨R,T,V,Y⟩:=H;go_simp⟩) ak ?_;simp only[tk];refine rN (by kernel_rfl) ?_ _;go_wp2;go_ret;exact⟨nW (fun x=>Ending.returned (.bool x)) (show(!_)=_ by rw[bd.out];simp[Q]),bl.out⟩
 ·refine nT (i:=2) (oi:=VS) (v:=.bool false) rfl (by kernel_rfl) (by kernel_rfl) (by kernel_rfl) (fun _ _ _ h=>h) (Or.inl ⟨by rfl,fun w H=>by obtain⟨R,T,V,Y⟩:=H;first|(go_simp;done)|(go_simp;simp[Q])⟩) F ?_
  simp only[tk];refine tI 3 VU (.bool false) F ?_;simp only[tk];refine tO 4 V6 F ?_;simp only[tk];refine tO 5 VQ F ?_;simp only[tk];refine tO 6 VW F ?_;simp only[tk];refine tO 7 Pz F ?_;simp only[tk];refine tO 8 Px F ?_;simp only[tk];refine tO 9 Pv F ?_;simp only[tk];refine tO 10 Pg F ?_;simp only[tk];refine tO 11 O7 F ?_;simp only[tk];refine tO 12 Pj F ?_;simp only[tk];refine tO 13 O2 F ?_;simp only[tk];refine tO 14 O5 F ?_;simp only[tk];refine tO 15 Pi F ?_;simp only[tk];refine tO 16 Pf F ?_;simp only[tk];refine tO 17 Pq F ?_;simp only[tk];refine tI 18 Pd (.bool false) F ?_;simp only[tk];refine tI 19 Pm (.bool false) F ?_;simp only[tk];refine rN (by kernel_rfl) ?_ _;go_wp2;go_ret;exact⟨nW (fun x=>Ending.returned (.bool x)) (show false=_ by simp[Q]),ab.out⟩
end Go.Proofs.YtofhphibahcniaaGreatDoor
namespace Go.Proofs.YtofhphibahcniaaGreatDoor
open Go.RowKit Go.Shelf Go.Proofs.Tryz
theorem Tryz.infoStr:(prog.info? 9).map (fun i=>(i.zero,i.size,i.bytes))=some (some (.string ⟨#[]⟩),1,16):=by kernel_rfl
def FW(l:List BA):List Value:=l.map .string
theorem Zw(l:List BA):∀u∈FW l,u.oneCell'=true:=fun u F=>by
 obtain⟨s,_,rfl⟩:=rx.1 F;rfl
theorem Yn{w:World}{base:Nat}{S:Nat→Bool}(F:∀k,S k=true→k<base){v:Value}{l:List BA}(h:w.ownsRow base 9 1 v l.length (FW l)):∃a cap,v=.slice a l.length cap∧l.length≤cap∧cap≤9223372036854775807∧AW (Ag w.cell? S) a l:=by
 obtain⟨a,cap,G,H,I,J⟩:=Df h;refine⟨a,cap,G,H,I,?_⟩;rcases J with⟨_,O,_⟩|⟨g,Q,hb,_,R,_⟩
 ·exact .inl (nX O)
 ·refine .inr ⟨g,0,Q,fun i s T=>?_⟩
  rw[Ck,nU]
  ·refine R i _ ?_
   unfold FW;rw[n4,T];rfl
  ·show S g=false
   cases hh:S g with
   |false=>rfl
   |true=>have:=F g hh;omega
theorem Nr{w:World}{S:Nat→Bool}(ar:∀k,S k=true→k<w.heap.size){a:Option Addr}{cap:Nat}{xs:List Nd}{an:Option Addr}{nj:Nat}{nf:List BA}(hx:Cn (Ag w.cell? S) a xs)(Q:AW (Ag w.cell? S) an nf)(ab:Ft xs)(bF:nf.length≤1000):
 Calls prog 45 #[.slice a xs.length cap,.slice an nf.length nj] w fun e w'=>(∃ad ay,e=.returned (.slice ad (CS (AI xs nf)).length ay)∧(CS (AI xs nf)).length≤ay∧ay≤9223372036854775807∧AW (Ag w'.cell? S) ad (CS (AI xs nf)))∧Below w.heap.size w w':=by
 have az:Hid _:=Ty (cap:=cap) (nj:=nj) ar hx Q ab.len bF ab.small;have V:Hid _:=ab.stack nf;have bi:Hid _:=ar;clear hx Q ab ar;generalize AI xs nf=F at az V⊢;obtain⟨bG,bk,bl,bn,bo⟩:=DC Tryz.infoStr;have bH:Hid _:=bk;have bY:Hid _:=bl;have b0:Hid _:=bn;have b1:Hid _:=bo;clear bk bl bn bo;go_enter func45,ntmps45;go_wp2_with fail
 refine np az.out ?_;rintro e ak ⟨v,rfl,b2,ao⟩;obtain⟨b3,vc,D,rfl,g1,b4,g3,g4,I⟩:=b2;have bp:Hid (cL 74 #[.slice b3 D.length vc] ak fun e w'=>∃v,e=.returned v∧PH (Ag w'.cell? S) v ((CS F).map fun nm=>(nm,CK F nm))∧Below ak.heap.size ak w'):=by
  have e:=X3 (w:=ak) (S:=S) (vc:=vc) (D:=D) (fun k a1=>nH (bi.out k a1) ao.size) g3 g4 (by
   cases D with
   |nil=>intro i j a b b5;simp at b5
   |cons s D=>exact fF I (V.out (by rw[←I];simp)).ly) (fun s Q=>(V.out (by rw[←I];intro e;rw[List.map_eq_nil_iff]at e;rw[e]at Q;cases Q)).lil s.pr (by rw[←I];exact rW Q)) (by
   rw[I];by_cases Y:F=[]
   ·rw[Y];exact nN _
   ·exact(V.out Y).tot)
  rw[I]at e;exact e
 have b6:Hid ((CS F).length≤1000):=by
  show _≤_;have H:=YL F;by_cases Y:F=[]
  ·rw[Y];exact nN _
  ·have:=(V.out Y).tot;omega
 clear az g1 b4 g3 g4 I;go_wp2_with fail
 refine np bp.out ?_;rintro e J ⟨v5,rfl,b7,bs⟩;obtain⟨b9,db,G,rfl,cb,dd,bu,cd,bv⟩:=b7;have a6:Hid (G.map (·.n)=CS F):=by
  show _=_;have H:=nW (List.map Prod.fst) bv;rw[r4,r4]at H;have a7:(CS F).map (Prod.fst∘fun nm=>(nm,CK F nm))=CS F:=by
   have:(Prod.fst∘fun nm:BA=>(nm,CK F nm))=id:=rfl;rw[this,List.map_id]
  rw[a7]at H;rw[←H];unfold Cm;rw[r4];rfl
 have bx:G.length=(CS F).length:=by rw[←a6.out,rk]
 have cf:Hid _:=bu;have a8:=ao.trans (bs.mono ao.size);obtain⟨O,Z⟩:=AQ G.length;have de:O≤1000:=by have:=b6.out;rw[←bx,Z.out]at this;exact this
 rw[Z.out]at cb⊢;clear bp bu cd bv ao bs bx;go_wp2;go_loopw [5,13] (fun v i wr=>∃j:Nat,j≤O∧i=iN j∧Hid (wr.ownsRow J.heap.size 9 1 v j (FW ((G.map (·.n)).take j)))∧Hid (Below J.heap.size J wr)) (fun _ i _=>O-(intOf i).toNat)
 case atStart=>exact⟨0,nN _,rfl,rB _ _ _ _,nv _ _⟩
 case round=>
  obtain⟨j,dg,rfl,ba,R⟩:=hrel;by_cases cg:j<O
  ·have ch:decide ((j:Int)<(O:Int))=true:=nF (by omega)
   have dj:(j:Int)<(O:Int):=by omega
   obtain⟨e,aa⟩:∃e,G[j]? =some e:=⟨_,nt (by rw[Z.out];exact cg)⟩;obtain⟨dk,cl,bA⟩:∃b,b9=some (aD b 0)∧∀(i:Nat) e,G[i]? =some e→Ag J.cell? S (aD b (i*2))=some (.string e.n)∧Ag J.cell? S (aD b (i*2+1))=some (.slice e.a e.L.length e.c):=by
    rcases cf.out with q|q
    ·rw[q]at aa;simp at aa
    ·exact q
   subst cl;obtain⟨x0,bb⟩:=bA j e aa;have x0:=Aj R.out _ _ (Ci _ _ _ _ x0);have bb:=Aj R.out _ _ (Ci _ _ _ _ bb);have co:Hid (FW ((G.map (·.n)).take (j+1))=FW ((G.map (·.n)).take j)++FW [e.n]):=by
    show _=_;rw[rv,n4,aa];unfold FW;rw[rA];rfl
   obtain⟨bd,be⟩:=GF wr (.string e.n) (.slice e.a e.L.length e.c) 134;have bf:=(nv _ wr).alloc (nn _) (.cells #[.string e.n,.slice e.a e.L.length e.c] 134);have ap:Hid _:=Fp ba.out bf;have T:Hid _:=R.out.trans (bf.mono R.out.size);clear aa bA ba R bf;go_upto_region 5 with fail
   generalize wr.alloc (.cells #[.string e.n,.slice e.a e.L.length e.c] 134)=bg at bd be ap T⊢;generalize wr.heap.size=dm at bd be⊢;clear x0 bb;go_wp2_with (at_builtin;refine DZ (bg.alloc (.cells #[.string e.n] 9)) rfl (.tmp 17) (.tmp 20) 42 rfl J.heap.size 9 bG (.string ⟨#[]⟩) 1 16 underlying42 bH.out bY.out b0.out b1.out rfl (by decide) u5 j (FW ((G.map (·.n)).take j)) rfl (World.ownsRow.alloc ap.out _) (some (aD bg.heap.size 0)) 1 1 (FW [e.n]) rfl rfl (.inr ⟨_,rfl,fun q t cp=>by rw[D2,nU];refine aC.trans ?_;simpa [FW]using cp⟩) (Zw _) (by unfold maxLen;omega) (by omega) (by have:=(Below.size T.out);rw[nw];omega) ?_)
   intro cr cu bB bC cx;have c3:Hid (cu.ownsRow J.heap.size 9 1 cr (j+1) (FW ((G.map (·.n)).take (j+1)))):=by
    show World.ownsRow ..;rw[co.out];exact bB
   have c4:=hid ((Below.trans T.out (((nv _ bg).alloc (Below.size T.out) _))).grown bC (by have:=(Below.size T.out);rw[nw];omega) (fun g e=>((World.ownsRow.lt ap.out) g e).1));clear bB bC cx ap T bd be;go_wp2;go_roundw
   case rel=>exact⟨j+1,by omega,by go_num,c3.out,c4.out⟩
   case measure=>(simp[intOf];try omega)
  ·obtain rfl:j=O:=by omega
   have ch:=nB (by omega);go_wp2;go_ret;have H:=ba.out;rw[n1 (by rw[rk,Z.out];omega),a6.out]at H;have c5:(CS F).length=j:=by rw[←a6.out,rk,Z.out]
   rw[←c5]at H;obtain⟨ad,c6,c8,a7,c9,da⟩:=Yn (S:=S) (fun k a1=>nH (bi.out k a1) a8.size) H;exact⟨⟨ad,c6,by rw[c8];rfl,a7,c9,da⟩,a8.trans (R.out.mono a8.size)⟩
end Go.Proofs.YtofhphibahcniaaGreatDoor
