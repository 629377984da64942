/- Part: Yb Yo Yp Yq Yr Gc Yg. -/
import Derived.Test.YtchpdmjlicmdaaaGreatDoorChX
set_option maxRecDepth 100000
set_option maxHeartbeats 16000000
namespace Go.Proofs.YtchpdmjlicmdaaaGreatDoor
open Go.RowKit Go.Proofs.Tryz
variable {g u:Int}{G w:World}{x x0:Nd}{hd:Hd}{b:Nat}{B:Bx}{rM:List Nd}{ry:List BA}
theorem mU{us gs:List Rg}{k m:Int}{o:Bool}{rL:List Kv}{d:BA}{ks:Ay}{y:Nd}(h:BH true us gs (.mk k m u g o rL d ks)=some y):∃G H,y=.mk k m G H o rL d ks:=by grind [BH]
theorem Zj{us gs:List Rg}{k m I J G H:Int}{o O:Bool}{rL Z:List Kv}{d ab:BA}{ks ad:Ay}(h:BH true us gs (.mk k m u g o rL d ks)=some (.mk I J G H O Z ab ad)):A4 G/\A4 H:=by grind [BH,Zu]
theorem mZ{zs:List Int}{c:Int}(h:DZ u g zs c=0):(0<=c/\c<=15/\zs.length<=8)/\A4 u/\A4 g:=by
 unfold DZ at h;split at h
 .cases h
 .rename_i hq
  split at h
  .cases h
  .rename_i h4
   have G:CX u=true:=by
    grind
   have H:CX g=true:=by
    grind
   have I:¬(c<0\/15<c):=λe=>hq<|.inr<|.inr e;unfold CX at G H
   simp at G H;exact⟨⟨by omega,by omega,by omega⟩,⟨by omega,by omega⟩,⟨by omega,by omega⟩⟩
def Ka(us gs:List Rg)(u:Int)(x0:Nd)(rM:List Nd)(ry:List BA)(kd m G:Int)(dat:BA):Int×Nd:=match BH true us gs (.mk kd m u G false [] dat [])with
 |none=>(11,x0)
 |some (.mk _ _ ux gx _ _ _ _)=>Qt us gs x0 rM ry kd m ux gx dat
def Bk.crS(c:Bk)(x0:Nd)(rM:List Nd)(t:Th)(ry:List BA)(kd md:Int)(dat:BA):Int×Nd:=if c.bx.mayE t 2=0 then(if bits .and .i64 t.m 1024=0 then Ka c.us c.gs c.u x0 rM ry kd (FW c.g c.cs c.k md c.g) c.g dat else if t.p=true then Ka c.us c.gs c.u x0 rM ry kd (if kd=2 then bits .or .i64 (FW c.g c.cs c.k md t.g) 1024 else FW c.g c.cs c.k md t.g) t.g dat else(11,x0))else(c.bx.mayE t 2,x0)
structure Ga (w wx:World) (x:Nd) (hd:Hd) (fs:List Value):Prop where
 n:AC wx (w.heap.size+1) x hd
 e:∀o,8<=o->wx.cell? (aD (w.heap.size+1) o)=none
 f:Bj wx w.heap.size 0 fs
 b:Bw w wx
theorem Ga.below{w':World}{H:List Value}(h:Ga w G x hd H)(q:Bw G w'):Ga w w' x hd H:=⟨h.n.below q,λo I=>(q.cell (p:=(aD (w.heap.size+1) o)) h.n.1.lt).trans<|h.e o I,h.f.below q,h.b.trans<|q.mono h.b.size⟩
theorem Ga.drew{H:List Value}(h:Ga w G x hd H):Ga w G.drew x hd H:=h.below (NB _ _).drew
theorem Ga.put{H:Nd}{I:List Value}(h:Ga w G x hd I){i:Nat}{v:Value}(ab:i<8)(J:AC (G.setCell (aD (w.heap.size+1) i) v) (w.heap.size+1) H hd):Ga w (G.setCell (aD (w.heap.size+1) i) v) H hd I:=⟨J,λo O=>(Bt oM).trans<|h.e o O,λj u Z=>(BO (by show w.heap.size≠w.heap.size+1;omega)).trans<|h.f j u Z,h.b.setCell (tN _) _⟩
theorem Ga.sto{H:World}{I:List Value}(h:Ga w H x hd I)(J:Nd)(hx:Hd):Ga w (As H (w.heap.size+1) J hx) J hx I:=by
 refine⟨h.n.store _ _,λo O=>?_,λj u G=>?_,h.b.trans<|Cb.below (tN _) h.b.size⟩
 .rw[KM]
  exact(GQ (λj G e=>by injection e with _ e2;omega)).trans (h.e o O)
 .rw[KM]
  exact(GQ (λj G e=>by injection e with e1 _;omega)).trans (h.f j u G)
def QB(G:Bool)(kd z:Int):Int:=if(G&&kd==2)=true then bits .or .i64 z 1024 else z
abbrev TM:=λb (B:Bx) zw gv (X:World)=>(Ce X b 3 (iN B.u)/\Ce X b 4 (iN B.g)/\Ce X b 5 (.slice B.ca B.cs.length B.cc)/\Ce X b 6 (iN B.k)/\Ce X (zw+1) 3 (iN gv):Prop)
abbrev Qd:=λb (B:Bx) (X:World)=>(Ce X b 3 (iN B.u)/\Ce X b 4 (iN B.g):Prop)
theorem UY(h:A6 w b B)(cx:BN B x0 rM){f:Fd}(cD:Jc B w f.ry f)(d2:f.there=false)(cF:Bi w.cell? f.na f.ry)(c3:∀s∈f.ry,Bf s=true)(c4:f.ry.length<=100)(c5:f.ry.length<=f.nc/\f.nc<=9223372036854775807)
 {kd md:Int} {dat:BA} (bY:kd=1\/kd=2) (d3:0<=md/\md<=4095) (d4:dat.size<=300):
 Calls prog 161 #[pO b 0,Cg f.l,.agg #[iN kd,iN md,iN 0,iN 0,.bool false,nL,.string dat,nL]] w λe w'=>e=.returned (Ao (fin B.q x0<|B.cor.crS x0 rM f.dir f.ry kd md dat).1)/\De w w' b B rM (fin B.q x0<|B.cor.crS x0 rM f.dir f.ry kd md dat).2 B.crd:=by
 obtain⟨S,H⟩:=Aq<|B.cor.crS x0 rM f.dir f.ry kd md dat;rw[H.out];obtain⟨⟨c6,c8⟩,b0⟩:∃R,Hid<|fin B.q x0 S=R:=⟨_,rfl⟩;rw[b0.out];have c9:Hid<|f.ry≠[]:=cD.no d2;have b1:=cD.dir;obtain⟨G,a8⟩:∃G,f.l=G:=⟨_,rfl⟩;rw[a8];obtain⟨t,⟨bi,az,bk,Z,ao⟩,na,nc,ry,g0,⟨g2,g5,g6,g7,g8,g9,ha,xs⟩,hc,ly⟩:=f;have d5:G[5]? =some (.bool bi):=by rw[<-a8];rfl
 have da:G[6]? =some (iN az):=by rw[<-a8];rfl
 have d6:G[7]? =some (iN bk):=by rw[<-a8];rfl
 have dd:G[8]? =some (iN Z):=by rw[<-a8];rfl
 have de:G[9]? =some (.bool ao):=by rw[<-a8];rfl
 have d7:G[10]? =some (.slice na ry.length nc):=by rw[<-a8];rfl
 dsimp only at cF c3 c4 c5 c9 b1 H;unfold Bk.crS at H;replace H:Hid<|(if B.mayE ⟨bi,az,bk,Z,ao⟩ 2=0 then(if bits .and .i64 az 1024=0 then Ka B.M.us B.M.gs B.u x0 rM ry kd (FW B.g B.cs B.k md B.g) B.g dat else if ao=true then Ka B.M.us B.M.gs B.u x0 rM ry kd (if kd=2 then bits .or .i64 (FW B.g B.cs B.k md Z) 1024 else FW B.g B.cs B.k md Z) Z dat else(11,x0))else(B.mayE ⟨bi,az,bk,Z,ao⟩ 2,x0))=S:=H.out;have a1:Hid<|A6 w b B:=h;have bu:Hid<|BN B x0 rM:=cx;have d8:Hid<|Bi w.cell? na ry:=cF;have d9:Hid (∀s∈ry,Bf s=true):=c3;have eb:Hid<|ry.length<=100:=c4;have ed:Hid<|ry.length<=nc/\nc<=9223372036854775807:=c5;have ee:Hid<|kd=1\/kd=2:=bY;have dg:Hid<|0<=md/\md<=4095:=d3;have ef:Hid<|dat.size<=300:=d4;have b2:=mZ cx.cred.1;have b4:Hid<|0<=B.k/\B.k<=15/\B.cs.length<=8:=b2.1;have eg:Hid<|A4 B.u/\A4 B.g:=b2.2;have ej:Hid<|A4 B.g:=b2.2.2;have ek:Hid<|A4 Z:=b1.2.2;have b6:=hid<|De.stay a1 bu;have b7:Hid (∀E,E≠0->S=(E,x0)->c6=E/\c8=x0):=λE em e=>Jw em<|e▸b0;have en:=Bj.new2 w _ rfl G 216
 have dj:Bw w<|w.alloc<|Bm G:=(NB _ _).alloc (rP _) _;have eo:Bw (w.alloc<|Bm G)<|(w.alloc<|Bm G).alloc<|.cells #[iN kd,iN md,iN 0,iN 0,.bool false,nL,.string dat,nL] 31:=(NB _ _).alloc (rP _) _;have dk:=AC.new (w.alloc<|Bm G) kd md 0 0 false [] dat [] zH;rw[ND]at dk
 have ba:Hid<|Ga w ((w.alloc<|Bm G).alloc<|.cells #[iN kd,iN md,iN 0,iN 0,.bool false,nL,.string dat,nL] 31) (.mk kd md 0 0 false [] dat []) zH G:=⟨dk,λo ep=>by
  rw[rO _ _ _ _<|by rw[ND]];exact C4 (by simpa using ep),en.below eo,dj.alloc dj.size _⟩
 have eq:=hid<|KF (a1.below ba.b) ⟨bi,az,bk,Z,ao⟩ 2 b1.1;generalize B.mayE ⟨bi,az,bk,Z,ao⟩ 2=R at*;have bx:Hid<|G[6]? =some (iN az)/\G[8]? =some (iN Z)/\G[9]? =some (.bool ao)/\G[10]? =some (.slice na ry.length nc):=⟨da,dd,de,d7⟩;have he:=ba.out.f 5 _ d5;have hf:=ba.out.f 6 _ da;have hg:=ba.out.f 7 _ d6;have hh:=ba.out.f 8 _ dd;have hi:=ba.out.f 9 _ de;have er:=Cn G;unfold Value.cells at er;go_enter func161,ntmps161;go_wp2_with fail
 generalize((w.alloc<|Bm G).alloc<|.cells #[iN kd,iN md,iN 0,iN 0,.bool false,nL,.string dat,nL] 31)=hj at*;refine rQ eq.out ?_;rintro e ab ⟨rfl,es⟩;have bf:=hid<|ba.below es;by_cases bA:R=0
 case neg=>
  have dm:=AP (n:=R) rfl bA;rw[dm];go_wp2;go_ret;obtain⟨rfl,rfl⟩:=b7 R bA (by rw[<-H.out,NO bA]);exact⟨by rw[dm];rfl,b6 _ bf.b⟩
 subst bA;rw[NS rfl]at H;rw[show Ao 0=Value.nilIface from rfl];have dn:=a1.out.below bf.b;have O:(Qd b B ab.drew):=⟨dn.cells.2.2.2.1,dn.cells.2.2.2.2.1⟩;obtain⟨⟨_,_,b9,bb,_,_,_,_⟩,bB⟩:=id bf.n;have hk:Ce ab.drew (w.heap.size+1) 2<|iN 0:=b9;have hl:Ce ab.drew (w.heap.size+1) 3<|iN 0:=bb;have f2:ab.drew.frozen? ⟨w.heap.size+1,2,none⟩=false:=bB 2;have f3:ab.drew.frozen? ⟨w.heap.size+1,3,none⟩=false:=bB 3;have eu:b<w.heap.size:=a1.lt;have ap:(Qd b B (ab.setCell ⟨w.heap.size+1,2,none⟩<|iN B.u).drew):=⟨(BO (w:=ab) (by show b≠w.heap.size+1;omega)).trans O.1,(BO (w:=ab) (by show b≠w.heap.size+1;omega)).trans O.2⟩;have ev:(Qd b B ((ab.setCell ⟨w.heap.size+1,2,none⟩<|iN B.u).setCell ⟨w.heap.size+1,3,none⟩<|iN B.g).drew):=⟨(BO (w:=(ab.setCell ⟨w.heap.size+1,2,none⟩<|iN B.u)) (by show b≠w.heap.size+1;omega)).trans ap.1,(BO (w:=(ab.setCell ⟨w.heap.size+1,2,none⟩<|iN B.u)) (by show b≠w.heap.size+1;omega)).trans ap.2⟩;have hm:Ce (ab.setCell ⟨w.heap.size+1,2,none⟩<|iN B.u).drew (w.heap.size+1) 3<|iN 0:=(Bt (w:=ab) oM).trans bb;have hn:(ab.setCell ⟨w.heap.size+1,2,none⟩<|iN B.u).drew.frozen? ⟨w.heap.size+1,3,none⟩=false:=by have:=bB 3;simpa using this
 have ad:=hid ((bf.put oM<|bf.n.set2 B.u).put oM<|(bf.n.set2 B.u).set3 B.g).drew;go_upto_region 4 with fail
 go_region_held3 (λw'=>(Qd b B w')) (first|with_reducible exact O|with_reducible exact ap|with_reducible exact ev) (fail)
 all_goals
  generalize((ab.setCell ⟨w.heap.size+1,2,none⟩<|iN B.u).setCell ⟨w.heap.size+1,3,none⟩<|iN B.g).drew=ce at*;have dp:Ce ce w.heap.size 6<|iN az:=ad.f 6 _ bx.1;have ho:Ce ce w.heap.size 8<|iN Z:=ad.f 8 _ bx.2.1;have a9:Ce ce w.heap.size 9<|.bool ao:=ad.f 9 _ bx.2.2.1;obtain⟨a6,ew⟩:∃a6,(bits .and .i64 az 1024 !=0)=a6:=⟨_,rfl⟩;have cf:=hid ew;by_cases dr:a6=true/\ao=false
  .obtain⟨rfl,rfl⟩:=dr
   rw[NO<|by simpa using cf.out]at H;go_wp2;go_ret;obtain⟨rfl,rfl⟩:=b7 11 oD (by rw[<-H.out];exact NO oD);exact⟨rfl,b6 _ ad.b⟩
  go_upto_if 34 with fail
  go_cut []from 35 (λal=>∃I,A4 I/\Ga w al (.mk kd md B.u I false [] dat []) zH G/\Ka B.M.us B.M.gs B.u x0 rM ry kd (QB a6 kd<|FW B.g B.cs B.k md I) I dat=S)
  case first=>
   cases a6 with
   |false=>
    rw[NS<|by simpa using cf.out]at H;go_wp2;go_meet
    exact⟨B.g,ej,ad,H⟩
   |true=>
    obtain rfl:ao=true:=by cases ao;exact absurd ⟨rfl,rfl⟩ dr;rfl
    rw[NO (by simpa using cf.out),NS rfl]at H;have ey:Hid<|Ka B.M.us B.M.gs B.u x0 rM ry kd (QB true kd<|FW B.g B.cs B.k md Z) Z dat=S:=by have e:=H.out;rcases bY with rfl|rfl<;>exact e
    have bb:=ad.out.n.1.2.2.2.1;have f3:=ad.out.n.2 3;have ez:=hid<|ad.put oM<|ad.n.set3 Z;go_wp2;go_meet
    exact⟨Z,ek,ez,ey⟩
  case rest=>
   obtain⟨I,eB,eD,eE⟩:=hcut;have ad:=hid eD;have H:=hid eE;have eF:=hid eB;generalize wc=ch at*;go_upto_region 10 with fail
   have ds:=a1.out.below ad.b;obtain⟨_,_,_,a3,a4,a5,dp,_⟩:=ds.cells;obtain⟨⟨_,cl,_,bb,_,_,_,_⟩,_⟩:=ad.n;have O:(TM b B w.heap.size I ch.drew):=⟨a3,a4,a5,dp,bb⟩;obtain⟨t3,t4,t5,hp,hq⟩:=id O;have hr:Ce ch.drew (w.heap.size+1) 1<|iN md:=cl;have du:=hid<|V9 B.u B.g B.k md I B.ca B.cc B.cs ch.drew b4.2.2 (ds.grp.below (NB _ _).drew) b4.1 b4.2.1 dg.out.1 dg.out.2;obtain⟨bd,eL⟩:=Aq<|FW B.g B.cs B.k md I;rw[eL.out]at du H;have eX:=hid ad.drew;have eu:b<w.heap.size+1:=by have:=a1.out.lt;omega
   go_cut []from 44 (λal=>Ga w al (.mk kd bd B.u I false [] dat []) zH G)
   case first=>
    go_region_with (first|(go_at_call 180;(refine rQ du.out ?_);rintro e bl ⟨rfl,q6⟩;have ap:(TM b B w.heap.size I bl):=⟨Aj q6 O.1,Aj q6 O.2.1,Aj q6 O.2.2.1,Aj q6 O.2.2.2.1,Aj q6 O.2.2.2.2⟩;have bC:=hid<|eX.out.below q6;have e0:Ce bl (w.heap.size+1) 1<|iN md:=bC.out.n.1.2.1;have e1:bl.frozen? ⟨w.heap.size+1,1,none⟩=false:=bC.out.n.2 1;have aA:=hid<|bC.out.put oM<|bC.out.n.set1 bd;have hs:(TM b B w.heap.size I<|bl.setCell ⟨w.heap.size+1,1,none⟩<|iN bd):=⟨(BO (by show b≠w.heap.size+1;omega)).trans ap.1,(BO (by show b≠w.heap.size+1;omega)).trans ap.2.1,(BO (by show b≠w.heap.size+1;omega)).trans ap.2.2.1,(BO (by show b≠w.heap.size+1;omega)).trans ap.2.2.2.1,(Bt (by show(3:Nat)≠1;omega)).trans ap.2.2.2.2⟩))
    all_goals
     generalize bl.setCell ⟨w.heap.size+1,1,none⟩ (iN bd)=bn at aA⊢;go_wp2_with fail
     go_meet
     exact aA
   case rest=>
    have aA:=hid hcut;generalize wc=bn at*;have ht:Ce bn (w.heap.size+1) 0<|iN kd:=aA.n.1.1;have e0:Ce bn (w.heap.size+1) 1<|iN bd:=aA.n.1.2.1;have e1:bn.frozen? ⟨w.heap.size+1,1,none⟩=false:=aA.n.2 1;obtain⟨J,bF⟩:=Aq<|QB a6 kd bd;rw[bF.out]at H;have e2:=hid<|aA.put oM<|aA.n.set1 J;obtain⟨bG,dw⟩:=Aq<|(a6&&kd==2);unfold QB at bF;rw[dw.out]at bF;go_upto_region 11 with fail
    go_cut [59]from 54 (λbo al=>bo=.bool bG/\al=bn)
    case first=>
     have dx:=dw.out;cases a6;case' true=>rcases bY with rfl|rfl
     all_goals
      first|obtain rfl:false=bG:=dx|obtain rfl:true=bG:=dx
      go_wp2;go_meet
      exact⟨rfl,rfl⟩
    case' rest=>
    obtain⟨rfl,rfl⟩:=hcut;go_upto_if 59 with fail
    go_cut []from 60 (λal=>Ga w al (.mk kd J B.u I false [] dat []) zH G)
    case first=>
     have dy:=bF.out;cases bG with
     |false=>
      obtain rfl:bd=J:=dy;go_wp2;go_meet
      exact aA
     |true=>
      rw[NS rfl]at dy;go_wp2;go_meet
      exact e2
    case rest=>
     have N8:=hid hcut;generalize wc=ak at*;go_upto_region 13 with fail
     have dz:=a1.out.below N8.b;obtain⟨a0,e3,_⟩:=dz.cells;obtain⟨⟨n0,cl,b9,bb,e4,e5,e6,e7⟩,bB⟩:=N8.n;have O:Ce ak.drew b 0 (.slice B.M.ua B.M.us.length B.M.uc)/\Ce ak.drew b 1 (.slice B.M.ga B.M.gs.length B.M.gc):=⟨a0,e3⟩;obtain⟨t0,hu⟩:=id O;have hv:Ce ak.drew (w.heap.size+1) 0<|iN kd:=n0;have hw:Ce ak.drew (w.heap.size+1) 1<|iN J:=cl;have hy:Ce ak.drew (w.heap.size+1) 2<|iN B.u:=b9;have hz:Ce ak.drew (w.heap.size+1) 3<|iN I:=bb;have hA:Ce ak.drew (w.heap.size+1) 4<|.bool false:=e4;have hB:Ce ak.drew (w.heap.size+1) 5<|nL:=e5;have hC:Ce ak.drew (w.heap.size+1) 6<|.string dat:=e6;have hD:Ce ak.drew (w.heap.size+1) 7<|nL:=e7;have co:Hid (Calls prog 139 #[G7 B.M.ua B.M.us.length B.M.uc B.M.ga B.M.gs.length B.M.gc,.agg #[iN kd,iN J,iN B.u,iN I,.bool false,nL,.string dat,nL]] ak.drew λe e8=>Kk ak.drew e8 (λ_=>false) e<|BH true B.M.us B.M.gs<|.mk kd J B.u I false [] dat []):=Mz (W:=ak.drew) (S:=λ_=>false) (x:=.mk kd J B.u I false [] dat []) (h:=zH) (M:=B.M) (λ_ e9=>(by cases e9)) (Yo _ _ _ _ _ _ _) (by rw[A7,EO];exact⟨by decide,by decide,trivial⟩) (by rw[cnt,cntL];omega) ⟨eg.1,eF⟩<|dz.maps.below (NB _ _).drew;have dT:=hid N8.drew;obtain⟨fa,bp⟩:=Aq<|BH true B.M.us B.M.gs<|.mk kd J B.u I false [] dat [];rw[bp.out]at co;cases fa with
     |none=>
      go_cut [9]from 64 (λbo al=>bo=.iface 101 (iN 11)/\Bw w al)
      case first=>
       go_region_with (first|(go_at_call 139;(refine rQ co.out ?_);rintro e a7 ⟨rfl,q9⟩;have ap:Ce a7 b 0 (.slice B.M.ua B.M.us.length B.M.uc)/\Ce a7 b 1 (.slice B.M.ga B.M.gs.length B.M.gc):=⟨Aj q9 O.1,Aj q9 O.2⟩;have bq:=hid<|dT.out.below q9;obtain⟨⟨fb,fc,fd,fe,ff,fg,fh,fo⟩,cr⟩:=bq.out.n;obtain⟨fp,fs,ft,fx,gb,gg,gl,go⟩:=f8 cr;rw[show At zN zH=GK from rfl]))
       all_goals
        have bH:=hid (bq.sto zN zH).b;obtain⟨bs,be⟩:∃bs,As a7 (w.heap.size+1) zN zH=bs:=⟨_,rfl⟩;rw[be]at bH;simp only[As,zN,zH,RC]at be;rw[be];go_wp2_with fail
        go_meet
        exact⟨rfl,bH⟩
      case rest=>
       obtain⟨rfl,gq⟩:=hcut;have bH:=hid gq;go_wp2;go_ret;obtain⟨rfl,rfl⟩:=b7 11 oD (by rw[<-H.out];unfold Ka;rw[bp.out]);exact⟨rfl,b6 _ bH⟩
     |some y=>
      obtain⟨ar,aw,rfl⟩:∃ar aw,y=.mk kd J ar aw false [] dat []:=mU bp;have gr:Hid<|Qt B.M.us B.M.gs x0 rM ry kd J ar aw dat=S:=by show _=_;rw[<-H.out];unfold Ka;rw[bp.out]
      have gu:=hid<|Zj bp;go_cut [9]from 64 (λbo al=>bo=.nilIface/\∃hx,Ga w al (.mk kd J ar aw false [] dat []) hx G/\Am al.cell? (.mk kd J ar aw false [] dat []) hx)
      case first=>
       go_region_with (first|(go_at_call 139;(refine rQ co.out ?_);rintro e a7 ⟨⟨hx,rfl,d0⟩,q9⟩;have ap:Ce a7 b 0 (.slice B.M.ua B.M.us.length B.M.uc)/\Ce a7 b 1 (.slice B.M.ga B.M.gs.length B.M.gc):=⟨Aj q9 O.1,Aj q9 O.2⟩;have bq:=hid<|dT.out.below q9;obtain⟨⟨fb,fc,fd,fe,ff,fg,fh,fo⟩,cr⟩:=bq.out.n;obtain⟨fp,fs,ft,fx,gb,gg,gl,go⟩:=f8 cr;have gv:Hid<|Am a7.cell? (.mk kd J ar aw false [] dat []) hx:=(by rw[Fe]at d0;exact d0);rw[show At (.mk kd J ar aw false [] dat []) hx=.agg #[iN kd,iN J,iN ar,iN aw,.bool false,.slice hx.aa 0 hx.ca,.string dat,.slice hx.ak 0 hx.ck]from rfl]))
       all_goals
        have d1:=hid<|bq.sto (.mk kd J ar aw false [] dat []) hx;obtain⟨bs,be⟩:∃bs,As a7 (w.heap.size+1) (.mk kd J ar aw false [] dat []) hx=bs:=⟨_,rfl⟩;rw[be]at d1;simp only[As,RC]at be;rw[be];go_wp2_with fail
        go_meet
        exact⟨rfl,hx,d1,XC gv⟩
      case rest=>
       obtain⟨rfl,hx,bg,gw⟩:=hcut;have gx:Hid (Calls prog 167 #[pO b 0,.func (.func 217) #[] #[pO w.heap.size 0,pO (w.heap.size+1) 0]] wc λe w'=>e=.returned (Ao c6)/\De w w' b B rM c8 B.crd):=by have e:=Oo a1 bg.b bu<|bM bg.b bu.fine bu.sz d8 d9 c9 eb ed ee gu ef (bg.f 10 _ bx.2.2.2) gw bg.n (MY bg.n.1 bg.e) oM;rw[gr.out,b0.out]at e;exact e
       go_wp2_with fail
       refine rQ gx ?_;rintro e hE ⟨rfl,gy⟩;have gz:=hid gy;go_wp2;go_ret;exact⟨rfl,gz⟩
theorem ZA(h:BN B x0 rM):fin B.q x0 (0,x0)=(0,x0):=by
 unfold fin;rw[NO oS,NO<|by simp[h.ok],NO (by have:=h.quo;show¬B.q<EP x0;omega)]
def Z4(us gs:List Rg)(G:Bool)(x0:Nd)(rM:List Nd)(ry:List BA)(U H k:Int):Int×Nd:=if G=true then(match BH true us gs (.mk 0 0 U H false [] ⟨#[]⟩ [])with
 |none=>(11,x0)
 |some (.mk _ _ ux gx _ _ _ _)=>Hm us gs x0 rM ry<|Nd.otG (IA k) ux gx)else(10,x0)
noncomputable def Bk.givS (c:Bk) (x0:Nd) (rM:List Nd) (cA cB:Int) (p:BA):Int×Nd:=if-1<=cA/\cA<=65535 then(if-1<=cB/\cB<=65535 then(match c.atP true p with
 |.error E=>(E,x0)
 |.ok f=>if cA=-1/\cB=-1 then(0,x0)else Z4 c.us c.gs (c.bx.mgF f.1.p f.1.u f.1.g (if cA=-1 then f.1.u else cA) (if cB=-1 then f.1.g else cB)) x0 rM (Bo p.data.toList) (if cA=-1 then f.1.u else cA) (if cB=-1 then f.1.g else cB) c.k)else(1,x0))else(1,x0)
theorem fC(h:A6 w b B)(bq:BN B x0 rM){cop cA cB:Int}{cpath coth cname cdata:BA}(b0:Int)(c5:Ce w (1) 0<|iN b0):
 Calls prog 129 #[pO b 0,Fr cop cpath coth cname cdata cA cB] w λe w'=>e=.returned (Ao (fin B.q x0<|B.cor.givS x0 rM cA cB cpath).1)/\De w w' b B rM (fin B.q x0<|B.cor.givS x0 rM cA cB cpath).2 B.crd:=by
 obtain⟨S,G⟩:=Aq<|B.cor.givS x0 rM cA cB cpath;rw[G.out];obtain⟨⟨c6,c8⟩,bi⟩:∃R,Hid<|fin B.q x0 S=R:=⟨_,rfl⟩;rw[bi.out];unfold Bk.givS at G;have bs:Bw w<|(w.alloc<|EE b).alloc<|AY cop cpath coth cname cdata cA cB:=((NB _ _).alloc (rP _) _).alloc ((NB _ _).alloc (rP _) _:Bw w _).size _;have a6:=hid bs;have p0:Ce ((w.alloc<|EE b).alloc<|AY cop cpath coth cname cdata cA cB) w.heap.size 0<|pO b 0:=Bz<|rO _ _ _ _ rfl;have p1:Ce ((w.alloc<|EE b).alloc<|AY cop cpath coth cname cdata cA cB) (w.heap.size+1) 1<|.string cpath:=rO _ _ _ _ (by rw[ND]);have c9:Ce ((w.alloc<|EE b).alloc<|AY cop cpath coth cname cdata cA cB) (w.heap.size+1) 5<|iN cA:=rO _ _ _ _ (by rw[ND]);have da:Ce ((w.alloc<|EE b).alloc<|AY cop cpath coth cname cdata cA cB) (w.heap.size+1) 6<|iN cB:=rO _ _ _ _ (by rw[ND]);have dd:Hid (Calls prog 119 #[pO b 0,.string cpath] ((w.alloc<|EE b).alloc<|AY cop cpath coth cname cdata cA cB) λe w'=>Dr B w' cpath true (B.cor.atP true cpath) e/\Bw ((w.alloc<|EE b).alloc<|AY cop cpath coth cname cdata cA cB) w'):=by
  refine rQ (LX (h.below bs) bq.good cpath (Eg _).1 (Eg _).2 b0<|Aj bs c5) ?_;rintro e w' ⟨de,dg⟩;exact⟨KH bq.good de,dg⟩
 have a7:=hid h;have a8:=hid bq;have aw:=hid<|De.stay a7 a8;have ba:Hid (∀E,E≠0->S=(E,x0)->c6=E/\c8=x0):=λE az e=>Jw az<|e▸bi;have dj:Hid (∀Z,Calls prog 181 #[iN cA] Z λe w'=>e=.returned (.bool<|decide (-1<=cA/\cA<=65535))/\Z=w'):=λZ=>Ur Z cA
 have dk:Hid (∀Z,Calls prog 181 #[iN cB] Z λe w'=>e=.returned (.bool<|decide (-1<=cB/\cB<=65535))/\Z=w'):=λZ=>Ur Z cB;go_enter func129,ntmps129
 go_wp2_with fail
 generalize((w.alloc<|EE b).alloc<|AY cop cpath coth cname cdata cA cB)=Z at*;refine rQ (dj _) ?_;rintro e bu ⟨rfl,rfl⟩;by_cases ao:-1<=cA/\cA<=65535;rotate_left
 .rw[NM ao]
  go_wp2;go_ret;obtain⟨rfl,rfl⟩:=ba 1 oD (by rw[<-G.out];exact NO ao);exact⟨rfl,aw _ a6⟩
 rw[NY ao];rw[NS ao]at G;go_wp2_with fail
 refine rQ (dk _) ?_;rintro e bu ⟨rfl,rfl⟩;by_cases bb:-1<=cB/\cB<=65535;rotate_left
 .rw[NM bb]
  go_wp2;go_ret;obtain⟨rfl,rfl⟩:=ba 1 oD (by rw[<-G.out];exact NO bb);exact⟨rfl,aw _ a6⟩
 rw[NY bb];rw[NS bb]at G;have dm:Hid<|(-1<=cA/\cA<=65535)/\-1<=cB/\cB<=65535:=⟨ao,bb⟩;go_wp2_with fail
 refine rQ dd ?_;rintro e H ⟨ao,q2⟩;obtain⟨cs,E,rfl,b1,dn,dp,dr⟩:=ao;obtain⟨I,ey,ap,b2,ds⟩:=JP H cs b1 dn;have du:=Cn cs;unfold Value.cells at du;have ez:=hid b1;have bk:=hid<|q2.trans<|b2.out.mono q2.size;have bl:=hid<|a6.trans<|bk.mono a6.size;have dw:Hid _:=dp;have dx:Hid _:=dr;have eB:=hid<|Rz a6.size q2.size;have dy:=Aj bk p0;have dz:=Aj bk c9;have dT:=Aj bk da;by_cases az:E=0;rotate_left
 .have b4:=AP (n:=E) rfl az
  rw[b4];go_wp2;go_ret;obtain⟨rfl,rfl⟩:=ba E az (by rw[<-G.out,dx.out az]);exact⟨by rw[b4];rfl,aw _ bl⟩
 subst az;obtain⟨f,ar,b6,bn,bx,bA,bB,b7,b9⟩:=dw rfl;rw[b9]at G;have bd:=I1 b6;rw[<-bn]at bd;obtain⟨⟨ce,cf,J,O,bo⟩,dir,na,nc,ry,eD,⟨eE,eF,eL,eX,e0,e1,e2,xs⟩,e3,ly⟩:=f;dsimp only[Fd.pur]at bn bx bA bB b7 bd G;have d0:Ce I H.heap.size 0<|.bool ce:=ap 0 _ (by rw[ar];rfl);have d1:Ce I H.heap.size 1<|iN cf:=ap 1 _ (by rw[ar];rfl);have ch:Ce I H.heap.size 2<|iN J:=ap 2 _ (by rw[ar];rfl);have cl:Ce I H.heap.size 3<|iN O:=ap 3 _ (by rw[ar];rfl);have d2:Ce I H.heap.size 4<|.bool bo:=ap 4 _ (by rw[ar];rfl);have d3:Ce I H.heap.size 10<|.slice na ry.length nc:=ap 10 _ (by rw[ar];rfl);have d4:=hid<|bx.on<|Ai b2.out;have co:Hid<|(∀s∈ry,Bf s=true)/\ry.length<=6:=⟨bd.1,bd.2.1⟩;have d5:=hid bA;obtain⟨U,bC⟩:=Aq<|(if cA=-1 then J else cA);obtain⟨ad,bF⟩:=Aq<|(if cB=-1 then O else cB);rw[<-bn]at G;replace G:Hid<|(if cA=-1/\cB=-1 then(0,x0)else Z4 B.M.us B.M.gs (B.mgF bo J O (if cA=-1 then J else cA) (if cB=-1 then O else cB)) x0 rM ry (if cA=-1 then J else cA) (if cB=-1 then O else cB) B.k)=S:=G.out;rw[bC.out,bF.out]at G;have d6:Hid<|A4 U/\A4 ad:=by
  have cr:=bB.t;have e4:=dm.out;show A4 U/\A4 ad;rw[<-bC.out,<-bF.out];refine⟨?_,?_⟩
  .split
   .exact cr.2.1
   .unfold A4;omega
  .split
   .exact cr.2.2
   .unfold A4;omega
 have d7:Hid (∀w',Calls prog 182 #[iN cA,iN J] w' λe bG=>e=.returned (iN U)/\w'=bG):=λw'=>by
  have e:=Vc w' cA J;rw[bC.out]at e;exact e
 have d8:Hid (∀w',Calls prog 182 #[iN cB,iN O] w' λe bG=>e=.returned (iN ad)/\w'=bG):=λw'=>by
  have e:=Vc w' cB O;rw[bF.out]at e;exact e
 rw[show Ao 0=Value.nilIface from rfl];have d9:Ce I.drew (w.heap.size+1) 5 (iN cA)/\Ce I.drew (w.heap.size+1) 6 (iN cB)/\Ce I.drew H.heap.size 2 (iN J)/\Ce I.drew H.heap.size 3 (iN O):=⟨dz,dT,ch,cl⟩;clear ar b6 bn bx bA bB b7 b9 bd ap ds;go_upto_region 4 with fail
 go_cut [39]from 28 (λs bH=>s=.bool (decide (cA=-1/\cB=-1))/\I=bH)
 case first=>
  by_cases be:cA=-1;case' neg=>have hd:decide (cA=-1)=false:=NM be
  case' pos=>
   subst be;by_cases be:cB=-1;case' pos=>subst be
   case' neg=>have hd:(cB==-1)=false:=by simpa using be
  all_goals
   go_wp2_with fail
   go_meet
   exact⟨by simp[*],rfl⟩
 case rest=>
  obtain⟨rfl,rfl⟩:=hcut;by_cases bp:cA=-1/\cB=-1
  .rw[NS bp]at G
   rw[NY bp];obtain rfl:=G.out;obtain⟨rfl,rfl⟩:=Prod.mk.inj<|(ZA a8).symm.trans bi;go_wp2;go_ret;exact⟨rfl,aw _ bl⟩
  rw[NO bp]at G;rw[NM bp];go_upto_region 6 with fail
  go_cut [7,8]from 41 (λeb ed bH=>eb=iN U/\ed=iN ad/\Bw I bH)
  case first=>
   go_region_held3 (λw'=>Ce w' (w.heap.size+1) 5 (iN cA)/\Ce w' (w.heap.size+1) 6 (iN cB)/\Ce w' H.heap.size 2 (iN J)/\Ce w' H.heap.size 3 (iN O)) (first|with_reducible exact d9) (first|(go_at_call 182;(with_reducible refine rQ (d7.out _) ?_);rintro e bu ⟨rfl,rfl⟩)|(go_at_call 182;(with_reducible refine rQ (d8.out _) ?_);rintro e bu ⟨rfl,rfl⟩))
   all_goals
    go_wp2_with fail
    go_meet
    exact⟨rfl,rfl,(NB _ _).drew⟩
  case rest=>
   obtain⟨rfl,rfl,ab⟩:=hcut;have bY:=hid<|bl.trans<|ab.mono bl.size;have ee:=Aj ab dy;have e5:=Aj ab d0;have e6:=Aj ab d1;have e7:=Aj ab ch;have e8:=Aj ab cl;have e9:=Aj ab d2;have ef:=Aj ab d3;have eg:=hid<|d4.on<|Ai ab;have cx:=hid<|cq (a7.below bY) a8 ce bo cf J O U ad;obtain⟨r,ej⟩:=Aq<|B.mgF bo J O U ad;rw[ej.out]at cx G;go_wp2_with fail
   refine rQ cx.out ?_;rintro e ek ⟨rfl,q9⟩;have aA:=hid<|bY.trans<|q9.mono bY.size;have em:=Aj q9 ee;have en:=Aj q9 ef;have eo:=hid<|eg.on<|Ai q9;cases r with
   |false=>
    go_wp2;go_ret;obtain⟨rfl,rfl⟩:=ba 10 oD (by rw[<-G.out];exact NO oD);exact⟨rfl,aw _ aA⟩
   |true=>
    replace G:=hid<|(NS rfl).symm.trans G;have cD:=a7.out.below aA;obtain⟨a0,fa,_⟩:=cD.cells;have cF:=Mz (W:=ek) (S:=λ_=>false) (x:=.mk 0 0 U ad false [] ⟨#[]⟩ []) (h:=zH) (M:=B.M) (λ_ ep=>(by cases ep)) (Zo _ _ _ _ _ _ _) (by rw[A7,EO];exact⟨by decide,by decide,trivial⟩) (by rw[cnt,cntL];omega) d6 cD.maps;obtain⟨eq,bf⟩:=Aq<|BH true B.M.us B.M.gs<|.mk 0 0 U ad false [] ⟨#[]⟩ [];rw[bf.out]at cF;have er:=hid cF;go_wp2_with fail
    refine rQ er ?_;cases eq with
    |none=>
     rintro e bg ⟨rfl,q10⟩;rw[show At zN zH=GK from rfl];have a1:=hid<|aA.trans<|q10.mono aA.size;go_wp2;go_ret;obtain⟨rfl,rfl⟩:=ba 11 oD (by rw[<-G.out,bf.out]);exact⟨rfl,aw _<|a1.alloc a1.size _⟩
    |some y=>
     obtain⟨ak,al,rfl⟩:∃ak al,y=.mk 0 0 ak al false [] ⟨#[]⟩ []:=by
      have e:=bf.out;rw[BH]at e;split at e
      .cases e;exact⟨_,_,rfl⟩
      .cases e
     rintro e bg ⟨⟨hx,rfl,_⟩,q10⟩;rw[show At (.mk 0 0 ak al false [] ⟨#[]⟩ []) hx=.agg #[iN 0,iN 0,iN ak,iN al,.bool false,.slice hx.aa 0 hx.ca,.string ⟨#[]⟩,.slice hx.ak 0 hx.ck]from rfl];have c3:Bw bg<|bg.alloc<|.cells #[iN 0,iN 0,iN ak,iN al,.bool false,.slice hx.aa 0 hx.ca,.string ⟨#[]⟩,.slice hx.ak 0 hx.ck] 31:=(NB _ _).alloc (rP _) _;have a1:=hid<|aA.trans<|(q10.trans<|c3.mono q10.size).mono aA.size;have es:Ce (bg.alloc<|.cells #[iN 0,iN 0,iN ak,iN al,.bool false,.slice hx.aa 0 hx.ca,.string ⟨#[]⟩,.slice hx.ak 0 hx.ck] 31) w.heap.size 0<|pO b 0:=Bz<|Aj q10 em;have fb:Ce (bg.alloc<|.cells #[iN 0,iN 0,iN ak,iN al,.bool false,.slice hx.aa 0 hx.ca,.string ⟨#[]⟩,.slice hx.ak 0 hx.ck] 31) H.heap.size 10<|.slice na ry.length nc:=Bz<|Aj q10 en;have eu:=(eo.on<|Ai q10).on<|Ai c3;have c4:=hid<|OE (a7.below a1) a8 eu co.1 (by have:=co.out.2;omega) d5 rfl (eO (a7.below a1) a8 (Zj bf.out) es (rO _ _ _ _ rfl)<|rO _ _ _ _ rfl);rw[bf.out]at G;rw[show Hm B.M.us B.M.gs x0 rM ry (Nd.otG (IA B.k) ak al)=S from G.out,bi.out]at c4;go_wp2_with fail
     refine rQ c4 ?_;rintro e fc ⟨rfl,ev⟩;have ew:=hid<|ev.up a1;go_wp2;go_ret;exact⟨rfl,ew⟩
mutual
def Mq:Nd->Int
 |.mk _ _ _ _ _ _ _ ks=>Ki 0 ks
def Ki(a:Int):Ay->Int
 |[]=>a
 |(_,x)::l=>Ki (max a<|wrap64<|1+Mq x) l
end
theorem gi{h:Hd}(bs:Am w.cell? x h):∀(W:World),Below w.heap.size w W->
 Calls prog 226 #[At x h] W λe aA=>e=.returned (iN<|Mq x)/\Below W.heap.size W aA:=by
 induction bs with
 |@mk k m u g o rL d ks h b be f bu bx a1 H bf bA bg=>
  intro W bi;have bB:=hid bf;have bC:=hid bg;have bF:=hid H;have c3:=Rz a1.1 a1.2;clear bf bA bg H bu bx a1;rw[Mq];obtain⟨D,a6⟩:=Aq<|Ki 0 ks;rw[a6.out];show Calls prog 226 #[.agg #[iN k,iN m,iN u,iN g,.bool o,.slice h.aa rL.length h.ca,.string d,.slice h.ak ks.length h.ck]] _ _;have bG:=Cm.new W k m u g o rL d ks h;have J:Bw W<|W.alloc<|.cells #[iN k,iN m,iN u,iN g,.bool o,.slice h.aa rL.length h.ca,.string d,.slice h.ak ks.length h.ck] 31:=(NB _ _).alloc (rP _) _;obtain⟨bH,bY,b0,b1,b2,b4,b6,a7⟩:=bG;clear bH bY b0 b1 b2 b4 b6;rcases bF.out with b7|H
  .subst b7
   obtain rfl:0=D:=by rw[<-a6.out];rw[Ki]
   go_enter func226,ntmps226;go_wp2;clear a7;generalize W.alloc (.cells #[iN k,iN m,iN u,iN g,.bool o,.slice h.aa rL.length h.ca,.string d,.slice h.ak 0 h.ck] 31)=b9 at J⊢;first
   |(go_ret;exact⟨rfl,J⟩)
   |(go_loopw [3,9] (λa8 i wr=>i=iN 0/\a8=iN 0/\Bw W wr) (λ_ _ _=>0)
     case atStart=>exact⟨rfl,rfl,J⟩
     case round=>
      obtain⟨rfl,rfl,I⟩:=hrel;go_wp2;go_ret;exact⟨rfl,I⟩)
  have bk:W.alloc (.cells #[iN k,iN m,iN u,iN g,.bool o,.slice h.aa rL.length h.ca,.string d,.slice h.ak ks.length h.ck] 31)=W.alloc (.cells #[iN k,iN m,iN u,iN g,.bool o,.slice h.aa rL.length h.ca,.string d,sL b be ks.length h.ck] 31):=by rw[H]
  rw[bk]at J;clear bk;rw[H];rw[H]at a7;clear H;go_enter func226,ntmps226;go_wp2;clear a7;generalize W.alloc (.cells #[iN k,iN m,iN u,iN g,.bool o,.slice h.aa rL.length h.ca,.string d,sL b be ks.length h.ck] 31)=b9 at J⊢;go_loopw [3,9] (λa8 i wr=>∃(j:Nat) (O:Int),j<=ks.length/\i=iN j/\a8=iN O/\Hid (Ki O (ks.drop j)=D)/\Bw W wr) (λ_ i _=>ks.length-(intOf i).toNat)
  case atStart=>exact⟨0,0,N7 _,rfl,rfl,a6,J⟩
  case round=>
   obtain⟨j,O,c4,rfl,rfl,bl,I⟩:=hrel;by_cases ba:j<ks.length
   .have ce:(j:Int)<(ks.length:Int):=by omega
    obtain⟨⟨n,x⟩,hx⟩:∃x,ks[j]? =some x:=⟨ks[j],by simp[ba]⟩;have aw:=bi.trans<|I.mono bi.size;have bb:=(bB j n x hx).below aw;have az:=hid<|bC j n x hx;obtain⟨bn,bo⟩:=Aq<|Mq x;rw[bo.out]at az;have cf:Hid<|Ki (max O<|wrap64<|1+bn) (ks.drop<|j+1)=D:=by
     show _=_;have e:ks.drop j=(n,x)::ks.drop (j+1):=by
      rw[N9 ba];rw[NA ba]at hx;injection hx with hx
      rw[hx]
     rw[<-bl.out,e,Ki,bo.out]
    generalize ch:f j=G at bb az;obtain⟨Z,ab,ad,ak,al,ao,ap,ar⟩:=x;obtain⟨z0,cl,co,z3,z4,z5,cr,cx,cD⟩:=bb.nine;have bd:Bw W<|wr.alloc<|.cells #[.string n,iN Z,iN ab,iN ad,iN ak,.bool al,.slice G.aa ao.length G.ca,.string ap,.slice G.ak ar.length G.ck] 92:=I.alloc I.size _;have bp:Hid (Calls prog 226 #[.agg #[iN Z,iN ab,iN ad,iN ak,.bool al,.slice G.aa ao.length G.ca,.string ap,.slice G.ak ar.length G.ck]] (wr.alloc<|.cells #[.string n,iN Z,iN ab,iN ad,iN ak,.bool al,.slice G.aa ao.length G.ca,.string ap,.slice G.ak ar.length G.ck] 92) λe aA=>e=.returned (iN bn)/\Below (wr.alloc<|.cells #[.string n,iN Z,iN ab,iN ad,iN ak,.bool al,.slice G.aa ao.length G.ca,.string ap,.slice G.ak ar.length G.ck] 92).heap.size (wr.alloc<|.cells #[.string n,iN Z,iN ab,iN ad,iN ak,.bool al,.slice G.aa ao.length G.ca,.string ap,.slice G.ak ar.length G.ck] 92) aA):=az _<|aw.alloc aw.size _;clear hx ch az bb aw;go_wp2_with fail
    refine bp.mono ?_;rintro e c5 ⟨rfl,bq⟩;have cF:=bd.trans<|bq.mono bd.size;clear z0 cl co z3 z4 z5 cr cx cD bq I bd bp;go_wp2;go_roundw
    case rel=>exact⟨j+1,_,by omega,by go_num,rfl,cf,cF⟩
    case measure=>simp[intOf];omega
   .have ce:decide ((j:Int)<(ks.length:Int))=false:=NM oM
    obtain rfl:O=D:=by
     have e:=bl.out;rw[R8 oM,Ki]at e;exact e
    go_wp2;go_ret;exact⟨rfl,I⟩
theorem lW(a ak:Option Addr)(c a6:Nat)(l G:List BA)(w:World)(bl:l.length<=1000)(h:Bi w.cell? a l)(h':Bi w.cell? ak G):
 Calls prog 171 #[.slice a l.length c,.slice ak G.length a6] w λe w'=>e=.returned (.bool<|decide (l=G))/\Bw w w':=by
 obtain⟨R,J⟩:=Aq<|decide (l=G);rw[J.out];have a7:=hid h;have a8:=hid h';by_cases ab:l.length=G.length;rotate_left
 .have d:((l.length:Int)==(G.length:Int))=false:=by simp;omega
  have bn:=NM oM;obtain rfl:false=R:=by rw[<-J.out];exact(NM (λe=>ab<|by rw[e])).symm
  go_enter func171,ntmps171;go_wp2;go_ret;exact⟨rfl,NB _ _⟩
 have al:=hid ab;rw[<-ab];go_enter func171,ntmps171;go_wp2;go_loopw [13] (λi wr=>∃j:Nat,j<=l.length/\i=iN j/\Hid (∀k,k<j->l[k]? =G[k]?)/\Bw w wr) (λi _=>l.length-(intOf i).toNat)
 case atStart=>exact⟨0,N7 _,rfl,λk H=>absurd H (Nat.not_lt_zero _),NB _ _⟩
 case round=>
  obtain⟨j,bo,rfl,ao,O⟩:=hrel;by_cases ad:j<l.length;rotate_left
  .have ba:decide ((j:Int)<(l.length:Int))=false:=NM oM
   obtain rfl:true=R:=by
    rw[<-J.out];refine(NY (List.ext_getElem? λk=>?_)).symm;rcases Nat.lt_or_ge k j with H|H
    .exact ao k H
    .rw[tP oM,tP (by have:=al.out;omega)]
   go_wp2;go_ret;exact⟨rfl,O⟩
  have ba:(j:Int)<(l.length:Int):=by omega
  obtain⟨x,hx⟩:∃s,l[j]? =some s:=⟨l[j],NA _⟩;obtain⟨y,I⟩:∃s,G[j]? =some s:=⟨G[j]'(by rw[<-al.out];exact ad),NA _⟩;rcases a7.out with e|⟨b,ap,rfl,bb⟩
  .rw[e]at ad;simp at ad
  rcases a8.out with e|⟨ar,aw,rfl,bd⟩
  .rw[e]at I;simp at I
  have be:=Aj O<|bb j x hx;have q1:=Aj O<|bd j y I;have az:Hid ((x.toList==y.toList)=true->∀k,k<j+1->l[k]? =G[k]?):=λe k H=>by
   rcases Nat.lt_or_ge k j with h|h
   .exact ao k h
   .have bf:k=j:=by omega
    subst bf;have Z:x.toList=y.toList:=by simpa using e
    rw[tz,tz]at Z;have bg:x=y:=by
     cases x;cases y
     exact RX ByteArray.mk<|Array.toList_inj.1 Z
    rw[hx,I,bg]
  have aA:Hid<|(x.toList==y.toList)=false->false=R:=λe=>by
   rw[<-J.out];refine(NM λZ=>?_).symm;rw[Z,I]at hx;injection hx with hx
   rw[hx]at e;simp at e
  have a1:=hid O.drew;obtain⟨r,bi⟩:∃r,(x.toList==y.toList)=r:=⟨_,rfl⟩;rw[bi]at az aA;have bk:Ce wr.drew b (ap+j) (.string x)/\Ce wr.drew ar (aw+j) (.string y):=⟨be,q1⟩;go_upto_region 6 with fail
  go_region_held3 (λw'=>Ce w' b (ap+j) (.string x)/\Ce w' ar (aw+j) (.string y)) (exact bk) (fail)
  cases r with
  |true=>
   go_wp2;go_roundw
   case rel=>exact⟨j+1,by omega,by go_num,az<|by rfl,a1⟩
   case measure=>simp[intOf];omega
  |false=>
   obtain rfl:=aA rfl;go_wp2;go_ret;exact⟨rfl,a1⟩
abbrev rj:Oper:=Bp "move.go:89" (some 5) (.fieldAddr 216 (Bb 3) 5) 0 #[] none
abbrev rg:Oper:=Bp "move.go:89" (some 6) (.load 3<|Bb 5) 3 #[Bs 0] none
abbrev ZP:Oper:=Bp "move.go:89" (some 7) (.binOp BinOp.eql 3 (Bb 6) (.const<|Value.int IntKind.i64 0) 3) 4 #[Bs 1] none
abbrev ZR:Oper:=Bp "move.go:89" (some 8) (.move<|Bb 7) 4 #[Bs 2] none
abbrev ZY:Oper:=Bp "move.go:89" (some 9) (.fieldAddr 216 (Bb 3) 4) 0 #[Da 3] (some (3,true))
abbrev ZK:Oper:=Bp "move.go:89" (some 10) (.fieldAddr 31 (Bb 9) 4) 0 #[Bs 4,Da 3] (some (3,true))
abbrev ZS:Oper:=Bp "move.go:89" (some 11) (.load 4<|Bb 10) 4 #[Bs 5,Da 3] (some (3,true))
abbrev TP:Oper:=Bp "move.go:89" (some 12) (.move<|Bb 11) 4 #[Bs 6,JK 3,Da 3] (some (3,true))
abbrev TK:Oper:=Bp "move.go:89" (some 13) (.move<|Bb 0) 73 #[Da 7] (some (7,false))
abbrev TH:Oper:=Bp "move.go:89" (some 14) (.nilCheck<|Bb 13) 0 #[Bs 8,Da 7] (some (7,false))
abbrev Ti:Oper:=Bp "move.go:89" (some 15) (.fieldAddr 119 (Bb 14) 0) 0 #[Bs 9,Da 7] (some (7,false))
abbrev S9:Oper:=Bp "move.go:89" (some 16) (.fieldAddr 117 (Bb 15) 1) 0 #[Bs 10,Da 7] (some (7,false))
abbrev Tm:Oper:=Bp "move.go:89" (some 17) (.load 115<|Bb 16) 115 #[Bs 11,Da 7] (some (7,false))
abbrev SW:Oper:=Bp "move.go:89" (some 18) (.fieldAddr 216 (Bb 3) 2) 0 #[Da 7] (some (7,false))
abbrev SZ:Oper:=Bp "move.go:89" (some 19) (.load 50<|Bb 18) 50 #[Bs 13,Da 7] (some (7,false))
abbrev Tl:Oper:=Bp "move.go:89" (some 20) (.call {callee:=Callee.value<|Operand.func 177,args:=#[Bb 17,Bb 19],argTypes:=#[115,50]}) 4 #[Bs 12,Bs 14,JK 7,Da 7] (some (7,false))
abbrev Tg:Oper:=Bp "move.go:89" (some 21) (.unOp UnOp.not 4<|Bb 20) 4 #[Bs 15,Da 7] (some (7,false))
abbrev Ts:Oper:=Bp "move.go:89" (some 22) (.pick (Bb 12) (.const<|Value.bool true)<|Bb 21) 4 #[Bs 7,Bs 16,Da 3] (some (3,true))
abbrev Tf:Oper:=Bp "move.go:89" (some 23) (.pick (Bb 8) (Bb 22)<|.const<|Value.bool false) 4 #[Bs 3,Bs 17] none
abbrev Tp:Oper:=Bp "move.go:89" (some 4) (.assign<|Bb 23) 4 #[Bs 18,JK 15,Bh 0,Bh 1,Bh 2,Bh 3,Bh 4,Bh 5,Bh 6,Bh 7,Bh 8,Bh 9,Bh 10,Bh 11,Bh 12,Bh 13,Bh 14,Bh 15,Bh 16,Bh 17,Bh 18] none
def ae(x0:Nd)(rM:List Nd)(ry:List BA)(G:Bool)(ly:Int)(e:Ending):Prop:=e=.returned (.bool<|decide (ly=0)&&(G|| !G5 (x0::rM) ry))
theorem iA(h:A6 w b B)(az:BN B x0 rM)(H:List Value){na:Option Addr}{nc:Nat}{J:Bool}{ly:Int}(f10:H[10]? =some (.slice na ry.length nc))(f16:H[16]? =some (.bool J))(f20:H[20]? =some (iN ly))(a8:Bi w.cell? na ry)(ba:ry.length<=1000)(bb:ry.length<=nc/\nc<=9223372036854775807):
 Calls prog 225 #[pO b 0,Cg H] w λe w'=>ae x0 rM ry J ly e/\Bw w w':=by
 have ar:=Bj.new2 w _ rfl H 216;have aw:Bw w<|w.alloc<|Bm H:=(NB _ _).alloc (rP _) _;have aA:=h.below aw;have a1:=aA.lay;have a6:=aA.cells.2.2.1;rw[az.xs]at a1 a6;have bd:(w.alloc<|Bm H).cell? (aD w.heap.size 10)=some (.slice na ry.length nc):=by simpa using ar 10 _ f10
 have be:(w.alloc<|Bm H).cell? (aD w.heap.size 16)=some (.bool J):=by simpa using ar 16 _ f16
 have bf:(w.alloc<|Bm H).cell? (aD w.heap.size 20)=some (iN ly):=by simpa using ar 20 _ f20
 have O:Ce (w.alloc<|Bm H).drew w.heap.size 10 (.slice na ry.length nc)/\Ce (w.alloc<|Bm H).drew w.heap.size 16 (.bool J)/\Ce (w.alloc<|Bm H).drew w.heap.size 20 (iN ly)/\Ce (w.alloc<|Bm H).drew b 2 (.slice B.la (rM.length+1) B.lc):=⟨bd,be,bf,a6⟩;obtain⟨R,a7⟩:∃R,Hid<|G5 (x0::rM) ry=R:=⟨_,rfl⟩;have bg:Hid (Calls prog 177 #[.slice B.la (rM.length+1) B.lc,.slice na ry.length nc] (w.alloc<|Bm H).drew λe w'=>e=.returned (.bool R)/\Bw (w.alloc<|Bm H).drew w'):=by
  have e:=Rh (w:=(w.alloc<|Bm H).drew) (S:=λ_=>false) (xs:=x0::rM) (a:=B.la) (cap:=B.lc) (an:=na) (rN:=nc) (ry:=ry) (λ_ bi=>(by cases bi)) (by rw[Fe];exact a1) (by rw[Fe];exact a8.on<|Ai aw.drew) (az.sz.ok oM) ba bb;rw[a7.out]at e;exact e
 have ao:=hid aw.drew;have bk:=Cn H;unfold Value.cells at bk;go_enter func225,ntmps225;go_upto_region 1 with fail
 generalize(w.alloc<|Bm H)=bp at*;refine wp_region_held_drew (S:=λw'=>Ce w' w.heap.size 10 (.slice na ry.length nc)/\Ce w' w.heap.size 16 (.bool J)/\Ce w' w.heap.size 20 (iN ly)/\Ce w' b 2 (.slice B.la (rM.length+1) B.lc)) oK O λG=>?_;refine tI 0 rj (pO w.heap.size 20) G ?_;simp only[tk];refine tI 1 rg (iN ly) G ?_;simp only[tk];by_cases Z:ly=0
 .refine RF (i:=2) (oi:=ZP) (v:=.bool true) rfl oK oK oK (λ_ _ _ h=>h) (Or.inl ⟨by rfl,λw I=>by obtain⟨ab,ad,ak,al⟩:=I;first|(go_simp;done)|(go_simp;simp[Z])⟩) G ?_
  simp only[tk];refine tI 3 ZR (.bool true) G ?_;simp only[tk];refine tI 4 ZY (pO w.heap.size 12) G ?_;simp only[tk];refine tI 5 ZK (pO w.heap.size 16) G ?_;simp only[tk];refine tI 6 ZS (.bool J) G ?_;simp only[tk];cases J with
  |true=>
   refine tI 7 TP (.bool true) G ?_;simp only[tk];refine tO 8 TK G ?_;simp only[tk];refine tO 9 TH G ?_;simp only[tk];refine tO 10 Ti G ?_;simp only[tk];refine tO 11 S9 G ?_;simp only[tk];refine tO 12 Tm G ?_;simp only[tk];refine tO 13 SW G ?_;simp only[tk];refine tO 14 SZ G ?_;simp only[tk];refine tO 15 Tl G ?_;simp only[tk];refine tO 16 Tg G ?_;simp only[tk];refine tI 17 Ts (.bool true) G ?_;simp only[tk];refine tI 18 Tf (.bool true) G ?_;simp only[tk];refine tI 19 Tp (.bool true) G ?_;simp only[tk];refine KL oK ?_ _;go_wp2;go_ret;exact⟨RX (λx=>Ending.returned<|.bool x) (show true=_ by simp[Z]),ao⟩
  |false=>
   refine tI 7 TP (.bool false) G ?_;simp only[tk];refine tI 8 TK (pO b 0) G ?_;simp only[tk];refine tI 9 TH (pO b 0) G ?_;simp only[tk];refine tI 10 Ti (pO b 0) G ?_;simp only[tk];refine tI 11 S9 (pO b 2) G ?_;simp only[tk];refine tI 12 Tm (.slice B.la (rM.length+1) B.lc) G ?_;simp only[tk];refine tI 13 SW (pO w.heap.size 10) G ?_;simp only[tk];refine tI 14 SZ (.slice na ry.length nc) G ?_;simp only[tk];refine wpAnyH_ready (rs:=[15]) oK oS ?_;refine AllReadyH.cons (o:=Tl) rfl (λK bl=>?_) AllReadyH.nil;rw[NS<|by rfl];go_simp;go_call bg as e w6 ⟨rfl,q6⟩
   have bn:Ce w6 w.heap.size 10 (.slice na ry.length nc)/\Ce w6 w.heap.size 16 (.bool false)/\Ce w6 w.heap.size 20 (iN ly)/\Ce w6 b 2 (.slice B.la (rM.length+1) B.lc):=⟨Aj q6 O.1,Aj q6 O.2.1,Aj q6 O.2.2.1,Aj q6 O.2.2.2⟩;have bo:=hid<|ao.trans<|q6.mono ao.size;go_wp2_with fail
   refine bl _ _ bn λap=>?_;refine RF (i:=16) (oi:=Tg) (v:=.bool<|!R) rfl oK oK oK (λ_ _ _ h=>h) (Or.inl ⟨by rfl,λw I=>by obtain⟨ab,ad,ak,al⟩:=I;go_simp⟩) ap ?_;simp only[tk];refine RF (i:=17) (oi:=Ts) (v:=.bool<|!R) rfl oK oK oK (λ_ _ _ h=>h) (Or.inl ⟨by rfl,λw I=>by obtain⟨ab,ad,ak,al⟩:=I;go_simp⟩) ap ?_;simp only[tk];refine RF (i:=18) (oi:=Tf) (v:=.bool<|!R) rfl oK oK oK (λ_ _ _ h=>h) (Or.inl ⟨by rfl,λw I=>by obtain⟨ab,ad,ak,al⟩:=I;go_simp⟩) ap ?_;simp only[tk];refine RF (i:=19) (oi:=Tp) (v:=.bool<|!R) rfl oK oK oK (λ_ _ _ h=>h) (Or.inl ⟨by rfl,λw I=>by obtain⟨ab,ad,ak,al⟩:=I;go_simp⟩) ap ?_;simp only[tk];refine KL oK ?_ _;go_wp2;go_ret;exact⟨RX (λx=>Ending.returned<|.bool x) (show(!_)=_ by rw[a7.out];simp[Z]),bo⟩
 .refine RF (i:=2) (oi:=ZP) (v:=.bool false) rfl oK oK oK (λ_ _ _ h=>h) (Or.inl ⟨by rfl,λw I=>by obtain⟨ab,ad,ak,al⟩:=I;first|(go_simp;done)|(go_simp;simp[Z])⟩) G ?_
  simp only[tk];refine tI 3 ZR (.bool false) G ?_;simp only[tk];refine tO 4 ZY G ?_;simp only[tk];refine tO 5 ZK G ?_;simp only[tk];refine tO 6 ZS G ?_;simp only[tk];refine tO 7 TP G ?_;simp only[tk];refine tO 8 TK G ?_;simp only[tk];refine tO 9 TH G ?_;simp only[tk];refine tO 10 Ti G ?_;simp only[tk];refine tO 11 S9 G ?_;simp only[tk];refine tO 12 Tm G ?_;simp only[tk];refine tO 13 SW G ?_;simp only[tk];refine tO 14 SZ G ?_;simp only[tk];refine tO 15 Tl G ?_;simp only[tk];refine tO 16 Tg G ?_;simp only[tk];refine tO 17 Ts G ?_;simp only[tk];refine tI 18 Tf (.bool false) G ?_;simp only[tk];refine tI 19 Tp (.bool false) G ?_;simp only[tk];refine KL oK ?_ _;go_wp2;go_ret;exact⟨RX (λx=>Ending.returned<|.bool x) (show false=_ by simp[Z]),ao⟩
open Go.Shelf
theorem Tryz.infoStr:(prog.info? 9).map (λi=>(i.zero,i.size,i.bytes))=some (some<|.string ⟨#[]⟩,1,16):=by kernel_rfl
def In(l:List BA):List Value:=l.map .string
theorem iY(l:List BA):∀u∈In l,u.oneCell'=true:=λu G=>by
 obtain⟨s,_,rfl⟩:=CQ.1 G;rfl
theorem fm{base:Nat}{S:Nat->Bool}(G:∀k,S k=true->k<base){v:Value}{l:List BA}(h:w.ownsRow base 9 1 v l.length<|In l):∃a cap,v=.slice a l.length cap/\l.length<=cap/\cap<=9223372036854775807/\Bi (Ag w.cell? S) a l:=by
 obtain⟨a,cap,H,I,J,O⟩:=Ev h;refine⟨a,cap,H,I,J,?_⟩;rcases O with⟨_,Z,_⟩|⟨g,ab,hb,_,ad,_⟩
 .exact .inl<|R0 Z
 .refine .inr ⟨g,0,ab,λi s ak=>?_⟩
  rw[CV,RT]
  .refine ad i _ ?_
   unfold In;rw[R6,ak];rfl
  .show S g=false
   cases hh:S g with
   |false=>rfl
   |true=>have:=G g hh;omega
theorem Vu{S:Nat->Bool}(bb:∀k,S k=true->k<w.heap.size){a:Option Addr}{cap:Nat}{xs:List Nd}{an:Option Addr}{rN:Nat}(hx:CP (Ag w.cell? S) a xs)(Z:Bi (Ag w.cell? S) an ry)(aw:GE xs)(bn:ry.length<=1000):
 Calls prog 120 #[.slice a xs.length cap,.slice an ry.length rN] w λe w'=>(∃ap az,e=.returned (.slice ap (C7<|AX xs ry).length az)/\(C7<|AX xs ry).length<=az/\az<=9223372036854775807/\Bi (Ag w'.cell? S) ap (C7<|AX xs ry))/\Below w.heap.size w w':=by
 have bd:Hid _:=Sh (cap:=cap) (rN:=rN) bb hx Z aw.len bn aw.small;have ab:Hid _:=aw.stack ry;have be:Hid _:=bb;generalize AX xs ry=G at bd ab⊢;obtain⟨bo,bp,bq,bs,bu⟩:=EL Tryz.infoStr;have bx:Hid _:=bp;have bA:Hid _:=bq;have bB:Hid _:=bs;have bC:Hid _:=bu;go_enter func120,ntmps120;go_wp2_with fail
 go_call bd as e w1 ⟨v,rfl,hv,hB1⟩
 obtain⟨va,vc,D,rfl,g1,da,g3,g4,O⟩:=hv;have bF:Hid (cL 76 #[.slice va D.length vc] w1 λe w'=>∃v,e=.returned v/\TW (Ag w'.cell? S) v ((C7 G).map λnm=>(nm,Ci G nm))/\Below w1.heap.size w1 w'):=by
  have e:=Vj (w:=w1) (S:=S) (vc:=vc) (D:=D) (λk aA=>N1 (be k aA) hB1.size) g3 g4 (by
   cases D with
   |nil=>intro i j a b bG;simp at bG
   |cons s D=>exact ZE O (ab (by rw[<-O];simp)).ly) (λs Z=>(ab (by rw[<-O];intro e;rw[List.map_eq_nil_iff]at e;rw[e]at Z;cases Z)).lil s.pr (by rw[<-O];exact tr Z)) (by
   rw[O];by_cases ad:G=[]
   .rw[ad];exact N7 _
   .exact(ab ad).tot)
  rw[O]at e;exact e
 have bH:Hid<|(C7 G).length<=1000:=by
  show _<=_;have I:=VC G;by_cases ad:G=[]
  .rw[ad];exact N7 _
  .have:=(ab ad).tot;omega
 go_wp2_with fail
 go_call bF as e w2 ⟨v5,rfl,hv5,hB2⟩
 obtain⟨bY,dd,H,rfl,b0,de,b1,dg,b2⟩:=hv5;have a1:Hid<|H.map (·.n)=C7 G:=by
  show _=_;have I:=RX (List.map Prod.fst) b2;rw[tC,tC]at I;have a6:(C7 G).map (Prod.fst∘λnm=>(nm,Ci G nm))=C7 G:=by
   have:(Prod.fst∘λnm:BA=>(nm,Ci G nm))=id:=rfl;rw[this,List.map_id]
  rw[a6]at I;rw[<-I];unfold Ca;rw[tC];rfl
 have b4:H.length=(C7 G).length:=by rw[<-a1.out,CE]
 have b6:Hid _:=b1;have a7:=hB1.trans<|hB2.mono hB1.size;obtain⟨J,ak⟩:=Aq H.length;have dj:J<=1000:=by have:=bH.out;rw[<-b4,ak.out]at this;exact this
 rw[ak.out]at b0⊢;go_wp2;go_loopw [5,13] (λv i wr=>∃j:Nat,j<=J/\i=iN j/\Hid (wr.ownsRow w2.heap.size 9 1 v j<|In<|(H.map (·.n)).take j)/\Hid (Below w2.heap.size w2 wr)) (λ_ i _=>J-(intOf i).toNat)
 case atStart=>exact⟨0,N7 _,rfl,CZ _ _ _ _,NB _ _⟩
 case round=>
  obtain⟨j,dk,rfl,bf,al⟩:=hrel;by_cases b7:j<J
  .have b9:decide ((j:Int)<(J:Int))=true:=NY oM
   have dm:(j:Int)<(J:Int):=by omega
   obtain⟨e,ar⟩:∃e,H[j]? =some e:=⟨_,NA (by rw[ak.out];exact b7)⟩;obtain⟨pb,ce,cf⟩:∃b,bY=some (aD b 0)/\∀(i:Nat) e,H[i]? =some e->Ag w2.cell? S (aD b<|i*2)=some (.string e.n)/\Ag w2.cell? S (aD b<|i*2+1)=some (.slice e.a e.L.length e.c):=by
    rcases b6.out with q|q
    .rw[q]at ar;simp at ar
    .exact q
   subst ce;obtain⟨x0,bg⟩:=cf j e ar;have x0:=Ai al _ _<|BW _ _ _ _ x0;have bg:=Ai al _ _<|BW _ _ _ _ bg;have ch:Hid<|In ((H.map (·.n)).take<|j+1)=In ((H.map (·.n)).take j)++In [e.n]:=by
    show _=_;rw[CO,R6,ar];unfold In;rw[CT];rfl
   obtain⟨bi,bk⟩:=GS wr (.string e.n) (.slice e.a e.L.length e.c) 169;have bl:=(NB _ wr).alloc (rP _)<|.cells #[.string e.n,.slice e.a e.L.length e.c] 169;have a8:Hid _:=Fy bf bl;have ao:Hid _:=al.trans<|bl.mono al.size;go_upto_region 5 with fail
   generalize wr.alloc (.cells #[.string e.n,.slice e.a e.L.length e.c] 169)=ba at bi bk a8 ao⊢;generalize wr.heap.size=dn at bi bk⊢;go_wp2_with (at_builtin;refine DP (ba.alloc<|.cells #[.string e.n] 9) rfl (.tmp 17) (.tmp 20) 50 rfl w2.heap.size 9 bo (.string ⟨#[]⟩) 1 16 underlying50 bx bA bB bC rfl oD u5 j (In<|(H.map (·.n)).take j) rfl (tL a8 _) (some<|aD ba.heap.size 0) 1 1 (In [e.n]) rfl rfl (.inr ⟨_,rfl,λq t cl=>by rw[Ef,RT];refine aC.trans ?_;simpa [In]using cl⟩) (iY _) (by unfold maxLen;omega) oM (by have:=(Below.size ao);rw[ND];omega) ?_)
   intro co cr cx cD dp;have cF:Hid<|cr.ownsRow w2.heap.size 9 1 co (j+1)<|In<|(H.map (·.n)).take<|j+1:=by
    show World.ownsRow ..;rw[ch.out];exact cx
   have c3:=hid ((Below.trans ao<|((NB _ ba).alloc (Below.size ao) _)).grown cD (by have:=(Below.size ao);rw[ND];omega) λg e=>((tK a8) g e).1);go_wp2;go_roundw
   case rel=>exact⟨j+1,by omega,by go_num,cF,c3⟩
   case measure=>(simp[intOf];try omega)
  .obtain rfl:j=J:=by omega
   have b9:=NM oM;go_wp2;go_ret;have I:=bf.out;rw[R3 (by rw[CE,ak.out];omega),a1]at I;have c4:(C7 G).length=j:=by rw[<-a1.out,CE,ak.out]
   rw[<-c4]at I;obtain⟨ap,c5,c6,a6,c8,c9⟩:=fm (S:=S) (λk aA=>N1 (be k aA) a7.size) I;exact⟨⟨ap,c5,by rw[c6];rfl,a6,c8,c9⟩,a7.trans<|al.mono a7.size⟩
theorem OA{P:Program}{G:Array Oper}{rM:List Oper}{o:Oper}{a:Act}{Q:Exit->Act->World->Prop}(H:o.guard=none)(x:Operand)(I:o.op=.move x)(h:wpList P G Q rM (a.put o.dst<|a.eval x) w):wpList P G Q (o::rM) a w:=
 wpList_plain H λ_ J=>by
  unfold Oper.wp execOp;simp only[I,Sem.run_pure];exact J _ _ h
theorem aZ{w0:World}{M:Df}(Z:DF 60 x0)(G:G9 60 x0 rM){an:Option Addr}{rN:Nat}(H:Bi w0.cell? an ry)(ab:∀s∈ry,Bf s=true)(ad:ry≠[])(a1:ry.length<=100)(al:ry.length<=rN/\rN<=9223372036854775807)
 {I:Nat} (ao:Ce w I 10<|.slice an ry.length rN):
 Nt w0 w M x0 rM (EW M.us M.gs x0 rM ry) (.func (.func 168) #[] #[pO I 0]):=by
 refine⟨_,_,rfl,λargs w=>by kernel_rfl,λW J ak lc ap a6 a7 ar=>?_⟩;have c0:=Aj ap ao
 have aw:Hid (Calls prog 169 #[pO J 0,.slice an ry.length rN] W λe w'=>e=.returned (Ao (EW M.us M.gs x0 rM ry).1)/\BQ w0 w' J ak lc M (EW M.us M.gs x0 rM ry).2 rM/\Az ak W w'):=UA ar G H ad oM al (λO=>by
  have e:=Z.up (ry:=ry.dropLast) (λs H=>ab s<|List.dropLast_subset _ H) (λx hx=>(G.low x hx).1) O;rw[tF]at e;exact⟨e.lil,e.ids,by have:=e.cnt;omega,G.low,G.len⟩)
 have az:Hid<|(EW M.us M.gs x0 rM ry).1=0->DF 400 (EW M.us M.gs x0 rM ry).2:=λO=>by
  have e:=Z.remove ad ab (λx hx=>(G.low x hx).1) O;exact⟨e.lil,e.ids,by have:=e.cnt;omega⟩
 generalize EW M.us M.gs x0 rM ry=P at*;show Calls prog 168 #[pO J 0,pO I 0] W _;go_enter func168,ntmps168;go_wp2_with fail
 go_call aw as e w2 ⟨rfl,s2,b2⟩
 have aA:=hid s2;go_wp2;go_ret;exact⟨P.2,rfl,aA,λe=>⟨rfl,az e⟩⟩
noncomputable def Bk.gonS (c:Bk) (x0:Nd) (rM:List Nd) (p:BA):Int×Nd:=if p.data.toList=[47]then(15,x0)else match c.atP true p with
 |.error E=>(E,x0)
 |.ok f=>if c.bx.takE f.1 f.2.1=0 then(if(C7<|AX (x0::rM)<|Bo p.data.toList).length=0 then EW c.us c.gs x0 rM (Bo p.data.toList)else(8,x0))else(c.bx.takE f.1 f.2.1,x0)
theorem br(h:A6 w b B)(az:BN B x0 rM){cop cA cB:Int}{cpath coth cname cdata:BA}(bf:Int)(bH:Ce w (1) 0<|iN bf):
 Calls prog 126 #[pO b 0,Fr cop cpath coth cname cdata cA cB] w λe w'=>e=.returned (Ao (fin B.q x0<|B.cor.gonS x0 rM cpath).1)/\De w w' b B rM (fin B.q x0<|B.cor.gonS x0 rM cpath).2 B.crd:=by
 obtain⟨S,G⟩:=Aq<|B.cor.gonS x0 rM cpath;rw[G.out];obtain⟨⟨bY,b0⟩,aA⟩:∃R,Hid<|fin B.q x0 S=R:=⟨_,rfl⟩;rw[aA.out];unfold Bk.gonS at G;have a6:Bw w<|w.alloc<|AY cop cpath coth cname cdata cA cB:=(NB _ _).alloc (rP _) _;have ab:=hid a6;have p1:Ce (w.alloc<|AY cop cpath coth cname cdata cA cB) w.heap.size 1<|.string cpath:=rO _ _ _ _ rfl;have b1:Hid (Calls prog 119 #[pO b 0,.string cpath] (w.alloc<|AY cop cpath coth cname cdata cA cB) λe w'=>Dr B w' cpath true (B.cor.atP true cpath) e/\Bw (w.alloc<|AY cop cpath coth cname cdata cA cB) w'):=by
  go_call LX (h.below a6) az.good cpath (Eg _).1 (Eg _).2 bf (Aj a6 bH) as e w' ⟨h1,h2⟩
  exact⟨KH az.good h1,h2⟩
 have ad:=hid h;have H:=hid az;have ak:=hid<|De.stay ad H;have al:Hid (∀E,E≠0->S=(E,x0)->bY=E/\b0=x0):=λE I e=>Jw I<|e▸aA;have b2:Hid (∀O,Calls prog 165 #[.string cpath] O λe w'=>(∃r,e=.returned (.bool r)/\(r=false->cpath.data.toList≠[47])/\(r=true->cpath.data.toList=[47]))/\O=w'):=λO=>Vb O cpath
 go_enter func126,ntmps126;go_wp2_with fail
 go_call b2 _ as e wq ⟨⟨r,rfl,hr,hrt⟩,rfl⟩
 cases r with
 |false=>
  have b4:=hid<|hr rfl;rw[NO<|hr rfl]at G;go_wp2_with fail
  generalize(w.alloc<|AY cop cpath coth cname cdata cA cB)=O at*;go_call b1 as e w2 ⟨hA,q2⟩
  obtain⟨cs,E,rfl,bg,b6,b7,b9⟩:=hA;obtain⟨ce,du,bi,bk,cf⟩:=JP w2 cs bg b6;have ch:=Cn cs;unfold Value.cells at ch;have cl:=hid bg;have co:=hid<|q2.trans<|bk.out.mono q2.size;have ao:=hid<|ab.trans<|co.mono ab.size;have cr:Hid _:=b7;have cx:Hid _:=b9;have dw:=hid<|Rz ab.size q2.size;by_cases I:E=0
  .subst I
   obtain⟨f,a7,bl,ap,a8,ba,bb,bn,bo⟩:=cr rfl;rw[bo]at G;have J:=I1 bl;rw[<-ap]at J;have cD:=bb.dir;have bp:=hid<|Sd (ad.below ao) cs f.t f.dir (by rw[a7];obtain⟨t,dir,na,nc,ry,cF,⟨c3,c4,c5,c6,c8,c9,da,xs⟩,dd,ly⟩:=f;rfl) cD.1;rw[<-ap]at G;replace G:Hid<|(if B.takE f.t f.dir=0 then(if(C7<|AX (x0::rM) f.ry).length=0 then EW B.M.us B.M.gs x0 rM f.ry else(8,x0))else(B.takE f.t f.dir,x0))=S:=G.out;generalize B.takE f.t f.dir=R at bp G;obtain⟨t,dir,na,nc,ry,cF,⟨c3,c4,c5,c6,c8,c9,da,xs⟩,dd,ly⟩:=f;dsimp only at ap a8 ba bb bn J G;have de:Ce ce w2.heap.size 10<|.slice na ry.length nc:=bi 10 _ (by rw[a7];rfl);have dg:=hid<|a8.on<|Ai bk.out;have ar:Hid<|(∀s∈ry,Bf s=true)/\ry.length<=6/\ry≠[]:=⟨J.1,J.2.1,J.2.2 b4⟩;have dj:=hid ba;rw[show Ao 0=Value.nilIface from rfl];clear a7 bl ap a8 ba bb bn bo J p1 cf;go_upto_region 6 with fail
   refine tn ?_;refine OA rfl _ rfl ?_;simp only[tk];refine wpList_load_mid rfl _ _ rfl _ _ rfl cs _ bi rfl rfl (by rw[cl.out];rfl) ?_;simp only[tk];go_wp2_with fail
   go_call bp as e w9 ⟨rfl,q9⟩
   have bd:=hid<|ao.trans<|q9.mono ao.size;have dk:=Aj q9 de;have bq:=hid<|dg.on<|Ai q9;by_cases aw:R=0
   .subst aw
    rw[NS rfl]at G;obtain⟨bs,bu⟩:∃n,Hid<|(C7<|AX (x0::rM) ry).length=n:=⟨_,rfl⟩;rw[bu.out]at G;rw[show Ao 0=Value.nilIface from rfl];have bx:=ad.out.below bd;have bA:=bx.lay;have bB:=bx.cells.2.2.1;rw[H.out.xs]at bA bB;have bC:Ce w9.drew b 2 (.slice B.la (rM.length+1) B.lc)/\Ce w9.drew w2.heap.size 10 (.slice na ry.length nc):=⟨bB,dk⟩;have dm:Hid (Calls prog 120 #[.slice B.la (rM.length+1) B.lc,.slice na ry.length nc] w9.drew λe w'=>(∃a cap,e=.returned (.slice a bs cap))/\Bw w9.drew w'):=by
     rw[<-bu.out];go_call Vu (w:=w9.drew) (S:=λ_=>false) (xs:=x0::rM) (a:=B.la) (cap:=B.lc) (an:=na) (rN:=nc) (ry:=ry) (λ_ dn=>(by cases dn)) (by rw[Fe];exact bA) (by rw[Fe];exact bq) (H.sz.ok oM) (by have:=ar.out.2.1;omega) as e w' ⟨⟨a1,c1,e1,_⟩,e2⟩
     exact⟨⟨a1,c1,e1⟩,e2⟩
    have bF:=hid bd.drew;go_upto_region 9 with fail
    go_region_held3 (λw'=>Ce w' b 2 (.slice B.la (rM.length+1) B.lc)/\Ce w' w2.heap.size 10 (.slice na ry.length nc)) (assumption) (first|(go_at_call 120;go_call dm.out as e wL ⟨⟨la,lcp,rfl⟩,qL⟩;have dp:Ce wL b 2 (.slice B.la (rM.length+1) B.lc)/\Ce wL w2.heap.size 10 (.slice na ry.length nc):=⟨Aj qL bC.1,Aj qL bC.2⟩;have be:Hid<|Bw w wL:=bF.out.trans<|qL.mono bF.out.size;have dr:Hid<|Bw w9 wL:=(NB _ _).drew.trans qL))
    all_goals
     cases bs with
     |succ n=>
      go_wp2;go_ret;obtain⟨rfl,rfl⟩:=al 8 oD (by rw[<-G.out];exact NO oM);exact⟨rfl,ak _ be⟩
     |zero=>
      have bG:=hid<|Oo (ad.below be) (NB _ _) H<|aZ H.fine H.sz (bq.on<|Ai dr) ar.1 ar.2.2 (by have:=ar.out.2.1;omega) dj dp.2;rw[NS rfl]at G;rw[G.out,aA.out]at bG;go_wp2_with fail
      go_call bG as e wH ⟨rfl,hT⟩
      have ds:=hid<|hT.up be;go_wp2;go_ret;exact⟨rfl,ds⟩
   .have Z:=AP (n:=R) rfl aw
    rw[Z];go_wp2;go_ret;obtain⟨rfl,rfl⟩:=al R aw (by rw[<-G.out,NO aw]);exact⟨by rw[Z];rfl,ak _ bd⟩
  .have Z:=AP (n:=E) rfl I
   rw[Z];go_wp2;go_ret;obtain⟨rfl,rfl⟩:=al E I (by rw[<-G.out,cx.out I]);exact⟨by rw[Z];rfl,ak _ ao⟩
 |true=>
  obtain⟨rfl,rfl⟩:=al 15 oD (by rw[<-G.out];exact NS<|hrt rfl);go_wp2;go_ret;exact⟨rfl,ak _ ab⟩
end Go.Proofs.YtchpdmjlicmdaaaGreatDoor
