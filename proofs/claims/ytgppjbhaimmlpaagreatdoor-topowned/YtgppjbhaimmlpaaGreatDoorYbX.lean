/-
  TopOwned: Yb Yo.
-/
import Derived.Test.YtgppjbhaimmlpaaGreatDoorApX
import Derived.Test.YtgppjbhaimmlpaaGreatDoorYjX
import Derived.Test.YtgppjbhaimmlpaaGreatDoorCcX
import Derived.Deep.Cut
import Derived.Test.YtgppjbhaimmlpaaGreatDoorVeX
set_option maxRecDepth 100000
set_option maxHeartbeats 16000000
namespace Go.Proofs.YtgppjbhaimmlpaaGreatDoor
open Go.RowKit Go.Proofs.Tryz
theorem NU{us gs:List Rg}{k m u g:Int}{o:Bool}{nh:List Kv}{d:BA}{ks:At}{y:Nd}(h:Bh true us gs (.mk k m u g o nh d ks)=some y):∃F G,y=.mk k m F G o nh d ks:=by
 rw[Bh]at h;split at h
 ·cases h;exact⟨_,_,rfl⟩
 ·cases h
theorem Kh{us gs:List Rg}{k m u g H I F G:Int}{o J:Bool}{nh O:List Kv}{d Q:BA}{ks R:At}(h:Bh true us gs (.mk k m u g o nh d ks)=some (.mk H I F G J O Q R)):AZ F∧AZ G:=by
 rw[Bh]at h;simp only[if_true]at h;split at h
 ·rename_i a b e1 e2
  cases h;exact⟨L9 e1,L9 e2⟩
 ·cases h
theorem aK{u g:Int}{F:List Int}{c:Int}(h:CR u g F c=0):(0≤c∧c≤15∧F.length≤8)∧AZ u∧AZ g:=by
 unfold CR at h;split at h
 ·cases h
 ·rename_i hq
  split at h
  ·cases h
  ·rename_i h4
   have G:BP u=true:=by
    cases e:BP u with
    |true=>rfl
    |false=>exact absurd (.inl e) hq
   have H:BP g=true:=by
    cases e:BP g with
    |true=>rfl
    |false=>exact absurd (.inr (.inl e)) hq
   have I:¬(c<0∨15<c):=fun e=>hq (.inr (.inr e));unfold BP at G H
   simp at G H;exact⟨⟨by omega,by omega,by omega⟩,⟨by omega,by omega⟩,⟨by omega,by omega⟩⟩
theorem PX{w:World}{b:Nat}{B:Bx}{x0:Nd}{ni:List Nd}(h:A5 w b B)(e6:BS B x0 ni){f:Fd}(e7:GL B w f.nf f)(fy:f.there=false)(e8:A0 w.cell? f.na f.nf)(e9:∀s∈f.nf,AQ s=true)(fa:f.nf.length≤100)(fb:f.nf.length≤f.nc∧f.nc≤9223372036854775807)
 {kd md:Int} {dat:BA} (fc:kd=1∨kd=2) (fA:0≤md∧md≤4095) (fB:dat.size≤300):
 Calls prog 74 #[.pointer (some ⟨b,0,none⟩),BK f.l,.agg #[.int .i64 kd,.int .i64 md,.int .i64 0,.int .i64 0,.bool false,.slice none 0 0,.string dat,.slice none 0 0]] w fun e w'=>(∃E,e=.returned (Am E))∧BI w w' b B ni:=by
 have eX:Hid (f.nf≠[]):=e7.no fy;have eY:=e7.dir;clear e7 fy;obtain⟨ba,dr⟩:∃ba,f.l=ba:=⟨_,rfl⟩;rw[dr];obtain⟨t,⟨er,dm,es,R,el⟩,na,nc,nf,gl,⟨gm,go,gp,gq,gr,gu,gv,xs⟩,gw,ly⟩:=f;have fC:ba[5]? =some (.bool er):=by rw[←dr];rfl
 have fD:ba[6]? =some (.int .i64 dm):=by rw[←dr];rfl
 have fE:ba[7]? =some (.int .i64 es):=by rw[←dr];rfl
 have fF:ba[8]? =some (.int .i64 R):=by rw[←dr];rfl
 have fG:ba[9]? =some (.bool el):=by rw[←dr];rfl
 have fH:ba[10]? =some (.slice na nf.length nc):=by rw[←dr];rfl
 clear dr;dsimp only at e8 e9 fa fb eX eY;have bv:Hid (A5 w b B):=h;have dj:Hid (BS B x0 ni):=e6;have fd:Hid (A0 w.cell? na nf):=e8;have fe:Hid (∀s∈nf,AQ s=true):=e9;have ff:Hid (nf.length≤100):=fa;have fg:Hid (nf.length≤nc∧nc≤9223372036854775807):=fb;have fh:Hid (kd=1∨kd=2):=fc;have ep:Hid (0≤md∧md≤4095):=fA;have fi:Hid (dat.size≤300):=fB;have eZ:=aK e6.cred.1;have dn:Hid (0≤B.k∧B.k≤15∧B.cs.length≤8):=eZ.1;have fj:Hid (AZ B.u∧AZ B.g):=eZ.2;have f5:Hid (AZ B.g):=eZ.2.2;have fI:Hid (AZ R):=eY.2.2;have eu:Hid (∀w',Bw w w'→BI w w' b B ni):=fun w' hb=>⟨Au.of_below hb,B,x0,bv.out.below hb,dj.out,rfl,rfl⟩;have fJ:=A6.new2 w _ rfl ba 86
 have fl:Bw w (w.alloc (.cells ba.toArray 86)):=(nt _ _).alloc (nl _) _;have fm:Bw w ((w.alloc (.cells ba.toArray 86)).alloc (.cells #[.int .i64 kd,.int .i64 md,.int .i64 0,.int .i64 0,.bool false,.slice none 0 0,.string dat,.slice none 0 0] 50)):=fl.alloc fl.size _;have fK:Bw (w.alloc (.cells ba.toArray 86)) ((w.alloc (.cells ba.toArray 86)).alloc (.cells #[.int .i64 kd,.int .i64 md,.int .i64 0,.int .i64 0,.bool false,.slice none 0 0,.string dat,.slice none 0 0] 50)):=(nt _ _).alloc (nl _) _;have fo:=As.new (w.alloc (.cells ba.toArray 86)) kd md 0 0 false [] dat [] zH;rw[nv]at fo;have fL:∀o,8≤o→((w.alloc (.cells ba.toArray 86)).alloc (.cells #[.int .i64 kd,.int .i64 md,.int .i64 0,.int .i64 0,.bool false,.slice none 0 0,.string dat,.slice none 0 0] 50)).cell? ⟨w.heap.size+1,o,none⟩=none:=fun o ad=>by
  rw[nk _ _ _ _ (by rw[nv])];exact rG (by simpa using ad)
 have em:=fJ.below fK;have fM:Hid (Calls prog 69 #[.pointer (some ⟨b,0,none⟩),.agg #[.bool er,.int .i64 dm,.int .i64 es,.int .i64 R,.bool el],.int .i64 2] ((w.alloc (.cells ba.toArray 86)).alloc (.cells #[.int .i64 kd,.int .i64 md,.int .i64 0,.int .i64 0,.bool false,.slice none 0 0,.string dat,.slice none 0 0] 50)) fun e w'=>e=.returned (Am (B.mayE ⟨er,dm,es,R,el⟩ 2))∧Bw ((w.alloc (.cells ba.toArray 86)).alloc (.cells #[.int .i64 kd,.int .i64 md,.int .i64 0,.int .i64 0,.bool false,.slice none 0 0,.string dat,.slice none 0 0] 50)) w'):=IC (h.below fm) ⟨er,dm,es,R,el⟩ 2 eY.1;generalize B.mayE ⟨er,dm,es,R,el⟩ 2=fp at*;have f7:=em 5 _ fC;have fN:=em 6 _ fD;have f8:=em 7 _ fE;have fO:=em 8 _ fF;have fP:=em 9 _ fG;have fQ:=em 10 _ fH;have f9:=BT ba;unfold Value.cells at f9;have fq:Hid (As ((w.alloc (.cells ba.toArray 86)).alloc (.cells #[.int .i64 kd,.int .i64 md,.int .i64 0,.int .i64 0,.bool false,.slice none 0 0,.string dat,.slice none 0 0] 50)) (w.heap.size+1) (.mk kd md 0 0 false [] dat []) zH):=fo;have fR:Hid (∀o,8≤o→((w.alloc (.cells ba.toArray 86)).alloc (.cells #[.int .i64 kd,.int .i64 md,.int .i64 0,.int .i64 0,.bool false,.slice none 0 0,.string dat,.slice none 0 0] 50)).cell? ⟨w.heap.size+1,o,none⟩=none):=fL;have fs:Hid (Bw w ((w.alloc (.cells ba.toArray 86)).alloc (.cells #[.int .i64 kd,.int .i64 md,.int .i64 0,.int .i64 0,.bool false,.slice none 0 0,.string dat,.slice none 0 0] 50))):=fm;clear fJ em fl fm fK fo fL fC fD fE fF fG fH h e6 e8 e9 fa fb eZ fA fB eY;go_enter func74,ntmps74;go_wp2_with fail
 generalize((w.alloc (.cells ba.toArray 86)).alloc (.cells #[.int .i64 kd,.int .i64 md,.int .i64 0,.int .i64 0,.bool false,.slice none 0 0,.string dat,.slice none 0 0] 50))=ga at*;refine nn fM.out ?_;rintro e ak ⟨rfl,ds⟩;have e0:Hid (Bw w ak):=fs.out.trans (ds.mono fs.out.size);have ft:Hid (As ak (w.heap.size+1) (.mk kd md 0 0 false [] dat []) zH):=fq.out.below ds;have fS:w.heap.size+1<ga.heap.size:=fq.out.1.lt;have fT:Hid (∀o,8≤o→ak.cell? ⟨w.heap.size+1,o,none⟩=none):=fun o ad=>(ds.cell (p:=⟨w.heap.size+1,o,none⟩) fS).trans (fR.out o ad);have fU:Hid (Ce ak w.heap.size 10 (.slice na nf.length nc)):=Ad ds fQ
 have fV:=Ad ds fN;have fW:=Ad ds fO;have fX:=Ad ds fP;clear fM f7 fN f8 fO fP fQ fq fR fs ds fS;by_cases fY:fp=0
 ·subst fY
  rw[show Am 0=Value.nilIface from rfl];have fu:=bv.out.below e0.out;have I:Ce ak.drew b 3 (.int .i64 B.u)∧Ce ak.drew b 4 (.int .i64 B.g):=⟨fu.cells.2.2.2.1,fu.cells.2.2.2.2.1⟩;obtain⟨⟨az,bd,be,a1,bg,bi,bk,bl⟩,bf⟩:=id ft.out;have gb:Ce ak.drew (w.heap.size+1) 2 (.int .i64 0):=be;have gd:Ce ak.drew (w.heap.size+1) 3 (.int .i64 0):=a1;have gg:ak.drew.frozen? ⟨w.heap.size+1,2,none⟩=false:=bf 2;have fv:ak.drew.frozen? ⟨w.heap.size+1,3,none⟩=false:=bf 3;have e3:b<w.heap.size:=bv.out.lt;have aa:Ce (ak.setCell ⟨w.heap.size+1,2,none⟩ (.int .i64 B.u)).drew b 3 (.int .i64 B.u)∧Ce (ak.setCell ⟨w.heap.size+1,2,none⟩ (.int .i64 B.u)).drew b 4 (.int .i64 B.g):=⟨(AW (w:=ak) (by show b≠w.heap.size+1;omega)).trans I.1,(AW (w:=ak) (by show b≠w.heap.size+1;omega)).trans I.2⟩;have fZ:Ce ((ak.setCell ⟨w.heap.size+1,2,none⟩ (.int .i64 B.u)).setCell ⟨w.heap.size+1,3,none⟩ (.int .i64 B.g)).drew b 3 (.int .i64 B.u)∧Ce ((ak.setCell ⟨w.heap.size+1,2,none⟩ (.int .i64 B.u)).setCell ⟨w.heap.size+1,3,none⟩ (.int .i64 B.g)).drew b 4 (.int .i64 B.g):=⟨(AW (w:=(ak.setCell ⟨w.heap.size+1,2,none⟩ (.int .i64 B.u))) (by show b≠w.heap.size+1;omega)).trans aa.1,(AW (w:=(ak.setCell ⟨w.heap.size+1,2,none⟩ (.int .i64 B.u))) (by show b≠w.heap.size+1;omega)).trans aa.2⟩;have gh:Ce (ak.setCell ⟨w.heap.size+1,2,none⟩ (.int .i64 B.u)).drew (w.heap.size+1) 3 (.int .i64 0):=(AA (w:=ak) (by omega)).trans a1;have gi:(ak.setCell ⟨w.heap.size+1,2,none⟩ (.int .i64 B.u)).drew.frozen? ⟨w.heap.size+1,3,none⟩=false:=by have:=bf 3;simpa using this
  clear fu az bd be a1 bg bi bk bl bf;go_upto_region 4 with fail
  go_region_held3 (fun w'=>Ce w' b 3 (.int .i64 B.u)∧Ce w' b 4 (.int .i64 B.g)) (first|with_reducible exact I|with_reducible exact aa|with_reducible exact fZ) (fail)
  all_goals
   obtain⟨a6,dp⟩:∃a6,((ak.setCell ⟨w.heap.size+1,2,none⟩ (.int .i64 B.u)).setCell ⟨w.heap.size+1,3,none⟩ (.int .i64 B.g)).drew=a6:=⟨_,rfl⟩;have b6:Hid (As a6 (w.heap.size+1) (.mk kd md B.u B.g false [] dat []) zH):=by rw[←dp];exact((ft.out.set2 B.u).set3 B.g).below (nt _ _).drew
   have fw:Hid (∀o,8≤o→a6.cell? ⟨w.heap.size+1,o,none⟩=none):=fun o ad=>by rw[←dp];exact(AA (w:=(ak.setCell ⟨w.heap.size+1,2,none⟩ (.int .i64 B.u))) (by omega)).trans ((AA (w:=ak) (by omega)).trans (fT.out o ad))
   have ev:Hid (Bw w a6):=by rw[←dp];exact((e0.out.setCell (by show w.heap.size≤w.heap.size+1;omega) _).setCell (by show w.heap.size≤w.heap.size+1;omega) _).drew
   have fx:Hid (Ce a6 w.heap.size 10 (.slice na nf.length nc)):=by rw[←dp];exact(AW (w:=(ak.setCell ⟨w.heap.size+1,2,none⟩ (.int .i64 B.u))) (by show w.heap.size≠w.heap.size+1;omega)).trans ((AW (w:=ak) (by show w.heap.size≠w.heap.size+1;omega)).trans fU.out)
   have b7:Ce a6 w.heap.size 6 (.int .i64 dm):=by rw[←dp];exact(AW (w:=(ak.setCell ⟨w.heap.size+1,2,none⟩ (.int .i64 B.u))) (by show w.heap.size≠w.heap.size+1;omega)).trans ((AW (w:=ak) (by show w.heap.size≠w.heap.size+1;omega)).trans fV)
   have f0:Ce a6 w.heap.size 8 (.int .i64 R):=by rw[←dp];exact(AW (w:=(ak.setCell ⟨w.heap.size+1,2,none⟩ (.int .i64 B.u))) (by show w.heap.size≠w.heap.size+1;omega)).trans ((AW (w:=ak) (by show w.heap.size≠w.heap.size+1;omega)).trans fW)
   have a9:Ce a6 w.heap.size 9 (.bool el):=by rw[←dp];exact(AW (w:=(ak.setCell ⟨w.heap.size+1,2,none⟩ (.int .i64 B.u))) (by show w.heap.size≠w.heap.size+1;omega)).trans ((AW (w:=ak) (by show w.heap.size≠w.heap.size+1;omega)).trans fX)
   rw[dp];clear dp I aa fZ gh gi gb gd gg fv ft fT e0 fU fV fW fX e3;by_cases f1:bits .and .i64 dm 1024=0
   ·have gj:(bits .and .i64 dm 1024 !=0)=false:=by simp[f1]
    go_upto_region 10 with fail
    clear b7 f0 a9;have b9:=bv.out.below ev.out;obtain⟨a0,bx,a2,a3,a4,a5,b7,eB⟩:=b9.cells;obtain⟨⟨az,bd,be,a1,bg,bi,bk,bl⟩,bf⟩:=b6.out;have du:=b9.grp;have I:Ce a6.drew b 3 (.int .i64 B.u)∧Ce a6.drew b 4 (.int .i64 B.g)∧Ce a6.drew b 5 (.slice B.ca B.cs.length B.cc)∧Ce a6.drew b 6 (.int .i64 B.k)∧Ce a6.drew (w.heap.size+1) 3 (.int .i64 B.g):=⟨a3,a4,a5,b7,a1⟩;obtain⟨t3,t4,t5,dw,dx⟩:=id I;have dy:Ce a6.drew (w.heap.size+1) 1 (.int .i64 md):=bd;obtain⟨O,eE⟩:∃O,Hid (H6 B.g B.cs B.k md B.g=O):=⟨_,rfl⟩;have cb:Hid (Calls prog 92 #[.agg #[.int .i64 B.u,.int .i64 B.g,.slice B.ca B.cs.length B.cc,.int .i64 B.k],.int .i64 md,.int .i64 B.g] a6.drew fun e w'=>e=.returned (.int .i64 O)∧Bw a6.drew w'):=by
     have e:=KR B.u B.g B.k md B.g B.ca B.cc B.cs a6.drew dn.out.2.2 (du.below (nt _ _).drew) dn.out.1 dn.out.2.1 ep.out.1 ep.out.2;rw[eE.out]at e;exact e
    have cf:Hid (Bw w a6.drew):=ev.out.drew;have eF:Hid (w.heap.size+1<a6.drew.heap.size):=ny a6 ⟨w.heap.size+1,0,none⟩ az;have dz:Hid (As a6.drew (w.heap.size+1) (.mk kd md B.u B.g false [] dat []) zH):=b6.out;have e3:b<w.heap.size+1:=by have:=bv.out.lt;omega
    clear b9 a0 bx a2 eB be bg bi bk bl bf du az bd a1 a3 a4 a5 b7;go_cut []from 44 (fun Y=>As Y (w.heap.size+1) (.mk kd O B.u B.g false [] dat []) zH∧(∀o,8≤o→Y.cell? ⟨w.heap.size+1,o,none⟩=none)∧Ce Y w.heap.size 10 (.slice na nf.length nc)∧Bw w Y)
    case first=>
     go_region_with (first|(go_at_call 92;(refine nn cb.out ?_);rintro e H ⟨rfl,q6⟩;have aa:Ce H b 3 (.int .i64 B.u)∧Ce H b 4 (.int .i64 B.g)∧Ce H b 5 (.slice B.ca B.cs.length B.cc)∧Ce H b 6 (.int .i64 B.k)∧Ce H (w.heap.size+1) 3 (.int .i64 B.g):=⟨Ad q6 I.1,Ad q6 I.2.1,Ad q6 I.2.2.1,Ad q6 I.2.2.2.1,Ad q6 I.2.2.2.2⟩;have bA:Hid (As H (w.heap.size+1) (.mk kd md B.u B.g false [] dat []) zH):=dz.out.below q6;have en:Ce H (w.heap.size+1) 1 (.int .i64 md):=bA.out.1.2.1;have eo:H.frozen? ⟨w.heap.size+1,1,none⟩=false:=bA.out.2 1;have d0:Hid (∀o,8≤o→H.cell? ⟨w.heap.size+1,o,none⟩=none):=(fun o ad=>(q6.cell (p:=⟨w.heap.size+1,o,none⟩) eF.out).trans (fw.out o ad));have d1:Hid (Ce H w.heap.size 10 (.slice na nf.length nc)):=Ad q6 fx.out;have d2:Hid (Bw w H):=cf.out.trans (q6.mono cf.out.size);have eG:Ce (H.setCell ⟨w.heap.size+1,1,none⟩ (.int .i64 O)) b 3 (.int .i64 B.u)∧Ce (H.setCell ⟨w.heap.size+1,1,none⟩ (.int .i64 O)) b 4 (.int .i64 B.g)∧Ce (H.setCell ⟨w.heap.size+1,1,none⟩ (.int .i64 O)) b 5 (.slice B.ca B.cs.length B.cc)∧Ce (H.setCell ⟨w.heap.size+1,1,none⟩ (.int .i64 O)) b 6 (.int .i64 B.k)∧Ce (H.setCell ⟨w.heap.size+1,1,none⟩ (.int .i64 O)) (w.heap.size+1) 3 (.int .i64 B.g):=⟨(AW (by show b≠w.heap.size+1;omega)).trans aa.1,(AW (by show b≠w.heap.size+1;omega)).trans aa.2.1,(AW (by show b≠w.heap.size+1;omega)).trans aa.2.2.1,(AW (by show b≠w.heap.size+1;omega)).trans aa.2.2.2.1,(AA (by show(3:Nat)≠1;omega)).trans aa.2.2.2.2⟩;clear cb q6))
     all_goals
      have bb:Hid (As (H.setCell ⟨w.heap.size+1,1,none⟩ (.int .i64 O)) (w.heap.size+1) (.mk kd O B.u B.g false [] dat []) zH):=bA.out.set1 O;have bn:Hid (∀o,8≤o→(H.setCell ⟨w.heap.size+1,1,none⟩ (.int .i64 O)).cell? ⟨w.heap.size+1,o,none⟩=none):=fun o ad=>(AA (by show o≠1;omega)).trans (d0.out o ad);have bo:Hid (Ce (H.setCell ⟨w.heap.size+1,1,none⟩ (.int .i64 O)) w.heap.size 10 (.slice na nf.length nc)):=(AW (by show w.heap.size≠w.heap.size+1;omega)).trans d1.out
      have bp:Hid (Bw w (H.setCell ⟨w.heap.size+1,1,none⟩ (.int .i64 O))):=d2.out.setCell (by show w.heap.size≤w.heap.size+1;omega) _;generalize H.setCell ⟨w.heap.size+1,1,none⟩ (.int .i64 O)=b5 at bb bn bo bp⊢;clear I aa eG dy en eo bA d0 d1 d2 t3 t4 t5 dw dx;go_wp2_with fail
      go_meet
      exact⟨bb.out,bn.out,bo.out,bp.out⟩
    case rest=>
     obtain⟨d3,d4,d5,d6⟩:=hcut;have bb:Hid (As wc (w.heap.size+1) (.mk kd O B.u B.g false [] dat []) zH):=d3;have bn:Hid (∀o,8≤o→wc.cell? ⟨w.heap.size+1,o,none⟩=none):=d4;have bo:Hid (Ce wc w.heap.size 10 (.slice na nf.length nc)):=d5;have bp:Hid (Bw w wc):=d6;clear d3 d4 d5 d6 I dy cb cf dz t3 t4 t5 dw dx;generalize wc=b5 at*;have eH:Ce b5 (w.heap.size+1) 0 (.int .i64 kd):=bb.out.1.1;go_upto_region 13 with fail
     obtain⟨G,eI⟩:∃G,G=O:=⟨_,rfl⟩;subst eI;obtain⟨F,dk⟩:∃F,F=b5:=⟨_,rfl⟩;subst dk;have d7:Hid (As F (w.heap.size+1) (.mk kd G B.u B.g false [] dat []) zH):=bb.out;have eJ:Hid (∀o,8≤o→F.cell? ⟨w.heap.size+1,o,none⟩=none):=bn.out;have eK:Hid (Ce F w.heap.size 10 (.slice na nf.length nc)):=bo.out;have d8:Hid (Bw w F):=bp.out;clear eH bb bn bo bp;have cg:=bv.out.below d8.out;obtain⟨a0,bx,_⟩:=cg.cells;obtain⟨⟨az,bd,be,a1,bg,bi,bk,bl⟩,bf⟩:=d7.out;have I:Ce F.drew b 0 (.slice B.M.ua B.M.us.length B.M.uc)∧Ce F.drew b 1 (.slice B.M.ga B.M.gs.length B.M.gc):=⟨a0,bx⟩;obtain⟨t0,bB⟩:=id I;have bC:Ce F.drew (w.heap.size+1) 0 (.int .i64 kd):=az;have bF:Ce F.drew (w.heap.size+1) 1 (.int .i64 G):=bd;have bG:Ce F.drew (w.heap.size+1) 2 (.int .i64 B.u):=be;have bH:Ce F.drew (w.heap.size+1) 3 (.int .i64 B.g):=a1;have bY:Ce F.drew (w.heap.size+1) 4 (.bool false):=bg;have b0:Ce F.drew (w.heap.size+1) 5 (.slice none 0 0):=bi;have b1:Ce F.drew (w.heap.size+1) 6 (.string dat):=bk;have b2:Ce F.drew (w.heap.size+1) 7 (.slice none 0 0):=bl;have eL:Hid (w.heap.size+1<F.drew.heap.size):=ny F ⟨w.heap.size+1,0,none⟩ az;have a7:Hid (Calls prog 30 #[.agg #[.slice B.M.ua B.M.us.length B.M.uc,.slice B.M.ga B.M.gs.length B.M.gc],.agg #[.int .i64 kd,.int .i64 G,.int .i64 B.u,.int .i64 B.g,.bool false,.slice none 0 0,.string dat,.slice none 0 0]] F.drew fun e eM=>Hh F.drew eM (fun _=>false) e (Bh true B.M.us B.M.gs (.mk kd G B.u B.g false [] dat []))):=Hk (W:=F.drew) (S:=fun _=>false) (x:=.mk kd G B.u B.g false [] dat []) (h:=zH) (M:=B.M) (fun _ eN=>(by cases eN)) (Ly _ _ _ _ _ _ _) (by rw[A7,Dl];exact⟨by decide,by decide,trivial⟩) (by rw[cnt,cntL];omega) ⟨fj.out.1,f5.out⟩ (cg.maps.below (nt _ _).drew);have b3:Hid (Bw w F.drew):=d8.out.drew;have ch:Hid (As F.drew (w.heap.size+1) (.mk kd G B.u B.g false [] dat []) zH):=d7.out;clear cg a0 bx az bd be a1 bg bi bk bl bf;obtain⟨cl,b4⟩:∃cl,Hid (Bh true B.M.us B.M.gs (.mk kd G B.u B.g false [] dat [])=cl):=⟨_,rfl⟩;rw[b4.out]at a7;cases cl with
     |none=>
      go_cut [9]from 64 (fun co Y=>co=.iface 74 (.int .i64 11)∧Bw w Y)
      case first=>
       go_region_with (first|(go_at_call 30;(refine nn a7.out ?_);rintro e Q ⟨rfl,Z⟩;have aa:Ce Q b 0 (.slice B.M.ua B.M.us.length B.M.uc)∧Ce Q b 1 (.slice B.M.ga B.M.gs.length B.M.gc):=⟨Ad Z I.1,Ad Z I.2⟩;obtain⟨⟨cp,cq,cr,cu,cx,cA,cB,c3⟩,J⟩:=ch.out.below Z;have c4:=J 0;have c5:=J 1;have c6:=J 2;have c8:=J 3;have c9:=J 4;have da:=J 5;have db:=J 6;have dd:=J 7;have bs:Hid (Bw w Q):=b3.out.trans (Z.mono b3.out.size);rw[show Ao zN zH=.agg #[.int .i64 0,.int .i64 0,.int .i64 0,.int .i64 0,.bool false,.slice none 0 0,.string ⟨#[]⟩,.slice none 0 0]from rfl];clear a7 J))
       all_goals
        have ap:Hid (Bw w (Ar Q (w.heap.size+1) zN zH)):=bs.out.trans (Cf.below (by omega) bs.out.size);obtain⟨bu,ao⟩:∃bu,Ar Q (w.heap.size+1) zN zH=bu:=⟨_,rfl⟩;rw[ao]at ap;simp only[Ar,zN,zH,nQ]at ao;rw[ao];clear cp cq cr cu cx cA cB c3 c4 c5 c6 c8 c9 da db dd I aa bC bF bG bH bY b0 b1 b2 ao t0 bB;go_wp2_with fail
        go_meet
        exact⟨rfl,ap.out⟩
      case rest=>
       obtain⟨rfl,a8⟩:=hcut;have ap:Hid (Bw w wc):=a8;clear a8 a7 I bC bF bG bH bY b0 b1 b2 t0 bB;go_wp2;go_ret;exact⟨⟨11,rfl⟩,eu.out _ ap.out⟩
     |some y=>
      obtain⟨T,V,rfl⟩:∃T V,y=.mk kd G T V false [] dat []:=NU b4.out;have d9:Ev B.M.us B.M.gs T V:=Hy b4.out;have ea:=Kh b4.out;have eO:Hid (Ev B.M.us B.M.gs T V):=d9;have eP:Hid (AZ T∧AZ V):=ea;clear d9 ea;go_cut [9]from 64 (fun co Y=>co=.nilIface∧∃hx,As Y (w.heap.size+1) (.mk kd G T V false [] dat []) hx∧Bw w Y∧(∀o,8≤o→Y.cell? ⟨w.heap.size+1,o,none⟩=none)∧Ce Y w.heap.size 10 (.slice na nf.length nc)∧Ah Y.cell? (.mk kd G T V false [] dat []) hx)
      case first=>
       go_region_with (first|(go_at_call 30;(refine nn a7.out ?_);rintro e Q ⟨⟨hx,rfl,de⟩,Z⟩;have aa:Ce Q b 0 (.slice B.M.ua B.M.us.length B.M.uc)∧Ce Q b 1 (.slice B.M.ga B.M.gs.length B.M.gc):=⟨Ad Z I.1,Ad Z I.2⟩;obtain⟨⟨cp,cq,cr,cu,cx,cA,cB,c3⟩,J⟩:=id (ch.out.below Z);have c4:=J 0;have c5:=J 1;have c6:=J 2;have c8:=J 3;have c9:=J 4;have da:=J 5;have db:=J 6;have dd:=J 7;have bs:Hid (Bw w Q):=b3.out.trans (Z.mono b3.out.size);have eQ:Hid (As Q (w.heap.size+1) (.mk kd G B.u B.g false [] dat []) zH):=ch.out.below Z;have eR:Hid (∀o,8≤o→Q.cell? ⟨w.heap.size+1,o,none⟩=none):=(fun o ad=>(Z.cell (p:=⟨w.heap.size+1,o,none⟩) eL.out).trans (eJ.out o ad));have eS:Hid (Ce Q w.heap.size 10 (.slice na nf.length nc)):=Ad Z eK.out;have eT:Hid (Ah Q.cell? (.mk kd G T V false [] dat []) hx):=(by rw[C4]at de;exact de);rw[show Ao (.mk kd G T V false [] dat []) hx=.agg #[.int .i64 kd,.int .i64 G,.int .i64 T,.int .i64 V,.bool false,.slice hx.aa 0 hx.ca,.string dat,.slice hx.ak 0 hx.ck]from rfl];clear a7 J de))
       all_goals
        have eb:Hid (As (Ar Q (w.heap.size+1) (.mk kd G T V false [] dat []) hx) (w.heap.size+1) (.mk kd G T V false [] dat []) hx):=eQ.out.store _ _;have ap:Hid (Bw w (Ar Q (w.heap.size+1) (.mk kd G T V false [] dat []) hx)):=bs.out.trans (Cf.below (by omega) bs.out.size);have ec:Hid (∀o,8≤o→(Ar Q (w.heap.size+1) (.mk kd G T V false [] dat []) hx).cell? ⟨w.heap.size+1,o,none⟩=none):=fun o ad=>by
         rw[Gh];exact(FK (fun j eU e=>by injection e with _ e2;omega)).trans (eR.out o ad)
        have ed:Hid (Ce (Ar Q (w.heap.size+1) (.mk kd G T V false [] dat []) hx) w.heap.size 10 (.slice na nf.length nc)):=by
         show _=_;rw[Gh];exact(FK (fun j eU e=>by injection e with e1 _;omega)).trans eS.out
        obtain⟨bu,ao⟩:∃bu,Ar Q (w.heap.size+1) (.mk kd G T V false [] dat []) hx=bu:=⟨_,rfl⟩;rw[ao]at eb ap ec ed;simp only[Ar,nQ]at ao;rw[ao];clear cp cq cr cu cx cA cB c3 c4 c5 c6 c8 c9 da db dd I aa bC bF bG bH bY b0 b1 b2 ao t0 bB;go_wp2_with fail
        go_meet
        exact⟨rfl,hx,eb.out,ap.out,ec.out,ed.out,Jl eT.out⟩
      case rest=>
       obtain⟨rfl,hx,dg,a8,ee,ef,eg⟩:=hcut;have ap:Hid (Bw w wc):=a8;have ej:Hid (Calls prog 80 #[.pointer (some ⟨b,0,none⟩),.func (.func 126) #[] #[.pointer (some ⟨w.heap.size,0,none⟩),.pointer (some ⟨w.heap.size+1,0,none⟩)]] wc fun e w'=>(∃E,e=.returned (Am E))∧BI w w' b B ni):=I8 bv.out a8 dj.out (Mx a8 dj.out.fine dj.out.sz fd.out fe.out eX.out ff.out fg.out (by first|exact .inl rfl|exact .inr rfl|exact fh.out) eO.out eP.out fi.out ef eg dg (Jj dg.1 ee) (by omega));clear dg a8 ee ef eg a7 I bC bF bG bH bY b0 b1 b2 t0 bB;go_wp2_with fail
       refine nn ej.out ?_;rintro e eV ⟨⟨E,rfl⟩,ek⟩;have eW:Hid (BI w eV b B ni):=ek;clear ek ej;go_wp2;go_ret;exact⟨⟨E,rfl⟩,eW.out⟩
   ·have gj:(bits .and .i64 dm 1024 !=0)=true:=by simp[f1]
    cases el with
    |false=>
     clear fc;go_wp2;go_ret;exact⟨⟨11,rfl⟩,eu.out _ ev.out⟩
    |true=>
     obtain⟨⟨az,bd,be,a1,bg,bi,bk,bl⟩,bf⟩:=id b6.out;have fv:=bf 3;clear az bd be bg bi bk bl bf;go_upto_region 10 with fail
     obtain⟨ab,eq⟩:∃ab,a6.setCell ⟨w.heap.size+1,3,none⟩ (.int .i64 R)=ab:=⟨_,rfl⟩;have e4:Hid (As ab (w.heap.size+1) (.mk kd md B.u R false [] dat []) zH):=by rw[←eq];exact b6.out.set3 R
     have f2:Hid (∀o,8≤o→ab.cell? ⟨w.heap.size+1,o,none⟩=none):=fun o ad=>by rw[←eq];exact(AA (by omega)).trans (fw.out o ad)
     have e5:Hid (Bw w ab):=by rw[←eq];exact ev.out.setCell (by show w.heap.size≤w.heap.size+1;omega) _
     have f3:Hid (Ce ab w.heap.size 10 (.slice na nf.length nc)):=by rw[←eq];exact(AW (by show w.heap.size≠w.heap.size+1;omega)).trans fx.out
     rw[eq];clear eq a1 fv b6 fw ev fx b7 f0 a9;rcases fc with rfl|rfl
     ·have b6:Hid (As ab (w.heap.size+1) (.mk 1 md B.u R false [] dat []) zH):=e4.out
      clear e4;have b9:=bv.out.below e5.out;obtain⟨a0,bx,a2,a3,a4,a5,b7,eB⟩:=b9.cells;obtain⟨⟨az,bd,be,a1,bg,bi,bk,bl⟩,bf⟩:=b6.out;have du:=b9.grp;have I:Ce ab.drew b 3 (.int .i64 B.u)∧Ce ab.drew b 4 (.int .i64 B.g)∧Ce ab.drew b 5 (.slice B.ca B.cs.length B.cc)∧Ce ab.drew b 6 (.int .i64 B.k)∧Ce ab.drew (w.heap.size+1) 3 (.int .i64 R):=⟨a3,a4,a5,b7,a1⟩;obtain⟨t3,t4,t5,dw,dx⟩:=id I;have dy:Ce ab.drew (w.heap.size+1) 1 (.int .i64 md):=bd;obtain⟨O,eE⟩:∃O,Hid (H6 B.g B.cs B.k md R=O):=⟨_,rfl⟩;have cb:Hid (Calls prog 92 #[.agg #[.int .i64 B.u,.int .i64 B.g,.slice B.ca B.cs.length B.cc,.int .i64 B.k],.int .i64 md,.int .i64 R] ab.drew fun e w'=>e=.returned (.int .i64 O)∧Bw ab.drew w'):=by
       have e:=KR B.u B.g B.k md R B.ca B.cc B.cs ab.drew dn.out.2.2 (du.below (nt _ _).drew) dn.out.1 dn.out.2.1 ep.out.1 ep.out.2;rw[eE.out]at e;exact e
      have cf:Hid (Bw w ab.drew):=e5.out.drew;have eF:Hid (w.heap.size+1<ab.drew.heap.size):=ny ab ⟨w.heap.size+1,0,none⟩ az;have dz:Hid (As ab.drew (w.heap.size+1) (.mk 1 md B.u R false [] dat []) zH):=b6.out;have e3:b<w.heap.size+1:=by have:=bv.out.lt;omega
      clear b9 a0 bx a2 eB be bg bi bk bl bf du az bd a1 a3 a4 a5 b7;go_cut []from 44 (fun Y=>As Y (w.heap.size+1) (.mk 1 O B.u R false [] dat []) zH∧(∀o,8≤o→Y.cell? ⟨w.heap.size+1,o,none⟩=none)∧Ce Y w.heap.size 10 (.slice na nf.length nc)∧Bw w Y)
      case first=>
       go_region_with (first|(go_at_call 92;(refine nn cb.out ?_);rintro e H ⟨rfl,q6⟩;have aa:Ce H b 3 (.int .i64 B.u)∧Ce H b 4 (.int .i64 B.g)∧Ce H b 5 (.slice B.ca B.cs.length B.cc)∧Ce H b 6 (.int .i64 B.k)∧Ce H (w.heap.size+1) 3 (.int .i64 R):=⟨Ad q6 I.1,Ad q6 I.2.1,Ad q6 I.2.2.1,Ad q6 I.2.2.2.1,Ad q6 I.2.2.2.2⟩;have bA:Hid (As H (w.heap.size+1) (.mk 1 md B.u R false [] dat []) zH):=dz.out.below q6;have en:Ce H (w.heap.size+1) 1 (.int .i64 md):=bA.out.1.2.1;have eo:H.frozen? ⟨w.heap.size+1,1,none⟩=false:=bA.out.2 1;have d0:Hid (∀o,8≤o→H.cell? ⟨w.heap.size+1,o,none⟩=none):=(fun o ad=>(q6.cell (p:=⟨w.heap.size+1,o,none⟩) eF.out).trans (f2.out o ad));have d1:Hid (Ce H w.heap.size 10 (.slice na nf.length nc)):=Ad q6 f3.out;have d2:Hid (Bw w H):=cf.out.trans (q6.mono cf.out.size);have eG:Ce (H.setCell ⟨w.heap.size+1,1,none⟩ (.int .i64 O)) b 3 (.int .i64 B.u)∧Ce (H.setCell ⟨w.heap.size+1,1,none⟩ (.int .i64 O)) b 4 (.int .i64 B.g)∧Ce (H.setCell ⟨w.heap.size+1,1,none⟩ (.int .i64 O)) b 5 (.slice B.ca B.cs.length B.cc)∧Ce (H.setCell ⟨w.heap.size+1,1,none⟩ (.int .i64 O)) b 6 (.int .i64 B.k)∧Ce (H.setCell ⟨w.heap.size+1,1,none⟩ (.int .i64 O)) (w.heap.size+1) 3 (.int .i64 R):=⟨(AW (by show b≠w.heap.size+1;omega)).trans aa.1,(AW (by show b≠w.heap.size+1;omega)).trans aa.2.1,(AW (by show b≠w.heap.size+1;omega)).trans aa.2.2.1,(AW (by show b≠w.heap.size+1;omega)).trans aa.2.2.2.1,(AA (by show(3:Nat)≠1;omega)).trans aa.2.2.2.2⟩;clear cb q6))
       all_goals
        have bb:Hid (As (H.setCell ⟨w.heap.size+1,1,none⟩ (.int .i64 O)) (w.heap.size+1) (.mk 1 O B.u R false [] dat []) zH):=bA.out.set1 O;have bn:Hid (∀o,8≤o→(H.setCell ⟨w.heap.size+1,1,none⟩ (.int .i64 O)).cell? ⟨w.heap.size+1,o,none⟩=none):=fun o ad=>(AA (by show o≠1;omega)).trans (d0.out o ad);have bo:Hid (Ce (H.setCell ⟨w.heap.size+1,1,none⟩ (.int .i64 O)) w.heap.size 10 (.slice na nf.length nc)):=(AW (by show w.heap.size≠w.heap.size+1;omega)).trans d1.out
        have bp:Hid (Bw w (H.setCell ⟨w.heap.size+1,1,none⟩ (.int .i64 O))):=d2.out.setCell (by show w.heap.size≤w.heap.size+1;omega) _;generalize H.setCell ⟨w.heap.size+1,1,none⟩ (.int .i64 O)=b5 at bb bn bo bp⊢;clear I aa eG dy en eo bA d0 d1 d2 t3 t4 t5 dw dx;go_wp2_with fail
        go_meet
        exact⟨bb.out,bn.out,bo.out,bp.out⟩
      case rest=>
       obtain⟨d3,d4,d5,d6⟩:=hcut;have bb:Hid (As wc (w.heap.size+1) (.mk 1 O B.u R false [] dat []) zH):=d3;have bn:Hid (∀o,8≤o→wc.cell? ⟨w.heap.size+1,o,none⟩=none):=d4;have bo:Hid (Ce wc w.heap.size 10 (.slice na nf.length nc)):=d5;have bp:Hid (Bw w wc):=d6;clear d3 d4 d5 d6 I dy cb cf dz t3 t4 t5 dw dx;generalize wc=b5 at*;have eH:Ce b5 (w.heap.size+1) 0 (.int .i64 1):=bb.out.1.1;go_upto_region 13 with fail
       obtain⟨G,eI⟩:∃G,G=O:=⟨_,rfl⟩;subst eI;obtain⟨F,dk⟩:∃F,F=b5:=⟨_,rfl⟩;subst dk;have d7:Hid (As F (w.heap.size+1) (.mk 1 G B.u R false [] dat []) zH):=bb.out;have eJ:Hid (∀o,8≤o→F.cell? ⟨w.heap.size+1,o,none⟩=none):=bn.out;have eK:Hid (Ce F w.heap.size 10 (.slice na nf.length nc)):=bo.out;have d8:Hid (Bw w F):=bp.out;clear eH bb bn bo bp;have cg:=bv.out.below d8.out;obtain⟨a0,bx,_⟩:=cg.cells;obtain⟨⟨az,bd,be,a1,bg,bi,bk,bl⟩,bf⟩:=d7.out;have I:Ce F.drew b 0 (.slice B.M.ua B.M.us.length B.M.uc)∧Ce F.drew b 1 (.slice B.M.ga B.M.gs.length B.M.gc):=⟨a0,bx⟩;obtain⟨t0,bB⟩:=id I;have bC:Ce F.drew (w.heap.size+1) 0 (.int .i64 1):=az;have bF:Ce F.drew (w.heap.size+1) 1 (.int .i64 G):=bd;have bG:Ce F.drew (w.heap.size+1) 2 (.int .i64 B.u):=be;have bH:Ce F.drew (w.heap.size+1) 3 (.int .i64 R):=a1;have bY:Ce F.drew (w.heap.size+1) 4 (.bool false):=bg;have b0:Ce F.drew (w.heap.size+1) 5 (.slice none 0 0):=bi;have b1:Ce F.drew (w.heap.size+1) 6 (.string dat):=bk;have b2:Ce F.drew (w.heap.size+1) 7 (.slice none 0 0):=bl;have eL:Hid (w.heap.size+1<F.drew.heap.size):=ny F ⟨w.heap.size+1,0,none⟩ az;have a7:Hid (Calls prog 30 #[.agg #[.slice B.M.ua B.M.us.length B.M.uc,.slice B.M.ga B.M.gs.length B.M.gc],.agg #[.int .i64 1,.int .i64 G,.int .i64 B.u,.int .i64 R,.bool false,.slice none 0 0,.string dat,.slice none 0 0]] F.drew fun e eM=>Hh F.drew eM (fun _=>false) e (Bh true B.M.us B.M.gs (.mk 1 G B.u R false [] dat []))):=Hk (W:=F.drew) (S:=fun _=>false) (x:=.mk 1 G B.u R false [] dat []) (h:=zH) (M:=B.M) (fun _ eN=>(by cases eN)) (Ly _ _ _ _ _ _ _) (by rw[A7,Dl];exact⟨by decide,by decide,trivial⟩) (by rw[cnt,cntL];omega) ⟨fj.out.1,fI.out⟩ (cg.maps.below (nt _ _).drew);have b3:Hid (Bw w F.drew):=d8.out.drew;have ch:Hid (As F.drew (w.heap.size+1) (.mk 1 G B.u R false [] dat []) zH):=d7.out;clear cg a0 bx az bd be a1 bg bi bk bl bf;obtain⟨cl,b4⟩:∃cl,Hid (Bh true B.M.us B.M.gs (.mk 1 G B.u R false [] dat [])=cl):=⟨_,rfl⟩;rw[b4.out]at a7;cases cl with
       |none=>
        go_cut [9]from 64 (fun co Y=>co=.iface 74 (.int .i64 11)∧Bw w Y)
        case first=>
         go_region_with (first|(go_at_call 30;(refine nn a7.out ?_);rintro e Q ⟨rfl,Z⟩;have aa:Ce Q b 0 (.slice B.M.ua B.M.us.length B.M.uc)∧Ce Q b 1 (.slice B.M.ga B.M.gs.length B.M.gc):=⟨Ad Z I.1,Ad Z I.2⟩;obtain⟨⟨cp,cq,cr,cu,cx,cA,cB,c3⟩,J⟩:=ch.out.below Z;have c4:=J 0;have c5:=J 1;have c6:=J 2;have c8:=J 3;have c9:=J 4;have da:=J 5;have db:=J 6;have dd:=J 7;have bs:Hid (Bw w Q):=b3.out.trans (Z.mono b3.out.size);rw[show Ao zN zH=.agg #[.int .i64 0,.int .i64 0,.int .i64 0,.int .i64 0,.bool false,.slice none 0 0,.string ⟨#[]⟩,.slice none 0 0]from rfl];clear a7 J))
         all_goals
          have ap:Hid (Bw w (Ar Q (w.heap.size+1) zN zH)):=bs.out.trans (Cf.below (by omega) bs.out.size);obtain⟨bu,ao⟩:∃bu,Ar Q (w.heap.size+1) zN zH=bu:=⟨_,rfl⟩;rw[ao]at ap;simp only[Ar,zN,zH,nQ]at ao;rw[ao];clear cp cq cr cu cx cA cB c3 c4 c5 c6 c8 c9 da db dd I aa bC bF bG bH bY b0 b1 b2 ao t0 bB;go_wp2_with fail
          go_meet
          exact⟨rfl,ap.out⟩
        case rest=>
         obtain⟨rfl,a8⟩:=hcut;have ap:Hid (Bw w wc):=a8;clear a8 a7 I bC bF bG bH bY b0 b1 b2 t0 bB;go_wp2;go_ret;exact⟨⟨11,rfl⟩,eu.out _ ap.out⟩
       |some y=>
        obtain⟨T,V,rfl⟩:∃T V,y=.mk 1 G T V false [] dat []:=NU b4.out;have d9:Ev B.M.us B.M.gs T V:=Hy b4.out;have ea:=Kh b4.out;have eO:Hid (Ev B.M.us B.M.gs T V):=d9;have eP:Hid (AZ T∧AZ V):=ea;clear d9 ea;go_cut [9]from 64 (fun co Y=>co=.nilIface∧∃hx,As Y (w.heap.size+1) (.mk 1 G T V false [] dat []) hx∧Bw w Y∧(∀o,8≤o→Y.cell? ⟨w.heap.size+1,o,none⟩=none)∧Ce Y w.heap.size 10 (.slice na nf.length nc)∧Ah Y.cell? (.mk 1 G T V false [] dat []) hx)
        case first=>
         go_region_with (first|(go_at_call 30;(refine nn a7.out ?_);rintro e Q ⟨⟨hx,rfl,de⟩,Z⟩;have aa:Ce Q b 0 (.slice B.M.ua B.M.us.length B.M.uc)∧Ce Q b 1 (.slice B.M.ga B.M.gs.length B.M.gc):=⟨Ad Z I.1,Ad Z I.2⟩;obtain⟨⟨cp,cq,cr,cu,cx,cA,cB,c3⟩,J⟩:=id (ch.out.below Z);have c4:=J 0;have c5:=J 1;have c6:=J 2;have c8:=J 3;have c9:=J 4;have da:=J 5;have db:=J 6;have dd:=J 7;have bs:Hid (Bw w Q):=b3.out.trans (Z.mono b3.out.size);have eQ:Hid (As Q (w.heap.size+1) (.mk 1 G B.u R false [] dat []) zH):=ch.out.below Z;have eR:Hid (∀o,8≤o→Q.cell? ⟨w.heap.size+1,o,none⟩=none):=(fun o ad=>(Z.cell (p:=⟨w.heap.size+1,o,none⟩) eL.out).trans (eJ.out o ad));have eS:Hid (Ce Q w.heap.size 10 (.slice na nf.length nc)):=Ad Z eK.out;have eT:Hid (Ah Q.cell? (.mk 1 G T V false [] dat []) hx):=(by rw[C4]at de;exact de);rw[show Ao (.mk 1 G T V false [] dat []) hx=.agg #[.int .i64 1,.int .i64 G,.int .i64 T,.int .i64 V,.bool false,.slice hx.aa 0 hx.ca,.string dat,.slice hx.ak 0 hx.ck]from rfl];clear a7 J de))
         all_goals
          have eb:Hid (As (Ar Q (w.heap.size+1) (.mk 1 G T V false [] dat []) hx) (w.heap.size+1) (.mk 1 G T V false [] dat []) hx):=eQ.out.store _ _;have ap:Hid (Bw w (Ar Q (w.heap.size+1) (.mk 1 G T V false [] dat []) hx)):=bs.out.trans (Cf.below (by omega) bs.out.size);have ec:Hid (∀o,8≤o→(Ar Q (w.heap.size+1) (.mk 1 G T V false [] dat []) hx).cell? ⟨w.heap.size+1,o,none⟩=none):=fun o ad=>by
           rw[Gh];exact(FK (fun j eU e=>by injection e with _ e2;omega)).trans (eR.out o ad)
          have ed:Hid (Ce (Ar Q (w.heap.size+1) (.mk 1 G T V false [] dat []) hx) w.heap.size 10 (.slice na nf.length nc)):=by
           show _=_;rw[Gh];exact(FK (fun j eU e=>by injection e with e1 _;omega)).trans eS.out
          obtain⟨bu,ao⟩:∃bu,Ar Q (w.heap.size+1) (.mk 1 G T V false [] dat []) hx=bu:=⟨_,rfl⟩;rw[ao]at eb ap ec ed;simp only[Ar,nQ]at ao;rw[ao];clear cp cq cr cu cx cA cB c3 c4 c5 c6 c8 c9 da db dd I aa bC bF bG bH bY b0 b1 b2 ao t0 bB;go_wp2_with fail
          go_meet
          exact⟨rfl,hx,eb.out,ap.out,ec.out,ed.out,Jl eT.out⟩
        case rest=>
         obtain⟨rfl,hx,dg,a8,ee,ef,eg⟩:=hcut;have ap:Hid (Bw w wc):=a8;have ej:Hid (Calls prog 80 #[.pointer (some ⟨b,0,none⟩),.func (.func 126) #[] #[.pointer (some ⟨w.heap.size,0,none⟩),.pointer (some ⟨w.heap.size+1,0,none⟩)]] wc fun e w'=>(∃E,e=.returned (Am E))∧BI w w' b B ni):=I8 bv.out a8 dj.out (Mx a8 dj.out.fine dj.out.sz fd.out fe.out eX.out ff.out fg.out (by first|exact .inl rfl|exact .inr rfl|exact fh.out) eO.out eP.out fi.out ef eg dg (Jj dg.1 ee) (by omega));clear dg a8 ee ef eg a7 I bC bF bG bH bY b0 b1 b2 t0 bB;go_wp2_with fail
         refine nn ej.out ?_;rintro e eV ⟨⟨E,rfl⟩,ek⟩;have eW:Hid (BI w eV b B ni):=ek;clear ek ej;go_wp2;go_ret;exact⟨⟨E,rfl⟩,eW.out⟩
     ·have b6:Hid (As ab (w.heap.size+1) (.mk 2 md B.u R false [] dat []) zH):=e4.out
      clear e4;have b9:=bv.out.below e5.out;obtain⟨a0,bx,a2,a3,a4,a5,b7,eB⟩:=b9.cells;obtain⟨⟨az,bd,be,a1,bg,bi,bk,bl⟩,bf⟩:=b6.out;have du:=b9.grp;have I:Ce ab.drew b 3 (.int .i64 B.u)∧Ce ab.drew b 4 (.int .i64 B.g)∧Ce ab.drew b 5 (.slice B.ca B.cs.length B.cc)∧Ce ab.drew b 6 (.int .i64 B.k)∧Ce ab.drew (w.heap.size+1) 3 (.int .i64 R):=⟨a3,a4,a5,b7,a1⟩;obtain⟨t3,t4,t5,dw,dx⟩:=id I;have dy:Ce ab.drew (w.heap.size+1) 1 (.int .i64 md):=bd;obtain⟨O,eE⟩:∃O,Hid (H6 B.g B.cs B.k md R=O):=⟨_,rfl⟩;have cb:Hid (Calls prog 92 #[.agg #[.int .i64 B.u,.int .i64 B.g,.slice B.ca B.cs.length B.cc,.int .i64 B.k],.int .i64 md,.int .i64 R] ab.drew fun e w'=>e=.returned (.int .i64 O)∧Bw ab.drew w'):=by
       have e:=KR B.u B.g B.k md R B.ca B.cc B.cs ab.drew dn.out.2.2 (du.below (nt _ _).drew) dn.out.1 dn.out.2.1 ep.out.1 ep.out.2;rw[eE.out]at e;exact e
      have cf:Hid (Bw w ab.drew):=e5.out.drew;have eF:Hid (w.heap.size+1<ab.drew.heap.size):=ny ab ⟨w.heap.size+1,0,none⟩ az;have dz:Hid (As ab.drew (w.heap.size+1) (.mk 2 md B.u R false [] dat []) zH):=b6.out;have e3:b<w.heap.size+1:=by have:=bv.out.lt;omega
      clear b9 a0 bx a2 eB be bg bi bk bl bf du az bd a1 a3 a4 a5 b7;go_cut []from 44 (fun Y=>As Y (w.heap.size+1) (.mk 2 O B.u R false [] dat []) zH∧(∀o,8≤o→Y.cell? ⟨w.heap.size+1,o,none⟩=none)∧Ce Y w.heap.size 10 (.slice na nf.length nc)∧Bw w Y)
      case first=>
       go_region_with (first|(go_at_call 92;(refine nn cb.out ?_);rintro e H ⟨rfl,q6⟩;have aa:Ce H b 3 (.int .i64 B.u)∧Ce H b 4 (.int .i64 B.g)∧Ce H b 5 (.slice B.ca B.cs.length B.cc)∧Ce H b 6 (.int .i64 B.k)∧Ce H (w.heap.size+1) 3 (.int .i64 R):=⟨Ad q6 I.1,Ad q6 I.2.1,Ad q6 I.2.2.1,Ad q6 I.2.2.2.1,Ad q6 I.2.2.2.2⟩;have bA:Hid (As H (w.heap.size+1) (.mk 2 md B.u R false [] dat []) zH):=dz.out.below q6;have en:Ce H (w.heap.size+1) 1 (.int .i64 md):=bA.out.1.2.1;have eo:H.frozen? ⟨w.heap.size+1,1,none⟩=false:=bA.out.2 1;have d0:Hid (∀o,8≤o→H.cell? ⟨w.heap.size+1,o,none⟩=none):=(fun o ad=>(q6.cell (p:=⟨w.heap.size+1,o,none⟩) eF.out).trans (f2.out o ad));have d1:Hid (Ce H w.heap.size 10 (.slice na nf.length nc)):=Ad q6 f3.out;have d2:Hid (Bw w H):=cf.out.trans (q6.mono cf.out.size);have eG:Ce (H.setCell ⟨w.heap.size+1,1,none⟩ (.int .i64 O)) b 3 (.int .i64 B.u)∧Ce (H.setCell ⟨w.heap.size+1,1,none⟩ (.int .i64 O)) b 4 (.int .i64 B.g)∧Ce (H.setCell ⟨w.heap.size+1,1,none⟩ (.int .i64 O)) b 5 (.slice B.ca B.cs.length B.cc)∧Ce (H.setCell ⟨w.heap.size+1,1,none⟩ (.int .i64 O)) b 6 (.int .i64 B.k)∧Ce (H.setCell ⟨w.heap.size+1,1,none⟩ (.int .i64 O)) (w.heap.size+1) 3 (.int .i64 R):=⟨(AW (by show b≠w.heap.size+1;omega)).trans aa.1,(AW (by show b≠w.heap.size+1;omega)).trans aa.2.1,(AW (by show b≠w.heap.size+1;omega)).trans aa.2.2.1,(AW (by show b≠w.heap.size+1;omega)).trans aa.2.2.2.1,(AA (by show(3:Nat)≠1;omega)).trans aa.2.2.2.2⟩;clear cb q6))
       all_goals
        have bb:Hid (As (H.setCell ⟨w.heap.size+1,1,none⟩ (.int .i64 O)) (w.heap.size+1) (.mk 2 O B.u R false [] dat []) zH):=bA.out.set1 O;have bn:Hid (∀o,8≤o→(H.setCell ⟨w.heap.size+1,1,none⟩ (.int .i64 O)).cell? ⟨w.heap.size+1,o,none⟩=none):=fun o ad=>(AA (by show o≠1;omega)).trans (d0.out o ad);have bo:Hid (Ce (H.setCell ⟨w.heap.size+1,1,none⟩ (.int .i64 O)) w.heap.size 10 (.slice na nf.length nc)):=(AW (by show w.heap.size≠w.heap.size+1;omega)).trans d1.out
        have bp:Hid (Bw w (H.setCell ⟨w.heap.size+1,1,none⟩ (.int .i64 O))):=d2.out.setCell (by show w.heap.size≤w.heap.size+1;omega) _;generalize H.setCell ⟨w.heap.size+1,1,none⟩ (.int .i64 O)=b5 at bb bn bo bp⊢;clear I aa eG dy en eo bA d0 d1 d2 t3 t4 t5 dw dx;go_wp2_with fail
        go_meet
        exact⟨bb.out,bn.out,bo.out,bp.out⟩
      case rest=>
       obtain⟨d3,d4,d5,d6⟩:=hcut;have bb:Hid (As wc (w.heap.size+1) (.mk 2 O B.u R false [] dat []) zH):=d3;have bn:Hid (∀o,8≤o→wc.cell? ⟨w.heap.size+1,o,none⟩=none):=d4;have bo:Hid (Ce wc w.heap.size 10 (.slice na nf.length nc)):=d5;have bp:Hid (Bw w wc):=d6;clear d3 d4 d5 d6 I dy cb cf dz t3 t4 t5 dw dx;generalize wc=b5 at*;have en:Ce b5 (w.heap.size+1) 1 (.int .i64 O):=bb.out.1.2.1;have eo:b5.frozen? ⟨w.heap.size+1,1,none⟩=false:=bb.out.2 1;have eH:Ce b5 (w.heap.size+1) 0 (.int .i64 2):=bb.out.1.1;go_upto_region 13 with fail
       obtain⟨G,eI⟩:∃G,Hid (bits .or .i64 O 1024=G):=⟨_,rfl⟩;rw[eI.out];obtain⟨F,dk⟩:∃F,b5.setCell ⟨w.heap.size+1,1,none⟩ (.int .i64 G)=F:=⟨_,rfl⟩;have d7:Hid (As F (w.heap.size+1) (.mk 2 G B.u R false [] dat []) zH):=by rw[←dk];exact bb.out.set1 G
       have eJ:Hid (∀o,8≤o→F.cell? ⟨w.heap.size+1,o,none⟩=none):=fun o ad=>by rw[←dk];exact(AA (by show o≠1;omega)).trans (bn.out o ad)
       have eK:Hid (Ce F w.heap.size 10 (.slice na nf.length nc)):=by rw[←dk];exact(AW (by show w.heap.size≠w.heap.size+1;omega)).trans bo.out
       have d8:Hid (Bw w F):=by rw[←dk];exact bp.out.setCell (by show w.heap.size≤w.heap.size+1;omega) _
       rw[dk];clear dk en eo eH bb bn bo bp;have cg:=bv.out.below d8.out;obtain⟨a0,bx,_⟩:=cg.cells;obtain⟨⟨az,bd,be,a1,bg,bi,bk,bl⟩,bf⟩:=d7.out;have I:Ce F.drew b 0 (.slice B.M.ua B.M.us.length B.M.uc)∧Ce F.drew b 1 (.slice B.M.ga B.M.gs.length B.M.gc):=⟨a0,bx⟩;obtain⟨t0,bB⟩:=id I;have bC:Ce F.drew (w.heap.size+1) 0 (.int .i64 2):=az;have bF:Ce F.drew (w.heap.size+1) 1 (.int .i64 G):=bd;have bG:Ce F.drew (w.heap.size+1) 2 (.int .i64 B.u):=be;have bH:Ce F.drew (w.heap.size+1) 3 (.int .i64 R):=a1;have bY:Ce F.drew (w.heap.size+1) 4 (.bool false):=bg;have b0:Ce F.drew (w.heap.size+1) 5 (.slice none 0 0):=bi;have b1:Ce F.drew (w.heap.size+1) 6 (.string dat):=bk;have b2:Ce F.drew (w.heap.size+1) 7 (.slice none 0 0):=bl;have eL:Hid (w.heap.size+1<F.drew.heap.size):=ny F ⟨w.heap.size+1,0,none⟩ az;have a7:Hid (Calls prog 30 #[.agg #[.slice B.M.ua B.M.us.length B.M.uc,.slice B.M.ga B.M.gs.length B.M.gc],.agg #[.int .i64 2,.int .i64 G,.int .i64 B.u,.int .i64 R,.bool false,.slice none 0 0,.string dat,.slice none 0 0]] F.drew fun e eM=>Hh F.drew eM (fun _=>false) e (Bh true B.M.us B.M.gs (.mk 2 G B.u R false [] dat []))):=Hk (W:=F.drew) (S:=fun _=>false) (x:=.mk 2 G B.u R false [] dat []) (h:=zH) (M:=B.M) (fun _ eN=>(by cases eN)) (Ly _ _ _ _ _ _ _) (by rw[A7,Dl];exact⟨by decide,by decide,trivial⟩) (by rw[cnt,cntL];omega) ⟨fj.out.1,fI.out⟩ (cg.maps.below (nt _ _).drew);have b3:Hid (Bw w F.drew):=d8.out.drew;have ch:Hid (As F.drew (w.heap.size+1) (.mk 2 G B.u R false [] dat []) zH):=d7.out;clear cg a0 bx az bd be a1 bg bi bk bl bf;obtain⟨cl,b4⟩:∃cl,Hid (Bh true B.M.us B.M.gs (.mk 2 G B.u R false [] dat [])=cl):=⟨_,rfl⟩;rw[b4.out]at a7;cases cl with
       |none=>
        go_cut [9]from 64 (fun co Y=>co=.iface 74 (.int .i64 11)∧Bw w Y)
        case first=>
         go_region_with (first|(go_at_call 30;(refine nn a7.out ?_);rintro e Q ⟨rfl,Z⟩;have aa:Ce Q b 0 (.slice B.M.ua B.M.us.length B.M.uc)∧Ce Q b 1 (.slice B.M.ga B.M.gs.length B.M.gc):=⟨Ad Z I.1,Ad Z I.2⟩;obtain⟨⟨cp,cq,cr,cu,cx,cA,cB,c3⟩,J⟩:=ch.out.below Z;have c4:=J 0;have c5:=J 1;have c6:=J 2;have c8:=J 3;have c9:=J 4;have da:=J 5;have db:=J 6;have dd:=J 7;have bs:Hid (Bw w Q):=b3.out.trans (Z.mono b3.out.size);rw[show Ao zN zH=.agg #[.int .i64 0,.int .i64 0,.int .i64 0,.int .i64 0,.bool false,.slice none 0 0,.string ⟨#[]⟩,.slice none 0 0]from rfl];clear a7 J))
         all_goals
          have ap:Hid (Bw w (Ar Q (w.heap.size+1) zN zH)):=bs.out.trans (Cf.below (by omega) bs.out.size);obtain⟨bu,ao⟩:∃bu,Ar Q (w.heap.size+1) zN zH=bu:=⟨_,rfl⟩;rw[ao]at ap;simp only[Ar,zN,zH,nQ]at ao;rw[ao];clear cp cq cr cu cx cA cB c3 c4 c5 c6 c8 c9 da db dd I aa bC bF bG bH bY b0 b1 b2 ao t0 bB;go_wp2_with fail
          go_meet
          exact⟨rfl,ap.out⟩
        case rest=>
         obtain⟨rfl,a8⟩:=hcut;have ap:Hid (Bw w wc):=a8;clear a8 a7 I bC bF bG bH bY b0 b1 b2 t0 bB;go_wp2;go_ret;exact⟨⟨11,rfl⟩,eu.out _ ap.out⟩
       |some y=>
        obtain⟨T,V,rfl⟩:∃T V,y=.mk 2 G T V false [] dat []:=NU b4.out;have d9:Ev B.M.us B.M.gs T V:=Hy b4.out;have ea:=Kh b4.out;have eO:Hid (Ev B.M.us B.M.gs T V):=d9;have eP:Hid (AZ T∧AZ V):=ea;clear d9 ea;go_cut [9]from 64 (fun co Y=>co=.nilIface∧∃hx,As Y (w.heap.size+1) (.mk 2 G T V false [] dat []) hx∧Bw w Y∧(∀o,8≤o→Y.cell? ⟨w.heap.size+1,o,none⟩=none)∧Ce Y w.heap.size 10 (.slice na nf.length nc)∧Ah Y.cell? (.mk 2 G T V false [] dat []) hx)
        case first=>
         go_region_with (first|(go_at_call 30;(refine nn a7.out ?_);rintro e Q ⟨⟨hx,rfl,de⟩,Z⟩;have aa:Ce Q b 0 (.slice B.M.ua B.M.us.length B.M.uc)∧Ce Q b 1 (.slice B.M.ga B.M.gs.length B.M.gc):=⟨Ad Z I.1,Ad Z I.2⟩;obtain⟨⟨cp,cq,cr,cu,cx,cA,cB,c3⟩,J⟩:=id (ch.out.below Z);have c4:=J 0;have c5:=J 1;have c6:=J 2;have c8:=J 3;have c9:=J 4;have da:=J 5;have db:=J 6;have dd:=J 7;have bs:Hid (Bw w Q):=b3.out.trans (Z.mono b3.out.size);have eQ:Hid (As Q (w.heap.size+1) (.mk 2 G B.u R false [] dat []) zH):=ch.out.below Z;have eR:Hid (∀o,8≤o→Q.cell? ⟨w.heap.size+1,o,none⟩=none):=(fun o ad=>(Z.cell (p:=⟨w.heap.size+1,o,none⟩) eL.out).trans (eJ.out o ad));have eS:Hid (Ce Q w.heap.size 10 (.slice na nf.length nc)):=Ad Z eK.out;have eT:Hid (Ah Q.cell? (.mk 2 G T V false [] dat []) hx):=(by rw[C4]at de;exact de);rw[show Ao (.mk 2 G T V false [] dat []) hx=.agg #[.int .i64 2,.int .i64 G,.int .i64 T,.int .i64 V,.bool false,.slice hx.aa 0 hx.ca,.string dat,.slice hx.ak 0 hx.ck]from rfl];clear a7 J de))
         all_goals
          have eb:Hid (As (Ar Q (w.heap.size+1) (.mk 2 G T V false [] dat []) hx) (w.heap.size+1) (.mk 2 G T V false [] dat []) hx):=eQ.out.store _ _;have ap:Hid (Bw w (Ar Q (w.heap.size+1) (.mk 2 G T V false [] dat []) hx)):=bs.out.trans (Cf.below (by omega) bs.out.size);have ec:Hid (∀o,8≤o→(Ar Q (w.heap.size+1) (.mk 2 G T V false [] dat []) hx).cell? ⟨w.heap.size+1,o,none⟩=none):=fun o ad=>by
           rw[Gh];exact(FK (fun j eU e=>by injection e with _ e2;omega)).trans (eR.out o ad)
          have ed:Hid (Ce (Ar Q (w.heap.size+1) (.mk 2 G T V false [] dat []) hx) w.heap.size 10 (.slice na nf.length nc)):=by
           show _=_;rw[Gh];exact(FK (fun j eU e=>by injection e with e1 _;omega)).trans eS.out
          obtain⟨bu,ao⟩:∃bu,Ar Q (w.heap.size+1) (.mk 2 G T V false [] dat []) hx=bu:=⟨_,rfl⟩;rw[ao]at eb ap ec ed;simp only[Ar,nQ]at ao;rw[ao];clear cp cq cr cu cx cA cB c3 c4 c5 c6 c8 c9 da db dd I aa bC bF bG bH bY b0 b1 b2 ao t0 bB;go_wp2_with fail
          go_meet
          exact⟨rfl,hx,eb.out,ap.out,ec.out,ed.out,Jl eT.out⟩
        case rest=>
         obtain⟨rfl,hx,dg,a8,ee,ef,eg⟩:=hcut;have ap:Hid (Bw w wc):=a8;have ej:Hid (Calls prog 80 #[.pointer (some ⟨b,0,none⟩),.func (.func 126) #[] #[.pointer (some ⟨w.heap.size,0,none⟩),.pointer (some ⟨w.heap.size+1,0,none⟩)]] wc fun e w'=>(∃E,e=.returned (Am E))∧BI w w' b B ni):=I8 bv.out a8 dj.out (Mx a8 dj.out.fine dj.out.sz fd.out fe.out eX.out ff.out fg.out (by first|exact .inl rfl|exact .inr rfl|exact fh.out) eO.out eP.out fi.out ef eg dg (Jj dg.1 ee) (by omega));clear dg a8 ee ef eg a7 I bC bF bG bH bY b0 b1 b2 t0 bB;go_wp2_with fail
         refine nn ej.out ?_;rintro e eV ⟨⟨E,rfl⟩,ek⟩;have eW:Hid (BI w eV b B ni):=ek;clear ek ej;go_wp2;go_ret;exact⟨⟨E,rfl⟩,eW.out⟩
 ·have f4:=AH (n:=fp) rfl fY
  rw[f4];go_wp2;go_ret;exact⟨⟨fp,by rw[f4];rfl⟩,eu.out _ e0.out⟩
theorem Xs{w:World}{b:Nat}{B:Bx}{x0:Nd}{ni:List Nd}(h:A5 w b B)(b4:BS B x0 ni){ak F G:Int}{R ao ap az:BA}(dz:Int)(d0:w.cell? ⟨0,0,none⟩=some (.int .i64 dz)):
 Calls prog 43 #[.pointer (some ⟨b,0,none⟩),.agg #[.int .i64 ak,.string R,.string ao,.string ap,.string az,.int .i64 F,.int .i64 G]] w fun e w'=>(∃E,e=.returned (Am E))∧BI w w' b B ni:=by
 have b5:Bw w ((w.alloc (.cells #[.pointer (some ⟨b,0,none⟩)] 35)).alloc (Ax ak R ao ap az F G)):=((nt _ _).alloc (nl _) _).alloc ((nt _ _).alloc (nl _) _:Bw w _).size _;have bu:=hid b5;have d1:Ce ((w.alloc (.cells #[.pointer (some ⟨b,0,none⟩)] 35)).alloc (Ax ak R ao ap az F G)) w.heap.size 0 (.pointer (some ⟨b,0,none⟩)):=Ay (nk _ _ _ _ rfl);have eo:Ce ((w.alloc (.cells #[.pointer (some ⟨b,0,none⟩)] 35)).alloc (Ax ak R ao ap az F G)) (w.heap.size+1) 1 (.string R):=nk _ _ _ _ (by rw[nv]);have d2:Ce ((w.alloc (.cells #[.pointer (some ⟨b,0,none⟩)] 35)).alloc (Ax ak R ao ap az F G)) (w.heap.size+1) 5 (.int .i64 F):=nk _ _ _ _ (by rw[nv]);have d3:Ce ((w.alloc (.cells #[.pointer (some ⟨b,0,none⟩)] 35)).alloc (Ax ak R ao ap az F G)) (w.heap.size+1) 6 (.int .i64 G):=nk _ _ _ _ (by rw[nv]);have d4:Hid (Calls prog 33 #[.pointer (some ⟨b,0,none⟩),.string R] ((w.alloc (.cells #[.pointer (some ⟨b,0,none⟩)] 35)).alloc (Ax ak R ao ap az F G)) fun e w'=>CC B w' R true e∧Bw ((w.alloc (.cells #[.pointer (some ⟨b,0,none⟩)] 35)).alloc (Ax ak R ao ap az F G)) w'):=by
  refine nn (Jt (h.below b5) b4.good R (C7 _).1 (C7 _).2 dz (Ad b5 d0)) ?_;rintro e w' ⟨cu,cx⟩;exact⟨IF b4.good cu,cx⟩
 have a1:=hid h;have bd:=hid b4;have bb:Hid (∀w',Bw w w'→BI w w' b B ni):=fun w' hb=>⟨Au.of_below hb,B,x0,a1.out.below hb,bd.out,rfl,rfl⟩;have d5:Hid (∀ad,Calls prog 93 #[.int .i64 F] ad fun e w'=>e=.returned (.bool (decide (-1≤F∧F≤65535)))∧ad=w'):=fun ad=>Pu ad F
 have d6:Hid (∀ad,Calls prog 93 #[.int .i64 G] ad fun e w'=>e=.returned (.bool (decide (-1≤G∧G≤65535)))∧ad=w'):=fun ad=>Pu ad G;clear h b4 b5 d0
 go_enter func43,ntmps43;go_wp2_with fail
 generalize((w.alloc (.cells #[.pointer (some ⟨b,0,none⟩)] 35)).alloc (Ax ak R ao ap az F G))=ad at*;refine nn (d5.out _) ?_;rintro e bv ⟨rfl,rfl⟩;by_cases bp:-1≤F∧F≤65535;rotate_left
 ·rw[nA bp]
  go_wp2;go_ret;exact⟨⟨1,rfl⟩,bb.out _ bu.out⟩
 rw[nE bp];go_wp2_with fail
 refine nn (d6.out _) ?_;rintro e bv ⟨rfl,rfl⟩;by_cases b6:-1≤G∧G≤65535;rotate_left
 ·rw[nA b6]
  go_wp2;go_ret;exact⟨⟨1,rfl⟩,bb.out _ bu.out⟩
 rw[nE b6];have ep:Hid ((-1≤F∧F≤65535)∧-1≤G∧G≤65535):=⟨bp,b6⟩;clear d5 d6 bp b6;go_wp2_with fail
 refine nn d4.out ?_;rintro e J ⟨bp,q2⟩;clear d4;obtain⟨cs,E,rfl,cA,d7,d8⟩:=bp;obtain⟨Z,eE,be,d9,eq⟩:=FV J cs cA d7;have er:=BT cs;unfold Value.cells at er;have eF:=hid cA;have b7:=hid (q2.trans (d9.out.mono q2.size));have bs:=hid (bu.out.trans (b7.out.mono bu.out.size));have ea:Hid _:=d8;have eG:=hid (nO bu.out.size q2.size);clear d7 d8 cA;have b9:=Ad b7.out d1;have cB:=Ad b7.out d2;have c3:=Ad b7.out d3;clear d1 eo d2 d3;by_cases eb:E=0;rotate_left
 ·have ec:=AH (n:=E) rfl eb
  rw[ec];go_wp2;go_ret;exact⟨⟨E,by rw[ec];rfl⟩,bb.out _ bs.out⟩
 subst eb;obtain⟨f,bf,ed,c4,c5,c6,c8,ee⟩:=ea.out rfl;clear ea;have bx:=Fu ed;rw[←c4]at bx;obtain⟨⟨c9,da,a6,tg,db⟩,dir,na,nc,nf,eH,⟨eI,eJ,eK,eL,eM,eN,eO,xs⟩,eP,ly⟩:=f;dsimp only at c4 c5 c6 c8 ee bx;have cb:Ce Z J.heap.size 0 (.bool c9):=be.out 0 _ (by rw[bf];rfl);have cf:Ce Z J.heap.size 1 (.int .i64 da):=be.out 1 _ (by rw[bf];rfl);have bA:Ce Z J.heap.size 2 (.int .i64 a6):=be.out 2 _ (by rw[bf];rfl);have bB:Ce Z J.heap.size 3 (.int .i64 tg):=be.out 3 _ (by rw[bf];rfl);have cg:Ce Z J.heap.size 4 (.bool db):=be.out 4 _ (by rw[bf];rfl);have ch:Ce Z J.heap.size 10 (.slice na nf.length nc):=be.out 10 _ (by rw[bf];rfl);have cl:=hid (c5.on (Aj d9.out));have co:Hid ((∀s∈nf,AQ s=true)∧nf.length≤6):=⟨bx.1,bx.2.1⟩;have ef:=hid c6;obtain⟨U,eg⟩:∃U,Hid ((if F=-1 then a6 else F)=U):=⟨_,rfl⟩;obtain⟨T,ej⟩:∃T,Hid ((if G=-1 then tg else G)=T):=⟨_,rfl⟩;have ek:Hid (AZ U∧AZ T):=by
  have el:=c8.t;have eQ:=ep.out;show AZ U∧AZ T;rw[←eg.out,←ej.out];refine⟨?_,?_⟩
  ·split
   ·exact el.2.1
   ·unfold AZ;omega
  ·split
   ·exact el.2.2
   ·unfold AZ;omega
 have cp:Hid (∀w',Calls prog 94 #[.int .i64 F,.int .i64 a6] w' fun e dd=>e=.returned (.int .i64 U)∧w'=dd):=fun w'=>by
  have e:=P5 w' F a6;rw[eg.out]at e;exact e
 have cq:Hid (∀w',Calls prog 94 #[.int .i64 G,.int .i64 tg] w' fun e dd=>e=.returned (.int .i64 T)∧w'=dd):=fun w'=>by
  have e:=P5 w' G tg;rw[ej.out]at e;exact e
 rw[show Am 0=Value.nilIface from rfl];have cr:Ce Z.drew (w.heap.size+1) 5 (.int .i64 F)∧Ce Z.drew (w.heap.size+1) 6 (.int .i64 G)∧Ce Z.drew J.heap.size 2 (.int .i64 a6)∧Ce Z.drew J.heap.size 3 (.int .i64 tg):=⟨cB,c3,bA,bB⟩;clear bf ed c4 c5 c6 c8 ee bx be eq;by_cases de:F=-1∧G=-1
 ·obtain⟨rfl,rfl⟩:=de
  go_wp2;go_ret;exact⟨⟨0,rfl⟩,bb.out _ bs.out⟩
 have es:Hid (∀(P:Prop),(F≠-1→P)→(F=-1→G≠-1→P)→P):=fun P cu cx=>by
  by_cases q:F=-1
  ·exact cx q (fun e=>de ⟨q,e⟩)
  ·exact cu q
 clear de;refine es.out _ (fun em=>?_) (fun eu en=>?_)
 ·have hd:decide (F=-1)=false:=nA em
  go_upto_region 6 with fail
  clear em hd;go_cut [7,8]from 41 (fun dg dj dk=>dg=.int .i64 U∧dj=.int .i64 T∧Bw Z dk)
  case first=>
   go_region_held3 (fun w'=>Ce w' (w.heap.size+1) 5 (.int .i64 F)∧Ce w' (w.heap.size+1) 6 (.int .i64 G)∧Ce w' J.heap.size 2 (.int .i64 a6)∧Ce w' J.heap.size 3 (.int .i64 tg)) (first|with_reducible exact cr) (first|(go_at_call 94;(with_reducible refine nn (cp.out _) ?_);rintro e bv ⟨rfl,rfl⟩)|(go_at_call 94;(with_reducible refine nn (cq.out _) ?_);rintro e bv ⟨rfl,rfl⟩))
   all_goals
    go_wp2_with fail
    go_meet
    exact⟨rfl,rfl,(nt _ _).drew⟩
  case rest=>
   obtain⟨rfl,rfl,H⟩:=hcut;have bg:=hid (bs.out.trans (H.mono bs.out.size));have bC:=Ad H b9;have dm:=Ad H cb;have dn:=Ad H cf;have dp:=Ad H bA;have dr:=Ad H bB;have ds:=Ad H cg;have bF:=Ad H ch;have bG:=hid (cl.out.on (Aj H));have bH:=hid (PF (a1.out.below bg.out) bd.out c9 db da a6 tg U T);clear cr b9 cB c3 cb cf bA bB cg ch cl cp cq H;go_wp2_with fail
   refine nn bH.out ?_;rintro e du ⟨⟨r,rfl⟩,aa⟩;have V:=hid (bg.out.trans (aa.mono bg.out.size));have a7:=Ad aa bC;have a8:=Ad aa bF;have bY:=hid (bG.out.on (Aj aa));clear bH bC dm dn dp dr ds bF bG aa;cases r with
   |false=>
    clear a7 a8;go_wp2;go_ret;exact⟨⟨10,rfl⟩,bb.out _ V.out⟩
   |true=>
    have bi:=a1.out.below V.out;obtain⟨a0,b0,_⟩:=bi.cells;have bk:=Hk (W:=du) (S:=fun _=>false) (x:=.mk 0 0 U T false [] ⟨#[]⟩ []) (h:=zH) (M:=B.M) (fun _ dw=>(by cases dw)) (Oy _ _ _ _ _ _ _) (by rw[A7,Dl];exact⟨by decide,by decide,trivial⟩) (by rw[cnt,cntL];omega) ek.out bi.maps;obtain⟨bl,ba⟩:∃bl,Hid (Bh true B.M.us B.M.gs (.mk 0 0 U T false [] ⟨#[]⟩ [])=bl):=⟨_,rfl⟩;rw[ba.out]at bk;have bn:=hid bk;clear bk bi;go_wp2_with fail
    refine nn bn.out ?_;cases bl with
    |none=>
     rintro e ab ⟨rfl,I⟩;rw[show Ao zN zH=.agg #[.int .i64 0,.int .i64 0,.int .i64 0,.int .i64 0,.bool false,.slice none 0 0,.string ⟨#[]⟩,.slice none 0 0]from rfl];have Y:=hid (V.out.trans (I.mono V.out.size));clear bn I a7 a8 a0 b0;go_wp2;go_ret;exact⟨⟨11,rfl⟩,bb.out _ (Y.out.alloc Y.out.size _)⟩
    |some y=>
     obtain⟨O,Q,rfl⟩:∃O Q,y=.mk 0 0 O Q false [] ⟨#[]⟩ []:=by
      have e:=ba.out;rw[Bh]at e;split at e
      ·cases e;exact⟨_,_,rfl⟩
      ·cases e
     rintro e ab ⟨⟨hx,rfl,_⟩,I⟩;rw[show Ao (.mk 0 0 O Q false [] ⟨#[]⟩ []) hx=.agg #[.int .i64 0,.int .i64 0,.int .i64 O,.int .i64 Q,.bool false,.slice hx.aa 0 hx.ca,.string ⟨#[]⟩,.slice hx.ak 0 hx.ck]from rfl];have bo:Bw ab (ab.alloc (.cells #[.int .i64 0,.int .i64 0,.int .i64 O,.int .i64 Q,.bool false,.slice hx.aa 0 hx.ca,.string ⟨#[]⟩,.slice hx.ak 0 hx.ck] 50)):=(nt _ _).alloc (nl _) _;have Y:=hid (V.out.trans ((I.trans (bo.mono I.size)).mono V.out.size));have dx:Ce (ab.alloc (.cells #[.int .i64 0,.int .i64 0,.int .i64 O,.int .i64 Q,.bool false,.slice hx.aa 0 hx.ca,.string ⟨#[]⟩,.slice hx.ak 0 hx.ck] 50)) w.heap.size 0 (.pointer (some ⟨b,0,none⟩)):=Ay (Ad I a7);have ev:Ce (ab.alloc (.cells #[.int .i64 0,.int .i64 0,.int .i64 O,.int .i64 Q,.bool false,.slice hx.aa 0 hx.ca,.string ⟨#[]⟩,.slice hx.ak 0 hx.ck] 50)) J.heap.size 10 (.slice na nf.length nc):=Ay (Ad I a8);have b1:=(bY.out.on (Aj I)).on (Aj bo);have b2:=hid (JM (a1.out.below Y.out) bd.out b1 co.out.1 (by have:=co.out.2;omega) ef.out rfl (Qh (a1.out.below Y.out) bd.out (Hy ba.out) (Kh ba.out) dx (nk _ _ _ _ rfl) (nk _ _ _ _ rfl)));clear bn a7 a8 a0 b0 bo I b1 bY;go_wp2_with fail
     refine nn b2.out ?_;rintro e eB ⟨⟨E,rfl⟩,b3⟩;have dy:=hid (b3.up Y.out);clear b3 b2;go_wp2;go_ret;exact⟨⟨E,rfl⟩,dy.out⟩
 ·subst eu
  have hd:(G==-1)=false:=by simpa using en
  go_upto_region 6 with fail
  clear en hd;go_cut [7,8]from 41 (fun dg dj dk=>dg=.int .i64 U∧dj=.int .i64 T∧Bw Z dk)
  case first=>
   go_region_held3 (fun w'=>Ce w' (w.heap.size+1) 5 (.int .i64 (-1))∧Ce w' (w.heap.size+1) 6 (.int .i64 G)∧Ce w' J.heap.size 2 (.int .i64 a6)∧Ce w' J.heap.size 3 (.int .i64 tg)) (first|with_reducible exact cr) (first|(go_at_call 94;(with_reducible refine nn (cp.out _) ?_);rintro e bv ⟨rfl,rfl⟩)|(go_at_call 94;(with_reducible refine nn (cq.out _) ?_);rintro e bv ⟨rfl,rfl⟩))
   all_goals
    go_wp2_with fail
    go_meet
    exact⟨rfl,rfl,(nt _ _).drew⟩
  case rest=>
   obtain⟨rfl,rfl,H⟩:=hcut;have bg:=hid (bs.out.trans (H.mono bs.out.size));have bC:=Ad H b9;have dm:=Ad H cb;have dn:=Ad H cf;have dp:=Ad H bA;have dr:=Ad H bB;have ds:=Ad H cg;have bF:=Ad H ch;have bG:=hid (cl.out.on (Aj H));have bH:=hid (PF (a1.out.below bg.out) bd.out c9 db da a6 tg U T);clear cr b9 cB c3 cb cf bA bB cg ch cl cp cq H;go_wp2_with fail
   refine nn bH.out ?_;rintro e du ⟨⟨r,rfl⟩,aa⟩;have V:=hid (bg.out.trans (aa.mono bg.out.size));have a7:=Ad aa bC;have a8:=Ad aa bF;have bY:=hid (bG.out.on (Aj aa));clear bH bC dm dn dp dr ds bF bG aa;cases r with
   |false=>
    clear a7 a8;go_wp2;go_ret;exact⟨⟨10,rfl⟩,bb.out _ V.out⟩
   |true=>
    have bi:=a1.out.below V.out;obtain⟨a0,b0,_⟩:=bi.cells;have bk:=Hk (W:=du) (S:=fun _=>false) (x:=.mk 0 0 U T false [] ⟨#[]⟩ []) (h:=zH) (M:=B.M) (fun _ dw=>(by cases dw)) (Oy _ _ _ _ _ _ _) (by rw[A7,Dl];exact⟨by decide,by decide,trivial⟩) (by rw[cnt,cntL];omega) ek.out bi.maps;obtain⟨bl,ba⟩:∃bl,Hid (Bh true B.M.us B.M.gs (.mk 0 0 U T false [] ⟨#[]⟩ [])=bl):=⟨_,rfl⟩;rw[ba.out]at bk;have bn:=hid bk;clear bk bi;go_wp2_with fail
    refine nn bn.out ?_;cases bl with
    |none=>
     rintro e ab ⟨rfl,I⟩;rw[show Ao zN zH=.agg #[.int .i64 0,.int .i64 0,.int .i64 0,.int .i64 0,.bool false,.slice none 0 0,.string ⟨#[]⟩,.slice none 0 0]from rfl];have Y:=hid (V.out.trans (I.mono V.out.size));clear bn I a7 a8 a0 b0;go_wp2;go_ret;exact⟨⟨11,rfl⟩,bb.out _ (Y.out.alloc Y.out.size _)⟩
    |some y=>
     obtain⟨O,Q,rfl⟩:∃O Q,y=.mk 0 0 O Q false [] ⟨#[]⟩ []:=by
      have e:=ba.out;rw[Bh]at e;split at e
      ·cases e;exact⟨_,_,rfl⟩
      ·cases e
     rintro e ab ⟨⟨hx,rfl,_⟩,I⟩;rw[show Ao (.mk 0 0 O Q false [] ⟨#[]⟩ []) hx=.agg #[.int .i64 0,.int .i64 0,.int .i64 O,.int .i64 Q,.bool false,.slice hx.aa 0 hx.ca,.string ⟨#[]⟩,.slice hx.ak 0 hx.ck]from rfl];have bo:Bw ab (ab.alloc (.cells #[.int .i64 0,.int .i64 0,.int .i64 O,.int .i64 Q,.bool false,.slice hx.aa 0 hx.ca,.string ⟨#[]⟩,.slice hx.ak 0 hx.ck] 50)):=(nt _ _).alloc (nl _) _;have Y:=hid (V.out.trans ((I.trans (bo.mono I.size)).mono V.out.size));have dx:Ce (ab.alloc (.cells #[.int .i64 0,.int .i64 0,.int .i64 O,.int .i64 Q,.bool false,.slice hx.aa 0 hx.ca,.string ⟨#[]⟩,.slice hx.ak 0 hx.ck] 50)) w.heap.size 0 (.pointer (some ⟨b,0,none⟩)):=Ay (Ad I a7);have ev:Ce (ab.alloc (.cells #[.int .i64 0,.int .i64 0,.int .i64 O,.int .i64 Q,.bool false,.slice hx.aa 0 hx.ca,.string ⟨#[]⟩,.slice hx.ak 0 hx.ck] 50)) J.heap.size 10 (.slice na nf.length nc):=Ay (Ad I a8);have b1:=(bY.out.on (Aj I)).on (Aj bo);have b2:=hid (JM (a1.out.below Y.out) bd.out b1 co.out.1 (by have:=co.out.2;omega) ef.out rfl (Qh (a1.out.below Y.out) bd.out (Hy ba.out) (Kh ba.out) dx (nk _ _ _ _ rfl) (nk _ _ _ _ rfl)));clear bn a7 a8 a0 b0 bo I b1 bY;go_wp2_with fail
     refine nn b2.out ?_;rintro e eB ⟨⟨E,rfl⟩,b3⟩;have dy:=hid (b3.up Y.out);clear b3 b2;go_wp2;go_ret;exact⟨⟨E,rfl⟩,dy.out⟩
end Go.Proofs.YtgppjbhaimmlpaaGreatDoor
