/-
  TopQuota: Yz Oa Wv Kd Pc.
-/
import Derived.Test.YtofhphibahcniaaGreatDoorWoX
import Derived.Test.YtofhphibahcniaaGreatDoorApX
import Derived.Test.YtofhphibahcniaaGreatDoorYnX
import Derived.Test.YtofhphibahcniaaGreatDoorHeX
import Derived.SliceStrings
import Derived.ProofKit
import Derived.OpenShut
import Derived.ShutString
import Derived.ChangeOld
import Derived.Below
import Derived.Deep.Slices
import Derived.Deep.Strs
import Derived.Test.YtofhphibahcniaaGreatDoorUbX
import Derived.Test.YtofhphibahcniaaGreatDoorMcX
set_option maxRecDepth 100000
set_option maxHeartbeats 16000000
namespace Go.Proofs.YtofhphibahcniaaGreatDoor
open Go.RowKit Go.Proofs.Tryz
structure EZ (us gs:List Rg) (cs:List Int) (cu cg ck q:Int) (xs:List Nd) (y:Nd):Prop where
 mu:CZ us=0
 mg:CZ gs=0
 cr:Cx cu cg cs ck=0
 q1:1≤q
 q2:q≤64
 len:xs.length≤3
 low:∀x∈xs,CC false x=0
 root:Bm true us gs (.mk 2 493 cu cg false [] ⟨#[]⟩ [])=some y
theorem XG{w:World}{I J ca lwa:Option Addr}{uc gc cc lwn lwc:Nat}{us gs:List Rg}{cs:List Int}{G H ck q:Int}(cd:Rgs w I us)(cf:Rgs w J gs)(cg:us.length≤100)(ch:gs.length≤100)(cl:us.length≤uc)(co:gs.length≤gc)(cp:∀r∈us,r.ok)(cr:∀r∈gs,r.ok)(dm:A6 w ca cs)(dn:cs.length≤8)(hid:A2 G∧A2 H)
 {a:Option Addr} {cap:Nat} {xs:List Nd} (hx:Cn w.cell? a xs) (d9:xs.length≤5) (dp:∀x∈xs,AB x∧cnt x≤1000):
 Calls prog 17 #[.agg #[.slice I us.length uc,.slice J gs.length gc,.int .i64 G,.int .i64 H,.slice ca cs.length cc,.int .i64 ck,.int .i64 q,.slice lwa lwn lwc],.slice a xs.length cap] w fun e w'=>(∃E y h,e=.returned (.tuple #[Al y h,Am E])∧Ah w'.cell? y h∧(E=0→EZ us gs cs G H ck q xs y)∧(E≠0→¬∃y,EZ us gs cs G H ck q xs y))∧Bw w w':=by
 have cu:Bw w (w.alloc (A0 I J ca lwa uc gc cc lwn lwc us gs cs G H ck q)):=(nv _ _).alloc (nn _) _;have bi:Bw w ((w.alloc (A0 I J ca lwa uc gc cc lwn lwc us gs cs G H ck q)).alloc AJ):=cu.alloc cu.size _;have dr:(w.alloc (A0 I J ca lwa uc gc cc lwn lwc us gs cs G H ck q)).heap.size=w.heap.size+1:=nw _ _;have c0:Ce ((w.alloc (A0 I J ca lwa uc gc cc lwn lwc us gs cs G H ck q)).alloc AJ) w.heap.size 0 (.slice I us.length uc):=AE (nl _ _ _ _ rfl);have c1:Ce ((w.alloc (A0 I J ca lwa uc gc cc lwn lwc us gs cs G H ck q)).alloc AJ) w.heap.size 1 (.slice J gs.length gc):=AE (nl _ _ _ _ rfl);have c2:Ce ((w.alloc (A0 I J ca lwa uc gc cc lwn lwc us gs cs G H ck q)).alloc AJ) w.heap.size 2 (.int .i64 G):=AE (nl _ _ _ _ rfl);have ab:Ce ((w.alloc (A0 I J ca lwa uc gc cc lwn lwc us gs cs G H ck q)).alloc AJ) w.heap.size 3 (.int .i64 H):=AE (nl _ _ _ _ rfl);have ea:Ce ((w.alloc (A0 I J ca lwa uc gc cc lwn lwc us gs cs G H ck q)).alloc AJ) w.heap.size 4 (.slice ca cs.length cc):=AE (nl _ _ _ _ rfl);have eb:Ce ((w.alloc (A0 I J ca lwa uc gc cc lwn lwc us gs cs G H ck q)).alloc AJ) w.heap.size 5 (.int .i64 ck):=AE (nl _ _ _ _ rfl);have ec:Ce ((w.alloc (A0 I J ca lwa uc gc cc lwn lwc us gs cs G H ck q)).alloc AJ) w.heap.size 6 (.int .i64 q):=AE (nl _ _ _ _ rfl);have c7:Ce ((w.alloc (A0 I J ca lwa uc gc cc lwn lwc us gs cs G H ck q)).alloc AJ) w.heap.size 7 (.slice lwa lwn lwc):=AE (nl _ _ _ _ rfl);have ds:Hid (Ca ((w.alloc (A0 I J ca lwa uc gc cc lwn lwc us gs cs G H ck q)).alloc AJ) (w.heap.size+1)):=by
  have e:=Ca.new (w.alloc (A0 I J ca lwa uc gc cc lwn lwc us gs cs G H ck q));rw[dr]at e;exact e
 have du:Hid (Calls prog 35 #[JP I J ca lwa uc gc cc lwn lwc us gs cs G H ck q] ((w.alloc (A0 I J ca lwa uc gc cc lwn lwc us gs cs G H ck q)).alloc AJ) fun e w'=>(∃E,e=.returned (Am E)∧(E=0→CZ us=0∧CZ gs=0∧Cx G H cs ck=0∧1≤q∧q≤64)∧(E≠0→¬(CZ us=0∧CZ gs=0∧Cx G H cs ck=0∧1≤q∧q≤64)))∧Bw ((w.alloc (A0 I J ca lwa uc gc cc lwn lwc us gs cs G H ck q)).alloc AJ) w'):=aN (cd.below bi) (cf.below bi) cg ch cl co cp cr (dm.below bi) dn;have ed:Hid (Ek w ⟨I,J,uc,gc,us,gs⟩):=⟨cd,cf,cg,ch,cl,co,cp,cr⟩;have cx:Hid (Bw w ((w.alloc (A0 I J ca lwa uc gc cc lwn lwc us gs cs G H ck q)).alloc AJ)):=bi;have ee:Hid (Cn w.cell? a xs):=hx;have ef:Hid (∀x∈xs,AB x∧cnt x≤1000):=dp;have eg:Hid (A2 G∧A2 H):=hid;obtain⟨N,bk⟩:∃N,Hid (xs.length=N):=⟨_,rfl⟩;rw[bk.out]at d9⊢;clear cd cf cg ch cl co cp cr dm dn hid hx dp cu bi dr;go_enter func17,ntmps17;go_upto_region 1 with fail
 generalize((w.alloc (A0 I J ca lwa uc gc cc lwn lwc us gs cs G H ck q)).alloc AJ)=e6 at*;obtain⟨Q,dw⟩:∃Q,Hid (w.heap.size=Q):=⟨_,rfl⟩;go_wp2_with fail
 refine np du.out ?_;rintro e a6 ⟨⟨E,rfl,dx,dy⟩,q2⟩;have be:=hid (cx.out.trans (q2.mono cx.out.size));have bv:=hid (ds.out.below q2);replace c0:=Af q2 c0;replace c1:=Af q2 c1;replace c2:=Af q2 c2;replace ab:=Af q2 ab;clear du q2 ds cx ea eb ec c7;by_cases bx:E=0
 case neg=>
  have bl:=AG (n:=E) rfl bx;have a8:Hid (¬∃y,EZ us gs cs G H ck q xs y):=fun⟨_,h⟩=>dy bx ⟨h.mu,h.mg,h.cr,h.q1,h.q2⟩;rw[bl]
  clear c0 c1 c2 ab;have z3:=bv.out;obtain⟨R,T,V,ad⟩:=z3.store (x:=zN) (hd:=zH) (nZ _);have Y:=hid T;have Z:=hid ((be.out).trans (V.below (Nat.le_succ _) (be.out).size));obtain⟨aa,O⟩:∃aa,Au a6 (w.heap.size+1) zN zH=aa:=⟨_,rfl⟩;rw[O]at R Y Z;simp only[zN,zH,Au,nR]at O;obtain⟨⟨z0,bA,bB,z4,z5,bC,bF,bG⟩,F⟩:=z3.1;have bH:=F 0;have bY:=F 1;have b0:=F 2;have b1:=F 3;have b2:=F 4;have b3:=F 5;have b4:=F 6;have b5:=F 7;obtain⟨⟨ak,g1,ao,g3,g4,ap,ar,ay⟩,_⟩:=R;have az:Hid _:=O;clear O F T V ad z3;go_wp2;rw[az.out];refine nG (v:=.tuple #[.agg #[.int .i64 0,.int .i64 0,.int .i64 0,.int .i64 0,.bool false,.slice none 0 0,.string ⟨#[]⟩,.slice none 0 0],.iface 78 (.int .i64 E)]) (by simp[results,results17,go_sem,zH,ak,g1,ao,g3,g4,ap,ar,ay]) rfl ⟨⟨E,zN,zH,by rw[bl];rfl,Y.out,fun e=>absurd e (bx),fun _=>a8.out⟩,Z.out⟩
 case pos=>
  subst bx;have bn:=hid (dx rfl);clear dy;rw[show Am 0=Value.nilIface from rfl];clear dx;by_cases ej:3<N
  ·have dz:decide ((3:Int)<(N:Int))=true:=nF (by omega)
   have a8:Hid (¬∃y,EZ us gs cs G H ck q xs y):=fun⟨_,h⟩=>by have:=h.len;rw[bk.out]at this;omega
   clear c0 c1 c2 ab;have z3:=bv.out;obtain⟨R,T,V,ad⟩:=z3.store (x:=zN) (hd:=zH) (nZ _);have Y:=hid T;have Z:=hid ((be.out).trans (V.below (Nat.le_succ _) (be.out).size));obtain⟨aa,O⟩:∃aa,Au a6 (w.heap.size+1) zN zH=aa:=⟨_,rfl⟩;rw[O]at R Y Z;simp only[zN,zH,Au,nR]at O;obtain⟨⟨z0,bA,bB,z4,z5,bC,bF,bG⟩,F⟩:=z3.1;have bH:=F 0;have bY:=F 1;have b0:=F 2;have b1:=F 3;have b2:=F 4;have b3:=F 5;have b4:=F 6;have b5:=F 7;obtain⟨⟨ak,g1,ao,g3,g4,ap,ar,ay⟩,_⟩:=R;have az:Hid _:=O;clear O F T V ad z3;go_wp2;rw[az.out];refine nG (v:=.tuple #[.agg #[.int .i64 0,.int .i64 0,.int .i64 0,.int .i64 0,.bool false,.slice none 0 0,.string ⟨#[]⟩,.slice none 0 0],.iface 78 (.int .i64 2)]) (by simp[results,results17,go_sem,zH,ak,g1,ao,g3,g4,ap,ar,ay]) rfl ⟨⟨2,zN,zH,rfl,Y.out,fun e=>absurd e (by decide),fun _=>a8.out⟩,Z.out⟩
  ·have dz:decide ((3:Int)<(N:Int))=false:=nB (by omega)
   have ek:Hid (N≤3):=by show _≤_;omega
   have d0:Hid (Bw w a6∧Ca a6 (w.heap.size+1)∧Ce a6 Q 0 (.slice I us.length uc)∧Ce a6 Q 1 (.slice J gs.length gc)∧Ce a6 Q 2 (.int .i64 G)∧Ce a6 Q 3 (.int .i64 H)):=by rw[←dw.out];exact⟨be.out,bv.out,c0,c1,c2,ab⟩
   clear c0 c1 c2 ab ej;go_upto_region 6 with fail
   clear dz;go_wp2;go_loopw [23] (fun i wr=>∃j:Nat,j≤N∧i=.int .i64 j∧Hid (Bw w wr∧Ca wr (w.heap.size+1)∧Ce wr Q 0 (.slice I us.length uc)∧Ce wr Q 1 (.slice J gs.length gc)∧Ce wr Q 2 (.int .i64 G)∧Ce wr Q 3 (.int .i64 H))∧Hid (∀t y,t<j→xs[t]? =some y→CC false y=0)) (fun i _=>N-(intOf i).toNat)
   case atStart=>exact⟨0,nN _,rfl,d0,fun t y bo=>absurd bo (Nat.not_lt_zero _)⟩
   case round=>
    clear d0 be bv;obtain⟨j,e7,rfl,bp,c3⟩:=hrel;by_cases d1:j<N
    ·have c4:decide ((j:Int)<(N:Int))=true:=nF (by omega)
     obtain⟨x,b6⟩:∃x,xs[j]? =some x:=⟨_,nt (by rw[bk.out];exact d1)⟩;obtain⟨e8,e9,h,rfl,el,d2⟩:=Pp (ee.out.on (Aj bp.out.1)) b6;obtain⟨d3,d4⟩:=ef.out x (nE b6);obtain⟨ba,c5⟩:∃ba,Hid (CC false x=ba):=⟨_,rfl⟩;have d5:=hid b6;obtain⟨k,m,u,g,o,nh,d,ks⟩:=x;obtain⟨em,q1,q2,en,q4,q5,q6,q7⟩:=el;have a7:=E8 wr (As k m u g o nh d ks h);have eo:=Av.new wr k m u g o nh d ks h;have d6:Hid (Calls prog 36 #[(A5 k m u g o nh d ks h),.bool false] (wr.alloc (As k m u g o nh d ks h)) fun e c6=>e=.returned (Am ba)∧Bw (wr.alloc (As k m u g o nh d ks h)) c6):=by
      have e:=KY false (d2.on (Aj a7)) d3 d4;rw[c5.out]at e;exact e
     have d7:Hid (Bw w (wr.alloc (As k m u g o nh d ks h))∧Ca (wr.alloc (As k m u g o nh d ks h)) (w.heap.size+1)∧Ce (wr.alloc (As k m u g o nh d ks h)) Q 0 (.slice I us.length uc)∧Ce (wr.alloc (As k m u g o nh d ks h)) Q 1 (.slice J gs.length gc)∧Ce (wr.alloc (As k m u g o nh d ks h)) Q 2 (.int .i64 G)∧Ce (wr.alloc (As k m u g o nh d ks h)) Q 3 (.int .i64 H)):=by
      obtain⟨a1,bf,c8,c9,da,db⟩:=bp.out;exact⟨a1.trans (a7.mono a1.size),bf.below a7,Af a7 c8,Af a7 c9,Af a7 da,Af a7 db⟩
     obtain⟨⟨ep,eq,er,es,eu,ev,f6,eB⟩,_⟩:=eo;clear b6 d3 d4 d2 a7 bp;go_upto_region 9 with fail
     generalize wr.alloc (As k m u g o nh d ks h)=fa at*;go_wp2_with fail
     refine np d6.out ?_;rintro e bb ⟨rfl,bd⟩;have b7:Hid (Bw w bb∧Ca bb (w.heap.size+1)∧Ce bb Q 0 (.slice I us.length uc)∧Ce bb Q 1 (.slice J gs.length gc)∧Ce bb Q 2 (.int .i64 G)∧Ce bb Q 3 (.int .i64 H)):=by
      obtain⟨a1,bf,c8,c9,da,db⟩:=d7.out;exact⟨a1.trans (bd.mono a1.size),bf.below bd,Af bd c8,Af bd c9,Af bd da,Af bd db⟩
     clear bd d6 d7 em q1 q2 en q4 q5 q6 q7 ep eq er es eu ev f6 eB;by_cases hF:ba=0
     ·rw[Co hF]
      have eE:=hid hF;clear hF;go_wp2;go_roundw
      case rel=>
       refine⟨j+1,by omega,by go_num,b7,fun t y bo dd=>?_⟩;by_cases e:t=j
       ·subst e
        rw[d5.out]at dd;cases dd;rw[c5.out,eE.out]
       ·exact c3.out t y (by omega) dd
      case measure=>(simp[intOf];try omega)
     ·have bl:=AG (n:=ba) rfl hF
      rw[bl];have eL:=hid hF;have a8:Hid (¬∃y,EZ us gs cs G H ck q xs y):=fun⟨_,h⟩=>hF (c5.out.symm.trans (h.low _ (nE d5.out)));have e0:=hid b7.out.2.1
      clear c4;have z3:=e0.out;obtain⟨R,T,V,ad⟩:=z3.store (x:=zN) (hd:=zH) (nZ _);have Y:=hid T;have Z:=hid ((b7.out.1).trans (V.below (Nat.le_succ _) (b7.out.1).size));obtain⟨aa,O⟩:∃aa,Au bb (w.heap.size+1) zN zH=aa:=⟨_,rfl⟩;rw[O]at R Y Z;simp only[zN,zH,Au,nR]at O;obtain⟨⟨z0,bA,bB,z4,z5,bC,bF,bG⟩,F⟩:=z3.1;have bH:=F 0;have bY:=F 1;have b0:=F 2;have b1:=F 3;have b2:=F 4;have b3:=F 5;have b4:=F 6;have b5:=F 7;obtain⟨⟨ak,g1,ao,g3,g4,ap,ar,ay⟩,_⟩:=R;have az:Hid _:=O;clear O F T V ad z3;go_wp2;rw[az.out];refine nG (v:=.tuple #[.agg #[.int .i64 0,.int .i64 0,.int .i64 0,.int .i64 0,.bool false,.slice none 0 0,.string ⟨#[]⟩,.slice none 0 0],.iface 78 (.int .i64 ba)]) (by simp[results,results17,go_sem,zH,ak,g1,ao,g3,g4,ap,ar,ay]) rfl ⟨⟨ba,zN,zH,by rw[bl];rfl,Y.out,fun e=>absurd e (eL.out),fun _=>a8.out⟩,Z.out⟩
    ·obtain rfl:j=N:=by omega
     have c4:=nB (by omega);have e1:Hid (∀x∈xs,CC false x=0):=fun x hx=>by
      obtain⟨t,bo⟩:=n5 hx;exact c3.out t x (by have:=(ny.1 bo).1;rw[bk.out]at this;exact this) bo
     obtain⟨a1,bf,c0,c1,c2,ab⟩:=id bp.out;rw[←dw.out]at c0 c1 c2 ab;have b9:=hid a1;have d8:=hid bf;have bs:Hid _:=Jn (W:=wr) (S:=fun _=>false) (fun _ e2=>(by cases e2)) (x:=(.mk 2 493 G H false [] ⟨#[]⟩ [])) (h:=zH) (by rw[Dg];exact UE _ _ _ _ _ _ _) (GI _ (by rw[cnt,cntL];omega) (by rw[AB,Bu];exact⟨⟨by decide,fun r e3=>(by cases e3)⟩,by decide,trivial⟩)) (by rw[cnt,cntL];omega) eg.out (M:=⟨I,J,uc,gc,us,gs⟩) (ed.out.below a1);obtain⟨cb,de⟩:∃cb,Hid (Bm true us gs (.mk 2 493 G H false [] ⟨#[]⟩ [])=cb):=⟨_,rfl⟩;have bs:Hid (Calls prog 37 #[.agg #[.slice I us.length uc,.slice J gs.length gc],.agg #[.int .i64 2,.int .i64 493,.int .i64 G,.int .i64 H,.bool false,.slice none 0 0,.string ⟨#[]⟩,.slice none 0 0]] wr fun e c6=>Jh wr c6 (fun _=>false) e cb):=by
      have e:=bs.out;rw[de.out]at e;exact e
     clear a1 bf bp c3 d1;go_upto_region 13 with fail
     clear c4;go_wp2_with fail
     refine np bs.out ?_;cases cb with
     |none=>
      have a8:Hid (¬∃y,EZ us gs cs G H ck q xs y):=fun⟨_,h⟩=>by have e:=h.root;rw[de.out]at e;cases e
      rintro e dg ⟨rfl,q5⟩;have bu:=hid (b9.out.trans (q5.mono b9.out.size));have dj:=hid (d8.out.below q5);clear q5 bs c0 c1 c2 ab;rw[show Al zN zH=.agg #[.int .i64 0,.int .i64 0,.int .i64 0,.int .i64 0,.bool false,.slice none 0 0,.string ⟨#[]⟩,.slice none 0 0]from rfl];have z3:=dj.out;obtain⟨R,T,V,ad⟩:=z3.store (x:=zN) (hd:=zH) (nZ _);have Y:=hid T;have Z:=hid ((bu.out).trans (V.below (Nat.le_succ _) (bu.out).size));obtain⟨aa,O⟩:∃aa,Au dg (w.heap.size+1) zN zH=aa:=⟨_,rfl⟩;rw[O]at R Y Z;simp only[zN,zH,Au,nR]at O;obtain⟨⟨z0,bA,bB,z4,z5,bC,bF,bG⟩,F⟩:=z3.1;have bH:=F 0;have bY:=F 1;have b0:=F 2;have b1:=F 3;have b2:=F 4;have b3:=F 5;have b4:=F 6;have b5:=F 7;obtain⟨⟨ak,g1,ao,g3,g4,ap,ar,ay⟩,_⟩:=R;have az:Hid _:=O;clear O F T V ad z3;go_wp2;rw[az.out];refine nG (v:=.tuple #[.agg #[.int .i64 0,.int .i64 0,.int .i64 0,.int .i64 0,.bool false,.slice none 0 0,.string ⟨#[]⟩,.slice none 0 0],.iface 78 (.int .i64 11)]) (by simp[results,results17,go_sem,zH,ak,g1,ao,g3,g4,ap,ar,ay]) rfl ⟨⟨11,zN,zH,rfl,Y.out,fun e=>absurd e (by decide),fun _=>a8.out⟩,Z.out⟩
     |some y=>
      rintro e dg ⟨⟨bg,rfl,dk⟩,q5⟩;rw[Dg]at dk;have e4:=hid dk;have bu:=hid (b9.out.trans (q5.mono b9.out.size));have dj:=hid (d8.out.below q5);have e5:Hid (EZ us gs cs G H ck q xs y):=⟨bn.out.1,bn.out.2.1,bn.out.2.2.1,bn.out.2.2.2.1,bn.out.2.2.2.2,by rw[bk.out];exact ek.out,e1.out,de.out⟩;clear q5 bs c0 c1 c2 ab dk;obtain⟨k,m,u,g,o,nh,d,ks⟩:=y;rw[show Al (.mk k m u g o nh d ks) bg=(A5 k m u g o nh d ks bg)from rfl];have z3:=dj.out;obtain⟨R,T,V,ad⟩:=z3.store (x:=(.mk k m u g o nh d ks)) (hd:=bg) e4.out;have Y:=hid T;have Z:=hid ((bu.out).trans (V.below (Nat.le_succ _) (bu.out).size));obtain⟨aa,O⟩:∃aa,Au dg (w.heap.size+1) (.mk k m u g o nh d ks) bg=aa:=⟨_,rfl⟩;rw[O]at R Y Z;simp only[Au]at O;obtain⟨⟨z0,bA,bB,z4,z5,bC,bF,bG⟩,F⟩:=z3.1;have bH:=F 0;have bY:=F 1;have b0:=F 2;have b1:=F 3;have b2:=F 4;have b3:=F 5;have b4:=F 6;have b5:=F 7;obtain⟨⟨ak,g1,ao,g3,g4,ap,ar,ay⟩,_⟩:=R;have az:Hid _:=O;clear O F T V ad z3;go_wp2;rw[az.out];refine nG (v:=.tuple #[(A5 k m u g o nh d ks bg),.nilIface]) (by simp[results,results17,go_sem,ak,g1,ao,g3,g4,ap,ar,ay]) rfl ⟨⟨0,(.mk k m u g o nh d ks),bg,rfl,Y.out,fun _=>e5.out,fun e=>absurd rfl e⟩,Z.out⟩
theorem Vb{L:List Rg}{x y:Int}(h:F6 L x=some y):CV y=true∧A2 y:=by
 unfold F6 at h;by_cases F:CZ L=0
 ·rw[nD F]at h
  obtain⟨r,G,H,I,rfl⟩:=Ls h;have hb:=Ke F r G;unfold Rg.bd at hb;unfold CV A2;simp;omega
 ·rw[nC F]at h;cases h
theorem cZ{us gs:List Rg}{H I:Int}{y:Nd}(h:Bm true us gs (.mk 2 493 H I false [] ⟨#[]⟩ [])=some y):∃F G,y=.mk 2 493 F G false [] ⟨#[]⟩ []∧(CV F=true∧A2 F)∧(CV G=true∧A2 G):=by
 rw[Bm]at h;simp only[if_true]at h;split at h
 ·rename_i u' g' e1 e2
  cases h;exact⟨u',g',rfl,Vb e1,Vb e2⟩
 ·cases h
theorem UL{F G:Int}(H:CV F=true)(I:CV G=true):CC true (.mk 2 493 F G false [] ⟨#[]⟩ [])=0:=by
 rw[JJ];refine⟨rfl,?_,by rw[cnt,cntL];omega⟩;rw[Fn,Gs];refine⟨by omega,?_,trivial⟩;rw[DT,H,I];rfl
theorem dc{F G:Int}(H:CV F=true)(I:CV G=true):CH (.mk 2 493 F G false [] ⟨#[]⟩ [])≤1:=by
 unfold CH E6;rw[nD (UL H I)];have e:(A8 (BK (.mk 2 493 F G false [] ⟨#[]⟩ []))).size=(BK (.mk 2 493 F G false [] ⟨#[]⟩ [])).length:=by simp[A8,ByteArray.size]
 have J:(BK (.mk 2 493 F G false [] ⟨#[]⟩ [])).length≤64:=by
  rw[BK,BQ];simp[BW,CD,Bg]
 rw[e];omega
def FF(w:World)(b:Nat):Prop:=w.cell? ⟨b,0,none⟩=some (.slice none 0 0)∧w.cell? ⟨b,1,none⟩=some (.slice none 0 0)∧(∀q,w.frozen? ⟨b,q,none⟩=false)∧b<w.heap.size
theorem FF.new(w:World):FF (w.alloc (.cells #[.slice none 0 0,.slice none 0 0] 24)) w.heap.size:=⟨nl _ _ _ _ rfl,nl _ _ _ _ rfl,fun q=>nQ _ _ _ _ rfl,by rw[nw];omega⟩
theorem FF.lt{w:World}{b:Nat}(h:FF w b):b<w.heap.size:=h.2.2.2
theorem FF.below{w w':World}{b:Nat}(h:FF w b)(hb:Bw w w'):FF w' b:=⟨Af hb h.1,Af hb h.2.1,fun q=>(hb.frozen (p:=⟨b,q,none⟩) h.lt).trans (h.2.2.1 q),nH h.lt hb.size⟩
theorem Nn{w w':World}{a:Option Addr}{rs:List Rg}(hb:Bw w w')(h:Rgs w a rs):Rgs w' a rs:=h.below hb
structure Ps (wI w:World) (mb:Nat) (ao bo:Option Addr) (us gs:List Rg) (c1 c2:Nat):Prop where
 box:w.cell? ⟨mb,0,none⟩=some (.slice ao us.length c1)∧w.cell? ⟨mb,1,none⟩=some (.slice bo gs.length c2)
 low:Bw wI w
 u:Rgs w ao us
 g:Rgs w bo gs
 du:∀p,ao=some p→p.block<w.heap.size
 dg:∀p,bo=some p→p.block<w.heap.size
theorem Mc{w:World}{a:Option Addr}{rs:List Rg}{b i:Nat}{v:Value}(h:Rgs w a rs)(I:∀p,a=some p→rs≠[]→p.block≠b):Rgs (w.setCell ⟨b,i,none⟩ v) a rs:=by
 rcases h with e|⟨G,J,rfl,O⟩
 ·exact .inl e
 ·by_cases H:rs=[]
  ·exact .inl H
  ·have F:G≠b:=I _ rfl H
   refine .inr ⟨G,J,rfl,fun k r Q=>?_⟩;obtain⟨R,T,V⟩:=O k r Q;exact⟨(Bk F).trans R,(Bk F).trans T,(Bk F).trans V⟩
theorem Vv{I F:World}{nx:Nat}{G H:Option Addr}{us gs:List Rg}{c1 c2:Nat}(O:FF F nx)(hb:Bw I F)(Q:I.heap.size≤nx)(V:Rgs F G us)(Y:Rgs F H gs)(Z:∀p,G=some p→p.block<F.heap.size)(aa:∀p,H=some p→p.block<F.heap.size)(R:∀p,G=some p→us≠[]→p.block≠nx)(T:∀p,H=some p→gs≠[]→p.block≠nx):
 Ps I ((F.setCell ⟨nx,0,none⟩ (.slice G us.length c1)).setCell ⟨nx,1,none⟩ (.slice H gs.length c2)) nx G H us gs c1 c2:=
 ⟨⟨(AA (by omega)).trans (nI _ _ _ O.1),nI _ _ _ ((AA (by omega)).trans O.2.1)⟩,(hb.setCell (p:=⟨nx,0,none⟩) Q _).setCell (p:=⟨nx,1,none⟩) Q _,Mc (Mc V R) R,Mc (Mc Y T) T,fun p J=>by simpa using Z p J,fun p J=>by simpa using aa p J⟩
theorem ey{J F:World}{G H:Option Addr}{us gs:List Rg}{c1 c2:Nat}(hb:Bw J F)(O:Rgs F G us)(Q:Rgs F H gs)(R:∀p,G=some p→p.block<F.heap.size)(T:∀p,H=some p→p.block<F.heap.size):
 Ps J (F.alloc (.cells #[.slice G us.length c1,.slice H gs.length c2] 24)) F.heap.size G H us gs c1 c2:=
 ⟨⟨nl _ _ _ _ rfl,nl _ _ _ _ rfl⟩,hb.alloc hb.size _,O.below (E8 _ _),Q.below (E8 _ _),fun p I=>by have:=R p I;rw[nw];omega,fun p I=>by have:=T p I;rw[nw];omega⟩
theorem ft{w:World}{v:Value}{L:List Fl}{wr:World}(h:ER w v L wr)(I:L≠[]):∃g cap,v=.slice (some ⟨g,0,none⟩) L.length cap∧(L.length≤cap∧cap≤9223372036854775807)∧Cn wr.cell? (some ⟨g,0,none⟩) (L.map Fl.x):=by
 rcases h.row.2 with⟨rfl,J⟩|⟨g,cap,V,rfl,hb,O,Q,G,Y,R⟩
 ·exact absurd (rq.1 J) I
 ·refine⟨g,cap,rfl,⟨Q,by unfold maxLen at G;exact G⟩,.inr ⟨g,0,rfl,fun i=>(L.getD i ⟨zN,zH,0⟩).h,fun i x H=>?_⟩⟩
  rw[n4]at H;obtain⟨f,F,rfl⟩:=n0.1 H;have e:(L.getD i ⟨zN,zH,0⟩)=f:=by rw[List.getD_eq_getElem?_getD,F];rfl
  dsimp only;rw[e];refine⟨Ec.2 fun q u T=>?_,(h.nd f (nE F)).on (Ci _ _)⟩;rw[nU];exact F7 O R (JD L i f F q u T)
def fT(w w':World)(b:Nat)(B:Bx):Prop:=∃F G L,B.la=some ⟨F,0,none⟩∧F≠b∧w.heap.size≤G.heap.size∧ER G (.slice (some ⟨F,0,none⟩) B.xs.length B.lc) L w'∧L.map Fl.x=B.xs∧(B.M.us=[]∨D6 B.M.ua F)∧(B.M.gs=[]∨D6 B.M.ga F)
def PC(w w':World)(us gs:List Rg)(cs:List Int)(F G ck q:Int)(xs:List Nd)(e:Ending):Prop:=(∃E,e=.returned (.tuple #[.pointer none,Am E])∧E≠0∧¬∃y,EZ us gs cs F G ck q xs y)∨∃b B y,e=.returned (.tuple #[.pointer (some ⟨b,0,none⟩),.nilIface])∧w.heap.size≤b∧AX w' b B∧Bv B y xs∧B.M.us=us∧B.M.gs=gs∧B.q=q∧B.crd=(F,G,cs,ck)∧EZ us gs cs F G ck q xs y∧fT w w' b B
theorem SO{w:World}{Q I ca lwa:Option Addr}{uc gc cc lwn lwc:Nat}{us gs:List Rg}{cs:List Int}{G H ck q:Int}(dy:Rgs w Q us)(dz:Rgs w I gs)(dk:us.length≤100)(dm:gs.length≤100)(e2:us.length≤uc)(e3:gs.length≤gc)(d0:∀r∈us,r.ok)(d1:∀r∈gs,r.ok)(d2:A6 w ca cs)(d3:cs.length≤8)(hid:A2 G∧A2 H)
 {a:Option Addr} {cap:Nat} {xs:List Nd} (hx:Cn w.cell? a xs) (e4:xs.length≤5) (d4:∀x∈xs,AB x∧cnt x≤1000) (e5:∀x∈xs,AP x):
 Calls prog 7 #[.agg #[.slice Q us.length uc,.slice I gs.length gc,.int .i64 G,.int .i64 H,.slice ca cs.length cc,.int .i64 ck,.int .i64 q,.slice lwa lwn lwc],.slice a xs.length cap] w fun e w'=>PC w w' us gs cs G H ck q xs e∧Bw w w':=by
 have bd:Bw w (w.alloc (A0 Q I ca lwa uc gc cc lwn lwc us gs cs G H ck q)):=(nv _ _).alloc (nn _) _;have c0:(w.alloc (A0 Q I ca lwa uc gc cc lwn lwc us gs cs G H ck q)).cell? ⟨w.heap.size,0,none⟩=some (.slice Q us.length uc):=nl _ _ _ _ rfl;have c1:(w.alloc (A0 Q I ca lwa uc gc cc lwn lwc us gs cs G H ck q)).cell? ⟨w.heap.size,1,none⟩=some (.slice I gs.length gc):=nl _ _ _ _ rfl;have c2:(w.alloc (A0 Q I ca lwa uc gc cc lwn lwc us gs cs G H ck q)).cell? ⟨w.heap.size,2,none⟩=some (.int .i64 G):=nl _ _ _ _ rfl;have be:(w.alloc (A0 Q I ca lwa uc gc cc lwn lwc us gs cs G H ck q)).cell? ⟨w.heap.size,3,none⟩=some (.int .i64 H):=nl _ _ _ _ rfl;have d5:(w.alloc (A0 Q I ca lwa uc gc cc lwn lwc us gs cs G H ck q)).cell? ⟨w.heap.size,4,none⟩=some (.slice ca cs.length cc):=nl _ _ _ _ rfl;have d6:(w.alloc (A0 Q I ca lwa uc gc cc lwn lwc us gs cs G H ck q)).cell? ⟨w.heap.size,5,none⟩=some (.int .i64 ck):=nl _ _ _ _ rfl;have d7:(w.alloc (A0 Q I ca lwa uc gc cc lwn lwc us gs cs G H ck q)).cell? ⟨w.heap.size,6,none⟩=some (.int .i64 q):=nl _ _ _ _ rfl;have c7:(w.alloc (A0 Q I ca lwa uc gc cc lwn lwc us gs cs G H ck q)).cell? ⟨w.heap.size,7,none⟩=some (.slice lwa lwn lwc):=nl _ _ _ _ rfl;have d8:Hid (Calls prog 17 #[JP Q I ca lwa uc gc cc lwn lwc us gs cs G H ck q,.slice a xs.length cap] (w.alloc (A0 Q I ca lwa uc gc cc lwn lwc us gs cs G H ck q)) fun e w'=>(∃E y h,e=.returned (.tuple #[Al y h,Am E])∧Ah w'.cell? y h∧(E=0→EZ us gs cs G H ck q xs y)∧(E≠0→¬∃y,EZ us gs cs G H ck q xs y))∧Bw (w.alloc (A0 Q I ca lwa uc gc cc lwn lwc us gs cs G H ck q)) w'):=XG (dy.below bd) (dz.below bd) dk dm e2 e3 d0 d1 (d2.below bd) d3 hid (hx.on (Aj bd)) e4 d4;have gx:Hid (∀W,Bw (w.alloc (A0 Q I ca lwa uc gc cc lwn lwc us gs cs G H ck q)) W→Calls prog 19 #[.slice Q us.length uc] W fun e w'=>(∃F J,e=.returned (.slice F us.length J)∧(us.length≤J∧J≤9223372036854775807)∧Rgs w' F us∧(∀p,F=some p→p.block<w'.heap.size)∧∀p,F=some p→us≠[]→W.heap.size≤p.block)∧Bw W w'):=fun W hb=>PW uc ((dy.below bd).below hb) dk;have gy:Hid (∀W,Bw (w.alloc (A0 Q I ca lwa uc gc cc lwn lwc us gs cs G H ck q)) W→Calls prog 19 #[.slice I gs.length gc] W fun e w'=>(∃F J,e=.returned (.slice F gs.length J)∧(gs.length≤J∧J≤9223372036854775807)∧Rgs w' F gs∧(∀p,F=some p→p.block<w'.heap.size)∧∀p,F=some p→gs≠[]→W.heap.size≤p.block)∧Bw W w'):=fun W hb=>PW gc ((dz.below bd).below hb) dm
 have gz:Hid (∀W,Bw (w.alloc (A0 Q I ca lwa uc gc cc lwn lwc us gs cs G H ck q)) W→Calls prog 20 #[.agg #[.int .i64 G,.int .i64 H,.slice ca cs.length cc,.int .i64 ck]] W fun e w'=>(∃F J,e=.returned (.agg #[.int .i64 G,.int .i64 H,.slice F cs.length J,.int .i64 ck])∧(cs.length≤J∧J≤9223372036854775807)∧A6 w' F cs∧∀p,F=some p→p.block<w'.heap.size)∧Bw W w'):=fun W hb=>bh ((d2.below bd).below hb) (by omega);have b3:Hid (Bw w (w.alloc (A0 Q I ca lwa uc gc cc lwn lwc us gs cs G H ck q))):=bd
 have b4:Hid ((w.alloc (A0 Q I ca lwa uc gc cc lwn lwc us gs cs G H ck q)).cell? ⟨w.heap.size,0,none⟩=some (.slice Q us.length uc)∧(w.alloc (A0 Q I ca lwa uc gc cc lwn lwc us gs cs G H ck q)).cell? ⟨w.heap.size,1,none⟩=some (.slice I gs.length gc)∧(w.alloc (A0 Q I ca lwa uc gc cc lwn lwc us gs cs G H ck q)).cell? ⟨w.heap.size,2,none⟩=some (.int .i64 G)∧(w.alloc (A0 Q I ca lwa uc gc cc lwn lwc us gs cs G H ck q)).cell? ⟨w.heap.size,3,none⟩=some (.int .i64 H)∧(w.alloc (A0 Q I ca lwa uc gc cc lwn lwc us gs cs G H ck q)).cell? ⟨w.heap.size,4,none⟩=some (.slice ca cs.length cc)∧(w.alloc (A0 Q I ca lwa uc gc cc lwn lwc us gs cs G H ck q)).cell? ⟨w.heap.size,5,none⟩=some (.int .i64 ck)∧(w.alloc (A0 Q I ca lwa uc gc cc lwn lwc us gs cs G H ck q)).cell? ⟨w.heap.size,6,none⟩=some (.int .i64 q)):=⟨c0,c1,c2,be,d5,d6,d7⟩;have gC:Hid (Cn (w.alloc (A0 Q I ca lwa uc gc cc lwn lwc us gs cs G H ck q)).cell? a xs):=hx.on (Aj bd);have e6:Hid (∀x∈xs,AB x∧cnt x≤1000):=d4;have gD:Hid (∀x∈xs,AP x):=e5;have cx:Hid ((us.length≤100∧gs.length≤100)∧(∀r∈us,r.ok)∧(∀r∈gs,r.ok)∧cs.length≤8):=⟨⟨dk,dm⟩,d0,d1,d3⟩;have hp:Hid (w.heap.size<(w.alloc (A0 Q I ca lwa uc gc cc lwn lwc us gs cs G H ck q)).heap.size):=by show _<_;rw[nw];omega
 obtain⟨gE,e7,e8,e9,fa⟩:=DC Tryz.infoNd;have gG:Hid _:=e7;have gH:Hid _:=e8;have gI:Hid _:=e9;have gJ:Hid _:=fa;obtain⟨N,ch⟩:∃N,Hid (xs.length=N):=⟨_,rfl⟩;rw[ch.out]at e4 d8⊢;clear dy dz dk dm e2 e3 d0 d1 d2 d3 hid hx d4 e5 bd e7 e8 e9 fa;go_enter func7,ntmps7;go_upto_region 1 with fail
 generalize(w.alloc (A0 Q I ca lwa uc gc cc lwn lwc us gs cs G H ck q))=a7 at*;go_wp2_with fail
 refine np d8.out ?_;rintro e bn ⟨⟨E,y,Z,rfl,fb,fc,fd⟩,q2⟩;have gK:=hid fd;clear fd;have fe:Hid (Ah bn.cell? y Z):=fb;have dn:Hid (Bw a7 bn):=q2;obtain⟨k,m,u,g,o,nh,d,ks⟩:=y;rw[show Al (.mk k m u g o nh d ks) Z=(A5 k m u g o nh d ks Z)from rfl];clear d8 fb q2;by_cases dp:E=0
 case neg=>
  have ff:=AG (n:=E) rfl dp;rw[ff];have gL:Hid (Bw w (bn.alloc (As k m u g o nh d ks Z))):=(b3.out.trans (dn.out.mono b3.out.size)).alloc (b3.out.trans (dn.out.mono b3.out.size)).size _;clear c0 c1 c2 be d5 d6 d7 c7;go_wp2;go_ret2;exact⟨.inl ⟨E,by rw[ff];rfl,dp,gK.out dp⟩,gL.out⟩
 case pos=>
  subst dp;have gM:Hid (EZ us gs cs G H ck q xs (.mk k m u g o nh d ks)):=fc rfl;rw[show Am 0=Value.nilIface from rfl];clear fc;have d9:=E8 bn (As k m u g o nh d ks Z);have ea:=Av.new bn k m u g o nh d ks Z;have QA:Hid (Bw a7 (bn.alloc (As k m u g o nh d ks Z))):=dn.out.trans (d9.mono dn.out.size);have gN:Hid (Ah (bn.alloc (As k m u g o nh d ks Z)).cell? (.mk k m u g o nh d ks) Z):=fe.out.on (Aj d9);obtain⟨⟨eb,ec,ed,ee,ef,eg,f6,ej⟩,_⟩:=ea;clear c0 c1 c2 be d5 d6 d7 c7 d9 fe;go_upto_region 4 with fail
  generalize bn.alloc (As k m u g o nh d ks Z)=cl at*;generalize bn.heap.size=hq at*;have ek:=E8 cl (As k m u g o nh d ks Z);have el:Hid (ER a7 (.slice (some ⟨cl.heap.size,0,none⟩) 1 1) [(⟨(.mk k m u g o nh d ks),Z,0⟩:Fl)] (cl.alloc (As k m u g o nh d ks Z))):=by
   refine⟨QA.out.trans (ek.mono QA.out.size),⟨rfl,.inr ⟨cl.heap.size,1,#[.int .i64 k,.int .i64 m,.int .i64 u,.int .i64 g,.bool o,.slice Z.aa nh.length Z.ca,.string d,.slice Z.ak ks.length Z.ck],rfl,QA.out.size,by unfold World.alloc;simp,nn _,by unfold maxLen;omega,rfl,rfl⟩⟩,fun f gO=>?_⟩;have e:f=⟨(.mk k m u g o nh d ks),Z,0⟩:=by simpa using gO
   subst e;exact gN.out.on (Tw ek (fun k dr=>by simp[Value.ownBlock];omega))
  clear ek;go_upto_region 5 with fail
  clear eb ec ed ee ef eg f6 ej;generalize gP:Value.slice (some ⟨cl.heap.size,0,none⟩) 1 1=v0 at el⊢;generalize cl.alloc (As k m u g o nh d ks Z)=hr at*;clear gP;go_wp2;go_loopw [8,25] (fun v i wr=>∃(j:Nat) (L:List Fl),j≤N∧i=.int .i64 j∧Hid (L.map Fl.x=(.mk k m u g o nh d ks)::xs.take j)∧Hid (L.length=j+1)∧Hid (ER a7 v L wr)) (fun _ i _=>N-(intOf i).toNat)
  case atStart=>exact⟨0,[(⟨(.mk k m u g o nh d ks),Z,0⟩:Fl)],nN _,rfl,rfl,rfl,el⟩
  case round=>
   clear el;obtain⟨j,L,hs,rfl,em,c3,bf⟩:=hrel;by_cases gQ:j<N
   ·have fg:decide ((j:Int)<(N:Int))=true:=nF (by omega)
    obtain⟨x,ds⟩:∃x,xs[j]? =some x:=⟨_,nt (by rw[ch.out];exact gQ)⟩;obtain⟨ht,F,h,rfl,ab,hd⟩:=Pp gC.out ds;have gR:Hid (xs.take (j+1)=xs.take j++[x]):=Hu ds;obtain⟨fh,fl⟩:=e6.out x (nE ds);have gS:=ab.below bf.out.low
    have fr:Ah (Ag wr.cell? (fun k=>u8.ownBlock==some k)) x h:=hd.on (Tw bf.out.low (fun k dr=>by
     simp;intro e;have:=(bf.out.row.lt k e).1;omega))
    obtain⟨ad,ak,ao,ap,ar,ay,az,a1⟩:=x;have en:=E8 wr (As ad ak ao ap ar ay az a1 h);have ea:=Av.new wr ad ak ao ap ar ay az a1 h;have eo:=bf.out.below en;have fs:=fr.on (CN en);have fv:Hid (Calls prog 18 #[(A5 ad ak ao ap ar ay az a1 h)] (wr.alloc (As ad ak ao ap ar ay az a1 h)) fun e fx=>(∃h',e=.returned ((A5 ad ak ao ap ar ay az a1 h'))∧Ah (Ag fx.cell? (fun k=>u8.ownBlock==some k)) (.mk ad ak ao ap ar ay az a1) h')∧Bw (wr.alloc (As ad ak ao ap ar ay az a1 h)) fx):=ka (x:=(.mk ad ak ao ap ar ay az a1)) (h:=h) (fun k dr=>by simp at dr;exact(eo.row.lt k dr).2) fs (GI _ (by omega) fh) fl;have fY:Hid (ER a7 u8 L (wr.alloc (As ad ak ao ap ar ay az a1 h))):=eo;obtain⟨eb,ec,ed,ee,ef,eg,f6,ej⟩:=gS;obtain⟨⟨gT,gU,gV,gW,gX,gY,gZ,g0⟩,_⟩:=ea;have hu:L.length≤1000:=by have:=c3.out;omega
    clear ab hd ds fr fs fh fl eo en bf;go_upto_region 8 with fail
    clear eb ec ed ee ef eg f6 ej;generalize wr.alloc (As ad ak ao ap ar ay az a1 h)=hv at*;go_wp2_with fail
    with_reducible refine np fv.out ?_
    rintro e b5 ⟨⟨h',rfl,f0⟩,f1⟩;have du:Hid (ER a7 u8 L b5):=fY.out.below f1;have f2:Hid (Ah (Ag b5.cell? (fun k=>u8.ownBlock==some k)) (.mk ad ak ao ap ar ay az a1) h'):=f0;clear gT gU gV gW gX gY gZ g0 fv f1 f0 fY;go_wp2_with (at_builtin;refine DZ (b5.alloc (As ad ak ao ap ar ay az a1 h')) rfl (.tmp 29) (.tmp 32) 30 rfl a7.heap.size 54 gE (.agg #[.int .i64 0,.int .i64 0,.int .i64 0,.int .i64 0,.bool false,.slice none 0 0,.string ⟨#[]⟩,.slice none 0 0]) 8 104 underlying30 gG.out gH.out gI.out gJ.out rfl (by decide) u8 L.length (Bj L) rfl (du.out.row.alloc _) (some ⟨b5.heap.size,0,none⟩) 1 1 (Bl (.mk ad ak ao ap ar ay az a1) h') rfl rfl (.inr ⟨_,rfl,fun q t g2=>by rw[D2,nU];exact Oo b5 _ h' _ q t g2⟩) (Kh _ _) (by unfold maxLen;omega) (by omega) (by have:=du.out.low.size;rw[nw];omega) ?_)
    intro g5 T f3 f4 f5;have g6:Hid (ER a7 g5 (L++[(⟨(.mk ad ak ao ap ar ay az a1),h',0⟩:Fl)]) T):=(du.out.below (E8 b5 _)).app (f:=⟨(.mk ad ak ao ap ar ay az a1),h',0⟩) (Ah.on f2.out (CN (E8 b5 _))) (by rw[LZ,nM];simpa [Bj]using f3) f4 (by rw[nw];exact f5);have g7:Hid ((L++[(⟨(.mk ad ak ao ap ar ay az a1),h',0⟩:Fl)]).map Fl.x=(.mk k m u g o nh d ks)::xs.take (j+1)):=by show _=_;rw[rA,em.out,gR.out];rfl
    clear f3 f4 f5 du f2;go_wp2;go_roundw
    case rel=>exact⟨j+1,_,by omega,by go_num,g7.out,(show _=_ from by rw[nM,c3.out];rfl),g6.out⟩
    case measure=>(simp[intOf];try omega)
   ·obtain rfl:j=N:=by omega
    have fg:decide ((j:Int)<(j:Int))=false:=nB (by omega);have ep:Hid (L.map Fl.x=(.mk k m u g o nh d ks)::xs):=by show _=_;rw[em.out,n1 (by rw[ch.out];omega)]
    obtain⟨a8,bo,rfl,f7,eq⟩:=ft bf.out (fun e=>by have:=c3.out;rw[e]at this;simp at this);rw[ep.out]at eq;have g8:Hid (Cn wr.cell? (some ⟨a8,0,none⟩) ((.mk k m u g o nh d ks)::xs)):=eq;have g9:Hid (j+1≤bo∧bo≤9223372036854775807):=by rw[←c3.out];exact f7
    have bA:Hid (Bw a7 wr):=bf.out.low;have er:=c3.out;have c4:Hid (ER a7 (.slice (some ⟨a8,0,none⟩) (j+1) bo) L wr∧L.map Fl.x=(.mk k m u g o nh d ks)::xs∧a8<wr.heap.size):=⟨(by have q:=bf.out;rw[er]at q;exact q),ep.out,(bf.out.row.lt a8 rfl).2⟩;rw[er];clear er f7 eq bf em ep;have f8:Hid (∀W,Bw wr W→Calls prog 19 #[.slice Q us.length uc] W fun e w'=>(∃F J,e=.returned (.slice F us.length J)∧(us.length≤J∧J≤9223372036854775807)∧Rgs w' F us∧(∀p,F=some p→p.block<w'.heap.size)∧∀p,F=some p→us≠[]→W.heap.size≤p.block)∧Bw W w'):=fun W hb=>gx.out W (bA.out.trans (hb.mono bA.out.size));have es:Hid (∀W,Bw wr W→Calls prog 19 #[.slice I gs.length gc] W fun e w'=>(∃F J,e=.returned (.slice F gs.length J)∧(gs.length≤J∧J≤9223372036854775807)∧Rgs w' F gs∧(∀p,F=some p→p.block<w'.heap.size)∧∀p,F=some p→gs≠[]→W.heap.size≤p.block)∧Bw W w'):=fun W hb=>gy.out W (bA.out.trans (hb.mono bA.out.size))
    have c0:=Af bA.out b4.out.1;have bB:=Af bA.out b4.out.2.1;go_upto_region 10 with fail
    clear fg;have bg:w.heap.size<wr.heap.size:=nz wr ⟨w.heap.size,0,none⟩ c0;have b6:Hid (Bw wr wr.drew):=(nv _ _).drew;have b7:Hid (Bw wr (wr.alloc (.cells #[.slice none 0 0,.slice none 0 0] 24)).drew):=((nv _ _).alloc (nn _) _).drew;have dw:wr.drew.cell? ⟨w.heap.size,0,none⟩=some (.slice Q us.length uc)∧wr.drew.cell? ⟨w.heap.size,1,none⟩=some (.slice I gs.length gc):=⟨Af b6.out c0,Af b6.out bB⟩;have f9:(wr.alloc (.cells #[.slice none 0 0,.slice none 0 0] 24)).drew.cell? ⟨w.heap.size,0,none⟩=some (.slice Q us.length uc)∧(wr.alloc (.cells #[.slice none 0 0,.slice none 0 0] 24)).drew.cell? ⟨w.heap.size,1,none⟩=some (.slice I gs.length gc):=⟨Af b7.out c0,Af b7.out bB⟩;have eu:Hid (Calls prog 19 #[.slice Q us.length uc] wr.drew fun e w'=>(∃F J,e=.returned (.slice F us.length J)∧(us.length≤J∧J≤9223372036854775807)∧Rgs w' F us∧(∀p,F=some p→p.block<w'.heap.size)∧∀p,F=some p→us≠[]→wr.drew.heap.size≤p.block)∧Bw wr.drew w'):=f8.out _ b6.out;have ev:Hid (Calls prog 19 #[.slice Q us.length uc] (wr.alloc (.cells #[.slice none 0 0,.slice none 0 0] 24)).drew fun e w'=>(∃F J,e=.returned (.slice F us.length J)∧(us.length≤J∧J≤9223372036854775807)∧Rgs w' F us∧(∀p,F=some p→p.block<w'.heap.size)∧∀p,F=some p→us≠[]→(wr.alloc (.cells #[.slice none 0 0,.slice none 0 0] 24)).drew.heap.size≤p.block)∧Bw (wr.alloc (.cells #[.slice none 0 0,.slice none 0 0] 24)).drew w'):=f8.out _ b7.out
    go_region_held3 (fun w'=>w'.cell? ⟨w.heap.size,0,none⟩=some (.slice Q us.length uc)∧w'.cell? ⟨w.heap.size,1,none⟩=some (.slice I gs.length gc)) (first|with_reducible exact dw|with_reducible exact f9|with_reducible exact c5|with_reducible exact bi|(with_reducible exact⟨AE dw.1,AE dw.2⟩)|(with_reducible exact⟨AE c5.1,AE c5.2⟩)|(with_reducible exact⟨AE bi.1,AE bi.2⟩)|exact⟨(Bk (by show w.heap.size≠O.heap.size;have g4:=c6.out;omega)).trans ((Bk (by show w.heap.size≠O.heap.size;have g4:=c6.out;omega)).trans bi.1),(Bk (by show w.heap.size≠O.heap.size;have g4:=c6.out;omega)).trans ((Bk (by show w.heap.size≠O.heap.size;have g4:=c6.out;omega)).trans bi.2)⟩|exact⟨(Bk (by show w.heap.size≠wr.heap.size;omega)).trans ((Bk (by show w.heap.size≠wr.heap.size;omega)).trans bi.1),(Bk (by show w.heap.size≠wr.heap.size;omega)).trans ((Bk (by show w.heap.size≠wr.heap.size;omega)).trans bi.2)⟩) (first|(go_at_call 19;(with_reducible refine np eu.out ?_);rintro e O ⟨⟨F,c1,rfl,c8,c9,da,co⟩,q6⟩;have aa:Hid (Bw wr O):=b6.out.trans (q6.mono b6.out.size);have c5:O.cell? ⟨w.heap.size,0,none⟩=some (.slice Q us.length uc)∧O.cell? ⟨w.heap.size,1,none⟩=some (.slice I gs.length gc):=⟨(aa.out.cell (p:=⟨w.heap.size,0,none⟩) bg).trans c0,(aa.out.cell (p:=⟨w.heap.size,1,none⟩) bg).trans bB⟩;have bp:Hid ((us.length≤c1∧c1≤9223372036854775807)∧Rgs O F us∧∀p,F=some p→p.block<O.heap.size):=⟨c8,c9,da⟩;have db:Hid (Calls prog 19 #[.slice I gs.length gc] O fun e w'=>(∃F J,e=.returned (.slice F gs.length J)∧(gs.length≤J∧J≤9223372036854775807)∧Rgs w' F gs∧(∀p,F=some p→p.block<w'.heap.size)∧∀p,F=some p→gs≠[]→O.heap.size≤p.block)∧Bw O w'):=es.out O aa.out;have ga:Hid (Calls prog 19 #[.slice I gs.length gc] (O.alloc (.cells #[.slice none 0 0,.slice none 0 0] 24)) fun e w'=>(∃F J,e=.returned (.slice F gs.length J)∧(gs.length≤J∧J≤9223372036854775807)∧Rgs w' F gs∧(∀p,F=some p→p.block<w'.heap.size)∧∀p,F=some p→gs≠[]→(O.alloc (.cells #[.slice none 0 0,.slice none 0 0] 24)).heap.size≤p.block)∧Bw (O.alloc (.cells #[.slice none 0 0,.slice none 0 0] 24)) w'):=es.out _ (aa.out.alloc aa.out.size _);have gb:Hid (∀p,F=some p→us≠[]→wr.heap.size≤p.block):=(fun p R ab=>nP b6.out.size (co p R ab));clear eu ev c8 c9 da co q6)|(go_at_call 19;(with_reducible refine np ev.out ?_);rintro e O ⟨⟨F,c1,rfl,c8,c9,da,co⟩,q6⟩;have aa:Hid (Bw wr O):=b7.out.trans (q6.mono b7.out.size);have c5:O.cell? ⟨w.heap.size,0,none⟩=some (.slice Q us.length uc)∧O.cell? ⟨w.heap.size,1,none⟩=some (.slice I gs.length gc):=⟨(aa.out.cell (p:=⟨w.heap.size,0,none⟩) bg).trans c0,(aa.out.cell (p:=⟨w.heap.size,1,none⟩) bg).trans bB⟩;have bp:Hid ((us.length≤c1∧c1≤9223372036854775807)∧Rgs O F us∧∀p,F=some p→p.block<O.heap.size):=⟨c8,c9,da⟩;have eB:Hid (∀p,F=some p→us≠[]→p.block≠wr.heap.size):=(fun p R ab=>(by have:=co p R ab;simp at this;omega));have db:Hid (Calls prog 19 #[.slice I gs.length gc] O fun e w'=>(∃F J,e=.returned (.slice F gs.length J)∧(gs.length≤J∧J≤9223372036854775807)∧Rgs w' F gs∧(∀p,F=some p→p.block<w'.heap.size)∧∀p,F=some p→gs≠[]→O.heap.size≤p.block)∧Bw O w'):=es.out O aa.out;have gg:Hid (FF O wr.heap.size):=((FF.new wr).below ((nv _ _).drew)).below q6;have gb:Hid (∀p,F=some p→us≠[]→wr.heap.size≤p.block):=(fun p R ab=>nP b7.out.size (co p R ab));clear eu ev c8 c9 da co q6)|(go_at_call 19;(with_reducible refine np db.out ?_);rintro e T ⟨⟨Y,c2,rfl,bC,bF,bG,bk⟩,q7⟩;have ba:Hid (Bw wr T):=aa.out.trans (q7.mono aa.out.size);have bi:T.cell? ⟨w.heap.size,0,none⟩=some (.slice Q us.length uc)∧T.cell? ⟨w.heap.size,1,none⟩=some (.slice I gs.length gc):=⟨(ba.out.cell (p:=⟨w.heap.size,0,none⟩) bg).trans c0,(ba.out.cell (p:=⟨w.heap.size,1,none⟩) bg).trans bB⟩;have bs:Hid ((gs.length≤c2∧c2≤9223372036854775807)∧Rgs T Y gs∧∀p,Y=some p→p.block<T.heap.size):=⟨bC,bF,bG⟩;have bH:Hid (Bw O T):=q7;have dd:Hid (FF T wr.heap.size):=gg.out.below q7;have eE:Hid (∀p,Y=some p→gs≠[]→p.block≠wr.heap.size):=(fun p R ab=>(by have:=bk p R ab;have:=gg.out.lt;omega));obtain⟨z0,ha,b9,_⟩:=id dd.out;have hc:=b9 0;have he:=b9 1;clear b9;have eL:Hid (∀p,Y=some p→gs≠[]→wr.heap.size≤p.block):=(fun p R ab=>nP aa.out.size (bk p R ab));clear db bC bF bG bk q7)|(go_at_call 19;(with_reducible refine np db.out ?_);rintro e T ⟨⟨Y,c2,rfl,bC,bF,bG,bk⟩,q7⟩;have ba:Hid (Bw wr T):=aa.out.trans (q7.mono aa.out.size);have bi:T.cell? ⟨w.heap.size,0,none⟩=some (.slice Q us.length uc)∧T.cell? ⟨w.heap.size,1,none⟩=some (.slice I gs.length gc):=⟨(ba.out.cell (p:=⟨w.heap.size,0,none⟩) bg).trans c0,(ba.out.cell (p:=⟨w.heap.size,1,none⟩) bg).trans bB⟩;have bs:Hid ((gs.length≤c2∧c2≤9223372036854775807)∧Rgs T Y gs∧∀p,Y=some p→p.block<T.heap.size):=⟨bC,bF,bG⟩;have bH:Hid (Bw O T):=q7;have eL:Hid (∀p,Y=some p→gs≠[]→wr.heap.size≤p.block):=(fun p R ab=>nP aa.out.size (bk p R ab));clear db bC bF bG bk q7)|(go_at_call 19;(with_reducible refine np ga.out ?_);rintro e T ⟨⟨Y,c2,rfl,bC,bF,bG,bk⟩,q7⟩;have ba:Hid (Bw wr T):=(aa.out.alloc aa.out.size _).trans (q7.mono (nP aa.out.size (E8 O _).size));have bi:T.cell? ⟨w.heap.size,0,none⟩=some (.slice Q us.length uc)∧T.cell? ⟨w.heap.size,1,none⟩=some (.slice I gs.length gc):=⟨(ba.out.cell (p:=⟨w.heap.size,0,none⟩) bg).trans c0,(ba.out.cell (p:=⟨w.heap.size,1,none⟩) bg).trans bB⟩;have bs:Hid ((gs.length≤c2∧c2≤9223372036854775807)∧Rgs T Y gs∧∀p,Y=some p→p.block<T.heap.size):=⟨bC,bF,bG⟩;have bH:Hid (Bw O T):=(E8 O _).trans (q7.mono (E8 O _).size);have dd:Hid (FF T O.heap.size):=(FF.new O).below q7;have eE:Hid (∀p,Y=some p→gs≠[]→p.block≠O.heap.size):=(fun p R ab=>(by have:=bk p R ab;simp at this;omega));have eB:Hid (∀p,F=some p→us≠[]→p.block≠O.heap.size):=(fun p R _=>(by have:=bp.out.2.2 p R;omega));have c6:Hid (wr.heap.size≤O.heap.size):=aa.out.size;obtain⟨z0,ha,b9,_⟩:=id dd.out;have hc:=b9 0;have he:=b9 1;clear b9;have eL:Hid (∀p,Y=some p→gs≠[]→wr.heap.size≤p.block):=(fun p R ab=>nP (nP aa.out.size (E8 O _).size) (bk p R ab));clear ga bC bF bG bk q7))
    all_goals
     first|(obtain⟨bb,bl,cb,cd,cf,cg⟩:Ps wr (T.alloc (.cells #[.slice F us.length c1,.slice Y gs.length c2] 24)) T.heap.size F Y us gs c1 c2:=ey ba.out (Nn bH.out bp.out.2.1) bs.out.2.1 (fun p R=>(nH (bp.out.2.2 p R) bH.out.size)) bs.out.2.2;obtain⟨V,bY⟩:∃V,T.alloc (.cells #[.slice F us.length c1,.slice Y gs.length c2] 24)=V:=⟨_,rfl⟩;rw[bY]at bb bl cb cd cf cg⊢;clear bY;generalize de:T.heap.size=b0 at bb⊢;clear de)|(obtain⟨bb,bl,cb,cd,cf,cg⟩:=Vv (nx:=wr.heap.size) (c1:=c1) (c2:=c2) dd.out ba.out (nn _) (Nn bH.out bp.out.2.1) bs.out.2.1 (fun p R=>(nH (bp.out.2.2 p R) bH.out.size)) bs.out.2.2 eB.out eE.out;obtain⟨V,bY⟩:∃V,((T.setCell ⟨wr.heap.size,0,none⟩ (.slice F us.length c1)).setCell ⟨wr.heap.size,1,none⟩ (.slice Y gs.length c2))=V:=⟨_,rfl⟩;rw[bY]at bb bl cb cd cf cg⊢;clear bY;generalize de:wr.heap.size=b0 at bb⊢;clear de)|(obtain⟨bb,bl,cb,cd,cf,cg⟩:=Vv (nx:=O.heap.size) (c1:=c1) (c2:=c2) dd.out ba.out (c6.out) (Nn bH.out bp.out.2.1) bs.out.2.1 (fun p R=>(nH (bp.out.2.2 p R) bH.out.size)) bs.out.2.2 eB.out eE.out;obtain⟨V,bY⟩:∃V,((T.setCell ⟨O.heap.size,0,none⟩ (.slice F us.length c1)).setCell ⟨O.heap.size,1,none⟩ (.slice Y gs.length c2))=V:=⟨_,rfl⟩;rw[bY]at bb bl cb cd cf cg⊢;clear bY;generalize de:O.heap.size=b0 at bb⊢;clear de)
     clear dw f9 c5 bi b6 b7 c0 bB;have b1:Hid (Bw a7 V):=bA.out.trans (bl.mono bA.out.size);have bu:V.drew.cell? ⟨b0,0,none⟩=some (.slice F us.length c1)∧V.drew.cell? ⟨b0,1,none⟩=some (.slice Y gs.length c2)∧V.drew.cell? ⟨w.heap.size,2,none⟩=some (.int .i64 G)∧V.drew.cell? ⟨w.heap.size,3,none⟩=some (.int .i64 H)∧V.drew.cell? ⟨w.heap.size,4,none⟩=some (.slice ca cs.length cc)∧V.drew.cell? ⟨w.heap.size,5,none⟩=some (.int .i64 ck)∧V.drew.cell? ⟨w.heap.size,6,none⟩=some (.int .i64 q):=⟨bb.1,bb.2,Af b1.out b4.out.2.2.1,Af b1.out b4.out.2.2.2.1,Af b1.out b4.out.2.2.2.2.1,Af b1.out b4.out.2.2.2.2.2.1,Af b1.out b4.out.2.2.2.2.2.2⟩;have dx:Hid ((Rgs V F us∧Rgs V Y gs)∧(∀p,F=some p→p.block<V.heap.size)∧∀p,Y=some p→p.block<V.heap.size):=⟨⟨cb,cd⟩,cf,cg⟩;have hf:Hid (ER a7 (.slice (some ⟨a8,0,none⟩) (j+1) bo) L V):=c4.out.1.below bl;have hg:Hid (wr.heap.size≤V.heap.size):=bl.size;have hh:Hid (Cn V.cell? (some ⟨a8,0,none⟩) ((.mk k m u g o nh d ks)::xs)):=g8.out.on (Aj bl);have gl:Hid ((us.length≤c1∧c1≤9223372036854775807)∧gs.length≤c2∧c2≤9223372036854775807):=⟨bp.out.1,bs.out.1⟩;have go:Hid (Calls prog 20 #[.agg #[.int .i64 G,.int .i64 H,.slice ca cs.length cc,.int .i64 ck]] V.drew fun e w'=>(∃F J,e=.returned (.agg #[.int .i64 G,.int .i64 H,.slice F cs.length J,.int .i64 ck])∧(cs.length≤J∧J≤9223372036854775807)∧A6 w' F cs∧∀p,F=some p→p.block<w'.heap.size)∧Bw V.drew w'):=gz.out _ (b1.out.drew);clear bb bl cb cd cf cg;go_upto_region 11 with fail
     go_region_held3 (fun w'=>w'.cell? ⟨b0,0,none⟩=some (.slice F us.length c1)∧w'.cell? ⟨b0,1,none⟩=some (.slice Y gs.length c2)∧w'.cell? ⟨w.heap.size,2,none⟩=some (.int .i64 G)∧w'.cell? ⟨w.heap.size,3,none⟩=some (.int .i64 H)∧w'.cell? ⟨w.heap.size,4,none⟩=some (.slice ca cs.length cc)∧w'.cell? ⟨w.heap.size,5,none⟩=some (.int .i64 ck)∧w'.cell? ⟨w.heap.size,6,none⟩=some (.int .i64 q)) (first|with_reducible exact bu|with_reducible exact bv|with_reducible exact⟨AE bv.1,AE bv.2.1,AE bv.2.2.1,AE bv.2.2.2.1,AE bv.2.2.2.2.1,AE bv.2.2.2.2.2.1,AE bv.2.2.2.2.2.2⟩) (first|(go_at_call 20;(with_reducible refine np go.out ?_);rintro e a6 ⟨⟨cp,be,rfl,gq,gr,gu⟩,bx⟩;have bv:a6.cell? ⟨b0,0,none⟩=some (.slice F us.length c1)∧a6.cell? ⟨b0,1,none⟩=some (.slice Y gs.length c2)∧a6.cell? ⟨w.heap.size,2,none⟩=some (.int .i64 G)∧a6.cell? ⟨w.heap.size,3,none⟩=some (.int .i64 H)∧a6.cell? ⟨w.heap.size,4,none⟩=some (.slice ca cs.length cc)∧a6.cell? ⟨w.heap.size,5,none⟩=some (.int .i64 ck)∧a6.cell? ⟨w.heap.size,6,none⟩=some (.int .i64 q):=⟨Af bx bu.1,Af bx bu.2.1,Af bx bu.2.2.1,Af bx bu.2.2.2.1,Af bx bu.2.2.2.2.1,Af bx bu.2.2.2.2.2.1,Af bx bu.2.2.2.2.2.2⟩;have e0:Hid ((cs.length≤be∧be≤9223372036854775807)∧A6 a6 cp cs∧∀p,cp=some p→p.block<a6.heap.size):=⟨gq,gr,gu⟩;have b2:Hid (Bw V a6):=((nv V.heap.size V).drew).trans bx;clear go gq gr gu bx))
     all_goals
      have hi:Hid (PC w (a6.alloc (.cells #[.slice F us.length c1,.slice Y gs.length c2,.slice (some ⟨a8,0,none⟩) (j+1) bo,.int .i64 G,.int .i64 H,.slice cp cs.length be,.int .i64 ck,.int .i64 q] 70)) us gs cs G H ck q xs (.returned (.tuple #[.pointer (some ⟨a6.heap.size,0,none⟩),.nilIface]))∧Bw w (a6.alloc (.cells #[.slice F us.length c1,.slice Y gs.length c2,.slice (some ⟨a8,0,none⟩) (j+1) bo,.int .i64 G,.int .i64 H,.slice cp cs.length be,.int .i64 ck,.int .i64 q] 70))):=by
       have dg:=E8 a6 (.cells #[.slice F us.length c1,.slice Y gs.length c2,.slice (some ⟨a8,0,none⟩) (j+1) bo,.int .i64 G,.int .i64 H,.slice cp cs.length be,.int .i64 ck,.int .i64 q] 70);have e1:=b3.out.trans ((b1.out.trans (b2.out.mono b1.out.size)).mono b3.out.size);have cr:=gM.out;obtain⟨hw,hy,Z,⟨gv,hj⟩,gw,hk⟩:=cZ cr.root;refine⟨.inr ⟨a6.heap.size,⟨⟨F,Y,c1,c2,us,gs⟩,some ⟨a8,0,none⟩,bo,(.mk k m u g o nh d ks)::xs,G,H,cp,be,cs,ck,q⟩,(.mk k m u g o nh d ks),rfl,e1.size,⟨?_,fun hl hm=>?_,fun hl=>nQ _ _ _ _ rfl,⟨(dx.out.1.1.below b2.out).below dg,(dx.out.1.2.below b2.out).below dg,cx.out.1.1,cx.out.1.2,gl.out.1.1,gl.out.2.1,cx.out.2.1,cx.out.2.2.1⟩,(hh.out.on (Aj b2.out)).on (Aj dg),?_,e0.out.2.1.below dg,e0.out.1,fun p R=>?_,fun p R=>?_,.inr fun p R=>?_⟩,⟨rfl,⟨?_,?_,?_⟩,?_,fun x hx=>⟨cr.low x hx,(e6.out x hx).1,gD.out x hx⟩,?_,?_,⟨cr.cr,cx.out.2.2.2⟩⟩,rfl,rfl,rfl,rfl,cr,a8,a7,L,rfl,?_,b3.out.size,?_,c4.out.2.1,?_,?_⟩,e1.alloc e1.size _⟩
       ·have hn:((.mk k m u g o nh d ks:Nd)::xs).length=j+1:=by rw[n3,ch.out]
        refine⟨nl _ _ _ _ rfl,nl _ _ _ _ rfl,?_,nl _ _ _ _ rfl,nl _ _ _ _ rfl,nl _ _ _ _ rfl,nl _ _ _ _ rfl,nl _ _ _ _ rfl⟩;rw[hn];exact nl _ _ _ _ rfl
       ·rw[nl _ _ _ _ rfl]
        exact rG (by simpa using hm)
       ·rw[n3,ch.out];exact g9.out
       ·have cu:=dx.out.2.1 p R;have dj:=b2.out.size;omega
       ·have cu:=dx.out.2.2 p R;have dj:=b2.out.size;omega
       ·have cu:=e0.out.2.2 p R;omega
       ·rw[Z,AB,Bu];exact⟨⟨by decide,fun r ho=>(by cases ho)⟩,by decide,trivial⟩
       ·rw[Z,AP,BO];exact⟨hj,hk,trivial⟩
       ·rw[Z,cnt,cntL];omega
       ·rw[Z];exact UL gv gw
       ·have:=cr.len;omega
       ·have cu:=dc gv gw;have dj:=cr.q1;show CH (.mk k m u g o nh d ks)≤q;rw[Z];omega
       ·have cu:=c4.out.2.2;have dj:=hg.out;have hz:=b2.out.size;show a8≠a6.heap.size;omega
       ·show ER a7 (.slice (some ⟨a8,0,none⟩) ((.mk k m u g o nh d ks:Nd)::xs).length bo) L _
        rw[n3,ch.out];exact(hf.out.below b2.out).below dg
       ·rcases Classical.em (us=[])with e|e
        ·exact .inl e
        ·exact .inr fun p R=>by have cu:=gb.out p R e;have dj:=c4.out.2.2;omega
       ·rcases Classical.em (gs=[])with e|e
        ·exact .inl e
        ·exact .inr fun p R=>by have cu:=eL.out p R e;have dj:=c4.out.2.2;omega
      clear bu bv;go_wp2;go_ret2;exact hi.out
end Go.Proofs.YtofhphibahcniaaGreatDoor
namespace Go.Proofs.YtofhphibahcniaaGreatDoor
open Go.ChangeShapes Go.WideShapes Go.ChangeAt Go.RowKit Go.Deep Go.ChangeMaps Go.Proofs.Tryz
namespace RowsIn
theorem own:ownKnob prog.godebug=none:=by kernel_rfl
theorem laidOut:laidOutB prog=true:=by kernel_rfl
theorem cG:prog.cellsOf 122=2:=by kernel_rfl
theorem I0:prog.cellsOf 9=1:=by kernel_rfl
theorem OR{F:Type}{l:List F}(h:l.length=2):∃a b,l=[a,b]:=by
 match l,h with
 |[a,b],_=>exact⟨a,b,rfl⟩
theorem WS{Q:Type}{enc:TypeId×Value→Q}{W:World}{m:Nat}{v:Value}{y:DataW Q×List MemPlace}(h:DataW.trod enc prog W 0 (fun _=>true) true m 51 [v]=some y):
 ∃a n cap l,v=.slice a n cap∧l.length=n∧n≤cap∧cap≤9223372036854775807∧Bp W.cell? a l:=by
 rcases open_slice underlying51 h with⟨H,_⟩|⟨x,F,cap,ao,n,D,bb,H,_,R,ap,ar,_,hx⟩
 ·obtain rfl:v=.slice none 0 0:=by simpa using H
  exact⟨none,0,0,[],rfl,rfl,by omega,by omega,.inl rfl⟩
 ·obtain rfl:v=.slice (some x) F cap:=by simpa using H
  have bd:F≤ao:=by rw[ar];simp;exact R
  have T:∀i,i<F→∃r:Kv,W.cell? (x.add (i*2))=some (.string r.n)∧W.cell? ((x.add (i*2)).add 1)=some (.string r.v):=by
   intro i I;obtain⟨be,V,ay⟩:=hx i (by omega);rw[cG]at V;obtain⟨_,az,Y⟩:=World.cells?_some V;obtain⟨c0,c1,rfl⟩:=OR az;obtain⟨bf,bg,k,_,_,t0,Z⟩:=trod_struct2 underlying122 ay;rw[I0]at t0 Z;obtain⟨u0,aa,_,bi⟩:=r6 underlying9 t0;obtain⟨u1,ab,_,bk⟩:=r6 underlying9 Z;simp at aa ab;subst aa ab;have G:=Y 0 (by omega);have g1:=Y 1 (by omega);exact⟨⟨u0,u1⟩,by simpa [Addr.add]using G,by simpa using g1⟩
  obtain⟨f,ad⟩:∃f:Nat→Kv,∀i,i<F→W.cell? (x.add (i*2))=some (.string (f i).n)∧W.cell? ((x.add (i*2)).add 1)=some (.string (f i).v):=by
   refine⟨fun i=>if h:i<F then Classical.choose (T i h)else⟨ByteArray.empty,ByteArray.empty⟩,fun i I=>?_⟩;simp only[I,dite_true];exact rg (T i I)
  refine⟨some x,F,cap,(List.range F).map f,rfl,by simp,R,by unfold maxLen at ap;omega,?_⟩;by_cases a1:F=0
  ·subst a1;exact .inl rfl
  ·obtain⟨b,J,a6⟩:=x
   have a7:a6=none:=by
    have:=World.cell?_spot (ad 0 (by omega)).1;simpa [Addr.add]using this
   subst a7;refine .inr ⟨b,J,rfl,fun k r O=>?_⟩;have ak:k<F:=by have:=(ny.1 O).1;simpa using this
   have a8:r=f k:=by simp[ak]at O;exact O.symm
   subst a8;obtain⟨G,g1⟩:=ad k ak;have e:((aD b J):Addr).add (k*2)=(aD b (J+k*2)):=by by_cases ba:k*2=0<;>simp[Addr.add,ba]
   rw[e]at G g1;exact⟨G,by simpa [Addr.add]using g1⟩
theorem OD:prog.cellsOf 54=8:=by kernel_rfl
theorem TV:prog.cellsOf 89=9:=by kernel_rfl
theorem bz:prog.cellsOf 51=1:=by kernel_rfl
theorem av:prog.cellsOf 52=1:=by kernel_rfl
theorem Mg:prog.cellsOf 3=1:=by kernel_rfl
theorem ei:prog.cellsOf 4=1:=by kernel_rfl
theorem N1{F:Type}{l:List F}(h:l.length=8):∃a b c d e f g i,l=[a,b,c,d,e,f,g,i]:=by
 match l,h with
 |[a,b,c,d,e,f,g,i],_=>exact⟨a,b,c,d,e,f,g,i,rfl⟩
theorem cN{G:Type}{l:List G}(h:l.length=9):∃z F,l=z::F∧F.length=8:=by
 match l,h with
 |z::F,h=>exact⟨z,F,rfl,by simpa using h⟩
end RowsIn
end Go.Proofs.YtofhphibahcniaaGreatDoor
namespace Go.Proofs.YtofhphibahcniaaGreatDoor
open Go.ChangeShapes Go.WideShapes Go.ChangeAt Go.RowKit Go.Deep Go.Proofs.Tryz
namespace RowsIn
theorem dq:prog.cellsOf 65=3:=by kernel_rfl
theorem Gg:prog.cellsOf 3=1:=by kernel_rfl
theorem Gb{x:Int}(h:(Lit.int .i64 x).wf=true):A2 x:=by
 simp[Lit.wf,IntKind.min,IntKind.max,IntKind.signed,IntKind.bits]at h;exact⟨by omega,by omega⟩
theorem aj{F:Type}{l:List F}(h:l.length=3):∃a b c,l=[a,b,c]:=by
 match l,h with
 |[a,b,c],_=>exact⟨a,b,c,rfl⟩
theorem Qd{V:Type}{enc:TypeId×Value→V}{W:World}{m:Nat}{v:Value}{y:DataW V×List MemPlace}(h:DataW.trod enc prog W 0 (fun _=>true) true m 22 [v]=some y):
 ∃a n cap rs,v=.slice a n cap∧n≤cap∧rs.length=n∧Rgs W a rs∧∀r∈rs,r.ok:=by
 rcases open_slice underlying22 h with⟨J,_⟩|⟨x,F,cap,ay,n,D,bk,J,_,Y,_,az,_,hx⟩
 ·obtain rfl:v=.slice none 0 0:=by simpa using J
  exact⟨none,0,0,[],rfl,nn _,rfl,.inl rfl,by simp⟩
 ·obtain rfl:v=.slice (some x) F cap:=by simpa using J
  have bl:F≤ay:=by rw[az];simp;exact Y
  have Z:∀i,i<F→∃r:Rg,(W.cell? (x.add (i*3))=some (iN r.i)∧W.cell? ((x.add (i*3)).add 1)=some (iN r.o)∧W.cell? ((x.add (i*3)).add 2)=some (iN r.n))∧r.ok:=by
   intro i G;obtain⟨bn,aa,a1⟩:=hx i (by omega);rw[dq]at aa;obtain⟨_,a6,O⟩:=World.cells?_some aa;obtain⟨c0,c1,c2,rfl⟩:=aj a6;obtain⟨bo,bp,bs,k,_,_,t0,ab,ad⟩:=trod_struct3 underlying65 a1;rw[Gg]at t0 ab ad;obtain⟨u0,ak,_,a7⟩:=rD underlying3 t0;obtain⟨u1,ao,_,a8⟩:=rD underlying3 ab;obtain⟨u2,ap,_,ba⟩:=rD underlying3 ad;simp at ak ao ap;subst ak ao ap;have H:=O 0 (by omega);have g1:=O 1 (by omega);have I:=O 2 (by omega);exact⟨⟨u0,u1,u2⟩,⟨by simpa [Addr.add]using H,by simpa using g1,by simpa using I⟩,Gb a7,Gb a8,Gb ba⟩
  obtain⟨f,Q⟩:∃f:Nat→Rg,∀i,i<F→(W.cell? (x.add (i*3))=some (iN (f i).i)∧W.cell? ((x.add (i*3)).add 1)=some (iN (f i).o)∧W.cell? ((x.add (i*3)).add 2)=some (iN (f i).n))∧(f i).ok:=by
   refine⟨fun i=>if h:i<F then Classical.choose (Z i h)else⟨0,0,0⟩,fun i G=>?_⟩;simp only[G,dite_true];exact rg (Z i G)
  refine⟨some x,F,cap,(List.range F).map f,rfl,Y,by simp,?_,?_⟩
  ·by_cases bb:F=0
   ·subst bb;exact .inl rfl
   ·obtain⟨b,R,bd⟩:=x
    have be:bd=none:=by
     have:=World.cell?_spot (Q 0 (by omega)).1.1;simpa [Addr.add]using this
    subst be;refine .inr ⟨b,R,rfl,fun k r T=>?_⟩;have ar:k<F:=by have:=(ny.1 T).1;simpa using this
    have bf:r=f k:=by simp[ar]at T;exact T.symm
    subst bf;obtain⟨⟨H,g1,I⟩,_⟩:=Q k ar;have e:((aD b R):Addr).add (k*3)=(aD b (R+k*3)):=by by_cases bg:k*3=0<;>simp[Addr.add,bg]
    rw[e]at H g1 I;exact⟨H,by simpa [Addr.add]using g1,by simpa [Addr.add]using I⟩
  ·intro r bi
   obtain⟨i,G,rfl⟩:=rx.1 bi;exact(Q i (by simpa using G)).2
end RowsIn
theorem Vt:∀{ks:Ar},(∀(i:Nat) (n:BA) (x:Nd),ks[i]? =some (n,x)→AP x)→BO ks
 |[],_=>by rw[BO];trivial
 |(n,x)::l,h=>by
  rw[BO];exact⟨h 0 n x rfl,Vt fun i F G H=>h (i+1) F G (by simpa using H)⟩
namespace RowsIn
theorem L9:prog.cellsOf 24=2:=by kernel_rfl
theorem Ua:prog.cellsOf 22=1:=by kernel_rfl
theorem eN(x:Nd)(h:Hd):(Bl x h)[0]? =some (.int .i64 x.kind):=by obtain⟨k,m,u,g,o,nh,d,ks⟩:=x;rfl
theorem W8{a6:Type}{enc:TypeId×Value→a6}{W:World}:∀(m:Nat) (cs:List Value) (y:DataW a6×List MemPlace),DataW.trod enc prog W 0 (fun _=>true) true m 54 cs=some y→
 ∃x h,cs=Bl x h∧Ah W.cell? x h∧AP x:=by
 intro m;induction m using Nat.strongRecOn with
 |ind m bn=>
  intro cs y bo;obtain⟨xs,n,c9,_,bp,bs,hx⟩:=DataW.trod_struct underlying54 bo;obtain⟨c0,c1,c2,bu,bv,bx,bA,c7,rfl⟩:=N1 (bp.trans OD);obtain⟨bB,bC,bF,bG,bH,bY,b0,b1,rfl⟩:=N1 (show xs.length=8 from bs);have t0:DataW.trod enc prog W 0 (fun _=>true) true n 3 [c0]=some bB:=by simpa [Mg]using hx 0 _ rfl
  have b2:DataW.trod enc prog W 0 (fun _=>true) true n 3 [c1]=some bC:=by simpa [Mg]using hx 1 _ rfl
  have b3:DataW.trod enc prog W 0 (fun _=>true) true n 3 [c2]=some bF:=by simpa [Mg]using hx 2 _ rfl
  have t3:DataW.trod enc prog W 0 (fun _=>true) true n 3 [bu]=some bG:=by simpa [Mg]using hx 3 _ rfl
  have t4:DataW.trod enc prog W 0 (fun _=>true) true n 4 [bv]=some bH:=by simpa [ei]using hx 4 _ rfl
  have t5:DataW.trod enc prog W 0 (fun _=>true) true n 51 [bx]=some bY:=by simpa [bz]using hx 5 _ rfl
  have b4:DataW.trod enc prog W 0 (fun _=>true) true n 9 [bA]=some b0:=by simpa [I0]using hx 6 _ rfl
  have b5:DataW.trod enc prog W 0 (fun _=>true) true n 52 [c7]=some b1:=by simpa [av]using hx 7 _ rfl
  obtain⟨x0,a7,_⟩:=rD underlying3 t0;obtain⟨R,a8,_⟩:=rD underlying3 b2;obtain⟨T,ba,_,V⟩:=rD underlying3 b3;obtain⟨Y,bb,_,Z⟩:=rD underlying3 t3;obtain⟨aa,bd,_⟩:=DataW.trod_bool underlying4 t4;obtain⟨ab,be,_,_⟩:=r6 underlying9 b4;simp at a7 a8 ba bb bd be;subst a7 a8 ba bb bd be;obtain⟨ad,na,ca,l,rfl,rfl,ak,ao,ap⟩:=WS t5;rcases DataW.trod_slice underlying52 b5 with⟨ar,_⟩|⟨a,H,cap,da,ni,db,dd,ar,_,_,b6,bf,de,b7,_,_⟩
  ·obtain rfl:c7=.slice none 0 0:=by simpa using ar
   exact⟨.mk x0 R T Y aa l ab [],⟨ad,ca,none,0⟩,rfl,.mk 0 0 (fun _=>⟨none,0,none,0⟩) ap ⟨ak,ao⟩ ⟨by simp,by simp⟩ (.inl rfl) (fun i n x F=>by simp at F) (fun i n x F=>by simp at F),by rw[AP];exact⟨Gb V,Gb Z,by rw[BO];trivial⟩⟩
  ·obtain rfl:c7=.slice (some a) H cap:=by simpa using ar
   have Q:∀i,i<H→∃(nm:BA) (x:Nd) (h:Hd),(∃z,W.cells? 0 (a.add (i*9)) 9=some z∧z=.string nm::Bl x h)∧Ah W.cell? x h∧AP x:=by
    intro i F;have bg:=b7 i F;rw[TV,nt (by omega)]at bg;obtain⟨dg,ay,b9⟩:=Option.bind_eq_some_iff.1 bg;obtain⟨cb,az,dj,_,cd,cf,bi⟩:=DataW.trod_struct underlying89 b9;obtain⟨z,a1,rfl,dk⟩:=cN (cd.trans TV);obtain⟨cg,ch,rfl⟩:=OR (show cb.length=2 from cf);have cl:DataW.trod enc prog W 0 (fun _=>true) true az 9 [z]=some cg:=by simpa [I0]using bi 0 _ rfl
    obtain⟨nm,co,_,_⟩:=r6 underlying9 cl;have cp:z=.string nm:=by simpa using co
    have cr:DataW.trod enc prog W 0 (fun _=>true) true az 54 a1=some ch:=by
     have e:List.take 8 a1=a1:=n1 (by omega);have:=bi 1 _ rfl;simpa [OD,e]using this
    obtain⟨x,h,e,cu,cx⟩:=bn az (by omega) _ _ cr;exact⟨nm,x,h,⟨_,ay,by rw[cp,e]⟩,cu,cx⟩
   obtain⟨G,hF⟩:∃G:Nat→BA×Nd×Hd,∀i,i<H→(∃z,W.cells? 0 (a.add (i*9)) 9=some z∧z=.string (G i).1::Bl (G i).2.1 (G i).2.2)∧Ah W.cell? (G i).2.1 (G i).2.2∧AP (G i).2.1:=by
    refine⟨fun i=>if h:i<H then⟨Classical.choose (Q i h),Classical.choose (rg (Q i h)),Classical.choose (rg (rg (Q i h)))⟩else⟨ByteArray.empty,.mk 0 0 0 0 false [] ByteArray.empty [],⟨none,0,none,0⟩⟩,fun i F=>?_⟩;simp only[F,dite_true];exact rg (rg (rg (Q i F)))
   by_cases c3:H=0
   ·subst c3
    exact⟨.mk x0 R T Y aa l ab [],⟨ad,ca,some a,cap⟩,rfl,.mk 0 0 (fun _=>⟨none,0,none,0⟩) ap ⟨ak,ao⟩ ⟨by simp,by unfold maxLen at bf;show cap≤_;omega⟩ (.inl rfl) (fun i n x F=>by simp at F) (fun i n x F=>by simp at F),by rw[AP];exact⟨Gb V,Gb Z,by rw[BO];trivial⟩⟩
   ·obtain⟨b,O,bk⟩:=a
    have bl:∀i,i<H→∀q v,(Value.string (G i).1::Bl (G i).2.1 (G i).2.2)[q]? =some v→W.cell? (((⟨b,O,bk⟩:Addr).add (i*9)).add q)=some v:=by
     intro i F q v J;obtain⟨⟨z,ay,rfl⟩,_⟩:=hF i F;obtain⟨_,dm,c4⟩:=World.cells?_some ay;have c5:q<9:=by have:=(ny.1 J).1;omega
     rw[c4 q c5];exact J
    have c6:bk=none:=by
     have:=World.cell?_spot (bl 0 (by omega) 0 _ rfl);simpa [Addr.add]using this
    subst c6;have c8:∀i q,((((aD b O):Addr).add (i*9)).add q)=(aD b (O+i*9+q)):=by
     intro i q;by_cases F:i*9=0<;>by_cases J:q=0<;>simp[Addr.add,F,J]
    have get:∀i n x,((List.range H).map (fun i=>((G i).1,(G i).2.1)))[i]? =some (n,x)→i<H∧n=(G i).1∧x=(G i).2.1:=by
     intro i n x F;have I:i<H:=by have:=(ny.1 F).1;simpa using this
     simp[I]at F;exact⟨I,F.1.symm,F.2.symm⟩
    refine⟨.mk x0 R T Y aa l ab ((List.range H).map (fun i=>((G i).1,(G i).2.1))),⟨ad,ca,some (aD b O),cap⟩,by simp[Bl],.mk b O (fun i=>(G i).2.2) ap ⟨ak,ao⟩ ⟨by simp;exact b6,by unfold maxLen at bf;show cap≤_;omega⟩ (.inr rfl) ?_ ?_,?_⟩
    ·intro i n x F
     obtain⟨I,rfl,rfl⟩:=get i n x F;refine Jz.2 fun q v J=>?_;have:=bl i I q v J
     rwa [c8]at this
    ·intro i n x F
     obtain⟨I,rfl,rfl⟩:=get i n x F;exact(hF i I).2.1
    ·rw[AP]
     refine⟨Gb V,Gb Z,Vt fun i n x F=>?_⟩;obtain⟨I,rfl,rfl⟩:=get i n x F;exact(hF i I).2.2
theorem ns_of_trod{V:Type}{enc:TypeId×Value→V}{W:World}{m:Nat}{v:Value}{y:DataW V×List MemPlace}(h:DataW.trod enc prog W 0 (fun _=>true) true m 30 [v]=some y):
 ∃a n cap xs,v=.slice a n cap∧xs.length=n∧n≤cap∧cap≤9223372036854775807∧Cn W.cell? a xs∧∀x∈xs,AP x:=by
 rcases DataW.trod_slice underlying30 h with⟨Q,_⟩|⟨a,H,cap,ba,ni,bb,bd,Q,_,_,ab,ad,be,ak,_,_⟩
 ·obtain rfl:v=.slice none 0 0:=by simpa using Q
  exact⟨none,0,0,[],rfl,rfl,by omega,by omega,.inl rfl,fun x hx=>by cases hx⟩
 ·obtain rfl:v=.slice (some a) H cap:=by simpa using Q
  have ao:cap≤9223372036854775807:=by unfold maxLen at ad;omega
  have R:∀i,i<H→∃(x:Nd) (h:Hd),W.cells? 0 (a.add (i*8)) 8=some (Bl x h)∧Ah W.cell? x h∧AP x:=by
   intro i F;have Y:=ak i F;rw[OD,nt (by omega)]at Y;obtain⟨bf,T,ap⟩:=Option.bind_eq_some_iff.1 Y;obtain⟨x,hd,e,ar,ay⟩:=W8 _ _ _ ap;exact⟨x,hd,by rw[T,e],ar,ay⟩
  obtain⟨G,hF⟩:∃G:Nat→Nd×Hd,∀i,i<H→W.cells? 0 (a.add (i*8)) 8=some (Bl (G i).1 (G i).2)∧Ah W.cell? (G i).1 (G i).2∧AP (G i).1:=by
   refine⟨fun i=>if h:i<H then⟨Classical.choose (R i h),Classical.choose (rg (R i h))⟩else⟨zN,zH⟩,fun i F=>?_⟩;simp only[F,dite_true];exact rg (rg (R i F))
  have get:∀i x,((List.range H).map (fun i=>(G i).1))[i]? =some x→i<H∧x=(G i).1:=by
   intro i x F;have J:i<H:=by have:=(ny.1 F).1;simpa using this
   simp[J]at F;exact⟨J,F.symm⟩
  refine⟨some a,H,cap,(List.range H).map (fun i=>(G i).1),rfl,by simp,ab,ao,?_,fun x hx=>?_⟩
  ·by_cases az:H=0
   ·subst az;exact .inl rfl
   ·obtain⟨b,O,Z⟩:=a
    have aa:∀i,i<H→∀q v,(Bl (G i).1 (G i).2)[q]? =some v→W.cell? (((⟨b,O,Z⟩:Addr).add (i*8)).add q)=some v:=by
     intro i F q v I;obtain⟨T,_⟩:=hF i F;obtain⟨_,bg,a1⟩:=World.cells?_some T;have a6:q<8:=by have:=(ny.1 I).1;rw[D1]at this;exact this
     rw[a1 q a6];exact I
    have a7:Z=none:=by
     have:=World.cell?_spot (aa 0 (by omega) 0 _ (eN (G 0).1 (G 0).2));simpa [Addr.add]using this
    subst a7;have a8:∀i q,((((aD b O):Addr).add (i*8)).add q)=(aD b (O+i*8+q)):=by
     intro i q;by_cases F:i*8=0<;>by_cases I:q=0<;>simp[Addr.add,F,I]
    refine .inr ⟨b,O,rfl,fun i=>(G i).2,fun i x F=>?_⟩;obtain⟨J,rfl⟩:=get i x F;refine⟨Ec.2 fun q v I=>?_,(hF i J).2.1⟩;have:=aa i J q v I;rwa [a8]at this
  ·obtain⟨i,F,rfl⟩:=rx.1 hx
   exact(hF i (by simpa using F)).2.2
end RowsIn
end Go.Proofs.YtofhphibahcniaaGreatDoor
