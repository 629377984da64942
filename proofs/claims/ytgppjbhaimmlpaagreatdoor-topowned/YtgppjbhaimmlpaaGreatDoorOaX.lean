/-
  TopOwned: Oa Ob Wv Kd.
-/
import Derived.Test.YtgppjbhaimmlpaaGreatDoorWoX
import Derived.Test.YtgppjbhaimmlpaaGreatDoorApX
import Derived.Test.YtgppjbhaimmlpaaGreatDoorYxX
import Derived.Test.YtgppjbhaimmlpaaGreatDoorVeX
import Derived.Test.YtgppjbhaimmlpaaGreatDoorFiX
import Derived.Test.YtgppjbhaimmlpaaGreatDoorYpX
import Derived.Test.YtgppjbhaimmlpaaGreatDoorKbX
import Derived.SliceStrings
import Derived.ProofKit
import Derived.OpenShut
import Derived.ShutString
import Derived.ChangeOld
import Derived.Below
import Derived.Deep.Slices
import Derived.Deep.Strs
set_option maxRecDepth 100000
set_option maxHeartbeats 16000000
namespace Go.Proofs.YtgppjbhaimmlpaaGreatDoor
open Go.RowKit Go.Proofs.Tryz
theorem Uq{L:List Rg}{x y:Int}(h:Fp L x=some y):CM y=true∧AZ y:=by
 unfold Fp at h;by_cases F:CY L=0
 ·rw[nC F]at h
  obtain⟨r,G,H,I,rfl⟩:=JY h;have hb:=J6 F r G;unfold Rg.bd at hb;unfold CM AZ;simp;omega
 ·rw[nB F]at h;cases h
theorem aH{us gs:List Rg}{H I:Int}{y:Nd}(h:Bh true us gs (.mk 2 493 H I false [] ⟨#[]⟩ [])=some y):∃F G,y=.mk 2 493 F G false [] ⟨#[]⟩ []∧(CM F=true∧AZ F)∧(CM G=true∧AZ G):=by
 rw[Bh]at h;simp only[if_true]at h;split at h
 ·rename_i u' g' e1 e2
  cases h;exact⟨u',g',rfl,Uq e1,Uq e2⟩
 ·cases h
theorem TU{F G:Int}(H:CM F=true)(I:CM G=true):DN true (.mk 2 493 F G false [] ⟨#[]⟩ [])=0:=by
 rw[Jw];refine⟨rfl,?_,by rw[cnt,cntL];omega⟩;rw[Fb,E0];refine⟨by omega,?_,trivial⟩;rw[D6,H,I];rfl
theorem aI{F G:Int}(H:CM F=true)(I:CM G=true):FR (.mk 2 493 F G false [] ⟨#[]⟩ [])≤1:=by
 unfold FR FC;rw[nC (TU H I)];have e:(Gt (C0 (.mk 2 493 F G false [] ⟨#[]⟩ []))).size=(C0 (.mk 2 493 F G false [] ⟨#[]⟩ [])).length:=by simp[Gt,ByteArray.size]
 have J:(C0 (.mk 2 493 F G false [] ⟨#[]⟩ [])).length≤64:=by
  rw[C0,CN];simp[Dz,Dt,Bs]
 rw[e];omega
def FD(w:World)(b:Nat):Prop:=w.cell? ⟨b,0,none⟩=some (.slice none 0 0)∧w.cell? ⟨b,1,none⟩=some (.slice none 0 0)∧(∀q,w.frozen? ⟨b,q,none⟩=false)∧b<w.heap.size
theorem FD.new(w:World):FD (w.alloc (.cells #[.slice none 0 0,.slice none 0 0] 24)) w.heap.size:=⟨nk _ _ _ _ rfl,nk _ _ _ _ rfl,fun q=>nP _ _ _ _ rfl,by rw[nv];omega⟩
theorem FD.lt{w:World}{b:Nat}(h:FD w b):b<w.heap.size:=h.2.2.2
theorem FD.below{w w':World}{b:Nat}(h:FD w b)(hb:Bw w w'):FD w' b:=⟨Ad hb h.1,Ad hb h.2.1,fun q=>(hb.frozen (p:=⟨b,q,none⟩) h.lt).trans (h.2.2.1 q),nG h.lt hb.size⟩
theorem MS{w w':World}{a:Option Addr}{rs:List Rg}(hb:Bw w w')(h:Rgs w a rs):Rgs w' a rs:=h.below hb
structure OZ (wI w:World) (mb:Nat) (ao bo:Option Addr) (us gs:List Rg) (c1 c2:Nat):Prop where
 box:w.cell? ⟨mb,0,none⟩=some (.slice ao us.length c1)∧w.cell? ⟨mb,1,none⟩=some (.slice bo gs.length c2)
 low:Bw wI w
 u:Rgs w ao us
 g:Rgs w bo gs
 du:∀p,ao=some p→p.block<w.heap.size
 dg:∀p,bo=some p→p.block<w.heap.size
theorem LG{w:World}{a:Option Addr}{rs:List Rg}{b i:Nat}{v:Value}(h:Rgs w a rs)(I:∀p,a=some p→rs≠[]→p.block≠b):Rgs (w.setCell ⟨b,i,none⟩ v) a rs:=by
 rcases h with e|⟨G,J,rfl,O⟩
 ·exact .inl e
 ·by_cases H:rs=[]
  ·exact .inl H
  ·have F:G≠b:=I _ rfl H
   refine .inr ⟨G,J,rfl,fun k r Q=>?_⟩;obtain⟨R,T,V⟩:=O k r Q;exact⟨(AW F).trans R,(AW F).trans T,(AW F).trans V⟩
theorem UI{I F:World}{nx:Nat}{G H:Option Addr}{us gs:List Rg}{c1 c2:Nat}(O:FD F nx)(hb:Bw I F)(Q:I.heap.size≤nx)(V:Rgs F G us)(Y:Rgs F H gs)(Z:∀p,G=some p→p.block<F.heap.size)(aa:∀p,H=some p→p.block<F.heap.size)(R:∀p,G=some p→us≠[]→p.block≠nx)(T:∀p,H=some p→gs≠[]→p.block≠nx):
 OZ I ((F.setCell ⟨nx,0,none⟩ (.slice G us.length c1)).setCell ⟨nx,1,none⟩ (.slice H gs.length c2)) nx G H us gs c1 c2:=
 ⟨⟨(AA (by omega)).trans (nH _ _ _ O.1),nH _ _ _ ((AA (by omega)).trans O.2.1)⟩,(hb.setCell (p:=⟨nx,0,none⟩) Q _).setCell (p:=⟨nx,1,none⟩) Q _,LG (LG V R) R,LG (LG Y T) T,fun p J=>by simpa using Z p J,fun p J=>by simpa using aa p J⟩
theorem bT{J F:World}{G H:Option Addr}{us gs:List Rg}{c1 c2:Nat}(hb:Bw J F)(O:Rgs F G us)(Q:Rgs F H gs)(R:∀p,G=some p→p.block<F.heap.size)(T:∀p,H=some p→p.block<F.heap.size):
 OZ J (F.alloc (.cells #[.slice G us.length c1,.slice H gs.length c2] 24)) F.heap.size G H us gs c1 c2:=
 ⟨⟨nk _ _ _ _ rfl,nk _ _ _ _ rfl⟩,hb.alloc hb.size _,O.below (Du _ _),Q.below (Du _ _),fun p I=>by have:=R p I;rw[nv];omega,fun p I=>by have:=T p I;rw[nv];omega⟩
theorem cQ{w:World}{v:Value}{L:List Fl}{wr:World}(h:D7 w v L wr)(I:L≠[]):∃g cap,v=.slice (some ⟨g,0,none⟩) L.length cap∧(L.length≤cap∧cap≤9223372036854775807)∧Ch wr.cell? (some ⟨g,0,none⟩) (L.map Fl.x):=by
 rcases h.row.2 with⟨rfl,J⟩|⟨g,cap,V,rfl,hb,O,Q,G,Y,R⟩
 ·exact absurd (rp.1 J) I
 ·refine⟨g,cap,rfl,⟨Q,by unfold maxLen at G;exact G⟩,.inr ⟨g,0,rfl,fun i=>(L.getD i ⟨zN,zH,0⟩).h,fun i x H=>?_⟩⟩
  rw[n4]at H;obtain⟨f,F,rfl⟩:=nY.1 H;have e:(L.getD i ⟨zN,zH,0⟩)=f:=by rw[List.getD_eq_getElem?_getD,F];rfl
  dsimp only;rw[e];refine⟨Fe.2 fun q u T=>?_,(h.nd f (nD F)).on (Ci _ _)⟩;rw[nT];exact Fq O R (Jn L i f F q u T)
def O6(w w':World)(us gs:List Rg)(q:Int)(xs:List Nd)(e:Ending):Prop:=(∃E,e=.returned (.tuple #[.pointer none,Am E])∧E≠0)∨∃b B y,e=.returned (.tuple #[.pointer (some ⟨b,0,none⟩),.nilIface])∧w.heap.size≤b∧A5 w' b B∧BS B y xs∧B.M.us=us∧B.M.gs=gs∧B.q=q
theorem Y5{w:World}{O G ca lwa:Option Addr}{uc gc cc lwn lwc:Nat}{us gs:List Rg}{cs:List Int}{H I ck q:Int}(ds:Rgs w O us)(du:Rgs w G gs)(db:us.length≤100)(dd:gs.length≤100)(eE:us.length≤uc)(eF:gs.length≤gc)(dw:∀r∈us,r.ok)(dx:∀r∈gs,r.ok)(dy:Bg w ca cs)(dz:cs.length≤8)(hid:AZ H∧AZ I)
 {a:Option Addr} {cap:Nat} {xs:List Nd} (hx:Ch w.cell? a xs) (eG:xs.length≤5) (d0:∀x∈xs,AB x∧cnt x≤1000) (eH:∀x∈xs,AM x):
 Calls prog 7 #[.agg #[.slice O us.length uc,.slice G gs.length gc,.int .i64 H,.int .i64 I,.slice ca cs.length cc,.int .i64 ck,.int .i64 q,.slice lwa lwn lwc],.slice a xs.length cap] w fun e w'=>O6 w w' us gs q xs e∧Bw w w':=by
 have bb:Bw w (w.alloc (A4 O G ca lwa uc gc cc lwn lwc us gs cs H I ck q)):=(nt _ _).alloc (nl _) _;have c0:(w.alloc (A4 O G ca lwa uc gc cc lwn lwc us gs cs H I ck q)).cell? ⟨w.heap.size,0,none⟩=some (.slice O us.length uc):=nk _ _ _ _ rfl;have c1:(w.alloc (A4 O G ca lwa uc gc cc lwn lwc us gs cs H I ck q)).cell? ⟨w.heap.size,1,none⟩=some (.slice G gs.length gc):=nk _ _ _ _ rfl;have c2:(w.alloc (A4 O G ca lwa uc gc cc lwn lwc us gs cs H I ck q)).cell? ⟨w.heap.size,2,none⟩=some (.int .i64 H):=nk _ _ _ _ rfl;have bd:(w.alloc (A4 O G ca lwa uc gc cc lwn lwc us gs cs H I ck q)).cell? ⟨w.heap.size,3,none⟩=some (.int .i64 I):=nk _ _ _ _ rfl;have d1:(w.alloc (A4 O G ca lwa uc gc cc lwn lwc us gs cs H I ck q)).cell? ⟨w.heap.size,4,none⟩=some (.slice ca cs.length cc):=nk _ _ _ _ rfl;have d2:(w.alloc (A4 O G ca lwa uc gc cc lwn lwc us gs cs H I ck q)).cell? ⟨w.heap.size,5,none⟩=some (.int .i64 ck):=nk _ _ _ _ rfl;have d3:(w.alloc (A4 O G ca lwa uc gc cc lwn lwc us gs cs H I ck q)).cell? ⟨w.heap.size,6,none⟩=some (.int .i64 q):=nk _ _ _ _ rfl;have c7:(w.alloc (A4 O G ca lwa uc gc cc lwn lwc us gs cs H I ck q)).cell? ⟨w.heap.size,7,none⟩=some (.slice lwa lwn lwc):=nk _ _ _ _ rfl;have d4:Hid (Calls prog 14 #[Mk O G ca lwa uc gc cc lwn lwc us gs cs H I ck q,.slice a xs.length cap] (w.alloc (A4 O G ca lwa uc gc cc lwn lwc us gs cs H I ck q)) fun e w'=>(∃E y h,e=.returned (.tuple #[Ao y h,Am E])∧Ah w'.cell? y h∧(E=0→Mf us gs cs H I ck q xs y))∧Bw (w.alloc (A4 O G ca lwa uc gc cc lwn lwc us gs cs H I ck q)) w'):=WB (ds.below bb) (du.below bb) db dd eE eF dw dx (dy.below bb) dz hid (hx.on (Aj bb)) eG d0;have fm:Hid (∀W,Bw (w.alloc (A4 O G ca lwa uc gc cc lwn lwc us gs cs H I ck q)) W→Calls prog 16 #[.slice O us.length uc] W fun e w'=>(∃F J,e=.returned (.slice F us.length J)∧(us.length≤J∧J≤9223372036854775807)∧Rgs w' F us∧(∀p,F=some p→p.block<w'.heap.size)∧∀p,F=some p→us≠[]→W.heap.size≤p.block)∧Bw W w'):=fun W hb=>Pm uc ((ds.below bb).below hb) db;have fo:Hid (∀W,Bw (w.alloc (A4 O G ca lwa uc gc cc lwn lwc us gs cs H I ck q)) W→Calls prog 16 #[.slice G gs.length gc] W fun e w'=>(∃F J,e=.returned (.slice F gs.length J)∧(gs.length≤J∧J≤9223372036854775807)∧Rgs w' F gs∧(∀p,F=some p→p.block<w'.heap.size)∧∀p,F=some p→gs≠[]→W.heap.size≤p.block)∧Bw W w'):=fun W hb=>Pm gc ((du.below bb).below hb) dd
 have fp:Hid (∀W,Bw (w.alloc (A4 O G ca lwa uc gc cc lwn lwc us gs cs H I ck q)) W→Calls prog 17 #[.agg #[.int .i64 H,.int .i64 I,.slice ca cs.length cc,.int .i64 ck]] W fun e w'=>(∃F J,e=.returned (.agg #[.int .i64 H,.int .i64 I,.slice F cs.length J,.int .i64 ck])∧(cs.length≤J∧J≤9223372036854775807)∧Bg w' F cs∧∀p,F=some p→p.block<w'.heap.size)∧Bw W w'):=fun W hb=>ZC ((dy.below bb).below hb) (by omega);have cb:Hid (Bw w (w.alloc (A4 O G ca lwa uc gc cc lwn lwc us gs cs H I ck q))):=bb
 have b1:Hid ((w.alloc (A4 O G ca lwa uc gc cc lwn lwc us gs cs H I ck q)).cell? ⟨w.heap.size,0,none⟩=some (.slice O us.length uc)∧(w.alloc (A4 O G ca lwa uc gc cc lwn lwc us gs cs H I ck q)).cell? ⟨w.heap.size,1,none⟩=some (.slice G gs.length gc)∧(w.alloc (A4 O G ca lwa uc gc cc lwn lwc us gs cs H I ck q)).cell? ⟨w.heap.size,2,none⟩=some (.int .i64 H)∧(w.alloc (A4 O G ca lwa uc gc cc lwn lwc us gs cs H I ck q)).cell? ⟨w.heap.size,3,none⟩=some (.int .i64 I)∧(w.alloc (A4 O G ca lwa uc gc cc lwn lwc us gs cs H I ck q)).cell? ⟨w.heap.size,4,none⟩=some (.slice ca cs.length cc)∧(w.alloc (A4 O G ca lwa uc gc cc lwn lwc us gs cs H I ck q)).cell? ⟨w.heap.size,5,none⟩=some (.int .i64 ck)∧(w.alloc (A4 O G ca lwa uc gc cc lwn lwc us gs cs H I ck q)).cell? ⟨w.heap.size,6,none⟩=some (.int .i64 q)):=⟨c0,c1,c2,bd,d1,d2,d3⟩;have fq:Hid (Ch (w.alloc (A4 O G ca lwa uc gc cc lwn lwc us gs cs H I ck q)).cell? a xs):=hx.on (Aj bb);have eI:Hid (∀x∈xs,AB x∧cnt x≤1000):=d0;have fs:Hid (∀x∈xs,AM x):=eH;have cu:Hid ((us.length≤100∧gs.length≤100)∧(∀r∈us,r.ok)∧(∀r∈gs,r.ok)∧cs.length≤8):=⟨⟨db,dd⟩,dw,dx,dz⟩;have f7:Hid (w.heap.size<(w.alloc (A4 O G ca lwa uc gc cc lwn lwc us gs cs H I ck q)).heap.size):=by show _<_;rw[nv];omega
 obtain⟨ft,eJ,eK,eL,eM⟩:=Eb Tryz.infoNd;have fu:Hid _:=eJ;have fv:Hid _:=eK;have fw:Hid _:=eL;have fx:Hid _:=eM;obtain⟨N,cx⟩:∃N,Hid (xs.length=N):=⟨_,rfl⟩;rw[cx.out]at eG d4⊢;clear ds du db dd eE eF dw dx dy dz hid hx d0 eH bb eJ eK eL eM;go_enter func7,ntmps7;go_upto_region 1 with fail
 generalize(w.alloc (A4 O G ca lwa uc gc cc lwn lwc us gs cs H I ck q))=be at*;go_wp2_with fail
 refine nn d4.out ?_;rintro e bi ⟨⟨E,y,T,rfl,eN,eO⟩,q2⟩;have eP:Hid (Ah bi.cell? y T):=eN;have de:Hid (Bw be bi):=q2;obtain⟨k,m,u,g,o,nh,d,ks⟩:=y;rw[show Ao (.mk k m u g o nh d ks) T=(AY k m u g o nh d ks T)from rfl];clear d4 eN q2;by_cases d5:E=0
 case neg=>
  have eQ:=AH (n:=E) rfl d5;rw[eQ];have fy:Hid (Bw w (bi.alloc (Ap k m u g o nh d ks T))):=(cb.out.trans (de.out.mono cb.out.size)).alloc (cb.out.trans (de.out.mono cb.out.size)).size _;clear c0 c1 c2 bd d1 d2 d3 c7;go_wp2;go_ret2;exact⟨.inl ⟨E,by rw[eQ];rfl,d5⟩,fy.out⟩
 case pos=>
  subst d5;have fA:Hid (Mf us gs cs H I ck q xs (.mk k m u g o nh d ks)):=eO rfl;rw[show Am 0=Value.nilIface from rfl];clear eO;have d6:=Du bi (Ap k m u g o nh d ks T);have d7:=As.new bi k m u g o nh d ks T;have d8:Hid (Bw be (bi.alloc (Ap k m u g o nh d ks T))):=de.out.trans (d6.mono de.out.size);have fB:Hid (Ah (bi.alloc (Ap k m u g o nh d ks T)).cell? (.mk k m u g o nh d ks) T):=eP.out.on (Aj d6);obtain⟨⟨d9,ea,eb,ec,ed,ee,f6,ef⟩,_⟩:=d7;clear c0 c1 c2 bd d1 d2 d3 c7 d6 eP;go_upto_region 4 with fail
  generalize bi.alloc (Ap k m u g o nh d ks T)=cf at*;generalize bi.heap.size=f8 at*;have eg:=Du cf (Ap k m u g o nh d ks T);have ej:Hid (D7 be (.slice (some ⟨cf.heap.size,0,none⟩) 1 1) [(⟨(.mk k m u g o nh d ks),T,0⟩:Fl)] (cf.alloc (Ap k m u g o nh d ks T))):=by
   refine⟨d8.out.trans (eg.mono d8.out.size),⟨rfl,.inr ⟨cf.heap.size,1,#[.int .i64 k,.int .i64 m,.int .i64 u,.int .i64 g,.bool o,.slice T.aa nh.length T.ca,.string d,.slice T.ak ks.length T.ck],rfl,d8.out.size,by unfold World.alloc;simp,nl _,by unfold maxLen;omega,rfl,rfl⟩⟩,fun f fC=>?_⟩;have e:f=⟨(.mk k m u g o nh d ks),T,0⟩:=by simpa using fC
   subst e;exact fB.out.on (Lj eg (fun k dg=>by simp[Value.ownBlock];omega))
  clear eg;go_upto_region 5 with fail
  clear d9 ea eb ec ed ee f6 ef;generalize fD:Value.slice (some ⟨cf.heap.size,0,none⟩) 1 1=v0 at ej⊢;generalize cf.alloc (Ap k m u g o nh d ks T)=f9 at*;clear fD;go_wp2;go_loopw [8,25] (fun v i wr=>∃(j:Nat) (L:List Fl),j≤N∧i=.int .i64 j∧Hid (L.map Fl.x=(.mk k m u g o nh d ks)::xs.take j)∧Hid (L.length=j+1)∧Hid (D7 be v L wr)) (fun _ i _=>N-(intOf i).toNat)
  case atStart=>exact⟨0,[(⟨(.mk k m u g o nh d ks),T,0⟩:Fl)],nM _,rfl,rfl,rfl,ej⟩
  case round=>
   clear ej;obtain⟨j,L,ga,rfl,ek,cA,bs⟩:=hrel;by_cases fE:j<N
   ·have eR:decide ((j:Int)<(N:Int))=true:=nE (by omega)
    obtain⟨x,dj⟩:∃x,xs[j]? =some x:=⟨_,np (by rw[cx.out];exact fE)⟩;obtain⟨gb,F,h,rfl,bu,hd⟩:=OT fq.out dj;have fF:Hid (xs.take (j+1)=xs.take j++[x]):=Hm dj;obtain⟨eS,eT⟩:=eI.out x (nD dj);have fG:=bu.below bs.out.low
    have eU:Ah (Ag wr.cell? (fun k=>u8.ownBlock==some k)) x h:=hd.on (Lj bs.out.low (fun k dg=>by
     simp;intro e;have:=(bs.out.row.lt k e).1;omega))
    obtain⟨ab,ad,ak,ao,ap,az,a1,a6⟩:=x;have el:=Du wr (Ap ab ad ak ao ap az a1 a6 h);have d7:=As.new wr ab ad ak ao ap az a1 a6 h;have em:=bs.out.below el;have eV:=eU.on (CQ el);have eW:Hid (Calls prog 15 #[(AY ab ad ak ao ap az a1 a6 h)] (wr.alloc (Ap ab ad ak ao ap az a1 a6 h)) fun e eX=>(∃h',e=.returned ((AY ab ad ak ao ap az a1 a6 h'))∧Ah (Ag eX.cell? (fun k=>u8.ownBlock==some k)) (.mk ab ad ak ao ap az a1 a6) h')∧Bw (wr.alloc (Ap ab ad ak ao ap az a1 a6 h)) eX):=Hv (x:=(.mk ab ad ak ao ap az a1 a6)) (h:=h) (fun k dg=>by simp at dg;exact(em.row.lt k dg).2) eV (GB _ (by omega) eS) eT;have eY:Hid (D7 be u8 L (wr.alloc (Ap ab ad ak ao ap az a1 a6 h))):=em;obtain⟨d9,ea,eb,ec,ed,ee,f6,ef⟩:=fG;obtain⟨⟨fH,fI,fJ,fK,fL,fM,fN,fO⟩,_⟩:=d7;have gd:L.length≤1000:=by have:=cA.out;omega
    clear bu hd dj eU eV eS eT em el bs;go_upto_region 8 with fail
    clear d9 ea eb ec ed ee f6 ef;generalize wr.alloc (Ap ab ad ak ao ap az a1 a6 h)=gg at*;go_wp2_with fail
    with_reducible refine nn eW.out ?_
    rintro e b2 ⟨⟨h',rfl,eZ⟩,e0⟩;have dk:Hid (D7 be u8 L b2):=eY.out.below e0;have e1:Hid (Ah (Ag b2.cell? (fun k=>u8.ownBlock==some k)) (.mk ab ad ak ao ap az a1 a6) h'):=eZ;clear fH fI fJ fK fL fM fN fO eW e0 eZ eY;go_wp2_with (at_builtin;refine Ea (b2.alloc (Ap ab ad ak ao ap az a1 a6 h')) rfl (.tmp 29) (.tmp 32) 30 rfl be.heap.size 50 ft (.agg #[.int .i64 0,.int .i64 0,.int .i64 0,.int .i64 0,.bool false,.slice none 0 0,.string ⟨#[]⟩,.slice none 0 0]) 8 104 underlying30 fu.out fv.out fw.out fx.out rfl (by decide) u8 L.length (Be L) rfl (dk.out.row.alloc _) (some ⟨b2.heap.size,0,none⟩) 1 1 (Bi (.mk ab ad ak ao ap az a1 a6) h') rfl rfl (.inr ⟨_,rfl,fun q t fP=>by rw[DV,nT];exact NO b2 _ h' _ q t fP⟩) (J8 _ _) (by unfold maxLen;omega) (by omega) (by have:=dk.out.low.size;rw[nv];omega) ?_)
    intro fQ R e2 e3 e4;have fR:Hid (D7 be fQ (L++[(⟨(.mk ab ad ak ao ap az a1 a6),h',0⟩:Fl)]) R):=(dk.out.below (Du b2 _)).app (f:=⟨(.mk ab ad ak ao ap az a1 a6),h',0⟩) (Ah.on e1.out (CQ (Du b2 _))) (by rw[J9,nK];simpa [Be]using e2) e3 (by rw[nv];exact e4);have fS:Hid ((L++[(⟨(.mk ab ad ak ao ap az a1 a6),h',0⟩:Fl)]).map Fl.x=(.mk k m u g o nh d ks)::xs.take (j+1)):=by show _=_;rw[rA,ek.out,fF.out];rfl
    clear e2 e3 e4 dk e1;go_wp2;go_roundw
    case rel=>exact⟨j+1,_,by omega,by go_num,fS.out,(show _=_ from by rw[nK,cA.out];rfl),fR.out⟩
    case measure=>(simp[intOf];try omega)
   ·obtain rfl:j=N:=by omega
    have eR:decide ((j:Int)<(j:Int))=false:=nA (by omega);have e5:Hid (L.map Fl.x=(.mk k m u g o nh d ks)::xs):=by show _=_;rw[ek.out,n1 (by rw[cx.out];omega)]
    obtain⟨cg,ch,rfl,e6,en⟩:=cQ bs.out (fun e=>by have:=cA.out;rw[e]at this;simp at this);rw[e5.out]at en;have fT:Hid (Ch wr.cell? (some ⟨cg,0,none⟩) ((.mk k m u g o nh d ks)::xs)):=en;have fU:Hid (j+1≤ch∧ch≤9223372036854775807):=by rw[←cA.out];exact e6
    have bv:Hid (Bw be wr):=bs.out.low;have e7:=cA.out;rw[e7];clear e7 e6 en bs ek e5;have e8:Hid (∀W,Bw wr W→Calls prog 16 #[.slice O us.length uc] W fun e w'=>(∃F J,e=.returned (.slice F us.length J)∧(us.length≤J∧J≤9223372036854775807)∧Rgs w' F us∧(∀p,F=some p→p.block<w'.heap.size)∧∀p,F=some p→us≠[]→W.heap.size≤p.block)∧Bw W w'):=fun W hb=>fm.out W (bv.out.trans (hb.mono bv.out.size));have eo:Hid (∀W,Bw wr W→Calls prog 16 #[.slice G gs.length gc] W fun e w'=>(∃F J,e=.returned (.slice F gs.length J)∧(gs.length≤J∧J≤9223372036854775807)∧Rgs w' F gs∧(∀p,F=some p→p.block<w'.heap.size)∧∀p,F=some p→gs≠[]→W.heap.size≤p.block)∧Bw W w'):=fun W hb=>fo.out W (bv.out.trans (hb.mono bv.out.size))
    have c0:=Ad bv.out b1.out.1;have bx:=Ad bv.out b1.out.2.1;go_upto_region 10 with fail
    clear eR;have bf:w.heap.size<wr.heap.size:=ny wr ⟨w.heap.size,0,none⟩ c0;have cl:Hid (Bw wr wr.drew):=(nt _ _).drew;have co:Hid (Bw wr (wr.alloc (.cells #[.slice none 0 0,.slice none 0 0] 24)).drew):=((nt _ _).alloc (nl _) _).drew;have dm:wr.drew.cell? ⟨w.heap.size,0,none⟩=some (.slice O us.length uc)∧wr.drew.cell? ⟨w.heap.size,1,none⟩=some (.slice G gs.length gc):=⟨Ad cl.out c0,Ad cl.out bx⟩;have e9:(wr.alloc (.cells #[.slice none 0 0,.slice none 0 0] 24)).drew.cell? ⟨w.heap.size,0,none⟩=some (.slice O us.length uc)∧(wr.alloc (.cells #[.slice none 0 0,.slice none 0 0] 24)).drew.cell? ⟨w.heap.size,1,none⟩=some (.slice G gs.length gc):=⟨Ad co.out c0,Ad co.out bx⟩;have ep:Hid (Calls prog 16 #[.slice O us.length uc] wr.drew fun e w'=>(∃F J,e=.returned (.slice F us.length J)∧(us.length≤J∧J≤9223372036854775807)∧Rgs w' F us∧(∀p,F=some p→p.block<w'.heap.size)∧∀p,F=some p→us≠[]→wr.drew.heap.size≤p.block)∧Bw wr.drew w'):=e8.out _ cl.out;have eq:Hid (Calls prog 16 #[.slice O us.length uc] (wr.alloc (.cells #[.slice none 0 0,.slice none 0 0] 24)).drew fun e w'=>(∃F J,e=.returned (.slice F us.length J)∧(us.length≤J∧J≤9223372036854775807)∧Rgs w' F us∧(∀p,F=some p→p.block<w'.heap.size)∧∀p,F=some p→us≠[]→(wr.alloc (.cells #[.slice none 0 0,.slice none 0 0] 24)).drew.heap.size≤p.block)∧Bw (wr.alloc (.cells #[.slice none 0 0,.slice none 0 0] 24)).drew w'):=e8.out _ co.out
    go_region_held3 (fun w'=>w'.cell? ⟨w.heap.size,0,none⟩=some (.slice O us.length uc)∧w'.cell? ⟨w.heap.size,1,none⟩=some (.slice G gs.length gc)) (first|with_reducible exact dm|with_reducible exact e9|with_reducible exact cB|with_reducible exact bg|(with_reducible exact⟨Ay dm.1,Ay dm.2⟩)|(with_reducible exact⟨Ay cB.1,Ay cB.2⟩)|(with_reducible exact⟨Ay bg.1,Ay bg.2⟩)|exact⟨(AW (by show w.heap.size≠Q.heap.size;have g4:=c3.out;omega)).trans ((AW (by show w.heap.size≠Q.heap.size;have g4:=c3.out;omega)).trans bg.1),(AW (by show w.heap.size≠Q.heap.size;have g4:=c3.out;omega)).trans ((AW (by show w.heap.size≠Q.heap.size;have g4:=c3.out;omega)).trans bg.2)⟩|exact⟨(AW (by show w.heap.size≠wr.heap.size;omega)).trans ((AW (by show w.heap.size≠wr.heap.size;omega)).trans bg.1),(AW (by show w.heap.size≠wr.heap.size;omega)).trans ((AW (by show w.heap.size≠wr.heap.size;omega)).trans bg.2)⟩) (first|(go_at_call 16;(with_reducible refine nn ep.out ?_);rintro e Q ⟨⟨F,c1,rfl,c4,c5,c6,dn⟩,q6⟩;have aa:Hid (Bw wr Q):=cl.out.trans (q6.mono cl.out.size);have cB:Q.cell? ⟨w.heap.size,0,none⟩=some (.slice O us.length uc)∧Q.cell? ⟨w.heap.size,1,none⟩=some (.slice G gs.length gc):=⟨(aa.out.cell (p:=⟨w.heap.size,0,none⟩) bf).trans c0,(aa.out.cell (p:=⟨w.heap.size,1,none⟩) bf).trans bx⟩;have bk:Hid ((us.length≤c1∧c1≤9223372036854775807)∧Rgs Q F us∧∀p,F=some p→p.block<Q.heap.size):=⟨c4,c5,c6⟩;have c8:Hid (Calls prog 16 #[.slice G gs.length gc] Q fun e w'=>(∃F J,e=.returned (.slice F gs.length J)∧(gs.length≤J∧J≤9223372036854775807)∧Rgs w' F gs∧(∀p,F=some p→p.block<w'.heap.size)∧∀p,F=some p→gs≠[]→Q.heap.size≤p.block)∧Bw Q w'):=eo.out Q aa.out;have fa:Hid (Calls prog 16 #[.slice G gs.length gc] (Q.alloc (.cells #[.slice none 0 0,.slice none 0 0] 24)) fun e w'=>(∃F J,e=.returned (.slice F gs.length J)∧(gs.length≤J∧J≤9223372036854775807)∧Rgs w' F gs∧(∀p,F=some p→p.block<w'.heap.size)∧∀p,F=some p→gs≠[]→(Q.alloc (.cells #[.slice none 0 0,.slice none 0 0] 24)).heap.size≤p.block)∧Bw (Q.alloc (.cells #[.slice none 0 0,.slice none 0 0] 24)) w'):=eo.out _ (aa.out.alloc aa.out.size _);clear ep eq c4 c5 c6 dn q6)|(go_at_call 16;(with_reducible refine nn eq.out ?_);rintro e Q ⟨⟨F,c1,rfl,c4,c5,c6,dn⟩,q6⟩;have aa:Hid (Bw wr Q):=co.out.trans (q6.mono co.out.size);have cB:Q.cell? ⟨w.heap.size,0,none⟩=some (.slice O us.length uc)∧Q.cell? ⟨w.heap.size,1,none⟩=some (.slice G gs.length gc):=⟨(aa.out.cell (p:=⟨w.heap.size,0,none⟩) bf).trans c0,(aa.out.cell (p:=⟨w.heap.size,1,none⟩) bf).trans bx⟩;have bk:Hid ((us.length≤c1∧c1≤9223372036854775807)∧Rgs Q F us∧∀p,F=some p→p.block<Q.heap.size):=⟨c4,c5,c6⟩;have er:Hid (∀p,F=some p→us≠[]→p.block≠wr.heap.size):=(fun p Z bu=>(by have:=dn p Z bu;simp at this;omega));have c8:Hid (Calls prog 16 #[.slice G gs.length gc] Q fun e w'=>(∃F J,e=.returned (.slice F gs.length J)∧(gs.length≤J∧J≤9223372036854775807)∧Rgs w' F gs∧(∀p,F=some p→p.block<w'.heap.size)∧∀p,F=some p→gs≠[]→Q.heap.size≤p.block)∧Bw Q w'):=eo.out Q aa.out;have fb:Hid (FD Q wr.heap.size):=((FD.new wr).below ((nt _ _).drew)).below q6;clear ep eq c4 c5 c6 dn q6)|(go_at_call 16;(with_reducible refine nn c8.out ?_);rintro e R ⟨⟨Y,c2,rfl,bA,bB,bC,b3⟩,q7⟩;have a8:Hid (Bw wr R):=aa.out.trans (q7.mono aa.out.size);have bg:R.cell? ⟨w.heap.size,0,none⟩=some (.slice O us.length uc)∧R.cell? ⟨w.heap.size,1,none⟩=some (.slice G gs.length gc):=⟨(a8.out.cell (p:=⟨w.heap.size,0,none⟩) bf).trans c0,(a8.out.cell (p:=⟨w.heap.size,1,none⟩) bf).trans bx⟩;have bl:Hid ((gs.length≤c2∧c2≤9223372036854775807)∧Rgs R Y gs∧∀p,Y=some p→p.block<R.heap.size):=⟨bA,bB,bC⟩;have bF:Hid (Bw Q R):=q7;have c9:Hid (FD R wr.heap.size):=fb.out.below q7;have es:Hid (∀p,Y=some p→gs≠[]→p.block≠wr.heap.size):=(fun p Z bu=>(by have:=b3 p Z bu;have:=fb.out.lt;omega));obtain⟨z0,fV,b4,_⟩:=id c9.out;have fW:=b4 0;have fX:=b4 1;clear b4;clear c8 bA bB bC b3 q7)|(go_at_call 16;(with_reducible refine nn c8.out ?_);rintro e R ⟨⟨Y,c2,rfl,bA,bB,bC,b3⟩,q7⟩;have a8:Hid (Bw wr R):=aa.out.trans (q7.mono aa.out.size);have bg:R.cell? ⟨w.heap.size,0,none⟩=some (.slice O us.length uc)∧R.cell? ⟨w.heap.size,1,none⟩=some (.slice G gs.length gc):=⟨(a8.out.cell (p:=⟨w.heap.size,0,none⟩) bf).trans c0,(a8.out.cell (p:=⟨w.heap.size,1,none⟩) bf).trans bx⟩;have bl:Hid ((gs.length≤c2∧c2≤9223372036854775807)∧Rgs R Y gs∧∀p,Y=some p→p.block<R.heap.size):=⟨bA,bB,bC⟩;have bF:Hid (Bw Q R):=q7;clear c8 bA bB bC b3 q7)|(go_at_call 16;(with_reducible refine nn fa.out ?_);rintro e R ⟨⟨Y,c2,rfl,bA,bB,bC,b3⟩,q7⟩;have a8:Hid (Bw wr R):=(aa.out.alloc aa.out.size _).trans (q7.mono (nO aa.out.size (Du Q _).size));have bg:R.cell? ⟨w.heap.size,0,none⟩=some (.slice O us.length uc)∧R.cell? ⟨w.heap.size,1,none⟩=some (.slice G gs.length gc):=⟨(a8.out.cell (p:=⟨w.heap.size,0,none⟩) bf).trans c0,(a8.out.cell (p:=⟨w.heap.size,1,none⟩) bf).trans bx⟩;have bl:Hid ((gs.length≤c2∧c2≤9223372036854775807)∧Rgs R Y gs∧∀p,Y=some p→p.block<R.heap.size):=⟨bA,bB,bC⟩;have bF:Hid (Bw Q R):=(Du Q _).trans (q7.mono (Du Q _).size);have c9:Hid (FD R Q.heap.size):=(FD.new Q).below q7;have es:Hid (∀p,Y=some p→gs≠[]→p.block≠Q.heap.size):=(fun p Z bu=>(by have:=b3 p Z bu;simp at this;omega));have er:Hid (∀p,F=some p→us≠[]→p.block≠Q.heap.size):=(fun p Z _=>(by have:=bk.out.2.2 p Z;omega));have c3:Hid (wr.heap.size≤Q.heap.size):=aa.out.size;obtain⟨z0,fV,b4,_⟩:=id c9.out;have fW:=b4 0;have fX:=b4 1;clear b4;clear fa bA bB bC b3 q7))
    all_goals
     first|(obtain⟨ba,bG,b5,b6,b7,b9⟩:OZ wr (R.alloc (.cells #[.slice F us.length c1,.slice Y gs.length c2] 24)) R.heap.size F Y us gs c1 c2:=bT a8.out (MS bF.out bk.out.2.1) bl.out.2.1 (fun p Z=>(nG (bk.out.2.2 p Z) bF.out.size)) bl.out.2.2;obtain⟨V,bH⟩:∃V,R.alloc (.cells #[.slice F us.length c1,.slice Y gs.length c2] 24)=V:=⟨_,rfl⟩;rw[bH]at ba bG b5 b6 b7 b9⊢;clear bH;generalize da:R.heap.size=bY at ba⊢;clear da)|(obtain⟨ba,bG,b5,b6,b7,b9⟩:=UI (nx:=wr.heap.size) (c1:=c1) (c2:=c2) c9.out a8.out (nl _) (MS bF.out bk.out.2.1) bl.out.2.1 (fun p Z=>(nG (bk.out.2.2 p Z) bF.out.size)) bl.out.2.2 er.out es.out;obtain⟨V,bH⟩:∃V,((R.setCell ⟨wr.heap.size,0,none⟩ (.slice F us.length c1)).setCell ⟨wr.heap.size,1,none⟩ (.slice Y gs.length c2))=V:=⟨_,rfl⟩;rw[bH]at ba bG b5 b6 b7 b9⊢;clear bH;generalize da:wr.heap.size=bY at ba⊢;clear da)|(obtain⟨ba,bG,b5,b6,b7,b9⟩:=UI (nx:=Q.heap.size) (c1:=c1) (c2:=c2) c9.out a8.out (c3.out) (MS bF.out bk.out.2.1) bl.out.2.1 (fun p Z=>(nG (bk.out.2.2 p Z) bF.out.size)) bl.out.2.2 er.out es.out;obtain⟨V,bH⟩:∃V,((R.setCell ⟨Q.heap.size,0,none⟩ (.slice F us.length c1)).setCell ⟨Q.heap.size,1,none⟩ (.slice Y gs.length c2))=V:=⟨_,rfl⟩;rw[bH]at ba bG b5 b6 b7 b9⊢;clear bH;generalize da:Q.heap.size=bY at ba⊢;clear da)
     clear dm e9 cB bg cl co c0 bx;have b0:Hid (Bw be V):=bv.out.trans (bG.mono bv.out.size);have bn:V.drew.cell? ⟨bY,0,none⟩=some (.slice F us.length c1)∧V.drew.cell? ⟨bY,1,none⟩=some (.slice Y gs.length c2)∧V.drew.cell? ⟨w.heap.size,2,none⟩=some (.int .i64 H)∧V.drew.cell? ⟨w.heap.size,3,none⟩=some (.int .i64 I)∧V.drew.cell? ⟨w.heap.size,4,none⟩=some (.slice ca cs.length cc)∧V.drew.cell? ⟨w.heap.size,5,none⟩=some (.int .i64 ck)∧V.drew.cell? ⟨w.heap.size,6,none⟩=some (.int .i64 q):=⟨ba.1,ba.2,Ad b0.out b1.out.2.2.1,Ad b0.out b1.out.2.2.2.1,Ad b0.out b1.out.2.2.2.2.1,Ad b0.out b1.out.2.2.2.2.2.1,Ad b0.out b1.out.2.2.2.2.2.2⟩;have dp:Hid ((Rgs V F us∧Rgs V Y gs)∧(∀p,F=some p→p.block<V.heap.size)∧∀p,Y=some p→p.block<V.heap.size):=⟨⟨b5,b6⟩,b7,b9⟩;have fY:Hid (Ch V.cell? (some ⟨cg,0,none⟩) ((.mk k m u g o nh d ks)::xs)):=fT.out.on (Aj bG);have fc:Hid ((us.length≤c1∧c1≤9223372036854775807)∧gs.length≤c2∧c2≤9223372036854775807):=⟨bk.out.1,bl.out.1⟩;have fd:Hid (Calls prog 17 #[.agg #[.int .i64 H,.int .i64 I,.slice ca cs.length cc,.int .i64 ck]] V.drew fun e w'=>(∃F J,e=.returned (.agg #[.int .i64 H,.int .i64 I,.slice F cs.length J,.int .i64 ck])∧(cs.length≤J∧J≤9223372036854775807)∧Bg w' F cs∧∀p,F=some p→p.block<w'.heap.size)∧Bw V.drew w'):=fp.out _ (b0.out.drew);clear ba bG b5 b6 b7 b9;go_upto_region 11 with fail
     go_region_held3 (fun w'=>w'.cell? ⟨bY,0,none⟩=some (.slice F us.length c1)∧w'.cell? ⟨bY,1,none⟩=some (.slice Y gs.length c2)∧w'.cell? ⟨w.heap.size,2,none⟩=some (.int .i64 H)∧w'.cell? ⟨w.heap.size,3,none⟩=some (.int .i64 I)∧w'.cell? ⟨w.heap.size,4,none⟩=some (.slice ca cs.length cc)∧w'.cell? ⟨w.heap.size,5,none⟩=some (.int .i64 ck)∧w'.cell? ⟨w.heap.size,6,none⟩=some (.int .i64 q)) (first|with_reducible exact bn|with_reducible exact bo|with_reducible exact⟨Ay bo.1,Ay bo.2.1,Ay bo.2.2.1,Ay bo.2.2.2.1,Ay bo.2.2.2.2.1,Ay bo.2.2.2.2.2.1,Ay bo.2.2.2.2.2.2⟩) (first|(go_at_call 17;(with_reducible refine nn fd.out ?_);rintro e a7 ⟨⟨cp,bd,rfl,fe,ff,fg⟩,bp⟩;have bo:a7.cell? ⟨bY,0,none⟩=some (.slice F us.length c1)∧a7.cell? ⟨bY,1,none⟩=some (.slice Y gs.length c2)∧a7.cell? ⟨w.heap.size,2,none⟩=some (.int .i64 H)∧a7.cell? ⟨w.heap.size,3,none⟩=some (.int .i64 I)∧a7.cell? ⟨w.heap.size,4,none⟩=some (.slice ca cs.length cc)∧a7.cell? ⟨w.heap.size,5,none⟩=some (.int .i64 ck)∧a7.cell? ⟨w.heap.size,6,none⟩=some (.int .i64 q):=⟨Ad bp bn.1,Ad bp bn.2.1,Ad bp bn.2.2.1,Ad bp bn.2.2.2.1,Ad bp bn.2.2.2.2.1,Ad bp bn.2.2.2.2.2.1,Ad bp bn.2.2.2.2.2.2⟩;have eu:Hid ((cs.length≤bd∧bd≤9223372036854775807)∧Bg a7 cp cs∧∀p,cp=some p→p.block<a7.heap.size):=⟨fe,ff,fg⟩;have cq:Hid (Bw V a7):=((nt V.heap.size V).drew).trans bp;clear fd fe ff fg bp))
     all_goals
      have fZ:Hid (O6 w (a7.alloc (.cells #[.slice F us.length c1,.slice Y gs.length c2,.slice (some ⟨cg,0,none⟩) (j+1) ch,.int .i64 H,.int .i64 I,.slice cp cs.length bd,.int .i64 ck,.int .i64 q] 67)) us gs q xs (.returned (.tuple #[.pointer (some ⟨a7.heap.size,0,none⟩),.nilIface]))∧Bw w (a7.alloc (.cells #[.slice F us.length c1,.slice Y gs.length c2,.slice (some ⟨cg,0,none⟩) (j+1) ch,.int .i64 H,.int .i64 I,.slice cp cs.length bd,.int .i64 ck,.int .i64 q] 67))):=by
       have dr:=Du a7 (.cells #[.slice F us.length c1,.slice Y gs.length c2,.slice (some ⟨cg,0,none⟩) (j+1) ch,.int .i64 H,.int .i64 I,.slice cp cs.length bd,.int .i64 ck,.int .i64 q] 67);have ev:=cb.out.trans ((b0.out.trans (cq.out.mono b0.out.size)).mono cb.out.size);have cr:=fA.out;obtain⟨gh,gi,T,⟨fh,f0⟩,fi,f1⟩:=aH cr.root;have fj:=Hy cr.root;refine⟨.inr ⟨a7.heap.size,⟨⟨F,Y,c1,c2,us,gs⟩,some ⟨cg,0,none⟩,ch,(.mk k m u g o nh d ks)::xs,H,I,cp,bd,cs,ck,q⟩,(.mk k m u g o nh d ks),rfl,ev.size,⟨?_,fun f2 f3=>?_,fun f2=>nP _ _ _ _ rfl,⟨(dp.out.1.1.below cq.out).below dr,(dp.out.1.2.below cq.out).below dr,cu.out.1.1,cu.out.1.2,fc.out.1.1,fc.out.2.1,cu.out.2.1,cu.out.2.2.1⟩,(fY.out.on (Aj cq.out)).on (Aj dr),?_,eu.out.2.1.below dr,eu.out.1,fun p Z=>?_,fun p Z=>?_,.inr fun p Z=>?_⟩,⟨rfl,⟨?_,?_,?_,?_⟩,?_,fun x hx=>⟨cr.low x hx,(eI.out x hx).1,fs.out x hx⟩,?_,?_,⟨cr.cr,cu.out.2.2.2⟩⟩,rfl,rfl,rfl⟩,ev.alloc ev.size _⟩
       ·have f4:((.mk k m u g o nh d ks:Nd)::xs).length=j+1:=by rw[n3,cx.out]
        refine⟨nk _ _ _ _ rfl,nk _ _ _ _ rfl,?_,nk _ _ _ _ rfl,nk _ _ _ _ rfl,nk _ _ _ _ rfl,nk _ _ _ _ rfl,nk _ _ _ _ rfl⟩;rw[f4];exact nk _ _ _ _ rfl
       ·rw[nk _ _ _ _ rfl]
        exact rG (by simpa using f3)
       ·rw[n3,cx.out];exact fU.out
       ·have eB:=dp.out.2.1 p Z;have fl:=cq.out.size;omega
       ·have eB:=dp.out.2.2 p Z;have fl:=cq.out.size;omega
       ·have eB:=eu.out.2.2 p Z;omega
       ·rw[T]at fj⊢;exact Lu (by show(2:Int)≠3;decide) fj rfl _
       ·rw[T,AB,Bt];exact⟨⟨by decide,fun r f5=>(by cases f5)⟩,by decide,trivial⟩
       ·rw[T,AM,Bu];exact⟨f0,f1,trivial⟩
       ·rw[T,cnt,cntL];omega
       ·rw[T];exact TU fh fi
       ·have:=cr.len;omega
       ·have eB:=aI fh fi;have fl:=cr.q1;show FR (.mk k m u g o nh d ks)≤q;rw[T];omega
      clear bn bo;go_wp2;go_ret2;exact fZ.out
abbrev dK:Oper:={dst:=some 51,op:=Op.move (Operand.tmp 1),type:=40,pos:= "top.go:309",after:=#[],guard:=none}
abbrev dU:Oper:={dst:=some 53,op:=Op.fieldAddr 50 (Operand.tmp 4) 7,type:=0,pos:= "top.go:309",after:=#[],guard:=none}
abbrev dH:Oper:={dst:=some 54,op:=Op.load 48 (Operand.tmp 53),type:=48,pos:= "top.go:309",after:=#[{on:=2,ground:=Ground.data}],guard:=none}
abbrev dT:Oper:={dst:=some 55,op:=Op.move (Operand.tmp 13),type:=3,pos:= "top.go:309",after:=#[],guard:=none}
abbrev dQ:Oper:={dst:=some 56,op:=Op.indexAddr 48 (Operand.tmp 54) (Operand.tmp 55),type:=0,pos:= "top.go:309",after:=#[{on:=3,ground:=Ground.data},{on:=4,ground:=Ground.data}],guard:=none}
abbrev dG:Oper:={dst:=some 57,op:=Op.fieldAddr 73 (Operand.tmp 56) 0,type:=0,pos:= "top.go:309",after:=#[{on:=5,ground:=Ground.data}],guard:=none}
abbrev dP:Oper:={dst:=some 58,op:=Op.load 9 (Operand.tmp 57),type:=9,pos:= "top.go:309",after:=#[{on:=6,ground:=Ground.data}],guard:=none}
theorem Sa{up:Bool}{G:Nat}{n:BA}{x:Nd}:∀{ks:At} {p:Option BA} {i:Nat},E0 up G p ks→ks[i]? =some (n,x)→fk n ks=some x∧Fb up G x
 |[],p,i,_,h=>by simp at h
 |(n0,y)::l,p,0,hv,h=>by
  have e:(n0,y)=(n,x):=by simpa using h
  cases e;rw[E0]at hv;exact⟨by simp[fk],hv.2.2.1⟩
 |(n0,y)::l,p,i+1,hv,h=>by
  rw[E0]at hv;have h:l[i]? =some (n,x):=by simpa using h
  obtain⟨F,H⟩:=Sa hv.2.2.2 h;refine⟨?_,H⟩;rw[fk,nB]
  ·exact F
  ·intro e
   have:=Ro (q:=n) hv.2.2.2 (.inl e.symm);rw[this]at F;cases F
theorem UA{n:BA}{x:Nd}:∀{ks:At} {i:Nat},Bu ks→ks[i]? =some (n,x)→AM x
 |[],i,_,h=>by simp at h
 |(n0,y)::l,0,hv,h=>by
  have e:(n0,y)=(n,x):=by simpa using h
  cases e;rw[Bu]at hv;exact hv.1
 |(n0,y)::l,i+1,hv,h=>by
  rw[Bu]at hv;exact UA hv.2 (by simpa using h)
theorem Yw{c:AJ}{an:Option Addr}{nf:List BA}(h:A0 c an nf):(an=none∧nf.length=0)∨∃G,an=some G∧∀j u,(Cp nf)[j]? =some u→c (G.add j)=some u:=by
 rcases h with rfl|⟨b,J,rfl,H⟩
 ·cases an with
  |none=>exact .inl ⟨rfl,rfl⟩
  |some G=>exact .inr ⟨G,rfl,fun j u F=>by simp[Cp]at F⟩
 ·refine .inr ⟨_,rfl,fun j u F=>?_⟩
  rw[DV];unfold Cp at F;rw[n4]at F;obtain⟨s,I,rfl⟩:=nY.1 F;exact H j s I
theorem Yv{w:World}{H:Option Addr}{base F:Nat}{l:List BA}{n:BA}(J:l.length+1≤F)(I:F≤maxLen)(O:(H=none∧l.length+1=0∧Cp l++Cp [n]=[]∧F=0)∨∃g G,H=some ⟨g,0,none⟩∧base≤g∧w.heap[g]? =some (.cells G 9 (0,0))∧G.size=F*1∧G.toList.take ((l.length+1)*1)=Cp l++Cp [n]):
 A0 w.cell? H (l++[n])∧(l++[n]).length≤F∧F≤9223372036854775807:=by
 unfold maxLen at I;refine⟨?_,by rw[nK];exact J,I⟩;rcases O with⟨_,Q,_⟩|⟨g,G,rfl,_,R,_,T⟩
 ·exact absurd Q (by omega)
 ·refine .inr ⟨g,0,rfl,fun i s V=>?_⟩
  rw[nT];refine Fq R T ?_;have e:Cp l++Cp [n]=Cp (l++[n]):=(rA).symm;rw[e];unfold Cp;rw[n4,V];rfl
structure GI (V:Nd) (ni:List Nd) (us gs:List Rg) (nf:List BA) (x:Nd):Prop where
 fd:AV nf V=some x
 rt:nf=[]→x.kind≠3
 own:Ct us gs x (Ef nf V (ni.zipIdx 1))
 val:Fb true nf.length x
 ids:AM x
theorem GI.kid{F:Nd}{ni:List Nd}{us gs:List Rg}{nf:List BA}{k m u g:Int}{o:Bool}{nh:List Kv}{d:BA}{ks:At}(h:GI F ni us gs nf (.mk k m u g o nh d ks))(V:k≠3){i:Nat}{n:BA}{y:Nd}(G:ks[i]? =some (n,y)):GI F ni us gs (nf++[n]) y:=by
 have H:=h.val;have J:k=2:=by
  by_cases e:k=2
  ·exact e
  ·have O:ks=[]:=SS ⟨_,_,H⟩ e
   rw[O]at G;simp at G
 subst J;have Q:E0 true (nf.length+1) none ks:=RO H;obtain⟨I,R⟩:=Sa Q G;have T:=((GV.1 h.own).2 (by show(2:Int)≠3;decide)).2;have hid:=h.ids;rw[AM]at hid;refine⟨?_,fun e=>absurd e (by simp),?_,by rw[nK];exact R,UA hid.2.2 G⟩
 ·rw[MK nf [n] F _ h.fd,CJ,nB (by show¬(2:Int)≠2;simp)]
  show(match fk n ks with|none=>none|some z=>AV [] z)=some y;rw[I];rfl
 ·rw[MW nf n F _ _ h.fd]
  exact LE T I
theorem GI.white{F:Nd}{ni:List Nd}{us gs:List Rg}{nf:List BA}{x:Nd}(h:GI F ni us gs nf x)(G:x.kind=3):DX (F::ni) nf=true:=by
 have H:nf≠[]:=fun e=>h.rt e G;obtain⟨l,I,rfl⟩:∃l I,nf=l++[I]:=⟨nf.dropLast,nf.getLast H,(List.dropLast_concat_getLast H).symm⟩
 obtain⟨Q,J,O⟩:=Nn h.fd;rw[N1 J O];have:=(GV.1 h.own).1 G;simpa using this
theorem Y2{w:World}{ak:Nd}{ni:List Nd}{G H ap:Option Addr}{uc gc lc:Nat}{us gs:List Rg}(c9:Ch w.cell? ap (ak::ni))(da:EW (ak::ni))(db:DD w ⟨G,H,uc,gc,us,gs⟩){x:Nd}{h:Hd}(eE:Ah w.cell? x h):∀(W:World) (an:Option Addr) (nj:Nat) (nf:List BA),Bw w W→A0 W.cell? an nf→(nf.length≤nj∧nj≤9223372036854775807)→GI ak ni us gs nf x→
 Calls prog 10 #[Ao x h,.slice an nf.length nj,.slice ap (ni.length+1) lc,.agg #[.slice G us.length uc,.slice H gs.length gc]] W fun e ad=>e=.returned (.bool true)∧Bw W ad:=by
 have eF:Hid (Ch w.cell? ap (ak::ni)):=c9;have eG:Hid (EW (ak::ni)):=da;have a6:Hid (DD w ⟨G,H,uc,gc,us,gs⟩):=db;obtain⟨b2,dd,de,dg,dj⟩:=Eb Tryz.infoStr;have b3:Hid _:=dd;have b4:Hid _:=de;have b5:Hid _:=dg;have b6:Hid _:=dj;clear c9 da db dd de dg dj;induction eE with
 |@mk k m u g o nh d ks h b F f eH eI cl bo dk eJ dm=>
  intro W an nj nf dn dp dr b7;have ds:Hid (∀i n x,ks[i]? =some (n,x)→Dd w.cell? b (F+i*9) n x (f i)):=dk;have du:Hid (∀i n x,ks[i]? =some (n,x)→∀(W:World) (an:Option Addr) (nj:Nat) (nf:List BA),Bw w W→A0 W.cell? an nf→(nf.length≤nj∧nj≤9223372036854775807)→GI ak ni us gs nf x→Calls prog 10 #[Ao x (f i),.slice an nf.length nj,.slice ap (ni.length+1) lc,.agg #[.slice G us.length uc,.slice H gs.length gc]] W fun e ad=>e=.returned (.bool true)∧Bw W ad):=dm;have eK:Hid (ks=[]∨h.ak=some ⟨b,F,none⟩):=bo;have e0:ks.length≤9223372036854775807:=nO cl.1 cl.2;have a7:Hid (Bw w W):=dn;have dw:Hid (A0 W.cell? an nf):=dp;have eL:Hid (nf.length≤nj∧nj≤9223372036854775807):=dr;have co:Hid (GI ak ni us gs nf (.mk k m u g o nh d ks)):=b7;have e1:nf.length≤6:=by
   have:=b7.val;rw[Fb]at this;exact this.1
  have hid:=b7.ids;rw[AM]at hid;have b9:Bw W (W.alloc (Ap k m u g o nh d ks h)):=Du _ _;have bb:Bw W ((W.alloc (Ap k m u g o nh d ks h)).alloc (.cells #[.slice G us.length uc,.slice H gs.length gc] 24)):=b9.alloc b9.size _;have aa:(W.alloc (Ap k m u g o nh d ks h)).heap.size=W.heap.size+1:=nv _ _;have dx:((W.alloc (Ap k m u g o nh d ks h)).alloc (.cells #[.slice G us.length uc,.slice H gs.length gc] 24)).cell? ⟨W.heap.size,0,none⟩=some (.int .i64 k):=Ay (nk _ _ _ _ rfl);clear dk eJ dm bo eH eI cl dn dp dr b7;show Calls prog 10 #[(AY k m u g o nh d ks h),.slice an nf.length nj,.slice ap (ni.length+1) lc,.agg #[.slice G us.length uc,.slice H gs.length gc]] _ _;by_cases bd:k=3
  ·have eM:(k==3)=true:=by simp[bd]
   have dy:Hid (Calls prog 24 #[.slice ap (ni.length+1) lc,.slice an nf.length nj] ((W.alloc (Ap k m u g o nh d ks h)).alloc (.cells #[.slice G us.length uc,.slice H gs.length gc] 24)) fun e w'=>e=.returned (.bool true)∧Bw ((W.alloc (Ap k m u g o nh d ks h)).alloc (.cells #[.slice G us.length uc,.slice H gs.length gc] 24)) w'):=by
    have eN:=a7.out.trans (bb.mono a7.out.size);have e:=KE (w:=((W.alloc (Ap k m u g o nh d ks h)).alloc (.cells #[.slice G us.length uc,.slice H gs.length gc] 24))) (S:=fun _=>false) (xs:=ak::ni) (a:=ap) (cap:=lc) (an:=an) (nj:=nj) (nf:=nf) (fun _ eO=>(by cases eO)) (by rw[C4];exact eF.out.on (Aj eN)) (by rw[C4];exact dw.out.on (Aj bb)) eG.out (by omega) eL.out;rw[co.out.white bd]at e;exact e
   have bi:Hid (Bw W ((W.alloc (Ap k m u g o nh d ks h)).alloc (.cells #[.slice G us.length uc,.slice H gs.length gc] 24))):=bb;clear b9 bb aa hid bd;go_enter func10,ntmps10;go_wp2_with fail
   refine nn dy.out ?_;rintro e bk ⟨rfl,a8⟩;have eP:Hid (Bw W bk):=bi.out.trans (a8.mono bi.out.size);clear dy a8 dx;go_wp2;go_ret;exact⟨rfl,eP.out⟩
  have eM:(k==3)=false:=by simpa using bd
  have eQ:((W.alloc (Ap k m u g o nh d ks h)).alloc (.cells #[.slice G us.length uc,.slice H gs.length gc] 24)).cell? ⟨W.heap.size,2,none⟩=some (.int .i64 u):=Ay (nk _ _ _ _ rfl);have cp:((W.alloc (Ap k m u g o nh d ks h)).alloc (.cells #[.slice G us.length uc,.slice H gs.length gc] 24)).cell? ⟨W.heap.size,3,none⟩=some (.int .i64 g):=Ay (nk _ _ _ _ rfl);have bl:((W.alloc (Ap k m u g o nh d ks h)).alloc (.cells #[.slice G us.length uc,.slice H gs.length gc] 24)).cell? ⟨W.heap.size,7,none⟩=some (.slice h.ak ks.length h.ck):=Ay (nk _ _ _ _ rfl);have dz:((W.alloc (Ap k m u g o nh d ks h)).alloc (.cells #[.slice G us.length uc,.slice H gs.length gc] 24)).cell? ⟨W.heap.size+1,0,none⟩=some (.slice G us.length uc):=nk _ _ _ _ aa.symm;have bp:((W.alloc (Ap k m u g o nh d ks h)).alloc (.cells #[.slice G us.length uc,.slice H gs.length gc] 24)).cell? ⟨W.heap.size+1,1,none⟩=some (.slice H gs.length gc):=nk _ _ _ _ aa.symm;have bs:=((GV.1 co.out.own).2 bd).1;have bs:Ev us gs u g:=bs;obtain⟨d0,d1⟩:∃v,Ff us u=some v:=Option.ne_none_iff_exists'.1 bs.1;obtain⟨d2,d3⟩:∃v,Ff gs g=some v:=Option.ne_none_iff_exists'.1 bs.2;have d4:Hid (∀w',Bw w w'→Calls prog 25 #[.slice G us.length uc,.int .i64 u] w' fun e be=>e=.returned (.tuple #[.int .i64 d0,.bool true])∧Bw w' be):=fun w' hb=>by
   have e:=Mr G uc us u w' a6.out.ul a6.out.cu a6.out.ou hid.1 (a6.out.u.below hb);rw[d1]at e;exact e
  have d5:Hid (∀w',Bw w w'→Calls prog 25 #[.slice H gs.length gc,.int .i64 g] w' fun e be=>e=.returned (.tuple #[.int .i64 d2,.bool true])∧Bw w' be):=fun w' hb=>by
   have e:=Mr H gc gs g w' a6.out.gl a6.out.cg a6.out.og hid.2.1 (a6.out.g.below hb);rw[d3]at e;exact e
  have bi:Hid (Bw W ((W.alloc (Ap k m u g o nh d ks h)).alloc (.cells #[.slice G us.length uc,.slice H gs.length gc] 24))):=bb;have eR:Hid (k≠3):=bd;have e2:Hid (W.heap.size+1<((W.alloc (Ap k m u g o nh d ks h)).alloc (.cells #[.slice G us.length uc,.slice H gs.length gc] 24)).heap.size):=by show _<_;rw[nv,aa];omega
  have d6:Hid (Calls prog 25 #[.slice G us.length uc,.int .i64 u] ((W.alloc (Ap k m u g o nh d ks h)).alloc (.cells #[.slice G us.length uc,.slice H gs.length gc] 24)) fun e be=>e=.returned (.tuple #[.int .i64 d0,.bool true])∧Bw ((W.alloc (Ap k m u g o nh d ks h)).alloc (.cells #[.slice G us.length uc,.slice H gs.length gc] 24)) be):=d4.out _ (a7.out.trans (bb.mono a7.out.size));clear bs d1 d3 b9 bb aa hid bd;go_enter func10,ntmps10;go_upto_region 1 with fail
  generalize((W.alloc (Ap k m u g o nh d ks h)).alloc (.cells #[.slice G us.length uc,.slice H gs.length gc] 24))=cb at*;go_wp2_with fail
  refine nn d6.out ?_;rintro e bk ⟨rfl,a8⟩;have cq:Hid (Bw cb bk):=a8
  have d7:Hid (Calls prog 25 #[.slice H gs.length gc,.int .i64 g] bk fun e be=>e=.returned (.tuple #[.int .i64 d2,.bool true])∧Bw bk be):=d5.out _ (by
   have d8:=a7.out.trans (bi.out.mono a7.out.size);exact d8.trans (a8.mono d8.size))
  replace bp:=Ad a8 bp;replace cp:=Ad a8 cp;have d9:Hid (cb.cell? ⟨W.heap.size,7,none⟩=some (.slice h.ak ks.length h.ck)):=bl;have ea:Hid (cb.cell? ⟨W.heap.size+1,0,none⟩=some (.slice G us.length uc)∧bk.cell? ⟨W.heap.size+1,1,none⟩=some (.slice H gs.length gc)):=⟨dz,bp⟩;clear d6 a8 d4 d5 dx eQ dz bl;go_wp2_with fail
  refine nn d7.out ?_;rintro e az ⟨rfl,q4⟩;have cr:Hid (Bw cb az):=cq.out.trans (q4.mono cq.out.size);have eb:Hid (az.cell? ⟨W.heap.size+1,0,none⟩=some (.slice G us.length uc)∧az.cell? ⟨W.heap.size+1,1,none⟩=some (.slice H gs.length gc)):=⟨Ad cr.out ea.out.1,Ad q4 bp⟩;have cf:Hid (az.cell? ⟨W.heap.size,7,none⟩=some (.slice h.ak ks.length h.ck)):=Ad cr.out d9.out;have a1:Hid (Bw W az):=bi.out.trans (cr.out.mono bi.out.size);clear d7 q4 cp bp ea d9 cq;rcases eK.out with eS|bo
  ·subst eS
   have bl:az.cell? ⟨W.heap.size,7,none⟩=some (.slice h.ak 0 h.ck):=cf.out;go_wp2;first
   |(go_ret;exact⟨rfl,a1.out⟩)
   |(go_loopw [13] (fun i wr=>i=.int .i64 0∧Hid (Bw az wr)) (fun _ _=>0)
     case atStart=>exact⟨rfl,nt _ _⟩
     case round=>
      obtain⟨rfl,R⟩:=hrel;have e3:=Ad R.out cf.out;go_wp2;go_ret;exact⟨rfl,a1.out.trans (R.out.mono a1.out.size)⟩)
  rw[bo]at cf;clear bo;go_upto_region 7 with fail
  go_wp2;go_loopw [13] (fun i wr=>∃j:Nat,j≤ks.length∧i=.int .i64 j∧Hid (Bw az wr)) (fun i _=>ks.length-(intOf i).toNat)
  case atStart=>exact⟨0,nM _,rfl,nt _ _⟩
  case round=>
   obtain⟨j,e4,rfl,R⟩:=hrel;have bl:=Ad R.out cf.out;by_cases eT:j<ks.length
   ·have eU:(j:Int)<(ks.length:Int):=by omega
    obtain⟨⟨n,x⟩,hx⟩:∃x,ks[j]? =some x:=⟨ks[j],by simp[eT]⟩;have cu:=a7.out.trans (a1.out.mono a7.out.size);have cx:Bw w wr:=cu.trans (R.out.mono cu.size);have ec:Hid (Bw w wr):=cx;have I:=(ds.out j n x hx).below cx;have cA:Hid (∀(W:World) (an:Option Addr) (nj:Nat) (nf:List BA),Bw w W→A0 W.cell? an nf→(nf.length≤nj∧nj≤9223372036854775807)→GI ak ni us gs nf x→Calls prog 10 #[Ao x (f j),.slice an nf.length nj,.slice ap (ni.length+1) lc,.agg #[.slice G us.length uc,.slice H gs.length gc]] W fun e ad=>e=.returned (.bool true)∧Bw W ad):=du.out j n x hx;have eV:Hid (GI ak ni us gs (nf++[n]) x):=co.out.kid eR.out hx;generalize eW:f j=Q at I cA;obtain⟨bu,bv,bx,bA,bB,bC,bF,bG⟩:=x;obtain⟨z0,ed,ee,z3,z4,z5,ef,eg,ej⟩:=I.nine;have ba:Hid (wr.cell? ⟨b,F+j*9+1,none⟩=some (.int .i64 bu)∧wr.cell? ⟨b,F+j*9+2,none⟩=some (.int .i64 bv)∧wr.cell? ⟨b,F+j*9+3,none⟩=some (.int .i64 bx)∧wr.cell? ⟨b,F+j*9+4,none⟩=some (.int .i64 bA)∧wr.cell? ⟨b,F+j*9+5,none⟩=some (.bool bB)∧wr.cell? ⟨b,F+j*9+6,none⟩=some (.slice Q.aa bC.length Q.ca)∧wr.cell? ⟨b,F+j*9+7,none⟩=some (.string bF)∧wr.cell? ⟨b,F+j*9+8,none⟩=some (.slice Q.ak bG.length Q.ck)):=⟨ed,ee,z3,z4,z5,ef,eg,ej⟩;have e5:Hid (wr.cell? ⟨b,F+j*9,none⟩=some (.string n)):=z0;have ek:A0 wr.cell? an nf:=(dw.out.on (Aj a1.out)).on (Aj R.out);have el:Hid (∀ad,Bw wr ad→(an=none∧nf.length=0)∨∃em,an=some em∧∀j u,(Cp nf)[j]? =some u→ad.cell? (em.add j)=some u):=fun ad hb=>Yw (ek.on (Aj hb));have en:(Cp nf).length=nf.length*1:=by rw[ZH,Nat.mul_one]
    have e6:Hid (Bw W wr):=a1.out.trans (R.out.mono a1.out.size);clear hx eW du ds I cx cu ed ee z3 z4 z5 ef eg ej ek;go_upto_region 10 with fail
    have T:wr.drew.cell? ⟨W.heap.size,7,none⟩=some (.slice (some ⟨b,F,none⟩) ks.length h.ck)∧wr.drew.cell? ⟨b,F+j*9,none⟩=some (.string n):=⟨bl,z0⟩;clear bl z0;refine wp_region_held_drew (S:=fun w'=>w'.cell? ⟨W.heap.size,7,none⟩=some (.slice (some ⟨b,F,none⟩) ks.length h.ck)∧w'.cell? ⟨b,F+j*9,none⟩=some (.string n)) (by kernel_rfl) T (fun bf=>?_);refine nS (i:=0) (oi:=dK) (v:=.slice an nf.length nj) rfl (by kernel_rfl) (by kernel_rfl) (by kernel_rfl) (fun _ _ _ h=>h) (Or.inl ⟨by rfl,fun w Y=>by obtain⟨bn,aa⟩:=Y;go_simp⟩) bf ?_;simp only[tk];refine nS (i:=2) (oi:=dU) (v:=.pointer (some ⟨W.heap.size,7,none⟩)) rfl (by kernel_rfl) (by kernel_rfl) (by kernel_rfl) (fun _ _ _ h=>h) (Or.inl ⟨by rfl,fun w Y=>by obtain⟨bn,aa⟩:=Y;go_simp⟩) bf ?_;simp only[tk];refine nS (i:=3) (oi:=dH) (v:=.slice (some ⟨b,F,none⟩) ks.length h.ck) rfl (by kernel_rfl) (by kernel_rfl) (by kernel_rfl) (fun _ _ _ h=>h) (Or.inl ⟨by rfl,fun w Y=>by obtain⟨bn,aa⟩:=Y;go_simp⟩) bf ?_;simp only[tk];refine nS (i:=4) (oi:=dT) (v:=.int .i64 j) rfl (by kernel_rfl) (by kernel_rfl) (by kernel_rfl) (fun _ _ _ h=>h) (Or.inl ⟨by rfl,fun w Y=>by obtain⟨bn,aa⟩:=Y;go_simp⟩) bf ?_;simp only[tk];refine nS (i:=5) (oi:=dQ) (v:=.pointer (some ⟨b,F+j*9,none⟩)) rfl (by kernel_rfl) (by kernel_rfl) (by kernel_rfl) (fun _ _ _ h=>h) (Or.inl ⟨by rfl,fun w Y=>by obtain⟨bn,aa⟩:=Y;go_simp⟩) bf ?_;simp only[tk];refine nS (i:=6) (oi:=dG) (v:=.pointer (some ⟨b,F+j*9,none⟩)) rfl (by kernel_rfl) (by kernel_rfl) (by kernel_rfl) (fun _ _ _ h=>h) (Or.inl ⟨by rfl,fun w Y=>by obtain⟨bn,aa⟩:=Y;go_simp⟩) bf ?_;simp only[tk];refine nS (i:=7) (oi:=dP) (v:=.string n) rfl (by kernel_rfl) (by kernel_rfl) (by kernel_rfl) (fun _ _ _ h=>h) (Or.inl ⟨by rfl,fun w Y=>by obtain⟨bn,aa⟩:=Y;go_simp⟩) bf ?_;simp only[tk];refine wpAnyH_ready (rs:=[1,8]) (by kernel_rfl) (by simp) ?_;refine AllReadyH.cons (o:=_) rfl (fun K I=>?_) (AllReadyH.cons (o:=_) rfl (fun K I=>?_) AllReadyH.nil)
    focus
     rw[nC (by rfl)];refine Iq wr.drew _ _ 40 rfl wr.drew.heap.size 9 b2 (.string ⟨#[]⟩) 1 16 underlying40 b3.out b4.out b5.out b6.out rfl (by decide) (.slice none 0 0) 0 [] rfl (rB _ _ _ _) an nf.length nj (Cp nf) rfl en (el.out _ ((nt _ _).drew)) (JV _) (by unfold maxLen;omega) (by omega) (nl _) ?_;intro bg ao bH bY cB;have V:Hid (Bw wr.drew ao):=(nt _ _).grown bY (nl _) (fun k e=>by cases e);have b0:ao.ownsRow wr.drew.heap.size 9 1 bg nf.length (Cp nf):=by simpa using bH
     have b1:Hid (ao.ownsRow wr.drew.heap.size 9 1 bg nf.length (Cp nf)):=b0;clear bH b0 bY cB;refine I.out _ _ ⟨Ad V.out T.1,Ad V.out T.2⟩ (fun c3=>?_);clear I K;refine wpAnyH_ready (rs:=[8]) (by kernel_rfl) (by simp) ?_;refine AllReadyH.cons (o:=_) rfl (fun K I=>?_) AllReadyH.nil;rw[nC (by rfl)];go_simp;refine I.out _ _ ⟨Ay (Ad V.out T.1),Ay (Ad V.out T.2)⟩ (fun eo=>?_);clear I K c3;refine wpAnyH_ready (rs:=[9]) (by kernel_rfl) (by simp) ?_;refine AllReadyH.cons (o:=_) rfl (fun K I=>?_) AllReadyH.nil;rw[nC (by rfl)];refine Iq (ao.alloc (.cells #[.string n] 9)) _ _ 40 rfl wr.drew.heap.size 9 b2 (.string ⟨#[]⟩) 1 16 underlying40 b3.out b4.out b5.out b6.out rfl (by decide) bg nf.length (Cp nf) rfl (World.ownsRow.alloc b1.out _) (some ⟨ao.heap.size,0,none⟩) 1 1 (Cp [n]) rfl rfl (.inr ⟨_,rfl,fun q t c4=>by rw[DV,nT];exact((nk _ _ _ _ rfl).trans (by simpa [Cp]using c4))⟩) (JV _) (by unfold maxLen;omega) (by omega) (by rw[nv];have:=V.out.size;omega) ?_;intro v9 J c5 cg ep;have O:Hid (Bw wr J):=(((nt wr.heap.size wr).drew.trans V.out).alloc ((nt wr.heap.size wr).drew.trans V.out).size _).grown cg (by rw[nv];exact Nat.le_succ_of_le ((nt wr.heap.size wr).drew.trans V.out).size) (fun g e=>(World.ownsRow.lt b1.out g e).1)
    rotate_left
    focus
     rw[nC (by rfl)];go_simp;refine I.out _ _ ⟨Ay T.1,Ay T.2⟩ (fun c3=>?_);clear I K;refine wpAnyH_ready (rs:=[1]) (by kernel_rfl) (by simp) ?_;refine AllReadyH.cons (o:=_) rfl (fun K I=>?_) AllReadyH.nil;rw[nC (by rfl)];refine Iq (wr.alloc (.cells #[.string n] 9)).drew _ _ 40 rfl (wr.alloc (.cells #[.string n] 9)).drew.heap.size 9 b2 (.string ⟨#[]⟩) 1 16 underlying40 b3.out b4.out b5.out b6.out rfl (by decide) (.slice none 0 0) 0 [] rfl (rB _ _ _ _) an nf.length nj (Cp nf) rfl en (el.out _ ((Du _ _).drew)) (JV _) (by unfold maxLen;omega) (by omega) (nl _) ?_;intro bg ao bH bY cB;have V:Hid (Bw (wr.alloc (.cells #[.string n] 9)).drew ao):=(nt _ _).grown bY (nl _) (fun k e=>by cases e);have b0:ao.ownsRow (wr.alloc (.cells #[.string n] 9)).drew.heap.size 9 1 bg nf.length (Cp nf):=by simpa using bH
     have b1:Hid (ao.ownsRow (wr.alloc (.cells #[.string n] 9)).drew.heap.size 9 1 bg nf.length (Cp nf)):=b0;clear bH b0 bY cB;refine I.out _ _ ⟨Ad V.out (Ay T.1),Ad V.out (Ay T.2)⟩ (fun eo=>?_);clear I K c3;refine wpAnyH_ready (rs:=[9]) (by kernel_rfl) (by simp) ?_;refine AllReadyH.cons (o:=_) rfl (fun K I=>?_) AllReadyH.nil;rw[nC (by rfl)];refine Iq ao _ _ 40 rfl (wr.alloc (.cells #[.string n] 9)).drew.heap.size 9 b2 (.string ⟨#[]⟩) 1 16 underlying40 b3.out b4.out b5.out b6.out rfl (by decide) bg nf.length (Cp nf) rfl b1.out (some ⟨wr.heap.size,0,none⟩) 1 1 (Cp [n]) rfl rfl (.inr ⟨_,rfl,fun q t c4=>by rw[DV,nT];exact(Ad V.out ((nk _ _ _ _ rfl).trans (by simpa [Cp]using c4)))⟩) (JV _) (by unfold maxLen;omega) (by omega) V.out.size ?_;intro v9 J c5 cg ep;have O:Hid (Bw wr J):=((Du wr _).drew.trans (V.out.mono (Du wr _).drew.size)).grown cg ((Du wr _).drew.trans (V.out.mono (Du wr _).drew.size)).size (fun g e=>nO (Du wr _).drew.size (World.ownsRow.lt b1.out g e).1)
    all_goals
     obtain⟨c6,ch,rfl,eq,er,es⟩:=JG c5;have eu:Hid (A0 J.cell? c6 (nf++[n])∧(nf++[n]).length≤ch∧ch≤9223372036854775807):=Yv eq er es;clear c5 cg ep eq er es;refine I.out _ _ ⟨Ad O.out T.1,Ad O.out T.2⟩ (fun eX=>?_);clear I K;clear eo eX;refine wpAnyH_ready (rs:=[10]) (by kernel_rfl) (by simp) ?_;refine AllReadyH.cons (o:=_) rfl (fun K I=>?_) AllReadyH.nil;rw[nC (by rfl)];go_simp;refine I.out _ _ ⟨Ad O.out T.1,Ad O.out T.2⟩ (fun eY=>?_);clear I K eY;refine rN (by kernel_rfl) ?_ _;have c8:Hid (Calls prog 10 #[(AY bu bv bx bA bB bC bF bG Q),.slice c6 (nf++[n]).length ch,.slice ap (ni.length+1) lc,.agg #[.slice G us.length uc,.slice H gs.length gc]] J.drew fun e ad=>e=.returned (.bool true)∧Bw J.drew ad):=cA.out J.drew c6 ch (nf++[n]) ((ec.out.trans (O.out.mono ec.out.size)).drew) eu.out.1 eu.out.2 eV.out;have ev:(nf++[n]).length=nf.length+1:=by rw[nK];rfl
     rw[ev]at c8;have Z:J.drew.cell? ⟨W.heap.size,7,none⟩=some (.slice (some ⟨b,F,none⟩) ks.length h.ck)∧J.drew.cell? ⟨W.heap.size+1,0,none⟩=some (.slice G us.length uc)∧J.drew.cell? ⟨W.heap.size+1,1,none⟩=some (.slice H gs.length gc)∧J.drew.cell? ⟨b,F+j*9+1,none⟩=some (.int .i64 bu)∧J.drew.cell? ⟨b,F+j*9+2,none⟩=some (.int .i64 bv)∧J.drew.cell? ⟨b,F+j*9+3,none⟩=some (.int .i64 bx)∧J.drew.cell? ⟨b,F+j*9+4,none⟩=some (.int .i64 bA)∧J.drew.cell? ⟨b,F+j*9+5,none⟩=some (.bool bB)∧J.drew.cell? ⟨b,F+j*9+6,none⟩=some (.slice Q.aa bC.length Q.ca)∧J.drew.cell? ⟨b,F+j*9+7,none⟩=some (.string bF)∧J.drew.cell? ⟨b,F+j*9+8,none⟩=some (.slice Q.ak bG.length Q.ck):=⟨Ad O.out T.1,Ad (R.out.trans (O.out.mono R.out.size)) eb.out.1,Ad (R.out.trans (O.out.mono R.out.size)) eb.out.2,Ad O.out ba.out.1,Ad O.out ba.out.2.1,Ad O.out ba.out.2.2.1,Ad O.out ba.out.2.2.2.1,Ad O.out ba.out.2.2.2.2.1,Ad O.out ba.out.2.2.2.2.2.1,Ad O.out ba.out.2.2.2.2.2.2.1,Ad O.out ba.out.2.2.2.2.2.2.2⟩;clear T cA ev;go_upto_region 11 with fail
     go_region_held3 (fun w'=>w'.cell? ⟨W.heap.size,7,none⟩=some (.slice (some ⟨b,F,none⟩) ks.length h.ck)∧w'.cell? ⟨W.heap.size+1,0,none⟩=some (.slice G us.length uc)∧w'.cell? ⟨W.heap.size+1,1,none⟩=some (.slice H gs.length gc)∧w'.cell? ⟨b,F+j*9+1,none⟩=some (.int .i64 bu)∧w'.cell? ⟨b,F+j*9+2,none⟩=some (.int .i64 bv)∧w'.cell? ⟨b,F+j*9+3,none⟩=some (.int .i64 bx)∧w'.cell? ⟨b,F+j*9+4,none⟩=some (.int .i64 bA)∧w'.cell? ⟨b,F+j*9+5,none⟩=some (.bool bB)∧w'.cell? ⟨b,F+j*9+6,none⟩=some (.slice Q.aa bC.length Q.ca)∧w'.cell? ⟨b,F+j*9+7,none⟩=some (.string bF)∧w'.cell? ⟨b,F+j*9+8,none⟩=some (.slice Q.ak bG.length Q.ck)) (first|with_reducible exact Z|with_reducible exact eB) (first|(go_at_call 10;(with_reducible refine nn c8.out ?_);rintro e ab ⟨rfl,q6⟩;have eB:ab.cell? ⟨W.heap.size,7,none⟩=some (.slice (some ⟨b,F,none⟩) ks.length h.ck)∧ab.cell? ⟨W.heap.size+1,0,none⟩=some (.slice G us.length uc)∧ab.cell? ⟨W.heap.size+1,1,none⟩=some (.slice H gs.length gc)∧ab.cell? ⟨b,F+j*9+1,none⟩=some (.int .i64 bu)∧ab.cell? ⟨b,F+j*9+2,none⟩=some (.int .i64 bv)∧ab.cell? ⟨b,F+j*9+3,none⟩=some (.int .i64 bx)∧ab.cell? ⟨b,F+j*9+4,none⟩=some (.int .i64 bA)∧ab.cell? ⟨b,F+j*9+5,none⟩=some (.bool bB)∧ab.cell? ⟨b,F+j*9+6,none⟩=some (.slice Q.aa bC.length Q.ca)∧ab.cell? ⟨b,F+j*9+7,none⟩=some (.string bF)∧ab.cell? ⟨b,F+j*9+8,none⟩=some (.slice Q.ak bG.length Q.ck):=⟨Ad q6 Z.1,Ad q6 Z.2.1,Ad q6 Z.2.2.1,Ad q6 Z.2.2.2.1,Ad q6 Z.2.2.2.2.1,Ad q6 Z.2.2.2.2.2.1,Ad q6 Z.2.2.2.2.2.2.1,Ad q6 Z.2.2.2.2.2.2.2.1,Ad q6 Z.2.2.2.2.2.2.2.2.1,Ad q6 Z.2.2.2.2.2.2.2.2.2.1,Ad q6 Z.2.2.2.2.2.2.2.2.2.2⟩;have eZ:Hid (Bw az ab):=(R.out.trans (O.out.mono R.out.size)).trans (((nt J.heap.size J).drew.trans q6).mono (R.out.trans (O.out.mono R.out.size)).size);clear c8 q6))
     all_goals
      clear Z eB;go_wp2;go_roundw
      case rel=>exact⟨j+1,by omega,by go_num,eZ.out⟩
      case measure=>simp[intOf];omega
   ·have eU:decide ((j:Int)<(ks.length:Int))=false:=nA (by omega)
    go_wp2;go_ret;exact⟨rfl,a1.out.trans (R.out.mono a1.out.size)⟩
end Go.Proofs.YtgppjbhaimmlpaaGreatDoor
namespace Go.Proofs.YtgppjbhaimmlpaaGreatDoor
open Go.ChangeShapes Go.WideShapes Go.ChangeAt Go.RowKit Go.Deep Go.ChangeMaps Go.Proofs.Tryz
namespace RowsIn
theorem own:ownKnob prog.godebug=none:=by kernel_rfl
theorem laidOut:laidOutB prog=true:=by kernel_rfl
theorem ai:prog.cellsOf 122=2:=by kernel_rfl
theorem IL:prog.cellsOf 9=1:=by kernel_rfl
theorem Oq{F:Type}{l:List F}(h:l.length=2):∃a b,l=[a,b]:=by
 match l,h with
 |[a,b],_=>exact⟨a,b,rfl⟩
theorem VU{Q:Type}{enc:TypeId×Value→Q}{W:World}{m:Nat}{v:Value}{y:DataW Q×List MemPlace}(h:DataW.trod enc prog W 0 (fun _=>true) true m 47 [v]=some y):
 ∃a n cap l,v=.slice a n cap∧l.length=n∧n≤cap∧cap≤9223372036854775807∧Bm W.cell? a l:=by
 rcases open_slice underlying47 h with⟨H,_⟩|⟨x,F,cap,ao,n,D,be,H,_,R,ap,az,_,hx⟩
 ·obtain rfl:v=.slice none 0 0:=by simpa using H
  exact⟨none,0,0,[],rfl,rfl,by omega,by omega,.inl rfl⟩
 ·obtain rfl:v=.slice (some x) F cap:=by simpa using H
  have bf:F≤ao:=by rw[az];simp;exact R
  have T:∀i,i<F→∃r:Kv,W.cell? (x.add (i*2))=some (.string r.n)∧W.cell? ((x.add (i*2)).add 1)=some (.string r.v):=by
   intro i I;obtain⟨bg,V,a1⟩:=hx i (by omega);rw[ai]at V;obtain⟨_,a6,Y⟩:=World.cells?_some V;obtain⟨c0,c1,rfl⟩:=Oq a6;obtain⟨bi,bk,k,_,_,t0,Z⟩:=trod_struct2 underlying122 a1;rw[IL]at t0 Z;obtain⟨u0,aa,_,bl⟩:=r6 underlying9 t0;obtain⟨u1,ab,_,bn⟩:=r6 underlying9 Z;simp at aa ab;subst aa ab;have G:=Y 0 (by omega);have g1:=Y 1 (by omega);exact⟨⟨u0,u1⟩,by simpa [Addr.add]using G,by simpa using g1⟩
  obtain⟨f,ad⟩:∃f:Nat→Kv,∀i,i<F→W.cell? (x.add (i*2))=some (.string (f i).n)∧W.cell? ((x.add (i*2)).add 1)=some (.string (f i).v):=by
   refine⟨fun i=>if h:i<F then Classical.choose (T i h)else⟨ByteArray.empty,ByteArray.empty⟩,fun i I=>?_⟩;simp only[I,dite_true];exact rg (T i I)
  refine⟨some x,F,cap,(List.range F).map f,rfl,by simp,R,by unfold maxLen at ap;omega,?_⟩;by_cases a7:F=0
  ·subst a7;exact .inl rfl
  ·obtain⟨b,J,a8⟩:=x
   have ba:a8=none:=by
    have:=World.cell?_spot (ad 0 (by omega)).1;simpa [Addr.add]using this
   subst ba;refine .inr ⟨b,J,rfl,fun k r O=>?_⟩;have ak:k<F:=by have:=(nw.1 O).1;simpa using this
   have bb:r=f k:=by simp[ak]at O;exact O.symm
   subst bb;obtain⟨G,g1⟩:=ad k ak;have e:((aD b J):Addr).add (k*2)=(aD b (J+k*2)):=by by_cases bd:k*2=0<;>simp[Addr.add,bd]
   rw[e]at G g1;exact⟨G,by simpa [Addr.add]using g1⟩
theorem Ob:prog.cellsOf 50=8:=by kernel_rfl
theorem Ti:prog.cellsOf 73=9:=by kernel_rfl
theorem ZJ:prog.cellsOf 47=1:=by kernel_rfl
theorem Zc:prog.cellsOf 48=1:=by kernel_rfl
theorem LK:prog.cellsOf 3=1:=by kernel_rfl
theorem bP:prog.cellsOf 4=1:=by kernel_rfl
theorem Np{F:Type}{l:List F}(h:l.length=8):∃a b c d e f g i,l=[a,b,c,d,e,f,g,i]:=by
 match l,h with
 |[a,b,c,d,e,f,g,i],_=>exact⟨a,b,c,d,e,f,g,i,rfl⟩
theorem aq{G:Type}{l:List G}(h:l.length=9):∃z F,l=z::F∧F.length=8:=by
 match l,h with
 |z::F,h=>exact⟨z,F,rfl,by simpa using h⟩
end RowsIn
end Go.Proofs.YtgppjbhaimmlpaaGreatDoor
namespace Go.Proofs.YtgppjbhaimmlpaaGreatDoor
open Go.ChangeShapes Go.WideShapes Go.ChangeAt Go.RowKit Go.Deep Go.Proofs.Tryz
namespace RowsIn
theorem aN:prog.cellsOf 62=3:=by kernel_rfl
theorem Gd:prog.cellsOf 3=1:=by kernel_rfl
theorem Ga{x:Int}(h:(Lit.int .i64 x).wf=true):AZ x:=by
 simp[Lit.wf,IntKind.min,IntKind.max,IntKind.signed,IntKind.bits]at h;exact⟨by omega,by omega⟩
theorem Y8{F:Type}{l:List F}(h:l.length=3):∃a b c,l=[a,b,c]:=by
 match l,h with
 |[a,b,c],_=>exact⟨a,b,c,rfl⟩
theorem PE{V:Type}{enc:TypeId×Value→V}{W:World}{m:Nat}{v:Value}{y:DataW V×List MemPlace}(h:DataW.trod enc prog W 0 (fun _=>true) true m 22 [v]=some y):
 ∃a n cap rs,v=.slice a n cap∧n≤cap∧rs.length=n∧Rgs W a rs∧∀r∈rs,r.ok:=by
 rcases open_slice underlying22 h with⟨J,_⟩|⟨x,F,cap,a1,n,D,bn,J,_,Y,_,a6,_,hx⟩
 ·obtain rfl:v=.slice none 0 0:=by simpa using J
  exact⟨none,0,0,[],rfl,nl _,rfl,.inl rfl,by simp⟩
 ·obtain rfl:v=.slice (some x) F cap:=by simpa using J
  have bo:F≤a1:=by rw[a6];simp;exact Y
  have Z:∀i,i<F→∃r:Rg,(W.cell? (x.add (i*3))=some (iN r.i)∧W.cell? ((x.add (i*3)).add 1)=some (iN r.o)∧W.cell? ((x.add (i*3)).add 2)=some (iN r.n))∧r.ok:=by
   intro i G;obtain⟨bp,aa,a7⟩:=hx i (by omega);rw[aN]at aa;obtain⟨_,a8,O⟩:=World.cells?_some aa;obtain⟨c0,c1,c2,rfl⟩:=Y8 a8;obtain⟨bs,bu,bv,k,_,_,t0,ab,ad⟩:=trod_struct3 underlying62 a7;rw[Gd]at t0 ab ad;obtain⟨u0,ak,_,ba⟩:=rD underlying3 t0;obtain⟨u1,ao,_,bb⟩:=rD underlying3 ab;obtain⟨u2,ap,_,bd⟩:=rD underlying3 ad;simp at ak ao ap;subst ak ao ap;have H:=O 0 (by omega);have g1:=O 1 (by omega);have I:=O 2 (by omega);exact⟨⟨u0,u1,u2⟩,⟨by simpa [Addr.add]using H,by simpa using g1,by simpa using I⟩,Ga ba,Ga bb,Ga bd⟩
  obtain⟨f,Q⟩:∃f:Nat→Rg,∀i,i<F→(W.cell? (x.add (i*3))=some (iN (f i).i)∧W.cell? ((x.add (i*3)).add 1)=some (iN (f i).o)∧W.cell? ((x.add (i*3)).add 2)=some (iN (f i).n))∧(f i).ok:=by
   refine⟨fun i=>if h:i<F then Classical.choose (Z i h)else⟨0,0,0⟩,fun i G=>?_⟩;simp only[G,dite_true];exact rg (Z i G)
  refine⟨some x,F,cap,(List.range F).map f,rfl,Y,by simp,?_,?_⟩
  ·by_cases be:F=0
   ·subst be;exact .inl rfl
   ·obtain⟨b,R,bf⟩:=x
    have bg:bf=none:=by
     have:=World.cell?_spot (Q 0 (by omega)).1.1;simpa [Addr.add]using this
    subst bg;refine .inr ⟨b,R,rfl,fun k r T=>?_⟩;have az:k<F:=by have:=(nw.1 T).1;simpa using this
    have bi:r=f k:=by simp[az]at T;exact T.symm
    subst bi;obtain⟨⟨H,g1,I⟩,_⟩:=Q k az;have e:((aD b R):Addr).add (k*3)=(aD b (R+k*3)):=by by_cases bk:k*3=0<;>simp[Addr.add,bk]
    rw[e]at H g1 I;exact⟨H,by simpa [Addr.add]using g1,by simpa [Addr.add]using I⟩
  ·intro r bl
   obtain⟨i,G,rfl⟩:=rx.1 bl;exact(Q i (by simpa using G)).2
end RowsIn
end Go.Proofs.YtgppjbhaimmlpaaGreatDoor
