/- Part: Hok Hop Hor Hos Hoq Hot Hou Hov How Hoz Hoy. -/
import Derived.Test.YtchpdmjlicmdaaaGreatDoorDaX
set_option maxRecDepth 100000
set_option maxHeartbeats 16000000
namespace Go.Proofs.YtchpdmjlicmdaaaGreatDoor
open Go.RowKit Go.Maps Go.Proofs.Tryz
variable {G I N b base cap cp db hb j k m n sd zb zo:Nat}{w w':World}{a:Option Addr}{H L:Nat->Option Nat}{Q R:Nat->Pl}{s:BA}{zs:List Int}{v:Value}{α:Type}{S:Nat->Prop}{p:Pl}{x:α}
theorem pY{L:List Int}(h:NR base w (.slice a n cap) L):L.length<=cap/\cap<=9223372036854775807:=by
 rcases h.2 with⟨e,I⟩|⟨g,c,J,e,_,_,G,H,_⟩
 .grind
 .cases e;exact⟨G,by simpa [maxLen]using H⟩
theorem Wf:∀(U:List Int) {D:DataW Unit},IsMap D->∀z,Maps.has (FI D U) (.int .i64 z)=(Maps.has D (.int .i64 z)||decide (z∈U))
 |[],D,_,z=>by simp[FI]
 |x::U,D,hD,z=>by
  rw[show FI D (x::U)=FI (D.put (.int .i64 x)<|.agg []) U from rfl,Wf U (hD.put _ _) z];by_cases e:z=x
  .subst e;rw[has_put_same hD (show WideAt.IsKeyLit (.int .i64 z)from trivial)];simp
  .rw[has_put_other (λq=>e (by cases q;rfl))];simp[e]
def DI(U:List Int)(n:Nat):Nat->List Int
 |0=>[]
 |k+1=>if(DI U n k).length<n/\(200+(k:Int))∉U then DI U n k++[200+(k:Int)]else DI U n k
theorem LZ(U:List Int)(n:Nat):∀k,(DI U n k).length<=n/\(DI U n k).length<=k/\∀z∈DI U n k,(200<=z/\z<200+(k:Int))/\z∉U
 |0=>⟨N7 _,rP _,λz G=>by cases G⟩
 |k+1=>by
  obtain⟨I,J,H⟩:=LZ U n k;rw[DI];split
  .rename_i h
   refine⟨by simp;omega,by simp;omega,λz G=>?_⟩;rcases Cq.1 G with G|G
   .have:=H z G;exact⟨by omega,this.2⟩
   .obtain rfl:=CD.1 G;exact⟨by omega,h.2⟩
  .exact⟨I,by omega,λz G=>⟨by have:=(H z G).1;omega,(H z G).2⟩⟩
theorem jY{U:List Int}(h:(DI U n k).length=n):∀j,DI U n (k+j)=DI U n k:=by intro j;induction j<;>grind [DI]
theorem UI{a1 a6:Nat}{ad:Nat->Option Nat}(h:HK w hb db a1 cp N a6 m L ad)(bs:∀k,Et w (L k)<|Q k)(bu:∀k,Et w (ad k)<|R k)(bx:∀k,Fp w<|Q k)(bA:∀k,Fp w<|R k)(bB:∀k,k<=10->(DK Q R k).length<=1000)(cD:200<=N/\N<=500)(n:Nat)(cF:n<=1000000):
 Calls prog 50 #[.pointer<|some ⟨hb,0,none⟩,.int .i64 n] w λe w'=>(((DI (DK Q R 10) n<|N-200).length<n/\e=.returned (.tuple #[.slice none 0 0,Ao 13])\/∃a cap,e=.returned (.tuple #[.slice a n cap,.nilIface])/\(DI (DK Q R 10) n<|N-200).length=n/\(n<=cap/\cap<=9223372036854775807)/\AV w' a (DI (DK Q R 10) n<|N-200)/\∀p,a=some p->w.heap.size<=p.block))/\Below w.heap.size w w':=by
 obtain⟨bC,bF,bG,bH,bY⟩:=Kr Tryz.infoIn;have b0:=jQ h.box bs bu bx bA bB;have b1:=hid h;obtain⟨U,a7⟩:∃U,Hid<|DK Q R 10=U:=⟨_,rfl⟩;rw[a7.out];go_enter func50,ntmps50;go_wp2_with fail
 go_call b0 as e w2 ⟨rfl,q1,q2,q4⟩
 rw[a7.out]at q4;have ak:=hid q1;have a8:=hid q4;have al:=hid<|UX q4;obtain⟨I,ba⟩:∃I,Hid<|w.heap.size=I:=⟨_,rfl⟩;obtain⟨B,H⟩:∃B,Hid<|w2.heap.size=B:=⟨_,rfl⟩;rw[ba.out]at a8⊢;go_wp2;go_loopw [7,8,9,10,13,14,15,16,17,18,19,20,21,22,23,24,25,26,27,28,29,30,31,32,33,34,35,36,37,38,39] (λu7 u8 _ _ _ _ _ _ _ _ _ _ _ _ _ _ _ _ _ _ _ _ _ _ _ _ _ _ _ _ _ wr=>∃k:Nat,k<=N-200/\u8=iN (200+(k:Int))/\Hid (NR B wr u7<|DI U n k)/\Hid (Below B w2 wr)) (λ_ u8 _ _ _ _ _ _ _ _ _ _ _ _ _ _ _ _ _ _ _ _ _ _ _ _ _ _ _ _ _ _=>(N-200)-(intOf u8-200).toNat)
 case atStart=>exact⟨0,N7 _,rfl,CZ _ _ _ _,NB _ _⟩
 case round=>
  obtain⟨k,c3,rfl,ao,J⟩:=hrel;have bb:Hid<|HK wr hb db a1 cp N a6 m L ad:=(b1.below ak).mv (S:=λ_=>False) (Mv.of (by rw[H.out];exact J)) id id id;have c0:=AG (i:=0) bb.box rfl;obtain⟨c,b2,b4,_⟩:=bb.disk;have bd:=UH b2 N b4;obtain⟨a,cap,rfl,b6⟩:=Nc ao;obtain⟨fl,ap⟩:∃fl,(DI U n k).length=fl:=⟨_,rfl⟩;have G:=hid ap;have ar:=LZ U n k;have b7:wr.ownsRow B 3 1 (.slice a fl cap) fl<|Cp<|DI U n k:=by
   have q:=ao.out;unfold NR at q;rw[ap]at q;exact q
  have Z:=hid b7;rw[ap]at ar⊢;have c4:=ar.1;have c5:=ar.2.1;by_cases b9:k<N-200/\fl<n
  .have aw:decide ((200:Int)+(k:Int)<N)=true:=NY oM
   have c6:decide ((fl:Int)<n)=true:=NY oM;have be:=hid<|Ue a8.out<|J.block I (by have:=al.out;have:=ba.out;have:=H.out;omega);have bf:Maps.has (FI (.map []:DataW Unit) U) (.int .i64<|200+(k:Int))=decide ((200+(k:Int))∈U):=by rw[Wf _ isMap_empty];simp[Maps.has]
   have bg:(Lit.int .i64<|200+(k:Int)).wf=true:=WalkArith.wf_i64 oM;have bi:(wr.alloc<|.cells #[] 150).heap.size=wr.heap.size+1:=ND _ _;have bk:=J.out.size;rw[H.out]at bk;have bl:Hid<|Below B w2<|wr.alloc<|.cells #[] 150:=J.alloc bk _;go_wp2_with fail
   go_call bd as e w' ⟨rfl,rfl⟩
   by_cases ab:(200+(k:Int))∈U
   .have hd:decide ((200+(k:Int))∈U)=true:=NY ab
    rw[hd]at bf;have az:Hid<|NR B (wr.alloc<|.cells #[] 150) (.slice a fl cap)<|DI U n<|k+1:=by
     rw[DI,NO λe=>e.2 ab];have q:=tL Z<|.cells #[] 150;rw[<-G.out]at q;rw[<-G.out];exact q
    go_wp2_with (at_lookup;refine wpList_lookup_own_unit _ rfl _ _ 98 rfl 3 150 Tz underlying98 (ZH _) I _ _ rfl be.out _ _ rfl (keyOf_int_mk underlying3 bg) ?_)
    go_roundw
    case rel=>exact⟨k+1,by omega,by go_num,az,bl⟩
    case measure=>(simp[intOf];try omega)
   .have hd:decide ((200+(k:Int))∈U)=false:=NM ab
    rw[hd]at bf;have ce:∀j u,(Cp [200+(k:Int)])[j]? =some u->((wr.alloc<|.cells #[] 150).alloc<|.cells #[iN<|200+(k:Int)] 3).cell? (((aD (wr.heap.size+1) 0):Addr).add j)=some u:=by rw[<-bi];exact mG _ _ _
    go_wp2_with first|(at_lookup;refine wpList_lookup_own_unit _ rfl _ _ 98 rfl 3 150 Tz underlying98 (ZH _) I _ _ rfl be.out _ _ rfl (keyOf_int_mk underlying3 bg) ?_)|(at_builtin;refine DP ((wr.alloc<|.cells #[] 150).alloc<|.cells #[iN<|200+(k:Int)] 3) rfl (.tmp 36) (.tmp 38) 39 rfl B 3 bC (iN 0) 1 8 underlying39 bF bG bH bY rfl oD _ fl (Cp<|DI U n k) rfl (tL (tL Z _) _) (some<|aD (wr.heap.size+1) 0) 1 1 (Cp [200+(k:Int)]) rfl rfl (.inr ⟨_,rfl,ce⟩) (LP _) (by unfold maxLen;omega) oM (by rw[ND,ND];omega) ?_)
    intro cf bn ch cl c8;have az:Hid<|NR B bn cf<|DI U n<|k+1:=by
     rw[DI,NS ⟨by rw[G.out];exact b9.2,ab⟩];show World.ownsRow ..;rw[N6,G.out,Ow];exact ch
    have co:Hid<|Below B w2 bn:=(bl.alloc (by rw[bi];omega) _).grown cl (by rw[ND,ND];omega) λg e=>(tK Z g e).1;go_wp2;go_roundw
    case rel=>exact⟨k+1,by omega,by go_num,az,co⟩
    case measure=>(simp[intOf];try omega)
  .have O:Hid<|DI U n (N-200)=DI U n k:=by
    show _=_;by_cases e:k=N-200
    .rw[e]
    .have q:=jY (U:=U) (n:=n) (k:=k) (by rw[G.out];omega) (N-200-k)
     rw[<-q];congr 1;omega
   have bo:∀p,a=some p->B<=p.block:=λp e=>(tK Z p.block (by rw[e];rfl)).1;have bp:=hid b6
   have bq:=hid<|pY ao;have aA:Hid<|Below w.heap.size w wr:=ak.trans<|J.mono (by have:=H.out;have:=ak.out.size;omega);go_wp2_with fail
   go_call bd as e w' ⟨rfl,rfl⟩
   by_cases cr:fl<n
   .have aw:decide ((200:Int)+(k:Int)<N)=false:=NM oM
    have cx:decide ((fl:Int)<n)=true:=NY oM;go_wp2;go_ret2;exact⟨.inl ⟨by rw[O.out,G.out];exact cr,rfl⟩,aA⟩
   .have cx:decide ((fl:Int)<n)=false:=NM oM
    obtain rfl:fl=n:=by omega
    by_cases c9:k<N-200
    .have aw:decide ((200:Int)+(k:Int)<N)=true:=NY oM
     go_wp2;go_ret2;exact⟨.inr ⟨a,cap,rfl,by rw[O.out,G.out],by have:=bq.out;have:=G.out;omega,by rw[O.out];exact bp,λp e=>by have:=bo p e;have:=H.out;have:=al.out;omega⟩,aA⟩
    .have aw:decide ((200:Int)+(k:Int)<N)=false:=NM oM
     go_wp2;go_ret2;exact⟨.inr ⟨a,cap,rfl,by rw[O.out,G.out],by have:=bq.out;have:=G.out;omega,by rw[O.out];exact bp,λp e=>by have:=bo p e;have:=H.out;have:=al.out;omega⟩,aA⟩
open Go.Shelf
structure rH (W0:World) (R:World->Prop) (hb:Nat) (s:BA) (x:Int) (nn:Nat) (c0 c1 c2 c3 c4 c5 c6:Bool) (t9 t14 t15 t16 t17 t18 t19:Value) (W:World):Prop where
 f0:c0=true->t14=pO hb 0
 f1:c1=true->t15=iN x
 f2:c2=true->t16=.string s
 f3:c3=true->t17=iN (nn:Int)
 f4:c4=true->t18=.string (s.extract 0 nn)
 q4:c4=true->c2=true/\c3=true
 q5:c5=true->c0=true/\c1=true/\c4=true
 f5:c5=true->t19=.nilIface/\R W
 q6:c6=true->c5=true
 f6:c6=true->t9=.nilIface
 w0:c5=false->W=W0
def ru(W0:World)(R:World->Prop)(hb b3 b5:Nat)(s:BA)(x:Int)(G:Nat)(ap ar aw az aA a1 a6 a7 a8 ba bb bd be bf bg:Value)(bi:Array Bool)(a:Act)(W:World):Prop:=∃(c0 c1 c2 H I J O:Bool) (t9 Z ab ad ak al ao:Value),bi=#[c0,c1,c2,H,I,J,O]/\a=(⟨(ap::ar::aw::(pO b3 0)::az::(pO b5 0)::aA::(iN x)::(iN (G:Int))::t9::a1::a6::a7::a8::Z::ab::ad::ak::al::ao::ba::bb::bd::be::bf::bg::[]).toArray,[]⟩:Act)/\rH W0 R hb s x G c0 c1 c2 H I J O t9 Z ab ad ak al ao W
theorem rx{W0:World}{R:World->Prop}{b3 b5:Nat}{x:Int}(bG:G<=s.size)(_bH:s.size<=1000000)(bi:Ce W0 b3 0<|pO hb 0)(bk:Ce W0 b5 0<|.string s)
 (bo:Calls prog 37 #[pO hb 0,iN x,.string<|s.extract 0 G] W0.drew λe w'=>e=.returned .nilIface/\R w')
 {Q:Exit->Act->World->Prop} {l:Nat} {al ao ap ar aw az aA a1 a6 a7 a8 ba bb bd be t9 H I J O Z ab:Value}
 (bp:∀H I J O Z ab ak,R ak->Q .normal ⟨(al::ao::ap::(pO b3 0)::ar::(pO b5 0)::aw::(iN x)::(iN (G:Int))::.nilIface::az::aA::a1::a6::H::I::J::O::Z::ab::a7::a8::ba::bb::bd::be::[]).toArray,[]⟩ ak):
 (Code.region 4 #[{dst:=some 14,op:=Op.load 25<|Operand.tmp 3,type:=25,pos:= "stand.go:154",after:=#[],guard:=none},{dst:=some 15,op:=Op.move<|Operand.tmp 7,type:=3,pos:= "stand.go:154",after:=#[],guard:=none},{dst:=some 16,op:=Op.load 9<|Operand.tmp 5,type:=9,pos:= "stand.go:154",after:=#[],guard:=none},{dst:=some 17,op:=Op.move<|Operand.tmp 8,type:=3,pos:= "stand.go:154",after:=#[],guard:=none},{dst:=some 18,op:=Op.slice 9 (Operand.tmp 16) none (some<|Operand.tmp 17) none,type:=9,pos:= "stand.go:154",after:=#[{on:=2,ground:=Ground.data},{on:=3,ground:=Ground.data}],guard:=none},{dst:=some 19,op:=Op.call {callee:=Callee.value<|Operand.func 37,args:=#[Operand.tmp 14,Operand.tmp 15,Operand.tmp 18],argTypes:=#[25,3,9]},type:=47,pos:= "stand.go:154",after:=#[{on:=0,ground:=Ground.data},{on:=1,ground:=Ground.data},{on:=4,ground:=Ground.data}],guard:=none},{dst:=some 9,op:=Op.assign<|Operand.tmp 19,type:=47,pos:= "stand.go:154",after:=#[{on:=5,ground:=Ground.data},{on:=5,ground:=Ground.chain},{on:=0,ground:=Ground.phase},{on:=1,ground:=Ground.phase},{on:=2,ground:=Ground.phase},{on:=3,ground:=Ground.phase},{on:=4,ground:=Ground.phase},{on:=5,ground:=Ground.phase}],guard:=none}] true).wpIn (Fence.wide.inRound l) 0 prog Q ⟨(al::ao::ap::(pO b3 0)::ar::(pO b5 0)::aw::(iN x)::(iN (G:Int))::t9::az::aA::a1::a6::H::I::J::O::Z::ab::a7::a8::ba::bb::bd::be::[]).toArray,[]⟩ W0:=by
 have bq:Hid (Calls prog 37 #[pO hb 0,iN x,.string<|s.extract 0 G] W0.drew λe w'=>e=.returned .nilIface/\R w'):=bo;have bs:Hid (∀H I J O Z ab ak,R ak->Q .normal ⟨(al::ao::ap::(pO b3 0)::ar::(pO b5 0)::aw::(iN x)::(iN (G:Int))::.nilIface::az::aA::a1::a6::H::I::J::O::Z::ab::a7::a8::ba::bb::bd::be::[]).toArray,[]⟩ ak):=bp;have bi:Ce W0.drew b3 0<|pO hb 0:=bi;have bk:Ce W0.drew b5 0<|.string s:=bk;refine wpIn_region_any (by rfl) ?_;refine Ox (ru W0.drew R hb b3 b5 s x G al ao ap ar aw az aA a1 a6 a7 a8 ba bb bd be) ?step ?fin _ _ _ _ ?le ?init
 case le=>decide
 case init=>exact⟨_,_,_,_,_,_,_,_,_,_,_,_,_,_,rfl,rfl,⟨oS,oS,oS,oS,oS,oS,oS,oS,oS,oS,λ_=>rfl⟩⟩
 case fin=>
  rintro bu a W ⟨c0,c1,c2,bx,bA,bg,bB,t9,H,I,J,O,Z,ab,rfl,rfl,h⟩ bC;have hd:=RS bC oK rfl;obtain rfl:=h.f6<|hd 6;exact bs _ _ _ _ _ _ W (h.f5<|hd 5).2
 case step=>
  rintro bu a W i ⟨c0,c1,c2,bx,bA,bg,bB,t9,H,I,J,O,Z,ab,rfl,rfl,h⟩ bF;obtain⟨bl,o,bf,hd⟩:=mem_ready.1 bF;have bY:i<7:=(N3.1 bf).1;obtain rfl|rfl|rfl|rfl|rfl|rfl|rfl:i=0\/i=1\/i=2\/i=3\/i=4\/i=5\/i=6:=by omega
  all_goals
   have ad:=bf;simp at bf;subst bf
   simp[Region.binds]at hd bl;subst bl
  .obtain rfl:W=W0.drew:=h.w0 (by cases e:bg with|false=>rfl|true=>have q:=h.q5 e;simp at q)
   refine Dt ad rfl (by intro c;simp) (λr args w'=>?_) ?_<;>go_simp
   exact⟨_,_,_,_,_,_,_,_,_,_,_,_,_,_,rfl,rfl,⟨λ_=>rfl,h.f1,h.f2,h.f3,h.f4,h.q4,(λe=>by have q:=h.q5 e;simp at q),h.f5,h.q6,h.f6,h.w0⟩⟩
  .refine Dt ad rfl (by intro c;simp) (λr args w'=>?_) ?_<;>go_simp
   exact⟨_,_,_,_,_,_,_,_,_,_,_,_,_,_,rfl,rfl,⟨h.f0,λ_=>rfl,h.f2,h.f3,h.f4,h.q4,(λe=>by have q:=h.q5 e;simp at q),h.f5,h.q6,h.f6,h.w0⟩⟩
  .obtain rfl:W=W0.drew:=h.w0 (by cases e:bg with|false=>rfl|true=>have q:=h.q4 (h.q5 e).2.2;simp at q)
   refine Dt ad rfl (by intro c;simp) (λr args w'=>?_) ?_<;>go_simp
   exact⟨_,_,_,_,_,_,_,_,_,_,_,_,_,_,rfl,rfl,⟨h.f0,h.f1,λ_=>rfl,h.f3,h.f4,(λe=>by have q:=h.q4 e;simp at q),h.q5,h.f5,h.q6,h.f6,h.w0⟩⟩
  .refine Dt ad rfl (by intro c;simp) (λr args w'=>?_) ?_<;>go_simp
   exact⟨_,_,_,_,_,_,_,_,_,_,_,_,_,_,rfl,rfl,⟨h.f0,h.f1,h.f2,λ_=>rfl,h.f4,(λe=>by have q:=h.q4 e;simp at q),h.q5,h.f5,h.q6,h.f6,h.w0⟩⟩
  .obtain⟨rfl,rfl⟩:=hd
   obtain rfl:=h.f2 rfl;obtain rfl:=h.f3 rfl;refine Dt ad rfl (by intro c;simp) (λr args w'=>?_) ?_<;>go_simp
   exact⟨_,_,_,_,_,_,_,_,_,_,_,_,_,_,rfl,rfl,⟨h.f0,h.f1,h.f2,h.f3,λ_=>rfl,λ_=>⟨rfl,rfl⟩,(λe=>by have q:=h.q5 e;simp at q),h.f5,h.q6,h.f6,h.w0⟩⟩
  .obtain⟨rfl,rfl,rfl⟩:=hd
   obtain rfl:=h.f0 rfl;obtain rfl:=h.f1 rfl;obtain rfl:=h.f4 rfl;obtain rfl:=h.w0 rfl;refine Dt ad rfl (by intro c;simp) (λr args w'=>?_) ?_<;>go_simp
   go_call bq.out as e w' ⟨rfl,bn⟩
   exact⟨_,_,_,_,_,_,_,_,_,_,_,_,_,_,rfl,rfl,⟨h.f0,h.f1,h.f2,h.f3,h.f4,h.q4,λ_=>⟨rfl,rfl,rfl⟩,λ_=>⟨rfl,bn⟩,(λe=>by have q:=h.q6 e;simp at q),h.f6,(λe=>by cases e)⟩⟩
  .obtain⟨rfl,rfl,rfl,rfl,rfl,rfl,_⟩:=hd
   obtain⟨rfl,bn⟩:=h.f5 rfl;refine Dt ad rfl (by intro c;simp) (λr args w'=>?_) ?_<;>go_simp
   exact⟨_,_,_,_,_,_,_,_,_,_,_,_,_,_,rfl,rfl,⟨h.f0,h.f1,h.f2,h.f3,h.f4,h.q4,h.q5,h.f5,λ_=>rfl,λ_=>rfl,h.w0⟩⟩
attribute [local go_sem] Oper.semAt_some
theorem gp{P:Program}{g:Operand}{I:Array Tmp}{assign body:Code}{Q:Exit->Act->World->Prop}{a:Act}{gf:Nat}{lb:Array Value}
 (ap:a.eval g=.func (.func gf) lb #[]) (ar:∀args w,(callFunc gf args).run P w=.ok (.enter gf args) w)
 (h:∀fn rec,SX rec fn a.tmps I assign body w.heap.size->∀G:World,Below w.heap.size w G->G.heap.size=w.heap.size+1+1->G.heap[w.heap.size+1]? =some (.loop<|rec .ready none)->G.heap[w.heap.size]? =some (.deferred<|some [])->
  CallsIn Fence.wide (n-1) P gf (lb++#[.func (.yield<|w.heap.size+1) #[] #[]]) G λe J=>(∃v,e=.returned v)/\
   ((J.heap[w.heap.size+1]? =some (.loop<|rec .ready none)/\Q .normal {a with defers:={target:=.collected w.heap.size,args:=#[]}::a.defers} (J.putObj (w.heap.size+1)<|.loop<|rec .exhausted none))\/
    ∃c,J.heap[w.heap.size+1]? =some (.loop<|rec .done<|some c)/\c.wpIn Fence.wide n P Q {a with defers:={target:=.collected w.heap.size,args:=#[]}::a.defers} (J.putObj (w.heap.size+1)<|.loop<|rec .exhausted<|some c))):
 (Code.rangeFunc g I assign body).wpIn Fence.wide n P Q a w:=by
 refine wpIn_rangeFunc ?_;intro fn _;obtain⟨rec,H⟩:∃rec:LoopState->Option Code->Loop,rec=λst aw=>{state:=st,pending:=aw,fn,tmps:=a.tmps,params:=I,assign,body,defers:=w.heap.size}:=⟨_,rfl⟩;have ab:((w.alloc<|.deferred<|some []).alloc<|.loop<|rec .ready none).heap.size=w.heap.size+1+1:=by rw[ND,ND]
 have ad:Below w.heap.size w<|(w.alloc<|.deferred<|some []).alloc<|.loop<|rec .ready none:=((NB _ w).alloc (rP _) _).alloc (by rw[ND];omega) _;have ak:((w.alloc<|.deferred<|some []).alloc<|.loop<|rec .ready none).heap[w.heap.size+1]? =some (.loop<|rec .ready none):=by
  have:=World.alloc_heap_new (w.alloc<|.deferred<|some [])<|.loop<|rec .ready none;rwa [ND]at this
 have al:((w.alloc<|.deferred<|some []).alloc<|.loop<|rec .ready none).heap[w.heap.size]? =some (.deferred<|some []):=(ti _ _ _ (by rw[ND];omega)).trans<|World.alloc_heap_new w _;have ao:(Instr.enterLoop fn a.tmps I assign body Fence.wide.round).run P w=.ok (w.heap.size+1,[{target:=.collected w.heap.size,args:=#[]}]) ((w.alloc<|.deferred<|some []).alloc<|.loop<|rec .ready none):=by rw[H];exact run_enterLoop_outer _ _ _ _ _
 obtain⟨G,az⟩:∃G,(w.alloc<|.deferred<|some []).alloc (.loop<|rec .ready none)=G:=⟨_,rfl⟩;rw[az]at ao ab ad ak al
 refine⟨w.heap.size+1,[{target:=.collected w.heap.size,args:=#[]}],G,{target:=.fn (.func gf) #[],args:=lb++#[.func (.yield<|w.heap.size+1) #[] #[]]},G,gf,
  lb++#[.func (.yield<|w.heap.size+1) #[] #[]],G,ao,?_,λaA _=>trivial,?_,λe=>by simp[Fence.wide]at e,?_⟩
 .simp only[resolve,ap]
  simp[go_sem]
 .simp[invoke,go_sem,ar]
 .refine(h fn rec ⟨H⟩ _ ad ab ak al).mono ?_
  rintro e W2 ⟨⟨v,rfl⟩,(⟨O,Z⟩|⟨c,O,Z⟩)⟩
  .exact⟨none,_,by have:=run_endLoop (P:=P) O (by rw[H];simp);rw[H]at this⊢;exact this,Z⟩
  .exact⟨some c,_,by have:=run_endLoop (P:=P) O (by rw[H];simp);rw[H]at this⊢;exact this,Z⟩
theorem eh{W:World}{fr l:Nat}(H:Nat->World->Prop)(ad:∀A,Below W.heap.size W A->H 0 A)(be:fr<N)(bf:N<=cap)(_bg:cap<=9223372036854775807)(bi:n<=1000000)(X:Nat->Int)(ak:∀j A,H j A->∀i,i<N->Ce A zb (zo+i) (iN<|X i))(al:∀i,i<N->0<=X i/\X i<2000)
 (ao:∀j A,H j A->fr+j<N->64*j<n->YieldAt Fence.wide 0 prog l #[iN<|X (fr+j)*64,iN ((min (n-64*j) 64:Nat):Int)] A λe B=>e=.returned (.bool true)/\H (j+1) B):
 CallsIn Fence.wide 0 prog 137 #[.agg #[sL zb zo N cap,iN fr,iN n],.func (.yield l) #[] #[]] W λe B=>(∃v,e=.returned v)/\∃j,H j B:=by
 refine callsIn_of_wp func137 rfl trivial ?_ rfl;simp only[ntmps137,List.size_toArray,R5,RC,Nat.reduceAdd,Nat.reduceSub,tH,tG,List.push_toArray,List.append_toArray,CN,Cd];have ap:Hid<|H 0<|W.alloc<|.cells #[sL zb zo N cap,iN fr,iN n] 72:=ad _<|(NB _ _).alloc (rP _) _;have ar:=hid ao;have aw:=hid ak;have az:=hid al;have f1:(0:Int)<=fr:=by omega
 have f2:(fr:Int)<=N:=by omega
 have f3:fr<=N:=by omega
 have f4:fr<=cap:=by omega
 have f5:¬cap=fr:=by omega
 gi_wp2_with fail
 gi_loopw [4,6,7,16] (λG _ _ i wr=>∃j:Nat,i=iN j/\j<=N-fr/\G=iN ((n-64*j:Nat):Int)/\Hid (H j wr)) (λ_ _ _ i _=>N-fr-(intOf i).toNat)
 case atStart=>exact⟨0,rfl,by omega,rfl,ap⟩
 case round=>
  obtain⟨j,rfl,bk,rfl,J⟩:=hrel;obtain⟨G,Z⟩:∃G,n-64*j=G:=⟨_,rfl⟩;have O:=hid Z;rw[Z];by_cases bl:j<N-fr
  .have aA:decide ((j:Int)<((N-fr:Nat):Int))=true:=NY oM
   have bn:(j:Int)<((N-fr:Nat):Int):=by omega
   have a1:=aw.out j wr J (fr+j) oM;have bo:=az.out (fr+j) oM;rw[<-Nat.add_assoc]at a1;obtain⟨I,a6⟩:∃I,min G 64=I:=⟨_,rfl⟩;have bp:min (G:Int) 64=I:=by omega
   by_cases a7:I=0
   .subst a7
    gi_wp2
    refine⟨λf e=>(by cases e),?_⟩;gi_wp2
    refine NZ (results_none rfl _ _ _) rfl ?_;exact⟨⟨_,rfl⟩,_,J⟩
   .have bq:((I:Int)==0)=false:=by simp;omega
    have ab:=ar.out j wr J oM (by have:=O.out;omega);rw[O.out,a6]at ab;obtain⟨fn,tmps,assign,body,bs,a8⟩:=ab;have ba:=hid a8;have bu:IntKind.i64.wrap (X (fr+j)*64)=X (fr+j)*64:=DQ oM oM;gi_wp2
    refine⟨rfl,RoundIn.mono ba ?_⟩;rintro e bx ⟨rfl,bb⟩;have bd:=hid bb;have bA:IntKind.i64.wrap ((G:Int)-I)=((n-64*(j+1):Nat):Int):=by
     have e:(G:Int)-I=((n-64*(j+1):Nat):Int):=by have:=O.out;omega
     rw[e];exact DQ oM oM
    gi_wp2
    go_roundw
    case rel=>exact⟨j+1,by go_num,by omega,by first|rfl|(congr 1;have:=O.out;omega),bd⟩
    case measure=>(simp[intOf];omega)
  .have aA:decide ((j:Int)<((N-fr:Nat):Int))=false:=NM oM
   gi_wp2
   go_end0
   exact⟨⟨_,rfl⟩,_,J⟩
theorem Mv.put(w:World)(l:Nat)(o:Obj):Mv (λb=>b=l) w<|w.putObj l o:=⟨rfl,rfl,rfl,by rw[World.putObj_size];exact rP _,λ_ _ G=>World.putObj_heap_other G⟩
theorem ex(w:World)(a b c d:Obj):Below w.heap.size w ((((w.alloc a).alloc b).alloc c).alloc d)/\((((w.alloc a).alloc b).alloc c).alloc d).heap.size=w.heap.size+1+1+1+1/\((((w.alloc a).alloc b).alloc c).alloc d).heap[w.heap.size]? =some a/\((((w.alloc a).alloc b).alloc c).alloc d).heap[w.heap.size+1+1]? =some c/\((((w.alloc a).alloc b).alloc c).alloc d).heap[w.heap.size+1+1+1]? =some d:=by
 have I:(w.alloc a).heap.size=w.heap.size+1:=ND _ _;have G:((w.alloc a).alloc b).heap.size=w.heap.size+1+1:=by rw[ND,I]
 have H:(((w.alloc a).alloc b).alloc c).heap.size=w.heap.size+1+1+1:=by rw[ND,G]
 refine⟨((((NB _ w).alloc (rP _) a).alloc oM b).alloc oM c).alloc oM d,by rw[ND,H],?_,?_,?_⟩
 .rw[heap_alloc_old _ _ oM,heap_alloc_old _ _ oM,heap_alloc_old _ _ oM];exact tM w a
 .rw[heap_alloc_old _ _ oM,<-G];exact tM _ c
 .rw[<-H];exact tM _ d
structure rq (W1:World) (hb db rb cp N side m l b2:Nat) (L G:Nat->Option Nat) (s:BA) (lp:Loop) (j:Nat) (X:World):Prop where
 host:∃m',m'<=m+min (64*j) s.size/\HK X hb db rb cp N side m' L G
 mv:Mv (λb=>b=db\/b=rb\/b=b2\/b=l) W1 X
 loop:X.heap[l]? =some (.loop lp)
 str:∃t,X.heap[b2]? =some (.cells #[.string t] 9 (0,0))/\t.size=s.size-64*j
theorem Xr{ab fr:Nat}{ad:Nat->Option Nat}(h:HK w hb db G cp N ab m L ad)(bl:∀i:Nat,i<zs.length->Ce w zb (zo+i) (iN<|zs.getD i 0))(b9:∀z∈zs,0<=z/\z<N)(dz:zb≠db/\zb≠G)(bn:zs.length<=cap/\cap<=9223372036854775807)(ce:fr<zs.length)(dT:m<=800000)(cf:s.size<=50000):
 Calls prog 88 #[pO hb 0,.agg #[sL zb zo zs.length cap,iN fr,iN s.size],.string s] w λe w'=>e=.returned .nilIface/\(∃O,O<=m+s.size/\HK w' hb db G cp N ab O L ad)/\Mv (λb=>b=db\/b=G) w w':=by
 obtain⟨a7,a8,ba,bb,bd⟩:=ex w (.cells #[.pointer<|some ⟨hb,0,none⟩] 25) (.cells #[.slice (some ⟨zb,zo,none⟩) zs.length cap,.int .i64 fr,.int .i64 s.size] 72) (.cells #[.string s] 9)<|.cells #[.nilIface] 47;have ch:=h.lt;have d0:=h.nn;have cl:zb<w.heap.size:=NF w ⟨zb,zo+0,none⟩<|bl 0 oM;refine(ts (n:=0)).1 ?_;refine callsIn_of_wp_marks func88 rfl trivial ?_ rfl;simp only[ntmps88,List.size_toArray,R5,RC,Nat.reduceAdd,Nat.reduceSub,tH,tG,List.push_toArray,List.append_toArray,CN,Cd];gi_wp2_with fail
 generalize(((w.alloc<|.cells #[.pointer<|some ⟨hb,0,none⟩] 25).alloc<|.cells #[.slice (some ⟨zb,zo,none⟩) zs.length cap,.int .i64 fr,.int .i64 s.size] 72).alloc<|.cells #[.string s] 9).alloc (.cells #[.nilIface] 47)=bo at a7 a8 ba bb bd⊢;obtain⟨B,be⟩:∃B,w.heap.size=B:=⟨_,rfl⟩;rw[be]at a7 a8 ba bb bd ch cl⊢;refine gp (gf:=137) (lb:=#[.agg #[.slice (some ⟨zb,zo,none⟩) zs.length cap,.int .i64 fr,.int .i64 s.size]]) rfl (enters_of func137 oK rfl) ?_;intro fn rec co H ak d1 bp cr;have aw:Below B w H:=a7.trans<|ak.mono oM;obtain⟨l,cx⟩:∃l,bo.heap.size+1=l:=⟨_,rfl⟩;rw[cx]at bp⊢;have n0:H.heap[B]? =some (.cells #[.pointer<|some ⟨hb,0,none⟩] 25 (0,0)):=(ak.block B oM).trans ba;have cD:H.heap[B+1+1]? =some (.cells #[.string s] 9 (0,0)):=(ak.block _ oM).trans bb;have cF:H.heap[B+1+1+1]? =some (.cells #[.nilIface] 47 (0,0)):=(ak.block _ oM).trans bd;have c3:∀i:Nat,i<zs.length->H.cell? ⟨zb,zo+i,none⟩=some (.int .i64<|zs.getD i 0):=λi Z=>(aw.cell (p:=⟨zb,zo+i,none⟩) (by show zb<B;omega)).trans<|bl i Z;have bq:∀i,i<zs.length->0<=zs.getD i 0/\zs.getD i 0<N:=λi Z=>b9 _ (by rw[List.getD_eq_getElem?_getD,NA Z];exact List.getElem_mem Z)
 refine(eh (W:=H) (l:=l) (rq H hb db G cp N ab m l (B+1+1) L ad s<|rec .ready none) (λA az=>⟨⟨m,by omega,h.mv (S:=λ_=>False) (Mv.of (by rw[be];exact aw.trans<|az.mono (by have:=aw.size;omega))) id id id⟩,(Mv.of az),(az.block l oM).trans bp,s,(az.block _ oM).trans cD,by omega⟩) ce bn.1 bn.2 oM (λi=>zs.getD i 0) (λj A c4 i Z=>(c4.mv.cell (p:=⟨zb,zo+i,none⟩) (by show zb<H.heap.size;omega) (by show¬(zb=db\/zb=G\/zb=B+1+1\/zb=l);omega)).trans<|c3 i Z) (λi Z=>by have:=bq i Z;omega) ?rounds).mono ?after
 case rounds=>
  rintro j A ⟨⟨O,c5,c6⟩,bs,aA,t,bu,d2⟩ c8 d3;obtain⟨J,c9⟩:∃J,min (s.size-64*j) 64=J:=⟨_,rfl⟩;rw[c9];have da:=bq (fr+j) c8;generalize zs.getD (fr+j) 0=x at da⊢;obtain⟨al,rfl⟩:∃al:Nat,x=al:=⟨x.toNat,by omega⟩;have ao:Mv (λb=>b=l) A<|A.putObj l<|.loop<|rec .busy none:=Mv.put A l _;have bf:Mv (λb=>b=db\/b=G\/b=B+1+1\/b=l) H<|A.putObj l<|.loop<|rec .busy none:=bs.trans<|ao.mono (λk e=>by omega);have d4:B<A.heap.size:=N1 (show B<H.heap.size by omega) bs.size;have bx:(A.putObj l<|.loop<|rec .busy none).cell? ⟨B,0,none⟩=some (.pointer<|some ⟨hb,0,none⟩):=AG ((bf.block B oM oM).trans n0) rfl;have bg:=(ao.block (B+1+1) (Cw bu) oM).trans bu;have bA:(A.putObj l<|.loop<|rec .busy none).cell? ⟨B+1+1,0,none⟩=some (.string t):=AG bg rfl;have bB:HK (A.putObj l<|.loop<|rec .busy none) hb db G cp N ab O L ad:=c6.mv ao oM oM oM;have bi:Hid<|(A.putObj l<|.loop<|rec .busy none).heap[l]? =some (.loop<|rec .busy none):=World.putObj_heap_same<|Cw aA;have dd:=hid aA;refine MK co aA rfl ?_;clear aA;gi_wp2
  refine⟨dd,?_⟩;generalize A.putObj l (.loop<|rec .busy none)=ap at ao bf bx bA bB bi bg⊢;have de:(t.extract 0 J).size=J:=by rw[ByteArray.size_extract];omega
  have C:=MC (bB.mv (S:=λ_=>False) (Mv.refl _ ap).drew id id id) (al*64) (t.extract 0 J) oM oM oM;rw[de,show((al*64:Nat):Int)=(al:Int)*64 by omega]at C;have bC:=hid bg;have dg:J<=t.size:=by omega
  have d5:(J:Int)<=(t.size:Int):=by omega
  gi_wp2
  refine rx (W0:=ap) (R:=λX=>Mv (λb=>b=db\/b=G) ap.drew X/\HK X hb db G cp N ab (O+J) L ad) (hb:=hb) (b3:=B) (b5:=B+1+1) (s:=t) dg oM bx bA (rQ C λe X q=>⟨q.1,q.2.1,q.2.2⟩) ?_;rintro d6 d7 d8 d9 eb ed X ⟨bk,dj⟩;have ee:A.heap.size<=ap.heap.size:=ao.size;have dk:Mv (λb=>b=db\/b=G\/b=B+1+1\/b=l) H X:=bf.trans<|((Mv.refl _ ap).drew).trans<|bk.mono (λk e=>by omega);have a1:X.heap[B+1+1]? =some (.cells #[.string t] 9 (0,0)):=(bk.block (B+1+1) (Cw bC) oM).trans bC;have dm:X.heap[l]? =some (.loop<|rec .busy none):=(bk.block l (Cw bi) oM).trans bi;have bF:X.cell? ⟨B+1+1,0,none⟩=some (.string t):=AG a1 rfl;have dn:X.frozen? ⟨B+1+1,0,none⟩=false:=Cr a1 0;gi_wp2
  obtain⟨u,bG⟩:∃u,t.extract J (s.size-64*j)=u:=⟨_,rfl⟩;have dp:u.size=s.size-64*(j+1):=by rw[<-bG,ByteArray.size_extract];omega
  rw[bG];have bH:(X.setCell ⟨B+1+1,0,none⟩<|.string u).heap[l]? =some (.loop<|rec .busy none):=(Cv _ _ _ _ (by show l≠B+1+1;omega)).trans dm;have bY:Mv (λb=>b=B+1+1\/b=l) X<|(X.setCell ⟨B+1+1,0,none⟩<|.string u).putObj l<|.loop<|rec .ready none:=((Mv.refl (λb=>b=B+1+1\/b=l) X).setCell (p:=⟨B+1+1,0,none⟩) (.inl rfl) _).trans<|(Mv.put _ l _).mono λk e=>.inr e;have dr:((X.setCell ⟨B+1+1,0,none⟩<|.string u).putObj l<|.loop<|rec .ready none).heap[B+1+1]? =some (.cells #[.string u] 9 (0,0)):=((Mv.put _ l _).block _ (by rw[tJ];exact Cw a1) oM).trans<|(Lib.heap_setCell_same (i:=0) a1 _).trans oS;exact⟨bH,rfl,⟨O+J,by omega,dj.mv bY oM oM oM⟩,dk.trans<|bY.mono (λk e=>by omega),World.putObj_heap_same<|Cw bH,u,dr,dp⟩
 case after=>
  rintro e W2 ⟨⟨v,rfl⟩,j,⟨O,c5,ds⟩,du,dw,_⟩;refine⟨⟨_,rfl⟩,.inl ⟨dw,?_⟩⟩;have a6:Mv (λb=>b=db\/b=G\/b=B+1+1\/b=l) H<|W2.putObj l<|.loop<|rec .exhausted none:=du.trans ((Mv.put W2 l _).mono λk e=>.inr<|.inr<|.inr e);have b0:HK (W2.putObj l<|.loop<|rec .exhausted none) hb db G cp N ab O L ad:=ds.mv (Mv.put W2 l _) oM oM oM;generalize W2.putObj l (.loop<|rec .exhausted none)=I at a6 b0⊢;have b1:I.heap[B+1+1+1]? =some (.cells #[.nilIface] 47 (0,0)):=(a6.block _ oM oM).trans cF;have md:I.heap[bo.heap.size]? =some (.deferred<|some []):=(a6.block _ oM oM).trans cr;have bF:I.cell? ⟨B+1+1+1,0,none⟩=some .nilIface:=AG b1 rfl;have dn:I.frozen? ⟨B+1+1+1,0,none⟩=false:=Cr b1 0;rw[a8]at md;gi_wp2
  have dx:(I.setCell ⟨B+1+1+1,0,none⟩ .nilIface).heap[B+1+1+1+1]? =some (.deferred<|some []):=(Cv _ _ _ _ (by show B+1+1+1+1≠B+1+1+1;omega)).trans md;refine⟨by simp,.inl ⟨_,_,rfl,run_takeDeferred dx,?_⟩⟩;have b2:Mv (λb=>B<=b) I<|(I.setCell ⟨B+1+1+1,0,none⟩ .nilIface).putObj (B+1+1+1+1)<|.deferred none:=((Mv.refl (λb=>B<=b) I).setCell (p:=⟨B+1+1+1,0,none⟩) (by show B<=B+1+1+1;omega) _).trans<|(Mv.put _ (B+1+1+1+1) _).mono (λk e=>by omega);have b4:((I.setCell ⟨B+1+1+1,0,none⟩ .nilIface).putObj (B+1+1+1+1)<|.deferred none).cell? ⟨B+1+1+1,0,none⟩=some .nilIface:=(RE<|World.putObj_heap_other (by show B+1+1+1≠B+1+1+1+1;omega)).trans<|N2 _ _ _ bF;have b6:Mv (λb=>b=db\/b=G) w<|(I.setCell ⟨B+1+1+1,0,none⟩ .nilIface).putObj (B+1+1+1+1)<|.deferred none:=by
   have ar:Mv (λb=>b=db\/b=G\/B<=b) w _:=(Mv.of (by rw[be];exact aw)).trans ((a6.mono (λk e=>by have:=ak.size;omega)).trans (b2.mono λk e=>.inr<|.inr e));exact⟨ar.os,ar.tape,ar.output,ar.size,λk dy cf=>ar.block k dy oM⟩
  have b7:=b0.mv b2 oM oM oM;generalize(I.setCell ⟨B+1+1+1,0,none⟩ .nilIface).putObj (B+1+1+1+1) (.deferred none)=ef at b4 b6 b7⊢;exact⟨_,by simp[results,results88,go_sem,b4],rfl,⟨O,by omega,b7⟩,b6⟩
theorem SL{L:List Int}(H:NR base w v L)(h:AV w a zs)(I:∀p,a=some p->zs≠[]->v.ownBlock≠some p.block)(J:L.length<=1000)(O:zs.length<=1000)(hb:base<=w.heap.size)(Z:a=none->zs=[])(ab:zs.length=n):
 Calls prog 93 #[v,.slice a n cap] w λe w'=>∃G,e=.returned G/\NR base w' G (L++(n:Int)::zs)/\Below base w w':=by
 subst ab;exact rQ (iB H h I J O hb Z) λe w' ⟨G,e1,r,g⟩=>⟨G,e1,r,(NB base w).grown g.g hb λad e=>((tK H) ad e).1⟩
theorem cK{u:Value}{L M:List Int}(J:NR I w v L)(G:NR w.heap.size w' u M):∃a cap,u=.slice a M.length cap/\AV w' a M/\(∀p,a=some p->M≠[]->v.ownBlock≠some p.block)/\(a=none->M=[]):=by
 obtain⟨a,cap,rfl,H⟩:=Nc G;refine⟨a,cap,rfl,H,λp O _ e=>?_,λZ=>?_⟩
 .have ab:=(tK J) p.block e
  have ad:=(tK G) p.block (by rw[O];rfl);omega
 .rcases H with e|⟨b,ak,e,_⟩
  all_goals grind
def Ji(b:Nat)(w:World)(v:Value)(k:Nat):Prop:=∃L:List Int,L.length=k/\NR b w v L
theorem Ze{w0:World}(O:Ji base w v k)(h:AV w0 a zs)(Z:Below w0.heap.size w0 w)(ar:k<=800)(aw:zs.length<=100)(hb:w0.heap.size<=base)(ab:base<=w.heap.size):Calls prog 93 #[v,.slice a zs.length cap] w λe w'=>∃G,e=.returned G/\Ji base w' G (k+(1+zs.length))/\Below base w w':=by
 obtain⟨L,ad,I⟩:=O;refine rQ (SL I (h.below Z) (λp e J q=>?_) oM oM ab (λe=>?_) rfl) λe w' ⟨G,e1,r,g⟩=>⟨G,e1,⟨_,by simp[ad];omega,r⟩,g⟩
 .have ak:=(tK I p.block q).1
  rcases h with h|⟨b,al,H,ao⟩
  .exact J h
  .rw[H]at e
   cases e;have ap:=NF _ _<|ao 0<|CC.2 J;simp at ak ap;omega
 .rcases h with h|⟨b,al,H,_⟩
  .exact h
  .rw[e]at H;cases H
theorem YR{w0:World}{u:Value}{M:List Int}(J:Ji base w0 v k)(O:NR w0.heap.size w u M)(ak:M.length<=100)(H:Below w0.heap.size w0 w)(al:k<=800)(hb:base<=w0.heap.size):Calls prog 93 #[v,u] w λe w'=>∃G,e=.returned G/\Ji base w' G (k+(1+M.length))/\Below base w w':=by
 obtain⟨L,Z,I⟩:=J;obtain⟨a,cap,rfl,ab,hd,ad⟩:=cK I O;exact rQ (SL (n:=M.length) (Fy I H) ab hd oM oM (Rz hb H.size) ad rfl) λe w' ⟨G,e1,r,g⟩=>⟨G,e1,⟨_,by simp[Z];omega,r⟩,g⟩
def pq{α:Type}(Q R:Nat->α)(i:Nat):α:=if i<5 then Q i else R (i-5)
structure Cc (w:World) (hb db rb N:Nat) (L G:Nat->Option Nat) (Q R:Nat->Pl):Prop where
 h5:∀k,5<=k->(L k=none/\Q k=EC)/\G k=none/\R k=EC
 q:∀k,Et w (L k)<|Q k
 r:∀k,Et w (G k)<|R k
 ok:∀i,Fp w<|pq Q R i
 nn:200<=N/\N<=500
 top:∀i,∀z∈(pq Q R i).l,z<N
 nd:∀i,(pq Q R i).l.Nodup
 dj:∀i j,i≠j->∀z∈(pq Q R i).l,z∉(pq Q R j).l
 aw:∀i b,pq L G i=some b->b≠hb/\b≠db/\b≠rb
 ap:∀i p,(pq Q R i).a=some p->p.block≠hb/\p.block≠db/\p.block≠rb
theorem P7{Q R:Nat->α}(h:k<5):pq Q R k=Q k:=NS h
theorem I5{Q R:Nat->α}(k:Nat):pq Q R (5+k)=R k:=by grind [pq]
theorem YT(a:Int):∀(n:Nat) (l:List Int),l.Nodup->(∀z∈l,a<=z/\z<a+n)->l.length<=n
 |0,l,_,h=>by
  cases l with
  |nil=>exact rP _
  |cons x l=>have:=h x<|N4 ..;omega
 |n+1,l,hn,h=>by
  have q:=YT a n (l.erase<|a+n) (hn.erase _) (λz G=>by
   obtain⟨I,H⟩:=(hn.mem_erase_iff).1 G;have:=h z H;omega)
  by_cases e:(a+n)∈l
  .rw[List.length_erase_of_mem e]at q;omega
  .rw[List.erase_of_not_mem e]at q;omega
theorem SA{Q R:Nat->Pl}:∀{k:Nat} {z:Int},z∈DK Q R k->∃i,i<k/\z∈(pq Q R i).l
 |0,z,h=>by cases h
 |k+1,z,h=>by
  rw[DK]at h;rcases Cq.1 h with h|h
  .obtain⟨i,H,G⟩:=SA h;exact⟨i,by omega,G⟩
  .refine⟨k,by omega,?_⟩
   unfold pq;split at h
   .rename_i e;rw[NS e];exact h
   .rename_i e;rw[NO e];exact h
theorem nW{z:Int}:∀{k i:Nat},i<k->z∈(pq Q R i).l->z∈DK Q R k:=by intro k i;induction k generalizing i<;>grind [DK,pq]
theorem Cc.usN(h:Cc w hb db G N L H Q R):∀k,(DK Q R k).Nodup
 |0=>List.nodup_nil
 |k+1=>by
  have e:DK Q R (k+1)=DK Q R k++(pq Q R k).l:=by rw[DK];unfold pq;split<;>rfl
  rw[e,List.nodup_append];refine⟨h.usN k,h.nd k,λa I b hb e=>?_⟩;obtain⟨i,O,J⟩:=SA I;exact h.dj i k oM a J<|e▸hb
theorem Cc.usl{H:Nat}{I:Nat->Option Nat}(h:Cc w hb db H N L I Q R)(k:Nat):(DK Q R k).length<=N-200:=by
 have:=h.nn;refine YT 200 _ _ (h.usN k) λz J=>?_;obtain⟨i,_,G⟩:=SA J
 have:=(h.ok i).num z G;have:=h.top i z G;omega
theorem Et.mv{o:Option Nat}(h:Et w o p)(G:Mv S w w')(H:∀b,o=some b->¬S b):Et w' o p:=by
 cases o with
 |none=>exact h
 |some b=>
  have k {i:Nat} {v:Value} (e:Ce w b i v):Ce w' b i v:=(G.cell (p:=(aD b i)) (NF _ _ e)<|H b rfl).trans e;exact⟨k h.1,k h.2.1,k h.2.2⟩
theorem Fp.mv(h:Fp w p)(I:Mv S w w')(J:∀a,p.a=some a->¬S a.block):Fp w' p:=by
 refine⟨?_,h.len,h.num⟩;rcases h.ints with e|⟨b,o,e,G⟩
 .exact .inl e
 .exact .inr ⟨b,o,e,λi H=>(I.cell (p:=(aD b<|o+i)) (NF _ _<|G i H)<|J (aD b o) e).trans<|G i H⟩
theorem Cc.oks(h:Cc w hb db G N L H Q R):(∀k,Fp w<|Q k)/\∀k,Fp w<|R k:=⟨λk=>by
 by_cases e:k<5
 .rw[<-P7 (Q:=Q) (R:=R) e];exact h.ok k
 .rw[(h.h5 k oM).1.2];exact .zero w,λk=>by rw[<-I5 (Q:=Q) (R:=R) k];exact h.ok _⟩
theorem Cc.mv(h:Cc w hb db G N L H Q R)(I:Mv S w w')(J:∀b,S b->b=hb\/b=db\/b=G):Cc w' hb db G N L H Q R:=by
 have O (i b:Nat) (e:pq L H i=some b):¬S b:=λq=>by have:=h.aw i b e;have:=J b q;omega
 refine⟨h.h5,λk=>?_,λk=>(h.r k).mv I λb e=>O (5+k) b (by rw[I5];exact e),λi=>(h.ok i).mv I λa e q=>by have:=h.ap i a e;have:=J _ q;omega,h.nn,h.top,h.nd,h.dj,h.aw,h.ap⟩;by_cases Z:k<5
 .exact(h.q k).mv I λb e=>O k b (by rw[P7 Z];exact e)
 .obtain⟨ab,ad⟩:=(h.h5 k oM).1;rw[ab,ad];rfl
def AK{α:Type}(f:Nat->α)(k:Nat)(x:α)(j:Nat):α:=if j=k then x else f j
theorem PM{f:Nat->α}(h:j≠k):AK f k x j=f j:=NO h
theorem Pz{Q R:Nat->α}{i:Nat}(G:k<5):pq (AK Q k x) R i=AK (pq Q R) k x i:=by grind [pq,AK]
theorem Ps{Q R:Nat->α}{i:Nat}:pq Q (AK R k x) i=AK (pq Q R) (5+k) x i:=by grind [pq,AK]
theorem Cc.put(h:Cc w hb db G N L H Q R){o:Option Nat}(O:Et w o p)(ok:Fp w p)(ad:∀z∈p.l,z<N)(ak:p.l.Nodup)(hd:∀j,j≠k->∀z∈p.l,z∉(pq Q R j).l)(aw:∀b,o=some b->b≠hb/\b≠db/\b≠G)(al:∀a,p.a=some a->a.block≠hb/\a.block≠db/\a.block≠G):
 (k<5->Cc w hb db G N (AK L k o) H (AK Q k p) R)/\(∀j,j<5->k=5+j->Cc w hb db G N L (AK H j o) Q (AK R j p)):=by
 have A {X Y:Nat->Pl} (e:∀i,pq X Y i=AK (pq Q R) k p i):(∀i,Fp w<|pq X Y i)/\(∀i,∀z∈(pq X Y i).l,z<N)/\(∀i,(pq X Y i).l.Nodup)/\(∀i j,i≠j->∀z∈(pq X Y i).l,z∉(pq X Y j).l)/\∀i a,(pq X Y i).a=some a->a.block≠hb/\a.block≠db/\a.block≠G:=by
  refine⟨λi=>?_,λi=>?_,λi=>?_,λi j ao=>?_,λi=>?_⟩<;>rw[e i]<;>unfold AK
  .split;exact ok;exact h.ok i
  .split;exact ad;exact h.top i
  .split;exact ak;exact h.nd i
  .rw[e j];unfold AK
   by_cases ap:i=k
   .grind
   .rw[NO ap]
    by_cases ar:j=k
    .grind
    .rw[NO ar];exact h.dj i j ao
  .split;exact al;exact h.ap i
 have B {X Y:Nat->Option Nat} (e:∀i,pq X Y i=AK (pq L H) k o i):∀i b,pq X Y i=some b->b≠hb/\b≠db/\b≠G:=λi b q=>by
  rw[e i]at q;unfold AK at q;split at q
  .grind
  .exact h.aw i b q
 refine⟨λZ=>?_,λj az I=>?_⟩
 .obtain⟨J,a2,a3,a4,a5⟩:=A (X:=AK Q k p) (Y:=R) λi=>Pz Z
  refine⟨λj I=>⟨by rw[PM oM,PM oM];exact(h.h5 j I).1,(h.h5 j I).2⟩,λj=>?_,h.r,J,h.nn,a2,a3,a4,B λi=>Pz Z,a5⟩;unfold AK;split;exact O;exact h.q j
 .subst I
  obtain⟨J,a2,a3,a4,a5⟩:=A (X:=Q) (Y:=AK R j p) λi=>Ps;refine⟨λi ab=>⟨(h.h5 i ab).1,by rw[PM oM,PM oM];exact(h.h5 i ab).2⟩,h.q,λi=>?_,J,h.nn,a2,a3,a4,B λi=>Ps,a5⟩
  unfold AK;split;exact O;exact h.r i
theorem Cc.drop{H:Nat}{I:Nat->Option Nat}(h:Cc w hb db H N L I Q R):(k<5->Cc w hb db H N (AK L k none) I (AK Q k EC) R)/\(k<5->Cc w hb db H N L (AK I k none) Q (AK R k EC)):=
 have z:∀y∈EC.l,False:=λy G=>by cases G
 have q (i:Nat):=h.put (k:=i) (o:=none) (p:=EC) rfl (.zero w) (λy G=>(z y G).elim) List.nodup_nil (λ_ _ y G=>(z y G).elim) (λb e=>by cases e) (λa e=>by cases e)
 ⟨(q k).1,λJ=>(q<|5+k).2 k J rfl⟩
theorem Vr{H ca rec:Nat}{aa:Option Addr}{LA:List Int}{bG L' G':Nat->Option Nat}{Q' ao:Nat->Pl}(h:HK w hb db H cap N I m L bG)(l:Cc w hb db H N L' G' Q' ao)(a8:∀i:Nat,i<zs.length->Ce w zb (zo+i) (iN<|zs.getD i 0))(bH:∀z∈zs,0<=z/\z<N)(bY:zb≠db/\zb≠H)(b0:zs.length<=cp/\cp<=9223372036854775807)(ba:0<zs.length)(ds:m<=700000)(b1:s.size<=50000)(b2:AV w aa LA)(du:zs.length+LA.length<=330)(dw:rec+3*(1+zs.length+LA.length)<=64*N):
 Calls prog 54 #[pO hb 0,iN rec,.slice aa LA.length ca,.agg #[sL zb zo zs.length cp,iN 0,iN s.size],.string s,.agg<|Cz db I L' G'] w λe w'=>e=.returned .nilIface/\(∃ad,ad<=m+2000+s.size/\HK w' hb db H cap N (1-I) ad L' G'/\Cc w' hb db H N L' G' Q' ao)/\Mv (λb=>b=hb\/b=db\/b=H) w w':=by
 obtain⟨b4,b6,b7,b9,ce⟩:=Kr Tryz.infoIn;have cf:=h.lt;have ch:zb<w.heap.size:=NF w (aD zb<|zo+0)<|a8 0 ba;obtain⟨G,cl,O,J,ap,bb⟩:∃G,Hid ((w.alloc<|.cells #[sL zb zo zs.length cp,iN 0,iN s.size] 72).alloc (.cells (Cz db I L' G') 97)=G)/\Below w.heap.size w G/\G.heap.size=w.heap.size+1+1/\G.heap[w.heap.size]? =some (.cells #[sL zb zo zs.length cp,iN 0,iN s.size] 72 (0,0))/\G.heap[w.heap.size+1]? =some (.cells (Cz db I L' G') 97 (0,0)):=by
  have bd:(w.alloc<|.cells #[sL zb zo zs.length cp,iN 0,iN s.size] 72).heap.size=w.heap.size+1:=ND _ _;exact⟨_,rfl,((NB _ _).alloc (rP _) _).alloc oM _,by rw[ND,bd],(heap_alloc_old _ _ oM).trans<|tM _ _,by rw[<-bd];exact tM _ _⟩
 have co:=l.mv (Mv.of O) (S:=λ_=>False) λ_ e=>e.elim;have cr:=hid co;have cx:=hid<|h.below O;have cD:=hid<|b2.below O;have be:Hid (∀i:Nat,i<zs.length->Ce G zb (zo+i) (iN<|zs.getD i 0)):=λi Z=>Ai O _ _<|a8 i Z;have cF:=hid O
 have dx:=l.nn;go_enter func54,ntmps54;go_upto_region 1 with fail
 rw[cl.out];obtain⟨pb,bf⟩:∃pb,w.heap.size=pb:=⟨_,rfl⟩;have dy:=hid bf;rw[bf]at J ap bb cf ch⊢;have c3:=hid bb;have c4:=hid ap;have p0:Ce G pb 0<|sL zb zo zs.length cp:=AG ap rfl;have bg:Below G.heap.size G<|G.alloc<|.cells #[] 3:=(NB _ _).alloc (rP _) _;have bi:pb+1+1<=(G.alloc<|.cells #[] 3).heap.size:=by rw[ND,J];omega
 have c5:NR (pb+1+1) (G.alloc<|.cells #[] 3) (sL (pb+1+1) 0 0 0) []:=⟨rfl,.inr ⟨pb+1+1,0,#[],rfl,rP _,by rw[<-J];exact tM _ _,rP _,by unfold maxLen;omega,rfl,rfl⟩⟩;have c6:AV (G.alloc<|.cells #[] 3) (some<|aD zb zo) zs:=.inr ⟨zb,zo,rfl,λi Z=>Ai bg _ _<|be i Z⟩;have c8:=hid<|SL c5 c6 (λp e _ q=>by cases e;simp[Value.ownBlock]at q;omega) oS oM bi (λe=>by cases e) rfl (cap:=cp);have c9:=hid bg;go_wp2_with fail
 go_call c8 as e w4 ⟨v4,rfl,r4,q4⟩
 have bk:Hid<|Below (pb+1+1) G w4:=(c9.mono oM).trans q4;have ar:w4.ownsRow (pb+1+1) 3 1 v4 (zs.length+1)<|Cp ((zs.length:Int)::zs):=r4;have da:AV w4 aa LA:=cD.below (by rw[J];exact bk);have bl:(aa=none/\LA.length=0)\/∃ak,aa=some ak/\∀j u,(Cp LA)[j]? =some u->w4.cell? (ak.add j)=some u:=by
  rcases Xf da with q|q|q
  .exact .inl q
  .cases aa with
   |none=>exact .inl ⟨rfl,by rw[q];rfl⟩
   |some ak=>exact .inr ⟨ak,rfl,λj u e=>by rw[q]at e;cases e⟩
  .exact .inr q
 have bn:(Cp LA).length=LA.length*1:=by rw[XT];omega
 have bo:=Rz bi q4.size;go_wp2_with (at_builtin;refine DP w4 rfl (.tmp 19) (.tmp 20) 136 rfl (pb+1+1) 3 b4 (iN 0) 1 8 underlying136 b6 b7 b9 ce rfl oD v4 (zs.length+1) (Cp ((zs.length:Int)::zs)) rfl ar aa LA.length ca (Cp LA) rfl bn bl (LP _) (by unfold maxLen;omega) oM bo ?_)
 intro v5 bp bq bs dd;have bu:NR (pb+1+1) bp v5<|((zs.length:Int)::zs)++LA:=by
  show World.ownsRow ..;rw[Ow,N6,R5];exact bq
 have bx:Hid<|Below (pb+1+1) G bp:=bk.grown bs bo λg e=>((tK ar) g e).1;obtain⟨a5,de,rfl,bA⟩:=Nc bu;obtain⟨aw,az⟩:∃aw,(((zs.length:Int)::zs)++LA).length=aw:=⟨_,rfl⟩;have bB:aw=1+zs.length+LA.length:=by rw[<-az,N6,R5];omega
 have bC:=Vw (cap:=de) bA oM oM;rw[az]at bC⊢;have ab:=hid bB;clear bB ar bq bs dd bu bA bl bn az;go_wp2_with fail
 go_call bC as e w6 ⟨⟨t,rfl,ht⟩,q6⟩
 have bF:Hid<|Below (pb+1+1) G w6:=bx.trans<|q6.mono (by have:=bx.out.size;omega);have dg:=MC (cx.below (by rw[J];exact bF)) rec t (by have:=ab.out;omega) (by have:=ab.out;omega) oM;go_wp2_with fail
 go_call dg as e w7 ⟨rfl,m7,K7⟩
 have aA:Mv (λb=>b=db\/b=H) G w7:=(Mv.of (by rw[J];exact bF)).trans m7;have a1:=(aA.block pb oM oM).trans c4;have p0:Ce w7 pb 0<|sL zb zo zs.length cp:=AG a1 rfl;have p1:Ce w7 pb 1<|iN 0:=AG a1 rfl;have p2:Ce w7 pb 2<|iN s.size:=AG a1 rfl;have dj:=hid (Xr (zb:=zb) (zo:=zo) (cap:=cp) (fr:=0) (zs:=zs) (s:=s) K7 (λi Z=>(aA.cell (p:=(aD zb<|zo+i)) (by show zb<G.heap.size;omega) (by show¬(zb=db\/zb=H);omega)).trans<|be i Z) bH bY b0 ba (by have:=ab.out;omega) b1);have dk:=hid aA;go_wp2_with fail
 go_call dj as e w8 ⟨rfl,⟨ad,hm',K8⟩,m8⟩
 have a6:Mv (λb=>b=hb\/b=db\/b=H) G w8:=(dk.out.trans m8).mono λ_ e=>.inr e;have al:=cr.out.mv a6 λ_ e=>e
 obtain⟨⟨x0,dz,dT,d0,d1,d2,d3,d4,d5,d6,d7,d8,d9⟩,_⟩:=H6<|(a6.block (pb+1) oM oM).trans c3;have dm:=hid<|Ot K8 al.nn.1 (by have:=ab.out;omega) al.q al.r;have dn:=hid al;have dp:=hid a6;have dr:=hid hm';go_wp2_with fail
 go_call dm as e w9 ⟨rfl,K9,m9⟩
 have a7:Hid<|HK w9 hb db H cap N (1-I) (ad+68) L' G'/\Cc w9 hb db H N L' G' Q' ao/\Mv (λb=>b=hb\/b=db\/b=H) w w9:=⟨K9,dn.mv m9 λ_ e=>e,((Mv.of cF).trans dp.out).trans m9⟩;go_wp2;go_ret;exact⟨rfl,⟨_,by have:=dr.out;have:=ab.out;omega,a7.1,a7.2.1⟩,a7.2.2⟩
def Qr(G:Nat->Option Nat)(id:Int)(e:Ending):Prop:=(∃k b:Nat,k<5/\id=k/\G k=some b/\e=.returned (.tuple #[pO b 0,.nilIface]))\/((∀k:Nat,k<5->id=k->G k=none)/\e=.returned (.tuple #[.pointer none,Ao 5]))
theorem Tw{G:Nat->Option Nat}(h:w.heap[b]? =some (.cells (Cz db sd L G) 97 (0,0)))(H:k<5):Ce w b (3+k)<|pV<|L k:=by
 rcases(by omega:k=0\/k=1\/k=2\/k=3\/k=4)with rfl|rfl|rfl|rfl|rfl<;>exact AG h rfl
theorem NT{G:Nat->Option Nat}(h:w.heap[b]? =some (.cells (Cz db sd L G) 97 (0,0)))(H:k<5):Ce w b (8+k)<|pV<|G k:=by
 rcases(by omega:k=0\/k=1\/k=2\/k=3\/k=4)with rfl|rfl|rfl|rfl|rfl<;>exact AG h rfl
theorem nY{ab ad:Nat}{I:Nat->Option Nat}(h:HK w hb db ab cap N ad m L I)(id:Int):
 (Calls prog 39 #[pO hb 0,sL hb 8 5 5,iN id] w λe w'=>Qr I id e/\w=w')/\
 Calls prog 63 #[pO hb 0,sL hb 3 5 5,iN id] w λe w'=>Qr L id e/\w=w':=by
 have J:=hid h;have C:=hid<|RZ h;refine⟨?_,?_⟩;case' refine_1=>go_enter func39,ntmps39
 case' refine_2=>go_enter func63,ntmps63
 all_goals
  go_wp2_with fail
  go_call C as e w' ⟨rfl,rfl⟩
  by_cases O:id<0
  .have ak:decide (id<0)=true:=NY O
   go_wp2;go_ret2;exact⟨.inr ⟨λk G e=>by omega,rfl⟩,rfl⟩
  have ak:decide (id<0)=false:=NM O;by_cases Z:5<=id
  .have al:decide (5<=id)=true:=NY Z
   go_wp2;go_ret2;exact⟨.inr ⟨λk G e=>by omega,rfl⟩,rfl⟩
  have al:decide (5<=id)=false:=NM Z;obtain⟨k,rfl⟩:∃k:Nat,id=k:=⟨id.toNat,by omega⟩;have G:k<5:=by omega
  have cg:=NT J.box G;have H:=Tw J.box G;have ap:(0:Int)<=k:=by omega
  have ar:(k:Int)<5:=by omega
 .cases hg:L k with
  |none=>
   rw[hg]at H;replace H:Ce w hb (3+k)<|.pointer none:=H;go_wp2;go_ret2;exact⟨.inr ⟨λj ao e=>by rw[show j=k by omega];exact hg,rfl⟩,rfl⟩
  |some b=>
   rw[hg]at H;replace H:Ce w hb (3+k)<|pO b 0:=H;go_wp2;go_ret2;exact⟨.inl ⟨k,b,G,rfl,hg,rfl⟩,rfl⟩
 .cases hg:I k with
  |none=>
   rw[hg]at cg;replace cg:Ce w hb (8+k)<|.pointer none:=cg;go_wp2;go_ret2;exact⟨.inr ⟨λj ao e=>by rw[show j=k by omega];exact hg,rfl⟩,rfl⟩
  |some b=>
   rw[hg]at cg;replace cg:Ce w hb (8+k)<|pO b 0:=cg;go_wp2;go_ret2;exact⟨.inl ⟨k,b,G,rfl,hg,rfl⟩,rfl⟩
theorem Kw{J:Nat}{G:Nat->Option Nat}(h:HK w hb db I cap N J m L G)(id:Int):
 (Calls prog 18 #[pO hb 0,iN id] w λe w'=>Qr G id e/\w=w')/\
 Calls prog 27 #[pO hb 0,iN id] w λe w'=>Qr L id e/\w=w':=by
 obtain⟨O,Z⟩:=nY h id;refine⟨?_,?_⟩;case' refine_1=>go_enter func18,ntmps18
 case' refine_2=>go_enter func27,ntmps27
 all_goals
  go_wp2_with fail
  first|(refine rQ O ?_)|(refine rQ Z ?_)
  rintro e w' ⟨H,rfl⟩;have ab:=hid H;rcases H with⟨k,b,_,_,_,rfl⟩|⟨_,rfl⟩
  all_goals
   go_wp2;go_ret2;exact⟨ab,rfl⟩
theorem RJ(w:World)(o:Obj):Mv (λ_=>False) w<|w.alloc o:=(Mv.refl _ _).alloc _
theorem Vg{H:Nat}{O L' G':Nat->Option Nat}{Q' J:Nat->Pl}(h:HK w hb db G cap N H m L O)(Z:m<=800000)(l:Cc w hb db G N L' G' Q' J)(o:Obj):
 Calls prog 38 #[pO hb 0,.agg<|Cz db H L' G'] (w.alloc o) λe w'=>e=.returned .nilIface/\(HK w' hb db G cap N (1-H) (m+68) L' G'/\Cc w' hb db G N L' G' Q' J)/\Mv (λb=>b=hb\/b=db\/b=G) w w':=by
 have I:=l.mv (RJ w o) λ_ e=>e.elim;refine rQ (Ot (h.mv (RJ w o) id id id) l.nn.1 Z I.q I.r) λe w' ⟨ab,e2,e3⟩=>⟨ab,⟨e2,I.mv e3 λ_ e=>e⟩,((RJ w o).mono λ_ e=>e.elim).trans e3⟩
theorem bh{J:Nat}(h:HK w hb db G cap N J m L H)(ab:m<=800000)(l:Cc w hb db G N L H Q R)(id:Int):
 Calls prog 22 #[pO hb 0,iN id] w λe w'=>((∃k:Nat,k<5/\id=k/\e=.returned .nilIface/\HK w' hb db G cap N (1-J) (m+68) L (AK H k none)/\Cc w' hb db G N L (AK H k none) Q (AK R k EC))\/e=.returned (Ao 5)/\HK w' hb db G cap N J m L H/\Cc w' hb db G N L H Q R)/\Mv (λb=>b=hb\/b=db\/b=G) w w':=by
 have ad:=(Kw h id).1;have O:=λ(k:Nat) (I:k<5)=>hid<|Vg h ab<|(l.drop (k:=k)).2 I;have ak:=hid h
 have al:=hid l;obtain⟨⟨ao,ap,ar,aw,az,aA,a1,a6,a7,a8,ba,bb,bd⟩,_⟩:=H6 h.box;go_enter func22,ntmps22;go_wp2_with fail
 go_call ad as e w' ⟨⟨k,b,I,rfl,hg,rfl⟩|⟨hg,rfl⟩,rfl⟩
 .replace O:=O k I
  rcases(by omega:k=0\/k=1\/k=2\/k=3\/k=4)with rfl|rfl|rfl|rfl|rfl
  all_goals
   go_wp2_with fail
   go_call O _ as e w2 ⟨rfl,⟨hk2,hl2⟩,hm2⟩
   have Z:Hid<|_/\_/\_:=⟨hk2,hl2,hm2⟩;go_wp2;go_ret;exact⟨.inl ⟨_,I,rfl,rfl,Z.1,Z.2.1⟩,Z.2.2⟩
 .rw[show Ao 5=.iface 101 (iN 5)from rfl]
  go_wp2;go_ret;exact⟨.inr ⟨rfl,ak,al⟩,Mv.refl _ _⟩
def ZO(F:Nat->Option Nat)(e:Ending):Prop:=(∃k:Nat,k<5/\F k=none/\(∀j,j<k->F j≠none)/\e=.returned (iN k))\/(∀j,j<5->F j≠none)/\e=.returned (iN<|-1)
theorem VO{o:Nat}{F:Nat->Option Nat}(H:∀k,k<5->Ce w b (o+k) (pV<|F k)):
 (Calls prog 49 #[sL b o 5 5,.pointer none] w λe w'=>ZO F e/\w=w')/\
 Calls prog 58 #[sL b o 5 5,.pointer none] w λe w'=>ZO F e/\w=w':=by
 have O:=hid H;clear H;refine⟨?_,?_⟩;case' refine_1=>go_enter func49,ntmps49
 case' refine_2=>go_enter func58,ntmps58
 all_goals
  go_wp2;go_loopw [5,8] (λ_ i wr=>(∃k:Nat,i=iN k/\k<=5/\Hid (∀j,j<k->F j≠none))/\wr=w) (λ_ i _=>5-(intOf i).toNat)
  case atStart=>exact⟨⟨0,rfl,by omega,λj I=>by omega⟩,rfl⟩
  case round=>
   obtain⟨⟨k,rfl,ab,G⟩,rfl⟩:=hrel;by_cases J:k<5
   .have Z:decide ((k:Int)<5)=true:=NY oM
    have ad:(k:Int)<5:=by omega
    have c:=O.out k J;cases hf:F k with
    |none=>
     rw[hf]at c;replace c:Ce wr b (o+k)<|.pointer none:=c;go_wp2;go_ret;exact⟨.inl ⟨k,J,hf,G,rfl⟩,rfl⟩
    |some q=>
     rw[hf]at c;replace c:Ce wr b (o+k)<|pO q 0:=c;have hx:(binOp .eql 68 (.pointer none)<|pO q 0).run prog wr=.ok (.bool false) wr/\(binOp .eql 85 (.pointer none)<|pO q 0).run prog wr=.ok (.bool false) wr:=⟨by kernel_rfl,by kernel_rfl⟩;obtain⟨ak,al⟩:=hx;go_wp2;go_roundw
     case rel=>exact⟨⟨k+1,by go_num,by omega,λj I=>by
      by_cases e:j=k
      .rw[e,hf];exact λe=>by cases e
      .exact G j oM⟩,trivial⟩
     case measure=>(simp[intOf];omega)
   .have Z:decide ((k:Int)<5)=false:=NM oM
    go_wp2;go_ret;exact⟨.inr ⟨λj I=>G j oM,rfl⟩,rfl⟩
theorem UO(k:Nat)(G:k<5)(w:World):
 (Calls prog 60 #[iN k] w λe w'=>e=.returned (iN ((192+k*1216:Nat):Int))/\w=w')/\
 Calls prog 55 #[iN k] w λe w'=>e=.returned (iN ((6272+k*1216:Nat):Int))/\w=w':=by
 have A (j:Nat) (H:j<10):Calls prog 60 #[iN j] w λe w'=>e=.returned (iN ((192+j*1216:Nat):Int))/\w=w':=by
  rcases(by omega:j=0\/j=1\/j=2\/j=3\/j=4\/j=5\/j=6\/j=7\/j=8\/j=9)with rfl|rfl|rfl|rfl|rfl|rfl|rfl|rfl|rfl|rfl
  all_goals
   go_enter func60,ntmps60;go_wp2;go_ret;exact⟨rfl,rfl⟩
 refine⟨A k oM,?_⟩;have B:=A (5+k) oM;rcases(by omega:k=0\/k=1\/k=2\/k=3\/k=4)with rfl|rfl|rfl|rfl|rfl
 all_goals
  go_enter func55,ntmps55;go_wp2_with fail
  go_call B as e w' ⟨rfl,rfl⟩
  go_wp2;go_ret;exact⟨rfl,rfl⟩
theorem qP{r:Bool}{x:Nd}(h:EQ false r x=0):EQ true r x=0:=by
 obtain⟨k,m,u,g,o,rL,d,ks⟩:=x;grind [EQ,Lh]
mutual
theorem Za:∀(x:Nd) (G:Nat),Gy false G x->Gy true G x
 |.mk k m u g o rL d ks,G,h=>by
  rw[Gy]at h⊢;exact⟨h.1,qP h.2.1,X5 ks _ _ h.2.2⟩
theorem X5:∀(ks:Ay) (G:Nat) (p:Option BA),GJ false G p ks->GJ true G p ks
 |[],_,_,_=>by rw[GJ];trivial
 |(n,x)::l,G,p,h=>by
  rw[GJ]at h⊢;exact⟨h.1,h.2.1,Za x _ h.2.2.1,X5 l _ _ h.2.2.2⟩
end
theorem Zq{x:Nd}(h:Dj false x=0):Dj true x=0:=by grind [KN,Za]
theorem pt{x:Nd}(h:Dj false x=0):0<(FM x).size:=by
 unfold FM;rw[NS<|Zq h,Jo];obtain⟨k,m,u,g,o,rL,d,ks⟩:=x;rw[Cy];simp
theorem oT(w:World){G:Nat->Option Nat}(H:j<5)(b:Nat):(w.alloc<|.cells (Cz db sd L G) 97).setCell (aD w.heap.size<|3+j) (pO b 0)=w.alloc (.cells (Cz db sd (AK L j<|some b) G) 97):=by
 rcases(by omega:j=0\/j=1\/j=2\/j=3\/j=4)with rfl|rfl|rfl|rfl|rfl<;>(rw[World.setCell_alloc_new];rfl)
theorem mM(w:World){G:Nat->Option Nat}(H:j<5)(b:Nat):(w.alloc<|.cells (Cz db sd L G) 97).setCell (aD w.heap.size<|8+j) (pO b 0)=w.alloc (.cells (Cz db sd L<|AK G j<|some b) 97):=by
 rcases(by omega:j=0\/j=1\/j=2\/j=3\/j=4)with rfl|rfl|rfl|rfl|rfl<;>(rw[World.setCell_alloc_new];rfl)
theorem pI(w:World)(L I:Nat->Option Nat)(J:j<5)(b:Nat):∃G H,Hid (w.alloc (.cells (Cz db sd L I) 97)=G)/\Hid (G.setCell (aD w.heap.size<|3+j) (pO b 0)=H)/\Ce G w.heap.size (3+j) (pV<|L j)/\G.frozen? (aD w.heap.size<|3+j)=false/\H.heap[w.heap.size]? =some (.cells (Cz db sd (AK L j<|some b) I) 97 (0,0))/\Below w.heap.size w H:=
 ⟨_,_,rfl,oT w J b,Tw (tM w _) J,RB _ _ _ _ rfl,tM w _,(NB _ _).alloc (rP _) _⟩
theorem qj(w:World)(L H:Nat->Option Nat)(J:j<5)(b:Nat):∃G I,Hid (w.alloc (.cells (Cz db sd L H) 97)=G)/\Hid (G.setCell (aD w.heap.size<|8+j) (pO b 0)=I)/\Ce G w.heap.size (8+j) (pV<|H j)/\G.frozen? (aD w.heap.size<|8+j)=false/\I.heap[w.heap.size]? =some (.cells (Cz db sd L<|AK H j<|some b) 97 (0,0))/\Below w.heap.size w I:=
 ⟨_,_,rfl,mM w J b,NT (tM w _) J,RB _ _ _ _ rfl,tM w _,(NB _ _).alloc (rP _) _⟩
abbrev Ke(H G:Nat)(p I J O Z ab ad ak al ao ap ar hb aw:Value)(z s:Int)(w:World):Prop:=(Ce w H 0 p/\Ce w H 1 (iN z)/\Ce w H 2 (iN s))/\Ce w G 0 I/\Ce w G 1 J/\Ce w G 2 O/\Ce w G 3 Z/\Ce w G 4 ab/\Ce w G 5 ad/\Ce w G 6 ak/\Ce w G 7 al/\Ce w G 8 ao/\Ce w G 9 ap/\Ce w G 10 ar/\Ce w G 11 hb/\Ce w G 12 aw
theorem Ke.mv{H:Nat}{p I J O Z ab ad ak al ao ap ar hb aw:Value}{z s:Int}(h:Ke G H p I J O Z ab ad ak al ao ap ar hb aw z s w)(az:Mv S w w')(q1:¬S G)(q2:¬S H):Ke G H p I J O Z ab ad ak al ao ap ar hb aw z s w':=by
 have k {b i:Nat} {v:Value} (hb:¬S b) (e:Ce w b i v):Ce w' b i v:=(az.cell (p:=(aD b i)) (NF _ _ e) hb).trans e;grind
end Go.Proofs.YtchpdmjlicmdaaaGreatDoor
