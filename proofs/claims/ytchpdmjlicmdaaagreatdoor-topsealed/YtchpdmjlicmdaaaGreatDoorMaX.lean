/- Part: Ma Mb Ac Sh Ae Af Ag Wa Wb Nn Wi Wm Mc. -/
import Derived.Test.YtchpdmjlicmdaaaGreatDoorApX
import Derived.RangeFuncNested
import Derived.RangeFuncBound
import Derived.Shelf.RegionOpen
import Derived.OwnWalkIn
import Derived.LoopNIn
import Derived.LoopIn
import Derived.Shelf.Strings.Search2
import Derived.Lib.CutLaws
import Derived.Deep.RegionHeld3
import Derived.Lib.AppendZeros
set_option maxRecDepth 100000
set_option maxHeartbeats 16000000
namespace Go.Proofs.YtchpdmjlicmdaaaGreatDoor
open Go.RowKit Go.Proofs.Tryz
variable {P:Program}{b base k n size:Nat}{w w':World}{g m u:Int}{x:Nd}{h:Hd}{c:AR}{o:Bool}{rL:List Kv}{d:BA}{ks:Ay}{e:TypeId}{xs:List Value}{p:BA->Bool}
structure SX (rec:LoopState->Option Code->Loop) (fn:FuncId) (tmps:Array Value) (ps:Array Tmp) (assign body:Code) (D:Nat):Prop where
 out:rec=λst pe=>{state:=st,pending:=pe,fn,tmps,params:=ps,assign,body,defers:=D}
def qF(l:Nat)(rec:LoopState->Option Code->Loop)(R:Ending->World->Prop):Exit->Act->World->Prop
 |.normal,_,W=>W.heap[l]? =some (.loop<|rec .busy none)/\R (.returned<|.bool true) (W.putObj l<|.loop<|rec .ready none)
 |.ret,_,W=>W.heap[l]? =some (.loop<|rec .busy none)/\R (.returned<|.bool false) (W.putObj l<|.loop<|rec .done<|some .ret)
 |.exit id,_,W=>W.heap[l]? =some (.loop<|rec .busy none)/\R (.returned<|.bool false) (W.putObj l<|.loop<|rec .done<|some<|.exit id)
 |.goto t,_,W=>W.heap[l]? =some (.loop<|rec .busy none)/\R (.returned<|.bool false) (W.putObj l<|.loop<|rec .done<|some<|.goto t)
 |.panic _,_,_=>False
 |.outgrown,_,_=>False
theorem MK{rec:LoopState->Option Code->Loop}{fn:FuncId}{tmps:Array Value}{Z:Array Tmp}{assign body:Code}{D:Nat}(ad:SX rec fn tmps Z assign body D){l:Nat}{W:World}{args:Array Value}{R:Ending->World->Prop}
 (ak:W.heap[l]? =some (.loop<|rec .ready none)) (al:args.size=Z.size)
 (h:assign.wpIn (Fence.wide.inRound l) n P (Exit.then (λa w=>w.heap[l]? =some (.loop<|rec .ready none)/\body.wpIn (Fence.wide.inRound l) n P (qF l rec R) a (w.putObj l<|.loop<|rec .busy none)) λ_ _ _=>False)
  {tmps:=(Z.zip args).foldl (λt (p,v)=>t.setIfInBounds p v) tmps,defers:=[]} W):YieldAt Fence.wide n P l args W R:=by
 have I:=ad.out;have ab:=run_yield (P:=P) (args:=args) ak (by rw[I];exact al);rw[I]at ab;refine⟨fn,_,assign,body,ab,roundIn_of_wpIn trivial<|wpIn_mono h ?_⟩;intro e a w G;cases e with
 |normal=>
  obtain⟨ao,ap⟩:=G;refine⟨_,run_beginRound ao<|by rw[I],?_⟩;have ar:({rec .ready none with state:=.busy}:Loop)=rec .busy none:=by rw[I]
  rw[ar];refine wpIn_mono ap ?_;have J:∀(H:Option Code) (O:World),O.heap[l]? =some (.loop<|rec .busy none)->(Instr.endRound l H).run P O=.ok (.bool H.isNone) (O.putObj l<|.loop<|rec (if H.isNone then .ready else .done) H):=λH O aw=>by
   have:=run_endRound (P:=P) H aw;rw[I]at this⊢;exact this
  intro e a w G;cases e with
  |normal=>exact⟨_,_,J none w G.1,G.2⟩
  |ret=>exact⟨_,_,J (some .ret) w G.1,G.2⟩
  |exit id=>exact⟨_,_,J (some<|.exit id) w G.1,G.2⟩
  |goto t=>exact⟨_,_,J (some<|.goto t) w G.1,G.2⟩
  |panic c=>exact G.elim
  |outgrown=>exact G.elim
 |ret=>exact G.elim
 |exit id=>exact G.elim
 |goto t=>exact G.elim
 |panic c=>exact G.elim
 |outgrown=>exact G.elim
theorem O7{g:Operand}{I:Array Tmp}{assign body:Code}{Q:Exit->Act->World->Prop}{a:Act}{gf:Nat}{lb:Array Value}
 (ap:a.eval g=.func (.func gf) #[] lb) (ar:∀args w,(callFunc gf args).run P w=.ok (.enter gf args) w)
 (h:∀fn rec,SX rec fn a.tmps I assign body w.heap.size->∀G:World,Below w.heap.size w G->G.heap.size=w.heap.size+1+1->G.heap[w.heap.size+1]? =some (.loop<|rec .ready none)->G.heap[w.heap.size]? =some (.deferred<|some [])->
  CallsIn Fence.wide (n-1) P gf (#[.func (.yield<|w.heap.size+1) #[] #[]]++lb) G λe J=>(∃v,e=.returned v)/\
   ((J.heap[w.heap.size+1]? =some (.loop<|rec .ready none)/\Q .normal {a with defers:={target:=.collected w.heap.size,args:=#[]}::a.defers} (J.putObj (w.heap.size+1)<|.loop<|rec .exhausted none))\/
    ∃c,J.heap[w.heap.size+1]? =some (.loop<|rec .done<|some c)/\c.wpIn Fence.wide n P Q {a with defers:={target:=.collected w.heap.size,args:=#[]}::a.defers} (J.putObj (w.heap.size+1)<|.loop<|rec .exhausted<|some c))):
 (Code.rangeFunc g I assign body).wpIn Fence.wide n P Q a w:=by
 refine wpIn_rangeFunc ?_;intro fn _;obtain⟨rec,H⟩:∃rec:LoopState->Option Code->Loop,rec=λst aw=>{state:=st,pending:=aw,fn:=fn,tmps:=a.tmps,params:=I,assign:=assign,body:=body,defers:=w.heap.size}:=⟨_,rfl⟩;have ab:((w.alloc<|.deferred<|some []).alloc<|.loop<|rec .ready none).heap.size=w.heap.size+1+1:=by rw[ND,ND]
 have ad:Below w.heap.size w<|(w.alloc<|.deferred<|some []).alloc<|.loop<|rec .ready none:=bN.alloc (by rw[ND];omega) _;have ak:((w.alloc<|.deferred<|some []).alloc<|.loop<|rec .ready none).heap[w.heap.size+1]? =some (.loop<|rec .ready none):=by
  have:=World.alloc_heap_new (w.alloc<|.deferred<|some [])<|.loop<|rec .ready none;rwa [ND]at this
 have al:((w.alloc<|.deferred<|some []).alloc<|.loop<|rec .ready none).heap[w.heap.size]? =some (.deferred<|some []):=(ti _ _ _ (by rw[ND];omega)).trans<|World.alloc_heap_new w _;have ao:(Instr.enterLoop fn a.tmps I assign body Fence.wide.round).run P w=.ok (w.heap.size+1,[{target:=.collected w.heap.size,args:=#[]}]) ((w.alloc<|.deferred<|some []).alloc<|.loop<|rec .ready none):=by rw[H];exact run_enterLoop_outer _ _ _ _ _
 obtain⟨G,az⟩:∃G,(w.alloc<|.deferred<|some []).alloc (.loop<|rec .ready none)=G:=⟨_,rfl⟩;rw[az]at ao ab ad ak al
 refine⟨w.heap.size+1,[{target:=.collected w.heap.size,args:=#[]}],G,{target:=.fn (.func gf) lb,args:=#[.func (.yield<|w.heap.size+1) #[] #[]]},G,gf,
  #[.func (.yield<|w.heap.size+1) #[] #[]]++lb,G,ao,?_,λaA _=>trivial,?_,λe=>by simp[Fence.wide]at e,?_⟩
 .simp only[resolve,ap]
  simp[go_sem]
 .simp[invoke,go_sem,ar]
 .refine(h fn rec ⟨H⟩ _ ad ab ak al).mono ?_
  rintro e W2 ⟨⟨v,rfl⟩,(⟨O,Z⟩|⟨c,O,Z⟩)⟩
  .exact⟨none,_,by have:=run_endLoop (P:=P) O (by rw[H];simp);rw[H]at this⊢;exact this,Z⟩
  .exact⟨some c,_,by have:=run_endLoop (P:=P) O (by rw[H];simp);rw[H]at this⊢;exact this,Z⟩
open Go.Shelf
attribute [local go_sem] Oper.semAt_some
structure Sp where
 b:Nat
 p:Nat
 ly:Nat
 x:Nd
 h:Hd
def Sp.v(s:Sp):Value:=.agg #[pO s.b s.p,iN s.ly]
def Sp.pr(s:Sp):Nd×Nat:=(s.x,s.ly)
def C8(c:AR)(s:Sp):Prop:=A9 c s.b s.p s.x s.h/\Am c s.x s.h
theorem C8.below{s:Sp}(h:C8 w.cell? s)(hb:Below w.heap.size w w'):C8 w'.cell? s:=⟨h.1.below hb,h.2.ab hb⟩
def QE(gf:Nat)(lb:Array Value)(n₀:Nat)(w:World)(T:List Sp):Prop:=
 ∀(l:Nat) (G:Nat->World->Prop) (H:World->Prop) (W:World),Below n₀ w W->(∀i A B,G i A->Below A.heap.size A B->G i B)->
  (∀i s A,T[i]? =some s->G i A->YieldAt Fence.wide 0 prog l #[s.v] A λe B=>(e=.returned (.bool true)/\G (i+1) B/\Below n₀ A B)\/(e=.returned (.bool false)/\H B))->
  G 0 W->CallsIn Fence.wide 0 prog gf (#[.func (.yield l) #[] #[]]++lb) W λe B=>(∃v,e=.returned v)/\(G T.length B\/H B)
theorem bX(G n₀:Nat)(a:Option Addr)(cap:Nat)(T:List Sp)(w:World)(I:G<n₀)(_hn:n₀<=w.heap.size)(ad:w.cell? (aD G 0)=some (.slice a T.length cap))(ak:T.length<=1000)
 (al:∀i s,T[i]? =some s->∃b H,a=some (aD b H)/\s.b=b/\s.p=H+i*8/\s.ly=i):
 QE 194 #[pO G 0] n₀ w T:=by
 intro l ao bn W ap bo ar aw;have J:=(ap.cell (p:=(aD G 0)) I).trans ad;show CallsIn Fence.wide 0 prog 194 #[.func (.yield l) #[] #[],pO G 0] W _;refine callsIn_of_wp func194 rfl trivial ?_ rfl;simp only[ntmps194,List.size_toArray,R5,RC,Nat.reduceAdd,Nat.reduceSub,tH,tG,List.push_toArray,List.append_toArray,CN,Cd];have az:Hid _:=ar;have aA:Hid _:=al;obtain⟨N,O⟩:=Aq T.length;rw[O.out]at J ak⊢;gi_wp2
 gi_loopw [3,6] (λ_ i wr=>∃j:Nat,j<=N/\i=iN j/\ao j wr/\Ce wr G 0 (.slice a N cap)) (λ_ i _=>N-(intOf i).toNat)
 case atStart=>exact⟨0,N7 _,rfl,aw,J⟩
 case round=>
  obtain⟨j,bp,rfl,Z,a1⟩:=hrel;by_cases a6:j<N;rotate_left
  .have a7:decide ((j:Int)<(N:Int))=false:=NM oM
   gi_wp2
   go_end0
   exact⟨⟨_,rfl⟩,.inl (by rw[show N=j by omega];exact Z)⟩
  .obtain⟨s,ab⟩:∃s,T[j]? =some s:=⟨_,NA (by rw[O.out];exact a6)⟩
   obtain⟨b,H,rfl,a8,ba,bb⟩:=aA j s ab;obtain⟨fn,tmps,assign,body,bd,be⟩:=az j s wr ab Z;rw[Sp.v,a8,ba,bb]at bd;have a7:decide ((j:Int)<(N:Int))=true:=NY oM;have bf:Hid _:=be;gi_wp2
   refine⟨rfl,RoundIn.mono bf ?_⟩;rintro e bq (⟨rfl,bg,bi⟩|⟨rfl,bk⟩)
   .have bl:=(bi.cell (p:=(aD G 0)) I).trans a1
    gi_wp2
    go_roundw
    case rel=>exact⟨j+1,by omega,by go_num,bg,bl⟩
    case measure=>(simp[intOf];try omega)
   .gi_wp2
    refine NZ (results_none rfl _ _ _) rfl ?_;exact⟨⟨_,rfl⟩,.inr bk⟩
theorem BI{a b:Bool}(h:a=b):Ending.returned (.bool a)=.returned (.bool b):=by rw[h]
theorem ku(n:Int)(w:World):Calls prog 235 #[.int .u8 n] w λe w'=>e=.returned (.bool<|Iz n)/\w=w':=by
 by_cases I:97<=n/\n<=122
 .have J:decide (97<=n)=true:=by simpa using I.1
  have al:decide (n<=122)=true:=by simpa using I.2
  go_enter func235,ntmps235;go_wp2;go_ret;exact⟨BI<|by simp[Iz,J,al],rfl⟩
 .by_cases O:48<=n/\n<=57
  .have J:decide (97<=n)=false:=by simp;omega
   have ao:decide (48<=n)=true:=by simpa using O.1
   have ap:decide (n<=57)=true:=by simpa using O.2
   go_enter func235,ntmps235;go_wp2;go_ret;exact⟨BI<|by simp[Iz,ao,ap],rfl⟩
  .have ar:Iz n=((n==46||n==95)||n==45):=by
    unfold Iz;have G:(decide (97<=n)&&decide (n<=122))=false:=by simp;omega
    have H:(decide (48<=n)&&decide (n<=57))=false:=by simp;omega
    rw[G,H];simp
   have HK:=hid ar;obtain⟨Z,G⟩:∃t,decide (97<=n)=t:=⟨_,rfl⟩;obtain⟨ab,H⟩:∃t,decide (48<=n)=t:=⟨_,rfl⟩;obtain⟨t3,aw⟩:∃t,(n==46)=t:=⟨_,rfl⟩;obtain⟨t4,az⟩:∃t,(n==95)=t:=⟨_,rfl⟩;have ad:Z=true->decide (n<=122)=false:=by intro h;subst h;simp at G⊢;omega
   have ak:ab=true->decide (n<=57)=false:=by intro h;subst h;simp at H⊢;omega
   have aA:Hid<|Iz n=((t3||t4)||n==45):=by show _=_;rw[HK.out,aw,az]
   cases Z<;>cases ab<;>cases t3<;>cases t4
   all_goals
    try replace ad:=ad rfl
    try replace ak:=ak rfl
    go_enter func235,ntmps235;go_wp2;go_ret;exact⟨BI (by rw[aA.out];simp),rfl⟩
theorem JZ(s:BA):s.data.toList.length=s.size:=by rw[Array.length_toList];rfl
theorem Wq(s:BA)(k:Nat)(h:k<s.size):s.data.toList[k]? =some s[k]:=by
 have:k<s.data.size:=h;rw[Array.getElem?_toList,Array.getElem?_eq_getElem this];rfl
theorem kH{f:UInt8->Bool}{l:List UInt8}{b:UInt8}(hb:l[k]? =some b)(h:(l.take k).all f=true)(G:f b=true):(l.take<|k+1).all f=true:=by grind [CO]
theorem lX{f:UInt8->Bool}{l:List UInt8}{b:UInt8}(hb:l[k]? =some b)(G:f b=false):l.all f=false:=by grind
theorem Iw(s:BA)(w:World):Calls prog 192 #[.string s] w λe w'=>e=.returned (.bool<|Bf s)/\w=w':=by
 have G:Hid (Bf s=(((((!s.toList.isEmpty)&&decide (s.size<=12))&& !(s.toList==[46]))&& !(s.toList==[46,46]))&&s.data.toList.all (λb=>Iz (b.toNat:Int)))):=by
  show _=_;unfold Bf J3;rw[JZ,tz]
 obtain⟨Z,ab⟩:∃t,s.toList.isEmpty=t:=⟨_,rfl⟩;rw[ab]at G;cases Z;rotate_left
 .go_enter func192,ntmps192
  go_wp2;go_ret;exact⟨BI (by rw[G.out];simp),rfl⟩
 by_cases az:12<s.size
 .have ad:decide (12<(s.size:Int))=true:=by simp;omega
  go_enter func192,ntmps192;go_wp2;go_ret;exact⟨BI (by rw[G.out];simp;omega),rfl⟩
 have ad:decide (12<(s.size:Int))=false:=by simp;omega
 have ak:Hid<|decide (s.size<=12)=true:=by show _=_;simp;omega
 rw[ak.out]at G;obtain⟨al,ao⟩:∃t,(s.toList==[46])=t:=⟨_,rfl⟩;rw[ao]at G;cases al;rotate_left
 .go_enter func192,ntmps192
  go_wp2;go_ret;exact⟨BI (by rw[G.out];simp),rfl⟩
 obtain⟨t3,ap⟩:∃t,(s.toList==[46,46])=t:=⟨_,rfl⟩;rw[ap]at G;cases t3;rotate_left
 .go_enter func192,ntmps192
  go_wp2;go_ret;exact⟨BI (by rw[G.out];simp),rfl⟩
 have I:Hid (Bf s=s.data.toList.all (λb=>Iz (b.toNat:Int))):=by show _=_;rw[G.out];simp
 go_enter func192,ntmps192;go_wp2;go_loop [21] (λi=>∃k:Nat,k<=s.size/\i=iN k/\Hid ((s.data.toList.take k).all (λb=>Iz (b.toNat:Int))=true)) (λi=>s.size-(intOf i).toNat)
 case atStart=>exact⟨0,N7 _,rfl,rfl⟩
 case round=>
  obtain⟨k,aA,rfl,J⟩:=hrel;by_cases ar:k<s.size
  .have O:Hid<|s.data.toList[k]? =some s[k]:=Wq s k ar
   obtain⟨t,aw⟩:∃t,Iz (s[k].toNat:Int)=t:=⟨_,rfl⟩;have H:=hid aw;go_wp2_with fail
   go_call ku _ _ as e w' ⟨rfl,rfl⟩
   rw[H.out];cases t
   .go_wp2
    go_ret;exact⟨BI (by rw[I.out];exact(lX O.out H.out).symm),rfl⟩
   .go_wp2
    go_round
    case rel=>exact⟨k+1,by omega,by go_num,kH O.out J.out H.out⟩
    case measure=>simp[intOf];omega
  .go_wp2
   go_ret;have:=J.out;rw[R3 (by rw[JZ];omega)]at this;exact⟨BI<|by rw[I.out,this],rfl⟩
def Tryz.lays219_ren:Go.Shelf.Ren:=⟨λ|219=>269|217=>277|225=>278|224=>279|267=>280|266=>284|314=>285|n=>n,λ|9=>9|3=>3|4=>4|5=>5|46=>231|146=>350|51=>291|n=>n,λ|1=>1|n=>n⟩
theorem Tryz.lays219:Go.Proofs.Lays.n219 prog Tryz.lays219_ren:={
 mixed:=by kernel_rfl
 f217:=func277.trans<|RX some<|by kernel_rfl
 f219:=func269.trans<|RX some<|by kernel_rfl
 f224:=func279.trans<|RX some<|by kernel_rfl
 f225:=func278.trans<|RX some<|by kernel_rfl
 f266:=func284.trans<|RX some<|by kernel_rfl
 f267:=func280.trans<|RX some<|by kernel_rfl
 f314:=func285.trans<|RX some<|by kernel_rfl
 t3:=underlying3
 a3:=Tryz.isAgg3
 z3:=Tryz.sizeOf3
 v3:=Tryz.zeroValue3
 t4:=underlying4
 a4:=Tryz.isAgg4
 z4:=Tryz.sizeOf4
 v4:=Tryz.zeroValue4
 t5:=underlying5
 a5:=Tryz.isAgg5
 z5:=Tryz.sizeOf5
 v5:=Tryz.zeroValue5
 t9:=underlying9
 a9:=Tryz.isAgg9
 z9:=Tryz.sizeOf9
 v9:=Tryz.zeroValue9
 t46:=underlying231
 a46:=Tryz.isAgg231
 z46:=Tryz.sizeOf231
 v46:=Tryz.zeroValue231
 t51:=underlying291
 a51:=Tryz.isAgg291
 z51:=Tryz.sizeOf291
 v51:=Tryz.zeroValue291
 t146:=underlying350
 a146:=Tryz.isAgg350
 z146:=Tryz.sizeOf350
 v146:=Tryz.zeroValue350
 g1:=by kernel_rfl}
open Go.RowKit Go.Lib in
theorem Tryz.stringslite_Index_one(s:BA)(c:UInt8)(w:World):
 Calls prog 269 #[.string s,.string ⟨#[c]⟩] w λe w'=>e=.returned (.int .i64<|Lib.indexByte s.data.toList c)/\w'=w:=Any.stringslite_Index_one Tryz.lays219 s c w
theorem DQ{x:Int}(G:-9223372036854775808<=x)(H:x<=9223372036854775807):IntKind.i64.wrap x=x:=by
 simp[IntKind.wrap,IntKind.signed,IntKind.bits];omega
def J4(s:BA):BA:=⟨(Lib.cut s.data.toList [46]).1.toArray⟩
def KR(s:BA):BA:=⟨(Lib.cut s.data.toList [46]).2.1.toArray⟩
def Qi(s:BA):Bool:=(Lib.cut s.data.toList [46]).2.2
theorem iJ(s:BA)(w:World)(ap:s.size<=1000):Calls prog 252 #[.string s,.string ⟨#[46]⟩] w λe w'=>e=.returned (.tuple #[.string<|J4 s,.string<|KR s,.bool<|Qi s])/\∃n,w'=w.drewN n:=by
 have al:=(Lib.index_one s.data.toList 46).symm;have ak:=hid al;rcases Lib.indexB_cases s ⟨#[46]⟩with G|⟨i,G,ao⟩
 .obtain⟨H,I,J⟩:=Lib.cutB_miss s ⟨#[46]⟩ G
  have O:Hid<|J4 s=s:=H;have Z:Hid<|KR s=ByteArray.empty:=I;have ab:Hid<|Qi s=false:=J;have ad:=hid<|ak.trans G;go_enter func252,ntmps252;go_wp2_with fail
  go_call Tryz.stringslite_Index_one _ _ _ as e w' ⟨rfl,rfl⟩
  rw[ad.out];go_wp2;go_ret3
  exact⟨by rw[O.out,Z.out,ab.out];rfl,0,rfl⟩
 .obtain⟨H,I,J⟩:=Lib.cutB_hit s ⟨#[46]⟩ i G
  have O:Hid<|J4 s=s.extract 0 i:=H;have Z:Hid<|KR s=s.extract (i+1) s.size:=I;have ab:Hid<|Qi s=true:=J;have ad:=hid<|ak.trans G;have ar:i+1<=s.size:=ao;have c1:(0:Int)<=↑i:=by omega
  have c2:(↑i:Int)<=↑s.size:=by omega
  have aw:(0:Int)<=↑i+1:=by omega
  have az:(↑i+1:Int)<=↑s.size:=by omega
  have aA:IntKind.i64.wrap (↑i+1)=↑i+1:=DQ oM oM;go_enter func252,ntmps252;go_wp2_with fail
  go_call Tryz.stringslite_Index_one _ _ _ as e w' ⟨rfl,rfl⟩
  rw[ad.out];go_wp2;go_quiet (fail)
  go_wp2;go_ret3
  exact⟨by rw[O.out,Z.out,ab.out];rfl,_,rfl⟩
theorem Pf(s:BA)(w:World)(G:s.size<=1000):Calls prog 213 #[.string s,.string ⟨#[46]⟩] w λe w'=>e=.returned (.tuple #[.string<|J4 s,.string<|KR s,.bool<|Qi s])/\∃n,w'=w.drewN n:=by
 go_enter func213,ntmps213;go_wp2_with fail
 go_call iJ s _ G as e w' ⟨rfl,n,rfl⟩
 go_wp2;go_ret3
 exact⟨rfl,n,rfl⟩
theorem cw(s:BA):DX s=if Bf (KR s)=true then(if(J4 s).toList=[117]then 1 else if(J4 s).toList=[116]then 2 else 0)else 0:=by simp[DX,gU,J4,KR,Bf]
theorem FD{a b:Int}(h:a=b):Ending.returned (iN a)=.returned (iN b):=by rw[h]
theorem OH(s:BA)(w:World)(J:s.size<=1000):Calls prog 157 #[.string s] w λe w'=>e=.returned (iN<|DX s)/\∃n,w'=w.drewN n:=by
 have G:=hid<|cw s;generalize ad:J4 s=h at G;generalize ak:KR s=t at G;obtain⟨b,hb⟩:∃b,Bf t=b:=⟨_,rfl⟩;have O:=hid hb;rw[hb]at G;have HK:=hid ad;have Z:=hid ak;cases b
 .have H:Hid<|DX s=0:=by show _=_;rw[G.out];rfl
  go_enter func157,ntmps157;go_wp2_with fail
  go_call Pf s _ J as e w' ⟨rfl,n,rfl⟩
  rw[HK.out,Z.out];go_wp2_with fail
  go_call Iw t _ as e w' ⟨rfl,rfl⟩
  rw[O.out];go_wp2;go_ret;exact⟨FD H.symm,n,rfl⟩
 .by_cases I:h.toList=[117]
  .have H:Hid<|DX s=1:=by show _=_;rw[G.out,NS rfl,NS I]
   have al:(h.toList==[117])=true:=by simpa using I
   go_enter func157,ntmps157;go_wp2_with fail
   go_call Pf s _ J as e w' ⟨rfl,n,rfl⟩
   rw[HK.out,Z.out];go_wp2_with fail
   go_call Iw t _ as e w' ⟨rfl,rfl⟩
   rw[O.out];go_wp2;go_ret;exact⟨FD H.symm,n,rfl⟩
  .have al:(h.toList==[117])=false:=by simpa using I
   by_cases ab:h.toList=[116]
   .have H:Hid<|DX s=2:=by show _=_;rw[G.out,NS rfl,NO I,NS ab]
    have ao:(h.toList==[116])=true:=by simpa using ab
    go_enter func157,ntmps157;go_wp2_with fail
    go_call Pf s _ J as e w' ⟨rfl,n,rfl⟩
    rw[HK.out,Z.out];go_wp2_with fail
    go_call Iw t _ as e w' ⟨rfl,rfl⟩
    rw[O.out];go_wp2;go_ret;exact⟨FD H.symm,n,rfl⟩
   .have H:Hid<|DX s=0:=by show _=_;rw[G.out,NS rfl,NO I,NO ab]
    have ao:(h.toList==[116])=false:=by simpa using ab
    go_enter func157,ntmps157;go_wp2_with fail
    go_call Pf s _ J as e w' ⟨rfl,n,rfl⟩
    rw[HK.out,Z.out];go_wp2_with fail
    go_call Iw t _ as e w' ⟨rfl,rfl⟩
    rw[O.out];go_wp2;go_ret;exact⟨FD H.symm,n,rfl⟩
def F8(l:List Kv):Prop:=∀x∈l,x.n.size<=255/\x.v.size<=255
def KW(w:World)(b:Nat)(x:Kv):Prop:=w.cell? (aD b 0)=some (.string x.n)/\w.cell? (aD b 1)=some (.string x.v)
theorem KW.new(w:World)(x:Kv):KW (w.alloc<|Ip x.n x.v) w.heap.size x:=
 ⟨aC,aC⟩
theorem KW.drew{x:Kv}(h:KW w b x)(n:Nat):KW (w.drewN n) b x:=h
def Ao(n:Int):Value:=if n=0 then .nilIface else .iface 101 (iN n)
theorem AP{n:Int}(h:n=m)(G:m≠0):Ao n=.iface 101 (iN m):=by subst h;simp[Ao,G]
theorem DE{n:Int}(h:n=0):Ao n=.nilIface:=by subst h;rfl
theorem CM{a b:Value}(h:a=b):Ending.returned a=.returned b:=by rw[h]
theorem OD(a:Option Addr)(cap:Nat)(l:List Kv)(w:World)(bp:l.length<=1000)(bb:F8 l)(h:Bg w.cell? a l):
 Calls prog 191 #[.slice a l.length cap] w λe w'=>e=.returned (Ao<|Ea l)/\Below w.heap.size w w':=by
 by_cases az:4<l.length
 .have bd:decide (4<(l.length:Int))=true:=NY oM
  have I:Hid<|Ea l=2:=by show _=_;unfold Ea;rw[NS az]
  go_enter func191,ntmps191;go_wp2;go_ret;exact⟨CM (AP I oD).symm,NB _ _⟩
 have bd:decide (4<(l.length:Int))=false:=NM oM;have I:Hid<|Ea l=aF l 0 l.length:=by show _=_;unfold Ea;rw[NO az]
 go_enter func191,ntmps191;go_wp2;go_loopw [11] (λi wr=>∃k:Nat,k<=l.length/\i=iN k/\Hid (aF l 0 l.length=aF l k (l.length-k))/\Below w.heap.size w wr) (λi _=>l.length-(intOf i).toNat)
 case atStart=>exact⟨0,N7 _,rfl,rfl,NB _ _⟩
 case round=>
  obtain⟨k,bq,rfl,J,O⟩:=hrel;by_cases aA:k<l.length
  .rcases h with rfl|⟨b,Z,rfl,a1⟩
   .simp at aA
   .obtain⟨x,hx⟩:∃x,l[k]? =some x:=⟨l[k],by simp[aA]⟩
    obtain⟨ab,be⟩:=a1 k x hx;obtain⟨bs,bu⟩:=bb x<|NW hx;have al:b<w.heap.size:=NF _ _ ab;have bx:b<wr.heap.size:=N1 al O.size;have bA:(k:Int)<(l.length:Int):=by omega
    have ak:Hid<|aF l k (l.length-k)=aF l k ((l.length-(k+1))+1):=by show _=_;congr 1;omega
    have ad:=hid hx;have bf:=hid a1;have bB:Ce wr b (Z+k*2)<|.string x.n:=(O.cell (p:=(aD b<|Z+k*2)) al).trans ab;have q1:Ce wr b (Z+k*2+1)<|.string x.v:=(O.cell (p:=(aD b<|Z+k*2+1)) al).trans be;obtain⟨c,bg⟩:∃c,DX x.n=c:=⟨_,rfl⟩;have ao:=hid bg;go_wp2_with fail
    go_call OH x.n _ oM as e w' ⟨rfl,n,rfl⟩
    rw[ao.out];have KB:=(KW.new wr x).drew n;have H:=CS (O.alloc O.size<|Ip x.n x.v) n;generalize(wr.alloc<|Ip x.n x.v).drewN n=bi at KB H⊢;generalize wr.heap.size=bC at KB⊢;obtain⟨bF,bG⟩:=KB;by_cases ab:c=0
    .subst ab
     have G:=hid<|ak.trans<|(ST (by rw[QS ad.out ao.out];decide)).trans<|QS ad ao;go_wp2;go_ret;exact⟨CM (AP (by rw[I.out,J.out,G.out]) oD).symm,H⟩
    have ap:Hid<|DX x.n≠0:=by show _≠_;rw[ao.out];exact ab
    have bc:(c==0)=false:=by simpa using ab
    by_cases aw:20<x.v.size
    .have bk:decide (20<(x.v.size:Int))=true:=NY oM
     have G:=hid<|ak.trans<|(ST (by rw[QV ad.out ap.out aw];decide)).trans<|QV ad ap aw;go_wp2;go_ret;exact⟨CM (AP (by rw[I.out,J.out,G.out]) oD).symm,H⟩
    have bk:decide (20<(x.v.size:Int))=false:=NM oM;have a6:=hid aw;by_cases bl:k=0
    .subst bl
     have G:=hid<|ak.trans<|Zx<|Ut ad ap a6;go_wp2;go_quiet (fail)
     go_wp2;go_roundw
     case rel=>exact⟨0+1,by omega,by go_num,J.trans G,CS H _⟩
     case measure=>simp[intOf];omega
    .obtain⟨j,bn⟩:∃j,k=j+1:=⟨k-1,by omega⟩
     obtain⟨p,a7⟩:∃p,l[j]? =some p:=⟨l[j]' oM,NA _⟩;obtain⟨p0,_⟩:=bf j p a7;have p1:Ce bi b (Z+j*2)<|.string p.n:=(H.cell (p:=(aD b<|Z+j*2)) al).trans p0;have a8:=hid bn;have ar:Hid (FH l k=if Br p.n x.n=true then 0 else 3):=by show _=_;rw[a8.out];exact Ri (by rw[<-a8.out];exact ad) a7 ap a6
     have bH:decide (0<k)=true:=NY oM;have bY:IntKind.i64.wrap ((k:Int)-1)=(j:Int):=(DQ oM oM).trans oM;have b0:(k:Int)-1=(j:Int):=by omega
     have dl:(j:Int)<(l.length:Int):=by omega
     obtain⟨t,ba⟩:∃t,Br p.n x.n=t:=⟨_,rfl⟩;have b1:(Op.bytesLess x.n.toList p.n.toList||x.n.toList==p.n.toList)= !t:=by rw[SP,ba]
     rw[ba]at ar;cases t
     .have G:Hid<|aF l k (l.length-k)=3:=ak.trans<|(ST (by rw[ar.out];decide)).trans (by rw[ar.out];rfl)
      go_wp2;go_quiet (fail)
      go_wp2;go_ret;exact⟨CM (AP (by rw[I.out,J.out,G.out]) oD).symm,CS H _⟩
     .have G:Hid<|aF l k (l.length-k)=aF l (k+1) (l.length-(k+1)):=ak.trans<|Zx (by rw[ar.out];rfl)
      go_wp2;go_quiet (fail)
      go_wp2;go_roundw
      case rel=>exact⟨k+1,by omega,by go_num,J.trans G,CS H _⟩
      case measure=>simp[intOf];omega
  .have bo:l.length-k=0:=by omega
   go_wp2;go_ret;exact⟨CM (DE (by rw[I.out,J.out,bo];rfl)).symm,O⟩
theorem fE{f:Kv->Bool}{l:List Kv}{b:Kv}(hb:l[k]? =some b)(h:(l.take k).all f=true)(G:f b=true):(l.take<|k+1).all f=true:=by grind [CO]
theorem WV{f:Kv->Bool}{l:List Kv}{b:Kv}(hb:l[k]? =some b)(G:f b=false):l.all f=false:=by grind
theorem Od(a:Option Addr)(cap:Nat)(l:List Kv)(w:World)(h:Bg w.cell? a l):
 Calls prog 67 #[.slice a l.length cap] w λe w'=>e=.returned (.bool<|Hi l)/\w=w':=by
 by_cases ao:8<l.length
 .have ab:decide (8<(l.length:Int))=true:=NY oM
  have G:Hid<|Hi l=false:=by show _=_;unfold Hi;rw[NM (by omega:¬l.length<=8)];rfl
  go_enter func67,ntmps67;go_wp2;go_ret;exact⟨BI G.symm,rfl⟩
 have ab:=NM oM;have G:Hid<|Hi l=l.all I7:=by show _=_;unfold Hi;rw[NY (by omega:l.length<=8)];rfl
 go_enter func67,ntmps67;go_wp2;go_loop [3] (λi=>∃k:Nat,k<=l.length/\i=iN k/\Hid ((l.take k).all I7=true)) (λi=>l.length-(intOf i).toNat)
 case atStart=>exact⟨0,N7 _,rfl,rfl⟩
 case round=>
  obtain⟨k,ap,rfl,J⟩:=hrel;by_cases O:k<l.length
  .rcases h with rfl|⟨b,ar,rfl,Z⟩
   .simp at O
   .obtain⟨x,hx⟩:∃x,l[k]? =some x:=⟨l[k],by simp[O]⟩
    obtain⟨ad,q1⟩:=Z k x hx;have aw:b<w.heap.size:=bL ad;have az:(k:Int)<(l.length:Int):=by omega
    have I:=hid hx;clear hx Z;by_cases aA:60<x.n.size
    .have ak:decide (60<(x.n.size:Int))=true:=NY oM
     have H:Hid<|l.all I7=false:=WV I (by unfold I7;rw[NM (by omega:¬x.n.size<=60)];rfl);go_wp2;go_ret;exact⟨BI<|by rw[G.out,H.out],rfl⟩
    have ak:=NM oM;by_cases a1:60<x.v.size
    .have al:decide (60<(x.v.size:Int))=true:=NY oM
     have H:Hid<|l.all I7=false:=WV I (by unfold I7;rw[NM (by omega:¬x.v.size<=60)];simp);go_wp2;go_ret;exact⟨BI<|by rw[G.out,H.out],rfl⟩
    have al:=NM oM;have H:Hid<|I7 x=true:=by show _=_;unfold I7;simp;omega
    go_wp2;go_round
    case rel=>exact⟨k+1,by omega,by go_num,fE I J H⟩
    case measure=>simp[intOf];omega
  .go_wp2
   go_ret;have:=J.out;rw[R3 oM]at this;exact⟨BI<|by rw[G.out,this],rfl⟩
def Cm(w:World)(b:Nat):Nd->Hd->Prop
 |.mk k m u g o rL d ks,h=>w.cell? ⟨b,0,none⟩=some (iN k)/\w.cell? ⟨b,1,none⟩=some (iN m)/\w.cell? ⟨b,2,none⟩=some (iN u)/\w.cell? ⟨b,3,none⟩=some (iN g)/\
  w.cell? ⟨b,4,none⟩=some (.bool o)/\w.cell? ⟨b,5,none⟩=some (.slice h.aa rL.length h.ca)/\w.cell? ⟨b,6,none⟩=some (.string d)/\w.cell? ⟨b,7,none⟩=some (.slice h.ak ks.length h.ck)
theorem Cm.new(w:World)(k m u g:Int)(o:Bool)(rL:List Kv)(d:BA)(ks:List<|BA×Nd)(h:Hd):
 Cm (w.alloc<|Aw k m u g o rL d ks h) w.heap.size (.mk k m u g o rL d ks) h:=
 ⟨aC,aC,aC,aC,aC,aC,aC,aC⟩
theorem Cm.below(I:Cm w b x h)(hb:Below w.heap.size w w'):Cm w' b x h:=by
 obtain⟨k,m,u,g,o,rL,d,ks⟩:=x;obtain⟨H,J,O,Z,ab,ad,ak,al⟩:=I;have G:b<w.heap.size:=bL H
 exact⟨(hb.cell (p:=(aD b 0)) G).trans H,(hb.cell (p:=(aD b 1)) G).trans J,(hb.cell (p:=(aD b 2)) G).trans O,(hb.cell (p:=(aD b 3)) G).trans Z,(hb.cell (p:=(aD b 4)) G).trans ab,
  (hb.cell (p:=(aD b 5)) G).trans ad,(hb.cell (p:=(aD b 6)) G).trans ak,(hb.cell (p:=(aD b 7)) G).trans al⟩
theorem Cm.at(hb:Cm w b x h):A9 w.cell? b 0 x h:=by
 obtain⟨k,m,u,g,o,rL,d,ks⟩:=x;exact hb
theorem A9.box(hb:A9 w.cell? b 0 x h):Cm w b x h:=by
 obtain⟨k,m,u,g,o,rL,d,ks⟩:=x;exact hb
theorem Ep.nine{p:Nat}{n:BA}{k:Int}(G:Ep c b p n (.mk k m u g o rL d ks) h):c (aD b p)=some (.string n)/\c (aD b<|p+1)=some (iN k)/\c (aD b<|p+2)=some (iN m)/\c (aD b<|p+3)=some (iN u)/\c (aD b<|p+4)=some (iN g)/\
 c (aD b<|p+5)=some (.bool o)/\c (aD b<|p+6)=some (.slice h.aa rL.length h.ca)/\c (aD b<|p+7)=some (.string d)/\c (aD b<|p+8)=some (.slice h.ak ks.length h.ck):=G
theorem gd(bu:Am w.cell? x h):∀(W:World) (left:Int),Below w.heap.size w W->left<=1000->
 Calls prog 33 #[At x h,iN left] W λe bx=>e=.returned (iN<|FF x left)/\Below W.heap.size W bx:=by
 induction bu with
 |@mk k m u g o rL d ks h b c4 f bA c5 c6 ap bB c8 bC=>
  intro W left ak c9;have al:Hid (FF (.mk k m u g o rL d ks) left=if left<=0\/Hi rL=false\/300<d.size\/left<(ks.length:Int)then 0 else ET ks (left-1)):=by show _=_;rw[FF]
  have bF:=hid bB;have bG:=hid bC;have bH:=hid ap;show Calls prog 33 #[(Ba k m u g o rL d ks h),iN left] _ _;obtain⟨R,Z⟩:=Aq<|FF (.mk k m u g o rL d ks) left;rw[Z.out];have ab:=Cm.new W k m u g o rL d ks h;have I:Below W.heap.size W<|W.alloc<|Aw k m u g o rL d ks h:=(NB _ _).alloc (rP _) _;have ao:=(bA.below ak).below I;by_cases aA:left<=0
  .have bY:decide (left<=0)=true:=NY aA
   have H:Hid<|R=0:=by show _=_;rw[<-Z.out,al.out,NS<|.inl aA]
   go_enter func33,ntmps33;go_wp2;go_ret;exact⟨FD H.symm,I⟩
  have bY:decide (left<=0)=false:=NM aA;obtain⟨t,b0⟩:∃t,Hi rL=t:=⟨_,rfl⟩;have ad:=hid b0;cases t
  .have H:Hid<|R=0:=by show _=_;rw[<-Z.out,al.out,NS<|.inr<|.inl ad.out]
   go_enter func33,ntmps33;go_wp2_with fail
   go_call Od h.aa h.ca rL _ ao as e w' ⟨rfl,rfl⟩
   rw[ad.out];go_wp2;go_ret;exact⟨FD H.symm,I⟩
  by_cases hd:300<d.size
  .have b1:decide (300<(d.size:Int))=true:=NY oM
   have H:Hid<|R=0:=by show _=_;rw[<-Z.out,al.out,NS<|.inr<|.inr<|.inl hd]
   go_enter func33,ntmps33;go_wp2_with fail
   go_call Od h.aa h.ca rL _ ao as e w' ⟨rfl,rfl⟩
   rw[ad.out];obtain⟨a1,a6,a7,a8,ba,bb,bd,ar⟩:=ab;go_wp2;go_ret;exact⟨FD H.symm,I⟩
  have b1:decide (300<(d.size:Int))=false:=NM oM;by_cases be:left<(ks.length:Int)
  .have b2:decide (left<(ks.length:Int))=true:=NY be
   have H:Hid<|R=0:=by show _=_;rw[<-Z.out,al.out,NS<|.inr<|.inr<|.inr be]
   go_enter func33,ntmps33;go_wp2_with fail
   go_call Od h.aa h.ca rL _ ao as e w' ⟨rfl,rfl⟩
   rw[ad.out];obtain⟨a1,a6,a7,a8,ba,bb,bd,ar⟩:=ab;go_wp2;go_ret;exact⟨FD H.symm,I⟩
  have b2:decide (left<(ks.length:Int))=false:=NM be;have H:Hid<|R=ET ks (left-1):=by show _=_;rw[<-Z.out,al.out,NO (by rw[ad.out];simp;omega)]
  have da:ks.length<=1000:=by omega
  go_enter func33,ntmps33;go_wp2_with fail
  go_call Od h.aa h.ca rL _ ao as e w' ⟨rfl,rfl⟩
  rw[ad.out];have b4:=ak.trans<|I.mono ak.size;have b6:=ab;obtain⟨a1,a6,a7,a8,ba,bb,bd,ar⟩:=b6;go_wp2;generalize W.alloc (Aw k m u g o rL d ks h)=dd at ab I ao b4⊢;generalize bi:W.heap.size=b7 at ab⊢;go_loopw [1,5] (λb9 i wr=>∃(j:Nat) (G:Int),j<=ks.length/\i=iN j/\b9=iN G/\G<=1000/\Hid (R=ET (ks.drop j) G)/\Cm wr b7 (.mk k m u g o rL d ks) h/\Below W.heap.size W wr) (λ_ i _=>ks.length-(intOf i).toNat)
  case atStart=>exact⟨0,left-1,N7 _,rfl,by go_num,by omega,H,ab,I⟩
  case round=>
   obtain⟨j,G,de,rfl,rfl,ce,aw,bk,O⟩:=hrel;have cf:=bk;obtain⟨a1,a6,a7,a8,ba,bb,bd,ar⟩:=cf;by_cases ch:G<=0
   .have cl:decide (0<G)=false:=NM oM
    have J:Hid<|R=G:=by show _=_;rw[aw.out];exact cC ch
    by_cases az:j<ks.length
    .have bf:(j:Int)<(ks.length:Int):=by omega
     go_wp2;go_ret;exact⟨FD J.symm,by exact O⟩
    .have bf:decide ((j:Int)<(ks.length:Int))=false:=NM oM
     go_wp2;go_ret;exact⟨FD J.symm,by exact O⟩
   have cl:decide (0<G)=true:=NY oM;by_cases az:j<ks.length
   .have bf:(j:Int)<(ks.length:Int):=by omega
    obtain⟨⟨n,x⟩,hx⟩:∃x,ks[j]? =some x:=⟨ks[j],by simp[az]⟩;have bl:Below w.heap.size w wr:=ak.trans<|O.mono ak.size;have bn:=(bF j n x hx).below bl;have bg:Hid (ET (ks.drop j) G=if 60<n.size then 0 else ET (ks.drop<|j+1) (FF x G)):=bZ hx oM;have bo:=hid<|bG j n x hx;rcases bH.out with co|ap
    .rw[co]at az;simp at az
    rw[ap]at ar;clear ap;have cr:=VB x G;generalize dg:f j=dj at bn bo;obtain⟨bp,bq⟩:=Aq<|FF x G;rw[bq.out]at cr bg;obtain⟨dk,dm,dn,dp,dr,ds,du,dw⟩:=x;obtain⟨z0,dx,dy,z3,z4,z5,dz,dT,d0⟩:=bn.nine;by_cases bs:60<n.size
    .have cx:decide (60<(n.size:Int))=true:=NY oM
     have J:Hid<|R=0:=by show _=_;rw[aw.out,bg.out,NS bs]
     go_wp2;go_ret;exact⟨FD J.symm,by(rw[<-bi];exact O)⟩
    .have cx:decide (60<(n.size:Int))=false:=NM oM
     have J:Hid<|R=ET (ks.drop<|j+1) bp:=by show _=_;rw[aw.out,bg.out,NO bs]
     go_wp2_with fail
     go_call bo _ G bl ce as e w3 ⟨rfl,c3⟩
     rw[bq.out];have cD:=bk.below c3;have cF:=O.trans<|c3.mono O.size;go_wp2;go_roundw
     case rel=>exact⟨j+1,bp,by omega,by go_num,rfl,by omega,J,cD,cF⟩
     case measure=>simp[intOf];omega
   .have bf:decide ((j:Int)<(ks.length:Int))=false:=NM oM
    have J:Hid<|R=G:=by show _=_;rw[aw.out,R8 oM,ET]
    go_wp2;go_ret;exact⟨FD J.symm,by(rw[<-bi];exact O)⟩
theorem eQ(I:Am w.cell? x h):Calls prog 15 #[At x h] w λe J=>e=.returned (.bool<|decide (0<FF x 80))/\Below w.heap.size w J:=by
 have O:=gd I;obtain⟨R,H⟩:=Aq<|FF x 80;rw[H.out];obtain⟨k,m,u,g,o,rL,d,ks⟩:=x;have Z:=Cm.new w k m u g o rL d ks h;have G:Below w.heap.size w<|w.alloc<|Aw k m u g o rL d ks h:=bN;have ab:=hid O;show cL 15 #[(Ba k m u g o rL d ks h)] _ _;obtain⟨ak,al,ao,ap,ar,aw,az,aA⟩:=Z;go_enter func15,ntmps15;go_wp2_with fail
 go_call ab _ 80 G oD as e w' ⟨rfl,c2⟩
 rw[H.out];have ad:=G.trans<|c2.mono G.size;go_wp2;go_ret;exact⟨rfl,ad⟩
mutual
def A7:Nd->Prop
 |.mk _ _ _ _ _ rL _ ks=>rL.length<=1000/\ks.length<=1000/\EO ks
def EO:List (BA×Nd)->Prop
 |[]=>True
 |(_,x)::l=>A7 x/\EO l
end
theorem MZ:∀{ks:List (BA×Nd)} {i:Nat} {n:BA} {x:Nd},EO ks->ks[i]? =some (n,x)->A7 x:=by intro ks i n x;induction ks generalizing i n x<;>grind [EO]
mutual
theorem Id:∀(x:Nd),cnt x<=1000->AI x->A7 x
 |.mk _ _ _ _ _ rL d ks,hc,hl=>by
  rw[cnt]at hc;rw[AI]at hl;rw[A7];have:=hl.1.1;have:=JV ks;exact⟨by omega,by omega,XW ks oM hl.2.2⟩
theorem XW:∀(l:Ay),cntL l<=1000->Co l->EO l
 |[],_,_=>by rw[EO];trivial
 |(n,x)::l,hc,hl=>by
  rw[cntL]at hc;rw[Co]at hl;rw[EO];exact⟨Id x oM hl.2.1,XW l oM hl.2.2⟩
end
theorem Cm.but{I:Nat}(O:Cm w b x h)(hb:Az I w w')(G:b≠I):Cm w' b x h:=by
 obtain⟨k,m,u,g,o,rL,d,ks⟩:=x;obtain⟨J,Z,ab,ad,ak,al,ao,ap⟩:=O;have H:b<w.heap.size:=bL J
 exact⟨(hb.cell (p:=(aD b 0)) H G).trans J,(hb.cell (p:=(aD b 1)) H G).trans Z,(hb.cell (p:=(aD b 2)) H G).trans ab,(hb.cell (p:=(aD b 3)) H G).trans ad,(hb.cell (p:=(aD b 4)) H G).trans ak,
  (hb.cell (p:=(aD b 5)) H G).trans al,(hb.cell (p:=(aD b 6)) H G).trans ao,(hb.cell (p:=(aD b 7)) H G).trans ap⟩
theorem f8(h:∀q,w.frozen? (aD b q)=false):w.frozen? (aD b 0)=false/\w.frozen? (aD b 1)=false/\w.frozen? (aD b 2)=false/\w.frozen? (aD b 3)=false/\w.frozen? (aD b 4)=false/\w.frozen? (aD b 5)=false/\w.frozen? (aD b 6)=false/\w.frozen? (aD b 7)=false:=by grind
theorem Tryz.infoA:(prog.info? 148).map (λi=>(i.zero,i.size,i.bytes))=some (some<|.agg #[.string ⟨#[]⟩,.string ⟨#[]⟩],2,32):=by kernel_rfl
theorem EL{t:TypeId}{z:Value}{m:Nat}(h:(P.info? t).map (λi=>(i.zero,i.size,i.bytes))=some (some z,n,m)):∃i,P.info? t=some i/\i.zero=some z/\i.size=n/\i.bytes=m:=by simp_all
abbrev zK:Value:=.agg #[.string ⟨#[]⟩,iN 0,iN 0,iN 0,iN 0,.bool false,nL,.string ⟨#[]⟩,nL]
theorem Tryz.infoK:(prog.info? 92).map (λi=>(i.zero,i.size,i.bytes))=some (some zK,9,120):=by kernel_rfl
theorem Va(a:Option Addr)(cap:Nat)(l:List Kv)(w:World)(az:l.length<=1000)(h:Bg w.cell? a l):
 Calls prog 99 #[.slice a l.length cap] w λe w'=>(∃v,e=.returned v/\w'.ownsRow w.heap.size 148 2 v l.length (Dz l))/\Below w.heap.size w w':=by
 have aA:=λ(W:World) (n c:Nat)=>tt (P:=prog) W 28 148 a n c 0 0 underlying28;cases a with
 |none=>
  have O:l=[]:=by
   rcases h with e|⟨b,a1,e,_⟩
   .exact e
   .cases e
  subst O;go_enter func99,ntmps99;go_wp2;go_ret;exact⟨⟨_,rfl,CZ _ _ _ _⟩,NB _ _⟩
 |some Z=>
  obtain⟨ab,ad,ak,al,ao⟩:=EL Tryz.infoA;have G:Below w.heap.size w<|w.alloc<|.cells #[] 148:=bN;have H:(w.alloc<|.cells #[] 148).ownsRow w.heap.size 148 2 (sL w.heap.size 0 0 0) 0<|Dz []:=World.ownsRow_made w #[] 0 (rP _) oD rfl;have ap:=Vd<|h.below G;have I:=G.size;go_enter func99,ntmps99;go_wp2_with (at_builtin;refine DP _ rfl (.tmp 5) (.tmp 6) 28 rfl w.heap.size 148 ab (.agg #[.string ⟨#[]⟩,.string ⟨#[]⟩]) 2 32 underlying28 ad ak al ao rfl oD _ 0 (Dz []) rfl H (some Z) l.length cap (Dz l) rfl (Oi l) ap (RP _) (by unfold maxLen;omega) oM I ?_)
  intro a6 a7 J ar _;have aw:=G.grown ar I λq e=>(H.lt q e).1;rw[show Dz []++Dz l=Dz l from rfl]at J;go_wp2;go_ret;exact⟨⟨_,rfl,J⟩,aw⟩
theorem UW(a:Option Addr)(cap:Nat)(L:Ch)(w:World)(az:L.length<=1000)(h:Dh w.cell? a L):
 Calls prog 100 #[.slice a L.length cap] w λe w'=>(∃v,e=.returned v/\w'.ownsRow w.heap.size 92 9 v L.length (Bd L))/\Below w.heap.size w w':=by
 have aA:=λ(W:World) (n c:Nat)=>tt (P:=prog) W 29 92 a n c 0 0 underlying29;cases a with
 |none=>
  have O:L=[]:=by
   rcases h.1 with e|⟨b,a1,e,_⟩
   .exact e
   .cases e
  subst O;go_enter func100,ntmps100;go_wp2;go_ret;exact⟨⟨_,rfl,CZ _ _ _ _⟩,NB _ _⟩
 |some Z=>
  obtain⟨ab,ad,ak,al,ao⟩:=EL Tryz.infoK;have G:Below w.heap.size w<|w.alloc<|.cells #[] 92:=bN;have H:(w.alloc<|.cells #[] 92).ownsRow w.heap.size 92 9 (sL w.heap.size 0 0 0) 0<|Bd []:=World.ownsRow_made w #[] 0 (rP _) oD rfl;have ap:=UZ<|h.on<|Ai G;have I:=G.size;go_enter func100,ntmps100;go_wp2_with (at_builtin;refine DP _ rfl (.tmp 5) (.tmp 6) 29 rfl w.heap.size 92 ab zK 9 120 underlying29 ad ak al ao rfl oD _ 0 (Bd []) rfl H (some Z) L.length cap (Bd L) rfl (IQ L) ap (PC _) (by unfold maxLen;omega) oM I ?_)
  intro a6 a7 J ar _;have aw:=G.grown ar I λq e=>(H.lt q e).1;rw[show Bd []++Bd L=Bd L from rfl]at J;go_wp2;go_ret;exact⟨⟨_,rfl,J⟩,aw⟩
theorem GD{v:Value}(h:w.ownsRow base e size v n xs)(hb:∀g,v.ownBlock=some g->w'.heap[g]? =w.heap[g]?):w'.ownsRow base e size v n xs:=by
 obtain⟨I,G⟩:=h;refine⟨I,?_⟩;rcases G with G|⟨g,cap,J,H,O,Z,r⟩
 .grind
 .exact .inr ⟨g,cap,J,H,O,by rw[hb g (by rw[H];rfl)];exact Z,r⟩
theorem Vk{v:Value}(h:w.ownsRow base e size v n xs)(hb:Below w.heap.size w w'):w'.ownsRow base e size v n xs:=GD h λg G=>hb.block g (h.lt g G).2
theorem RI{v:Value}(h:w.ownsRow base e size v n xs)(hb:Az b w w')(H:b<base):w'.ownsRow base e size v n xs:=GD h λg G=>hb.block g (h.lt g G).2 (by have:=(h.lt g G).1;omega)
theorem LC{v:Value}(h:w.ownsRow base e size v n xs){p:Addr}(H:p.block<base)(u:Value):(w.setCell p u).ownsRow base e size v n xs:=GD h λg G=>Cv _ _ _ _ (by have:=(h.lt g G).1;omega)
def AC(w:World)(b:Nat)(x:Nd)(h:Hd):Prop:=Cm w b x h/\∀j,w.frozen? (aD b j)=false
theorem Cm.lt(G:Cm w b x h):b<w.heap.size:=by
 obtain⟨k,m,u,g,o,rL,d,ks⟩:=x;exact bL G.1
theorem AC.below(G:AC w b x h)(hb:Below w.heap.size w w'):AC w' b x h:=
 ⟨G.1.below hb,λj=>(hb.frozen (p:=(aD b j)) G.1.lt).trans<|G.2 j⟩
theorem AC.other(G:AC w b x h){p:Addr}(H:p.block≠b)(v:Value):AC (w.setCell p v) b x h:=by
 obtain⟨k,m,u,g,o,rL,d,ks⟩:=x;obtain⟨⟨I,J,O,Z,ab,ad,ak,al⟩,ao⟩:=G;have e:∀o,(w.setCell p v).cell? (aD b o)=w.cell? (aD b o):=λo=>NG _ _ _ _ (λe=>H<|by rw[e]);exact⟨⟨(e _).trans I,(e _).trans J,(e _).trans O,(e _).trans Z,(e _).trans ab,(e _).trans ad,(e _).trans ak,(e _).trans al⟩,λj=>by rw[Kn];exact ao j⟩
theorem AC.set5{k:Int}(G:AC w b (.mk k m u g o rL d ks) h)(aa:Option Addr)(ca:Nat):AC (w.setCell (aD b 5)<|.slice aa rL.length ca) b (.mk k m u g o rL d ks) ⟨aa,ca,h.ak,h.ck⟩:=by
 obtain⟨⟨H,I,J,O,Z,ab,ad,ak⟩,al⟩:=G;have e:∀o,o≠5->(w.setCell (aD b 5)<|.slice aa rL.length ca).cell? (aD b o)=w.cell? (aD b o):=λo ao=>NG _ _ _ _ λe=>ao (Addr.mk.inj e).2.1.symm;exact⟨⟨(e _ oD).trans H,(e _ oD).trans I,(e _ oD).trans J,(e _ oD).trans O,(e _ oD).trans Z,N2 _ _ _ ab,(e _ oD).trans ad,(e _ oD).trans ak⟩,λj=>by rw[Kn];exact al j⟩
theorem AC.set7{k:Int}(I:AC w b (.mk k m u g o rL d ks) h)(G:Ay)(H:Option Addr)(ck:Nat):AC (w.setCell (aD b 7)<|.slice H G.length ck) b (.mk k m u g o rL d G) ⟨h.aa,h.ca,H,ck⟩:=by
 obtain⟨⟨J,O,Z,ab,ad,ak,al,ao⟩,ap⟩:=I;have e:∀o,o≠7->(w.setCell (aD b 7)<|.slice H G.length ck).cell? (aD b o)=w.cell? (aD b o):=λo ar=>NG _ _ _ _ λe=>ar (Addr.mk.inj e).2.1.symm;exact⟨⟨(e _ oD).trans J,(e _ oD).trans O,(e _ oD).trans Z,(e _ oD).trans ab,(e _ oD).trans ad,(e _ oD).trans ak,(e _ oD).trans al,N2 _ _ _ ao⟩,λj=>by rw[Kn];exact ap j⟩
theorem AC.new(w:World)(k m u g:Int)(o:Bool)(rL:List Kv)(d:BA)(ks:Ay)(h:Hd):AC (w.alloc<|Aw k m u g o rL d ks h) w.heap.size (.mk k m u g o rL d ks) h:=
 ⟨Cm.new w k m u g o rL d ks h,λ_j=>World.frozen?_alloc_new _ _ _ _⟩
def zH:Hd:=⟨none,0,none,0⟩
theorem AC.zero(w:World):AC (w.alloc<|AO) w.heap.size zN zH:=AC.new w 0 0 0 0 false [] ⟨#[]⟩ [] zH
def As(w:World)(b:Nat):Nd->Hd->World
 |.mk k m u g o rL d ks,h=>(((((((w.setCell ⟨b,0,none⟩<|iN k).setCell ⟨b,1,none⟩<|iN m).setCell ⟨b,2,none⟩<|iN u).setCell ⟨b,3,none⟩<|iN g).setCell ⟨b,4,none⟩<|.bool o).setCell ⟨b,5,none⟩<|.slice h.aa rL.length h.ca).setCell ⟨b,6,none⟩<|.string d).setCell ⟨b,7,none⟩<|.slice h.ak ks.length h.ck
theorem KM(w:World)(b:Nat)(x:Nd)(h:Hd):As w b x h=BS w b 0 x h:=by
 obtain⟨k,m,u,g,o,rL,d,ks⟩:=x;rfl
theorem AC.store{y:Nd}{h':Hd}(G:AC w b y h')(x:Nd)(h:Hd):AC (As w b x h) b x h:=by
 rw[KM];exact⟨A9.box<|LV G.1.at,λj=>(Oz _).trans<|G.2 j⟩
theorem Cb:Az b w<|As w b x h:=by rw[KM];exact Pm
theorem VX{S:Nat->Bool}(aw:∀k,S k=true->k<w.heap.size)(az:Am (Ag w.cell? S) x h)(W:World)(Z:Below w.heap.size w W)(aA:A7 x):
 Calls prog 64 #[At x h] W λe ab=>(∃h',e=.returned (At x h')/\Am (Ag ab.cell? S) x h'/\I2 W.heap.size ab h'.ak x.kids)/\Below W.heap.size W ab:=by
 obtain⟨k,m,u,g,o,rL,d,ks⟩:=x;rw[A7]at aA;obtain⟨b9,eb,ed,a1⟩:=Cs.1<|az.on<|Du Z;obtain⟨ce,cf,_⟩:=aA;obtain⟨L,ad,a6⟩:=YA a1;have a7:ks.length=L.length:=by rw[<-ad,GP]
 have a8:=hid ad;have ba:=hid a7;have ch:L.length<=1000:=by omega
 have bb:∀k,S k=true->k<W.heap.size:=λk I=>N1 (aw k I) Z.size;clear az Z a1 ad a7 cf aw
 show cL 64 #[(Ba k m u g o rL d ks h)] _ _;have cl:=AC.new W k m u g o rL d ks h;have bd:Below W.heap.size W<|W.alloc<|Aw k m u g o rL d ks h:=bN;have be:=AC.zero<|W.alloc<|Aw k m u g o rL d ks h;rw[ND]at be;have bf:=cl.below<|(NB _ _).alloc (rP _) AO;have ak:Below W.heap.size W<|(W.alloc<|Aw k m u g o rL d ks h).alloc AO:=bd.alloc bd.size _;have co:=(b9.on<|BW _ _).below ak;have al:W.heap.size+2<=((W.alloc<|Aw k m u g o rL d ks h).alloc AO).heap.size:=by simp
 obtain⟨⟨bg,bi,bk,bl,bn,bo,bp,bq⟩,bs⟩:=id bf;go_enter func64,ntmps64;go_wp2_with fail
 go_call Va h.aa h.ca rL _ ce co as e w2 ⟨⟨vA,rfl,hA2⟩,b2⟩
 have ao:=bf.below b2;have bu:=be.below b2;have cr:=ak.trans<|b2.mono ak.size;have bx:=Rz al b2.size;generalize((W.alloc<|Aw k m u g o rL d ks h).alloc AO).heap.size=base at al hA2;generalize ee:W.heap.size=G at ao bu al bx⊢;obtain⟨a2,c2,cx,ef,eg,ej⟩:=Oj hA2;rw[cx]at hA2⊢;have bA:=ao.set5 a2 c2;have cD:=bu.other (p:=(aD G 5)) oS<|.slice a2 rL.length c2;have cF:=LC hA2 (p:=(aD G 5)) (show G<base by omega)<|.slice a2 rL.length c2;have ap:=cr.setCell (p:=(aD G 5)) (by show W.heap.size<=G;omega)<|.slice a2 rL.length c2;have bB:G+2<=(w2.setCell (aD G 5)<|.slice a2 rL.length c2).heap.size:=by rw[tJ];exact bx
 have c3:=(a6.on<|BW _ _).on<|Ai ap;obtain⟨⟨bg,bi,bk,bl,bn,bo,bp,bq⟩,bs⟩:=ao;have c4:=bA.1.2.2.2.2.2.2.2;go_wp2_with fail
 rw[ba.out];go_call UW h.ak h.ck L _ ch c3 as e w4 ⟨⟨vK,rfl,hK4⟩,b4⟩
 have bC:=bA.below b4;have c5:=cD.below b4;have c6:=Vk cF b4;have c8:=ap.trans<|b4.mono ap.size;have ek:=Rz bB b4.size;generalize(w2.setCell (aD G 5)<|.slice a2 rL.length c2).heap.size=c9 at bB hK4;obtain⟨a4,H,da,dd,em,en⟩:=Ev hK4;rw[da]at hK4⊢;rw[<-ba.out]at hK4 dd⊢;have de:=bC.set7 ks a4 H;have bF:=c5.other (p:=(aD G 7)) oS<|.slice a4 ks.length H;have dg:=LC c6 (p:=(aD G 7)) (show G<base by omega)<|.slice a4 ks.length H;have dj:=LC hK4 (p:=(aD G 7)) (show G<c9 by omega)<|.slice a4 ks.length H;have bG:=c8.setCell (p:=(aD G 7)) (by show W.heap.size<=G;omega)<|.slice a4 ks.length H;obtain⟨⟨bg,bi,bk,bl,bn,bo,bp,bq⟩,bs⟩:=bC;obtain⟨⟨x0,eo,ep,eq,er,es,eu,ev⟩,ew⟩:=id de;obtain⟨⟨z0,ey,ez,z3,z4,z5,eB,c4⟩,eD⟩:=id bF;have bH:=bF.store (.mk k m u g o rL d ks) ⟨a2,c2,a4,H⟩;have J:Az (G+1) (w4.setCell (aD G 7)<|.slice a4 ks.length H)<|As (w4.setCell (aD G 7)<|.slice a4 ks.length H) (G+1) (.mk k m u g o rL d ks) ⟨a2,c2,a4,H⟩:=Cb;have bY:=RI dg J oM;have b0:=RI dj J oM;have ar:=bG.trans<|J.below (B:=W.heap.size) oM (by have:=bG.size;omega);generalize O:As (w4.setCell (aD G 7)<|.slice a4 ks.length H) (G+1) (.mk k m u g o rL d ks) ⟨a2,c2,a4,H⟩=dk at bH J bY b0 ar;have dm:=hid O;go_wp2;have O:=dm.out;simp only[As]at O;rw[O];obtain⟨eE,c7,b1,dn,dp,dr⟩:=Uj (S:=S) (λk I=>by have:=bb k I;omega) bY;have ds:∀e∈L,Am (Ag dk.cell? S) e.2.1 e.2.2:=λe du=>(a6.2 e du).on<|Du ar;obtain⟨eF,eL,b6,dw,dx,dy,b7⟩:=Ul (λk I=>by have:=bb k I;omega) b0 ds
 simp only[CH,true_and]at b1 b6;obtain⟨rfl,rfl⟩:=b1;obtain⟨rfl,rfl⟩:=b6;obtain⟨dz,dT,d0,d1,d2,d3,d4,d5⟩:=bH.1;refine NZ (v:=At (.mk k m u g o rL d ks) ⟨a2,c2,a4,H⟩) (by simp[results,results64,go_sem,At,dz,dT,d0,d1,d2,d3,d4,d5]) rfl ⟨⟨⟨a2,c2,a4,H⟩,rfl,?_,?_⟩,?_⟩
 .refine Cs.2 ⟨dr,⟨dn,dp⟩,⟨dw,dx⟩,?_⟩
  have:=LO dy;rw[a8.out]at this;exact this
 .rw[a8.out]at b7
  rcases b7 with e|⟨d6,d7,eX,d8,d9⟩
  .exact .inl e
  .exact .inr ⟨d6,d7,by omega,d8,d9⟩
 .exact ar
def Ez(p:BA->Bool):Ay->Nat->Int
 |[],_=>-1
 |q::l,i=>if p q.1=true then(i:Int)else Ez p l (i+1)
theorem gB{n:BA}{j:Nat}(h:ks[j]? =some (n,x)):Ez p (ks.drop j) j=if p n=true then(j:Int)else Ez p (ks.drop<|j+1) (j+1):=by grind [N9,Ez]
theorem WK(m:BA):∀(ks:Ay) (i:Nat),Ez (λn=>decide (n=m)) ks i=BV m ks i:=by intro ks i;induction ks generalizing i<;>grind [Ez,BV]
theorem Xg(m:BA):∀(ks:Ay) (i:Nat),(Ez (λn=>Br m n) ks i=-1/\Fg m ks=ks.length)\/(Ez (λn=>Br m n) ks i=((i+Fg m ks:Nat):Int)/\Fg m ks<ks.length)
 |[],i=>.inl ⟨rfl,rfl⟩
 |q::l,i=>by
  rw[Ez];have e:Fg m (q::l)=if Br m q.1=true then 0 else Fg m l+1:=by
   unfold Fg;rw[List.findIdx_cons];cases Br m q.1<;>simp
  by_cases G:Br m q.1=true
  .rw[NS G,e,NS G];right;exact⟨by simp,by simp⟩
  .rw[NO G,e,NO G]
   rcases Xg m l (i+1)with⟨H,I⟩|⟨H,I⟩
   .left;exact⟨H,by simp[I]⟩
   .right;exact⟨by rw[H];congr 1;omega,by simp;omega⟩
theorem pj(a b:BA):(!Op.bytesLess a.toList b.toList&& !(a.toList==b.toList))=Br b a:=by grind [SP]
theorem qv(a b:BA):(a.toList==b.toList)=decide (a=b):=by grind [ME]
def rI(n:BA):Nd->Hd->Value
 |.mk k m u g o rL d ks,h=>.agg #[.string n,iN k,iN m,iN u,iN g,.bool o,.slice h.aa rL.length h.ca,.string d,.slice h.ak ks.length h.ck]
theorem Oa.newW(w:World)(n:BA)(k m u g:Int)(o:Bool)(rL:List Kv)(d:BA)(ks:Ay)(h:Hd)(t:TypeId):
 Ce (w.alloc<|.cells #[.string n,iN k,iN m,iN u,iN g,.bool o,.slice h.aa rL.length h.ca,.string d,.slice h.ak ks.length h.ck] t) w.heap.size 0 (.string n):=rO _ _ _ _ rfl
theorem j7{fn:Nat}{m:BA}(O:(fn=259/\p=(λn=>decide (n=m))\/fn=197/\p=(λn=>decide (n=m))\/fn=270/\p=(λn=>Br m n)))(n:BA)(x:Nd)(h:Hd)(G:Nat)(w:World)(I:w.cell? (aD G 0)=some (.string m)):
 Calls prog fn #[rI n x h,pO G 0] w λe w'=>e=.returned (.bool<|p n)/\Below w.heap.size w w':=by
 obtain⟨k,H,u,g,o,rL,d,ks⟩:=x;have J:Below w.heap.size w<|w.alloc<|DM n k H u g o h rL d ks:=bN;have c0:=Oa.newW w n k H u g o rL d ks h 92;have c1:Ce (w.alloc<|DM n k H u g o h rL d ks) G 0<|.string m:=(J.cell (p:=(aD G 0))<|bL I).trans I;have Z:G<w.heap.size:=bL I;show cL fn #[.agg #[.string n,iN k,iN H,iN u,iN g,.bool o,.slice h.aa rL.length h.ca,.string d,.slice h.ak ks.length h.ck],pO G 0] _ _;rcases O with⟨rfl,rfl⟩|⟨rfl,rfl⟩|⟨rfl,rfl⟩
 all_goals
  first|go_enter func259,ntmps259|go_enter func197,ntmps197|go_enter func270,ntmps270
  go_wp2;go_ret;exact⟨BI (by first|rw[<-qv]|rw[<-pj]),J⟩
theorem Pu{fn:Nat}{m:BA}(ak:(fn=259/\p=(λn=>decide (n=m))\/fn=197/\p=(λn=>decide (n=m))\/fn=270/\p=(λn=>Br m n)))(a:Option Addr)(cap G:Nat)(ks:Ay)(w:World)(bg:ks.length<=1000)(h:FQ w.cell? a ks)(al:w.cell? (aD G 0)=some (.string m)):
 Calls prog 196 #[.slice a ks.length cap,.func (.func fn) #[] #[pO G 0]] w λe w'=>e=.returned (iN<|Ez p ks 0)/\Below w.heap.size w w':=by
 have bi:∀xs w,(callFunc fn xs).run prog w=.ok (.enter fn xs) w:=by rcases ak with h|h|h<;>rw[h.1]<;>first|exact Tryz.call259|exact Tryz.call197|exact Tryz.call270
 obtain⟨R,J⟩:=Aq<|Ez p ks 0;rw[J.out];have aA:=hid al;have HK:=hid h;have a1:G<w.heap.size:=bL al;by_cases ao:ks=[]
 .subst ao
  have O:=hid J.symm;go_enter func196,ntmps196;go_wp2;go_loop [8] (λi=>i=iN 0) (λ_=>0)
  case atStart=>rfl
  case round=>
   subst hrel;go_wp2;go_ret;exact⟨FD O.symm,NB _ _⟩
 obtain⟨b,H,rfl,f,Z⟩:∃b H,a=some (aD b H)/\∃f:Nat->Hd,∀i n x,ks[i]? =some (n,x)->Ep w.cell? b (H+i*9) n x (f i):=by
  rcases HK.out with e|⟨b,H,e,f,Z⟩
  .exact absurd e ao
  .exact⟨b,H,e,f,λi n x a6=>(Z i n x a6).1⟩
 have a7:=hid Z;go_enter func196,ntmps196;go_wp2;go_loopw [8] (λi wr=>∃j:Nat,j<=ks.length/\i=iN j/\Hid (R=Ez p (ks.drop j) j)/\Below w.heap.size w wr) (λi _=>ks.length-(intOf i).toNat)
 case atStart=>exact⟨0,N7 _,rfl,J.symm,NB _ _⟩
 case round=>
  obtain⟨j,bk,rfl,ap,I⟩:=hrel;by_cases a8:j<ks.length;rotate_left
  .have ba:decide ((j:Int)<(ks.length:Int))=false:=NM oM
   have O:Hid<|R=-1:=by show _=_;rw[ap.out,R8 oM,Ez]
   go_wp2;go_ret;exact⟨FD O.symm,I⟩
  have ba:(j:Int)<(ks.length:Int):=by omega
  obtain⟨⟨n,x⟩,hx⟩:∃x,ks[j]? =some x:=⟨ks[j],by simp[a8]⟩;have ar:=(a7 j n x hx).below I;have bb:=(I.cell (p:=(aD G 0)) a1).trans aA;have ab:=hid<|ap.trans<|gB hx;generalize f j=bd at ar;have be:=j7 ak n x bd G wr bb;have aw:=hid be;obtain⟨t,bf⟩:∃t,p n=t:=⟨_,rfl⟩;rw[bf]at ab aw;obtain⟨bl,bn,bo,bp,bq,bs,bu,bx⟩:=x;obtain⟨p0,p1,p2,p3,bA,bB,bC,bF,bG⟩:=ar.nine;go_wp2_with fail
  refine aw.mono ?_;rintro e bH ⟨rfl,c2⟩;have az:=I.trans<|c2.mono I.size;cases t
  .have ad:Hid<|R=Ez p (ks.drop<|j+1) (j+1):=by show _=_;rw[ab.out,NO oS]
   go_wp2;go_roundw
   case rel=>exact⟨j+1,by omega,by go_num,ad,az⟩
   case measure=>simp[intOf];omega
  .have ad:Hid<|R=j:=by show _=_;rw[ab.out,NS rfl]
   go_wp2;go_ret;exact⟨FD ad.symm,az⟩
theorem OL(a:Option Addr)(cap:Nat)(ks:Ay)(m:BA)(w:World)(J:ks.length<=1000)(h:FQ w.cell? a ks):
 Calls prog 228 #[.slice a ks.length cap,.string m] w λe w'=>e=.returned (iN<|BV m ks 0)/\Below w.heap.size w w':=by
 have G:Below w.heap.size w<|w.alloc<|.cells #[.string m] 9:=bN;have c1:Ce (w.alloc<|.cells #[.string m] 9) w.heap.size 0<|.string m:=aC;have H:=Pu (m:=m) (.inl ⟨rfl,rfl⟩) a cap w.heap.size ks _ J (h.below G) c1;rw[WK]at H;have O:Hid _:=H;go_enter func228,ntmps228;go_wp2_with fail
 go_call O as e w2 ⟨rfl,c2⟩
 have Z:=G.trans<|c2.mono G.size;obtain⟨R,I⟩:=Aq<|BV m ks 0;rw[I.out];go_wp2;go_ret;exact⟨FD I.symm,Z⟩
theorem gR(a:Option Addr)(cap:Nat)(ks:Ay)(m:BA)(w:World)(ad:ks.length<=1000)(h:FQ w.cell? a ks):
 Calls prog 261 #[.slice a ks.length cap,.string m] w λe w'=>e=.returned (iN<|Fg m ks)/\Below w.heap.size w w':=by
 have G:Below w.heap.size w<|w.alloc<|.cells #[.string m] 9:=bN;have c1:Ce (w.alloc<|.cells #[.string m] 9) w.heap.size 0<|.string m:=aC;have ak:=Pu (m:=m) (.inr<|.inr ⟨rfl,rfl⟩) a cap w.heap.size ks _ ad (h.below G) c1;have Z:Hid _:=ak;have al:=Xg m ks 0;rcases al with⟨H,I⟩|⟨H,I⟩
 .have J:Hid<|Ez (Br m) ks 0=-1:=H
  have ao:=hid I;go_enter func261,ntmps261;go_wp2_with fail
  go_call Z as e w2 ⟨rfl,c2⟩
  rw[J.out];have O:=G.trans<|c2.mono G.size;go_wp2;go_ret;exact⟨FD<|by rw[ao.out],O⟩
 .rw[RT]at H
  have J:=hid H;go_enter func261,ntmps261;go_wp2_with fail
  go_call Z as e w2 ⟨rfl,c2⟩
  rw[J.out];have O:=G.trans<|c2.mono G.size;obtain⟨R,ab⟩:=Aq<|Fg m ks;rw[ab.out]at I⊢;go_wp2;go_ret;exact⟨FD<|by rw[ab.out],O⟩
theorem A9.split{p:Nat}{k:Int}(G:A9 c b p (.mk k m u g o rL d ks) h):c ⟨b,p,none⟩=some (iN k)/\c ⟨b,p+4,none⟩=some (.bool o)/\c ⟨b,p+7,none⟩=some (.slice h.ak ks.length h.ck):=⟨G.1,G.2.2.2.2.1,G.2.2.2.2.2.2.2⟩
theorem GS(w:World)(u v:Value)(t:TypeId):(w.alloc<|.cells #[u,v] t).cell? ⟨w.heap.size,0,none⟩=some u/\(w.alloc<|.cells #[u,v] t).cell? ⟨w.heap.size,1,none⟩=some v:=by simp_all
def Nd.dirKs(x:Nd):Ay:=if x.kind=2 then x.kids else []
theorem WF{s:Sp}(I:C8 w.cell? s):
 Calls prog 108 #[s.v] w λe w'=>e=.returned (if s.x.kind=2 then .slice s.h.ak s.x.kids.length s.h.ck else nL)/\Below w.heap.size w w':=by
 obtain⟨b,p,ly,⟨k,m,u,g,o,rL,d,ks⟩,h⟩:=s;have G:Below w.heap.size w<|w.alloc<|.cells #[pO b p,iN ly] 164:=bN;obtain⟨c0,c1⟩:=GS w (pO b p) (iN ly) 164;obtain⟨n0,O,J⟩:=(I.1.below G).split;show cL 108 #[.agg #[pO b p,iN ly]] w λe w'=>e=.returned (if k=2 then .slice h.ak ks.length h.ck else nL)/\Below w.heap.size w w';dsimp only at n0 J
 by_cases H:k=2
 .subst H
  go_enter func108,ntmps108;go_wp2;go_ret;exact⟨rfl,G⟩
 .rw[NO H]
  go_enter func108,ntmps108;go_wp2;go_ret;exact⟨rfl,G⟩
theorem kC{s:Sp}(Z:C8 c s)(nm:BA):
 (JE nm s.x=-1/\Ez (λn=>decide (n=nm)) s.x.dirKs 0=-1)\/∃(b G j:Nat) (y:Nd) (I:Hd),s.x.kind=2/\s.h.ak=some (aD b G)/\JE nm s.x=j/\Ez (λn=>decide (n=nm)) s.x.dirKs 0=j/\s.x.kids[j]? =some (nm,y)/\j<s.x.kids.length/\C8 c ⟨b,G+j*9+1,s.ly,y,I⟩:=by
 obtain⟨b,p,ly,⟨k,m,u,g,o,rL,d,ks⟩,h⟩:=s;show((if k=2 then BV nm ks 0 else-1)=-1/\Ez (λn=>decide (n=nm)) (if k=2 then ks else []) 0=-1)\/∃(b G j:Nat) (y:Nd) (I:Hd),k=2/\h.ak=some (aD b G)/\(if k=2 then BV nm ks 0 else-1)=(j:Int)/\Ez (λn=>decide (n=nm)) (if k=2 then ks else []) 0=j/\ks[j]? =some (nm,y)/\j<ks.length/\C8 c ⟨b,G+j*9+1,ly,y,I⟩;by_cases H:k=2
 .rw[NS H,NS H,WK]
  rcases KE nm ks 0 with⟨J,_⟩|⟨j,x,J,O,_⟩
  .grind
  .right
   obtain⟨_,_,_,ab⟩:=Cs.1 Z.2;rcases ab with e|⟨ad,G,e,f,ak⟩
   .grind
   .obtain⟨g1,al⟩:=ak j nm x O
    refine⟨ad,G,j,x,f j,H,e,by rw[J];simp,by rw[J];simp,O,(NE.1 O).1,g1.2,al⟩
 .rw[NO H,NO H]
  exact .inl ⟨rfl,rfl⟩
end Go.Proofs.YtchpdmjlicmdaaaGreatDoor
