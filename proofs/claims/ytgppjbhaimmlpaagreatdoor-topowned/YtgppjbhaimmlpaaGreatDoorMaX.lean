/-
  TopOwned: Ma Mb Ac Sh Ae Af Ag Wa Wb Nn Wi Wm.
-/
import Derived.Test.YtgppjbhaimmlpaaGreatDoorApX
import Derived.RangeFuncNested
import Derived.RangeFuncBound
import Derived.RangeFuncCalls
import Derived.RangeFuncLeaves
import Derived.Shelf.Abstract
import Derived.Shelf.RegionOpen
import Derived.WalkKit
import Derived.OwnWalkIn
import Derived.TacticsInMore
import Derived.LoopNIn
import Derived.LoopIn
import Derived.Test.YtgppjbhaimmlpaaGreatDoorRows
import Derived.WalkSpells
import Derived.WalkLawsBesides
import Derived.Lib.Strings
import Derived.Shelf.Strings.Search1
import Derived.Shelf.Strings.Search2
import Derived.Test.YtgppjbhaimmlpaaGreatDoorProg
import Derived.Lib.CutLaws
import Derived.Deep.QuietTactic
import Derived.BigQuiet
import Derived.Deep.RegionHeld3
import Derived.Lib.SliceRun
import Derived.Lib.AppendZeros
set_option maxRecDepth 100000
set_option maxHeartbeats 16000000
namespace Go.Proofs.YtgppjbhaimmlpaaGreatDoor
open Go.RowKit Go.Proofs.Tryz
structure US (rec:LoopState→Option Code→Loop) (fn:FuncId) (tmps:Array Value) (ps:Array Tmp) (assign body:Code) (D:Nat):Prop where
 out:rec=fun st pe=>{state:=st,pending:=pe,fn,tmps,params:=ps,assign,body,defers:=D}
def cO(l:Nat)(rec:LoopState→Option Code→Loop)(F:Ending→World→Prop):Exit→Act→World→Prop
 |.normal,_,W=>W.heap[l]? =some (.loop (rec .busy none))∧F (.returned (.bool true)) (W.putObj l (.loop (rec .ready none)))
 |.ret,_,W=>W.heap[l]? =some (.loop (rec .busy none))∧F (.returned (.bool false)) (W.putObj l (.loop (rec .done (some .ret))))
 |.exit id,_,W=>W.heap[l]? =some (.loop (rec .busy none))∧F (.returned (.bool false)) (W.putObj l (.loop (rec .done (some (.exit id)))))
 |.goto t,_,W=>W.heap[l]? =some (.loop (rec .busy none))∧F (.returned (.bool false)) (W.putObj l (.loop (rec .done (some (.goto t)))))
 |.panic _,_,_=>False
 |.outgrown,_,_=>False
theorem M7{P:Program}{n:Nat}{rec:LoopState→Option Code→Loop}{fn:FuncId}{tmps:Array Value}{O:Array Tmp}{assign body:Code}{D:Nat}(T:US rec fn tmps O assign body D){l:Nat}{W:World}{args:Array Value}{Q:Ending→World→Prop}
 (V:W.heap[l]? =some (.loop (rec .ready none))) (Y:args.size=O.size)
 (h:assign.wpIn (Fence.wide.inRound l) n P (Exit.then (fun a w=>w.heap[l]? =some (.loop (rec .ready none))∧body.wpIn (Fence.wide.inRound l) n P (cO l rec Q) a (w.putObj l (.loop (rec .busy none)))) fun _ _ _=>False)
  {tmps:=(O.zip args).foldl (fun t (p,v)=>t.setIfInBounds p v) tmps,defers:=[]} W):YieldAt Fence.wide n P l args W Q:=by
 have H:=T.out;have R:=run_yield (P:=P) (args:=args) V (by rw[H];exact Y);rw[H]at R;refine⟨fn,_,assign,body,R,roundIn_of_wpIn trivial (wpIn_mono h ?_)⟩;intro e a w F;cases e with
 |normal=>
  obtain⟨Z,aa⟩:=F;refine⟨_,run_beginRound Z (by rw[H]),?_⟩;have ab:({rec .ready none with state:=.busy}:Loop)=rec .busy none:=by rw[H]
  rw[ab];refine wpIn_mono aa ?_;have I:∀(G:Option Code) (J:World),J.heap[l]? =some (.loop (rec .busy none))→(Instr.endRound l G).run P J=.ok (.bool G.isNone) (J.putObj l (.loop (rec (if G.isNone then .ready else .done) G))):=fun G J ad=>by
   have:=run_endRound (P:=P) G ad;rw[H]at this⊢;exact this
  intro e a w F;cases e with
  |normal=>exact⟨_,_,I none w F.1,F.2⟩
  |ret=>exact⟨_,_,I (some .ret) w F.1,F.2⟩
  |exit id=>exact⟨_,_,I (some (.exit id)) w F.1,F.2⟩
  |goto t=>exact⟨_,_,I (some (.goto t)) w F.1,F.2⟩
  |panic c=>exact F.elim
  |outgrown=>exact F.elim
 |ret=>exact F.elim
 |exit id=>exact F.elim
 |goto t=>exact F.elim
 |panic c=>exact F.elim
 |outgrown=>exact F.elim
theorem Ns{P:Program}{n:Nat}{g:Operand}{H:Array Tmp}{assign body:Code}{J:Exit→Act→World→Prop}{a:Act}{w:World}{gf:Nat}{lb:Array Value}
 (ab:a.eval g=.func (.func gf) #[] lb) (ad:∀args w,(callFunc gf args).run P w=.ok (.enter gf args) w)
 (h:∀fn rec,US rec fn a.tmps H assign body w.heap.size→∀F:World,Below w.heap.size w F→F.heap.size=w.heap.size+1+1→F.heap[w.heap.size+1]? =some (.loop (rec .ready none))→F.heap[w.heap.size]? =some (.deferred (some []))→
  CallsIn Fence.wide (n-1) P gf (#[.func (.yield (w.heap.size+1)) #[] #[]]++lb) F fun e I=>(∃v,e=.returned v)∧
   ((I.heap[w.heap.size+1]? =some (.loop (rec .ready none))∧J .normal {a with defers:={target:=.collected w.heap.size,args:=#[]}::a.defers} (I.putObj (w.heap.size+1) (.loop (rec .exhausted none))))∨
    ∃c,I.heap[w.heap.size+1]? =some (.loop (rec .done (some c)))∧c.wpIn Fence.wide n P J {a with defers:={target:=.collected w.heap.size,args:=#[]}::a.defers} (I.putObj (w.heap.size+1) (.loop (rec .exhausted (some c)))))):
 (Code.rangeFunc g H assign body).wpIn Fence.wide n P J a w:=by
 refine wpIn_rangeFunc ?_;intro fn _;obtain⟨rec,G⟩:∃rec:LoopState→Option Code→Loop,rec=fun st ak=>{state:=st,pending:=ak,fn:=fn,tmps:=a.tmps,params:=H,assign:=assign,body:=body,defers:=w.heap.size}:=⟨_,rfl⟩;have R:((w.alloc (.deferred (some []))).alloc (.loop (rec .ready none))).heap.size=w.heap.size+1+1:=by rw[nv,nv]
 have T:Below w.heap.size w ((w.alloc (.deferred (some []))).alloc (.loop (rec .ready none))):=bN.alloc (by rw[nv];omega) _;have V:((w.alloc (.deferred (some []))).alloc (.loop (rec .ready none))).heap[w.heap.size+1]? =some (.loop (rec .ready none)):=by
  have:=World.alloc_heap_new (w.alloc (.deferred (some []))) (.loop (rec .ready none));rwa [nv]at this
 have Y:((w.alloc (.deferred (some []))).alloc (.loop (rec .ready none))).heap[w.heap.size]? =some (.deferred (some [])):=(rR _ _ _ (by rw[nv];omega)).trans (World.alloc_heap_new w _);have Z:(Instr.enterLoop fn a.tmps H assign body Fence.wide.round).run P w=.ok (w.heap.size+1,[{target:=.collected w.heap.size,args:=#[]}]) ((w.alloc (.deferred (some []))).alloc (.loop (rec .ready none))):=by rw[G];exact run_enterLoop_outer _ _ _ _ _
 obtain⟨F,aa⟩:∃F,(w.alloc (.deferred (some []))).alloc (.loop (rec .ready none))=F:=⟨_,rfl⟩;rw[aa]at Z R T V Y;clear aa
 refine⟨w.heap.size+1,[{target:=.collected w.heap.size,args:=#[]}],F,{target:=.fn (.func gf) lb,args:=#[.func (.yield (w.heap.size+1)) #[] #[]]},F,gf,
  #[.func (.yield (w.heap.size+1)) #[] #[]]++lb,F,Z,?_,fun ao _=>trivial,?_,fun e=>by simp[Fence.wide]at e,?_⟩
 ·simp only[resolve,ab]
  simp[go_sem]
 ·simp[invoke,go_sem,ad]
 ·refine(h fn rec ⟨G⟩ _ T R V Y).mono ?_
  rintro e W2 ⟨⟨v,rfl⟩,(⟨O,Q⟩|⟨c,O,Q⟩)⟩
  ·exact⟨none,_,by have:=run_endLoop (P:=P) O (by rw[G];simp);rw[G]at this⊢;exact this,Q⟩
  ·exact⟨some c,_,by have:=run_endLoop (P:=P) O (by rw[G];simp);rw[G]at this⊢;exact this,Q⟩
end Go.Proofs.YtgppjbhaimmlpaaGreatDoor
namespace Go.Proofs.YtgppjbhaimmlpaaGreatDoor
open Go.RowKit Go.Shelf Go.Proofs.Tryz
attribute [local go_sem] Oper.semAt_some
structure Sp where
 b:Nat
 p:Nat
 ly:Nat
 x:Nd
 h:Hd
def Sp.v(s:Sp):Value:=.agg #[.pointer (some ⟨s.b,s.p,none⟩),.int .i64 s.ly]
def Sp.pr(s:Sp):Nd×Nat:=(s.x,s.ly)
def Cx(c:AJ)(s:Sp):Prop:=Bj c s.b s.p s.x s.h∧Ah c s.x s.h
theorem Cx.below{w w':World}{s:Sp}(h:Cx w.cell? s)(hb:Below w.heap.size w w'):Cx w'.cell? s:=⟨h.1.below hb,h.2.ab hb⟩
def Mo(gf:Nat)(lb:Array Value)(n₀:Nat)(w:World)(G:List Sp):Prop:=
 ∀(l:Nat) (F:Nat→World→Prop) (H:World→Prop) (W:World),Below n₀ w W→(∀i A B,F i A→Below A.heap.size A B→F i B)→
  (∀i s A,G[i]? =some s→F i A→YieldAt Fence.wide 0 prog l #[s.v] A fun e B=>(e=.returned (.bool true)∧F (i+1) B∧Below n₀ A B)∨(e=.returned (.bool false)∧H B))→
  F 0 W→CallsIn Fence.wide 0 prog gf (#[.func (.yield l) #[] #[]]++lb) W fun e B=>(∃v,e=.returned v)∧(F G.length B∨H B)
theorem VY(F n₀:Nat)(a:Option Addr)(cap:Nat)(G:List Sp)(w:World)(J:F<n₀)(_hn:n₀≤w.heap.size)(O:w.cell? (aD F 0)=some (.slice a G.length cap))(ak:G.length≤1000)
 (Q:∀i s,G[i]? =some s→∃b H,a=some (aD b H)∧s.b=b∧s.p=H+i*8∧s.ly=i):
 Mo 168 #[pO F 0] n₀ w G:=by
 intro l ao bk W ap bl R az;have T:=(ap.cell (p:=(aD F 0)) J).trans O;show CallsIn Fence.wide 0 prog 168 #[.func (.yield l) #[] #[],pO F 0] W _;refine callsIn_of_wp func168 rfl trivial ?_ rfl;simp only[ntmps168,List.size_toArray,n3,nQ,Nat.reduceAdd,Nat.reduceSub,r9,r8,List.push_toArray,List.append_toArray,ru,n9];have a1:Hid _:=R;have a6:Hid _:=Q;obtain⟨N,V⟩:=A3 G.length;rw[V.out]at T ak⊢;clear R Q O;gi_wp2
 gi_loopw [3,6] (fun _ i wr=>∃j:Nat,j≤N∧i=iN j∧ao j wr∧Ce wr F 0 (.slice a N cap)) (fun _ i _=>N-(intOf i).toNat)
 case atStart=>exact⟨0,nM _,rfl,az,T⟩
 case round=>
  obtain⟨j,bn,rfl,Y,a7⟩:=hrel;by_cases a8:j<N;rotate_left
  ·have ba:decide ((j:Int)<(N:Int))=false:=nA (by omega)
   gi_wp2
   go_end0
   exact⟨⟨_,rfl⟩,.inl (by rw[show N=j by omega];exact Y)⟩
  ·obtain⟨s,I⟩:∃s,G[j]? =some s:=⟨_,np (by rw[V.out];exact a8)⟩
   obtain⟨b,H,rfl,Z,aa,ab⟩:=a6.out j s I;obtain⟨fn,tmps,assign,body,bb,ad⟩:=a1.out j s wr I Y;rw[Sp.v,Z,aa,ab]at bb;have ba:decide ((j:Int)<(N:Int))=true:=nE (by omega);have bd:Hid _:=ad;clear ad I Z aa ab;gi_wp2
   refine⟨rfl,RoundIn.mono bd.out ?_⟩;rintro e bo (⟨rfl,be,bf⟩|⟨rfl,bg⟩)
   ·have bi:=(bf.cell (p:=(aD F 0)) J).trans a7
    gi_wp2
    go_roundw
    case rel=>exact⟨j+1,by omega,by go_num,be,bi⟩
    case measure=>(simp[intOf];try omega)
   ·gi_wp2
    refine nF (results_none rfl _ _ _) rfl ?_;exact⟨⟨_,rfl⟩,.inr bg⟩
end Go.Proofs.YtgppjbhaimmlpaaGreatDoor
namespace Go.Proofs.YtgppjbhaimmlpaaGreatDoor
open Go.RowKit Go.Proofs.Tryz
theorem Bf{a b:Bool}(h:a=b):Ending.returned (.bool a)=.returned (.bool b):=by rw[h]
theorem Zi(n:Int)(w:World):Calls prog 144 #[.int .u8 n] w fun e w'=>e=.returned (.bool (Gk n))∧w=w':=by
 by_cases F:97≤n∧n≤122
 ·have J:decide (97≤n)=true:=by simpa using F.1
  have Z:decide (n≤122)=true:=by simpa using F.2
  go_enter func144,ntmps144;go_wp2;go_ret;exact⟨Bf (by simp[Gk,J,Z]),rfl⟩
 ·by_cases G:48≤n∧n≤57
  ·have J:decide (97≤n)=false:=by simp;omega
   have aa:decide (48≤n)=true:=by simpa using G.1
   have ab:decide (n≤57)=true:=by simpa using G.2
   go_enter func144,ntmps144;go_wp2;go_ret;exact⟨Bf (by simp[Gk,aa,ab]),rfl⟩
  ·have O:Gk n=((n==46||n==95)||n==45):=by
    unfold Gk;have H:(decide (97≤n)&&decide (n≤122))=false:=by simp;omega
    have I:(decide (48≤n)&&decide (n≤57))=false:=by simp;omega
    rw[H,I];simp
   have Q:=hid O;clear O;obtain⟨R,H⟩:∃t,decide (97≤n)=t:=⟨_,rfl⟩;obtain⟨T,I⟩:∃t,decide (48≤n)=t:=⟨_,rfl⟩;obtain⟨t3,ad⟩:∃t,(n==46)=t:=⟨_,rfl⟩;obtain⟨t4,ak⟩:∃t,(n==95)=t:=⟨_,rfl⟩;have V:R=true→decide (n≤122)=false:=by intro h;subst h;simp at H⊢;omega
   have Y:T=true→decide (n≤57)=false:=by intro h;subst h;simp at I⊢;omega
   have ao:Hid (Gk n=((t3||t4)||n==45)):=by show _=_;rw[Q.out,ad,ak]
   clear Q F G;cases R<;>cases T<;>cases t3<;>cases t4
   all_goals
    try replace V:=V rfl
    try replace Y:=Y rfl
    go_enter func144,ntmps144;go_wp2;go_ret;exact⟨Bf (by rw[ao.out];simp),rfl⟩
theorem Ht(s:BA):s.data.toList.length=s.size:=by rw[Array.length_toList];rfl
theorem Rr(s:BA)(k:Nat)(h:k<s.size):s.data.toList[k]? =some s[k]:=by
 have:k<s.data.size:=h;rw[Array.getElem?_toList,Array.getElem?_eq_getElem this];rfl
theorem Zq{f:UInt8→Bool}{l:List UInt8}{k:Nat}{b:UInt8}(hb:l[k]? =some b)(h:(l.take k).all f=true)(F:f b=true):(l.take (k+1)).all f=true:=by
 rw[rv,hb];simp at h⊢;exact⟨h,F⟩
theorem Z3{f:UInt8→Bool}{l:List UInt8}{k:Nat}{b:UInt8}(hb:l[k]? =some b)(F:f b=false):l.all f=false:=by
 have G:b∈l:=nD hb;cases h:l.all f with
 |false=>rfl
 |true=>rw[List.all_eq_true]at h;rw[h b G]at F;cases F
theorem Gc(s:BA)(w:World):Calls prog 107 #[.string s] w fun e w'=>e=.returned (.bool (AQ s))∧w=w':=by
 have F:Hid (AQ s=(((((!s.toList.isEmpty)&&decide (s.size≤12))&& !(s.toList==[46]))&& !(s.toList==[46,46]))&&s.data.toList.all (fun b=>Gk (b.toNat:Int)))):=by
  show _=_;unfold AQ G3;rw[Ht,r1]
 obtain⟨R,T⟩:∃t,s.toList.isEmpty=t:=⟨_,rfl⟩;rw[T]at F;cases R;rotate_left
 ·go_enter func107,ntmps107
  go_wp2;go_ret;exact⟨Bf (by rw[F.out];simp),rfl⟩
 by_cases ad:12<s.size
 ·have V:decide (12<(s.size:Int))=true:=by simp;omega
  go_enter func107,ntmps107;go_wp2;go_ret;exact⟨Bf (by rw[F.out];simp;omega),rfl⟩
 have V:decide (12<(s.size:Int))=false:=by simp;omega
 have H:Hid (decide (s.size≤12)=true):=by show _=_;simp;omega
 rw[H.out]at F;clear H;obtain⟨Y,Z⟩:∃t,(s.toList==[46])=t:=⟨_,rfl⟩;rw[Z]at F;cases Y;rotate_left
 ·go_enter func107,ntmps107
  go_wp2;go_ret;exact⟨Bf (by rw[F.out];simp),rfl⟩
 obtain⟨t3,aa⟩:∃t,(s.toList==[46,46])=t:=⟨_,rfl⟩;rw[aa]at F;cases t3;rotate_left
 ·go_enter func107,ntmps107
  go_wp2;go_ret;exact⟨Bf (by rw[F.out];simp),rfl⟩
 have I:Hid (AQ s=s.data.toList.all (fun b=>Gk (b.toNat:Int))):=by show _=_;rw[F.out];simp
 clear F;go_enter func107,ntmps107;go_wp2;go_loop [21] (fun i=>∃k:Nat,k≤s.size∧i=iN k∧Hid ((s.data.toList.take k).all (fun b=>Gk (b.toNat:Int))=true)) (fun i=>s.size-(intOf i).toNat)
 case atStart=>exact⟨0,nM _,rfl,rfl⟩
 case round=>
  obtain⟨k,ak,rfl,J⟩:=hrel;by_cases ab:k<s.size
  ·have O:Hid (s.data.toList[k]? =some s[k]):=Rr s k ab
   obtain⟨t,Q⟩:∃t,Gk (s[k].toNat:Int)=t:=⟨_,rfl⟩;have G:=hid Q;clear Q;go_wp2_with fail
   refine(Zi _ _).mono ?_;rintro e w' ⟨rfl,rfl⟩;rw[G.out];cases t
   ·go_wp2
    go_ret;exact⟨Bf (by rw[I.out];exact(Z3 O.out G.out).symm),rfl⟩
   ·go_wp2
    go_round
    case rel=>exact⟨k+1,by omega,by go_num,Zq O.out J.out G.out⟩
    case measure=>simp[intOf];omega
  ·go_wp2
   go_ret;have:=J.out;rw[n1 (by rw[Ht];omega)]at this;exact⟨Bf (by rw[I.out,this]),rfl⟩
end Go.Proofs.YtgppjbhaimmlpaaGreatDoor
namespace Go.Proofs.YtgppjbhaimmlpaaGreatDoor
open Go.Shelf Go.Proofs.Tryz
def Tryz.lays219_ren:Go.Shelf.Ren:=⟨fun|219=>181|217=>193|225=>194|224=>195|267=>196|266=>201|314=>202|n=>n,fun|9=>9|3=>3|4=>4|5=>5|46=>201|146=>245|51=>226|n=>n,fun|1=>0|n=>n⟩
theorem Tryz.lays219:Go.Proofs.Lays.n219 prog Tryz.lays219_ren:={
 mixed:=by kernel_rfl
 f217:=func193.trans (nV some (by kernel_rfl))
 f219:=func181.trans (nV some (by kernel_rfl))
 f224:=func195.trans (nV some (by kernel_rfl))
 f225:=func194.trans (nV some (by kernel_rfl))
 f266:=func201.trans (nV some (by kernel_rfl))
 f267:=func196.trans (nV some (by kernel_rfl))
 f314:=func202.trans (nV some (by kernel_rfl))
 t3:=underlying3
 a3:=Tryz.isAgg3
 z3:=Tryz.sizeOf3
 v3:=Tryz.zeroValue3
 t4:=underlying4
 a4:=Tryz.isAgg4
 z4:=Tryz.sizeOf4
 v4:=Tryz.zeroValue4
 t5:=underlying5
 a5:=Tryz.isAgg5
 z5:=Tryz.sizeOf5
 v5:=Tryz.zeroValue5
 t9:=underlying9
 a9:=Tryz.isAgg9
 z9:=Tryz.sizeOf9
 v9:=Tryz.zeroValue9
 t46:=underlying201
 a46:=Tryz.isAgg201
 z46:=Tryz.sizeOf201
 v46:=Tryz.zeroValue201
 t51:=underlying226
 a51:=Tryz.isAgg226
 z51:=Tryz.sizeOf226
 v51:=Tryz.zeroValue226
 t146:=underlying245
 a146:=Tryz.isAgg245
 z146:=Tryz.sizeOf245
 v146:=Tryz.zeroValue245
 g1:=by kernel_rfl}
open Go.RowKit Go.Lib in
theorem Tryz.stringslite_Index_one(s:BA)(c:UInt8)(w:World):
 Calls prog 181 #[.string s,.string ⟨#[c]⟩] w fun e w'=>e=.returned (.int .i64 (Lib.indexByte s.data.toList c))∧w'=w:=Any.stringslite_Index_one Tryz.lays219 s c w
end Go.Proofs.YtgppjbhaimmlpaaGreatDoor
namespace Go.Proofs.YtgppjbhaimmlpaaGreatDoor
open Go.RowKit Go.Proofs.Tryz
theorem Ez{x:Int}(F:-9223372036854775808≤x)(G:x≤9223372036854775807):IntKind.i64.wrap x=x:=by
 simp[IntKind.wrap,IntKind.signed,IntKind.bits];omega
def H5(s:BA):BA:=⟨(Lib.cut s.data.toList [46]).1.toArray⟩
def IP(s:BA):BA:=⟨(Lib.cut s.data.toList [46]).2.1.toArray⟩
def Mg(s:BA):Bool:=(Lib.cut s.data.toList [46]).2.2
theorem Yq(s:BA)(w:World)(Z:s.size≤1000):Calls prog 158 #[.string s,.string ⟨#[46]⟩] w fun e w'=>e=.returned (.tuple #[.string (H5 s),.string (IP s),.bool (Mg s)])∧∃n,w'=w.drewN n:=by
 have V:=(Lib.index_one s.data.toList 46).symm;have J:=hid V;clear V;rcases Lib.indexB_cases s ⟨#[46]⟩with F|⟨i,F,Y⟩
 ·obtain⟨G,H,I⟩:=Lib.cutB_miss s ⟨#[46]⟩ F
  have O:Hid (H5 s=s):=G;have Q:Hid (IP s=ByteArray.empty):=H;have R:Hid (Mg s=false):=I;have T:=hid (J.out.trans F);clear G H I F J;go_enter func158,ntmps158;go_wp2_with fail
  refine(Tryz.stringslite_Index_one _ _ _).mono ?_;rintro e w' ⟨rfl,rfl⟩;rw[T.out];go_wp2;go_ret3
  exact⟨by rw[O.out,Q.out,R.out];rfl,0,rfl⟩
 ·obtain⟨G,H,I⟩:=Lib.cutB_hit s ⟨#[46]⟩ i F
  have O:Hid (H5 s=s.extract 0 i):=G;have Q:Hid (IP s=s.extract (i+1) s.size):=H;have R:Hid (Mg s=true):=I;have T:=hid (J.out.trans F);have aa:i+1≤s.size:=Y;have c1:(0:Int)≤↑i:=by omega
  have c2:(↑i:Int)≤↑s.size:=by omega
  have ab:(0:Int)≤↑i+1:=by omega
  have ad:(↑i+1:Int)≤↑s.size:=by omega
  have ak:IntKind.i64.wrap (↑i+1)=↑i+1:=Ez (by omega) (by omega);clear G H I F J Y;go_enter func158,ntmps158;go_wp2_with fail
  refine(Tryz.stringslite_Index_one _ _ _).mono ?_;rintro e w' ⟨rfl,rfl⟩;rw[T.out];go_wp2;go_quiet (fail)
  go_wp2;go_ret3
  exact⟨by rw[O.out,Q.out,R.out];rfl,_,rfl⟩
theorem Lp(s:BA)(w:World)(F:s.size≤1000):Calls prog 122 #[.string s,.string ⟨#[46]⟩] w fun e w'=>e=.returned (.tuple #[.string (H5 s),.string (IP s),.bool (Mg s)])∧∃n,w'=w.drewN n:=by
 go_enter func122,ntmps122;go_wp2_with fail
 refine(Yq s _ F).mono ?_;rintro e w' ⟨rfl,n,rfl⟩;go_wp2;go_ret3
 exact⟨rfl,n,rfl⟩
theorem Wa(s:BA):CW s=if AQ (IP s)=true then(if(H5 s).toList=[117]then 1 else if(H5 s).toList=[116]then 2 else 0)else 0:=by
 unfold CW;rw[X4];have F:(H5 s).toList=(Lib.cut s.data.toList [46]).1:=by rw[r1];rfl
 have G:(IP s).data.toList=(Lib.cut s.data.toList [46]).2.1:=rfl;unfold AQ;rw[F,G]
theorem Di{a b:Int}(h:a=b):Ending.returned (.int .i64 a)=.returned (.int .i64 b):=by rw[h]
theorem KI(s:BA)(w:World)(J:s.size≤1000):Calls prog 70 #[.string s] w fun e w'=>e=.returned (iN (CW s))∧∃n,w'=w.drewN n:=by
 have F:=hid (Wa s);generalize T:H5 s=h at F;generalize V:IP s=t at F;obtain⟨b,hb⟩:∃b,AQ t=b:=⟨_,rfl⟩;have O:=hid hb;rw[hb]at F;clear hb;have Q:=hid T;have R:=hid V;clear T V;cases b
 ·have H:Hid (CW s=0):=by show _=_;rw[F.out];rfl
  clear F;go_enter func70,ntmps70;go_wp2_with fail
  refine(Lp s _ J).mono ?_;rintro e w' ⟨rfl,n,rfl⟩;rw[Q.out,R.out];go_wp2_with fail
  refine(Gc t _).mono ?_;rintro e w' ⟨rfl,rfl⟩;rw[O.out];go_wp2;go_ret;exact⟨Di H.out.symm,n,rfl⟩
 ·by_cases G:h.toList=[117]
  ·have H:Hid (CW s=1):=by show _=_;rw[F.out,nC rfl,nC G]
   have Y:(h.toList==[117])=true:=by simpa using G
   clear F G;go_enter func70,ntmps70;go_wp2_with fail
   refine(Lp s _ J).mono ?_;rintro e w' ⟨rfl,n,rfl⟩;rw[Q.out,R.out];go_wp2_with fail
   refine(Gc t _).mono ?_;rintro e w' ⟨rfl,rfl⟩;rw[O.out];go_wp2;go_ret;exact⟨Di H.out.symm,n,rfl⟩
  ·have Y:(h.toList==[117])=false:=by simpa using G
   by_cases I:h.toList=[116]
   ·have H:Hid (CW s=2):=by show _=_;rw[F.out,nC rfl,nB G,nC I]
    have Z:(h.toList==[116])=true:=by simpa using I
    clear F G I;go_enter func70,ntmps70;go_wp2_with fail
    refine(Lp s _ J).mono ?_;rintro e w' ⟨rfl,n,rfl⟩;rw[Q.out,R.out];go_wp2_with fail
    refine(Gc t _).mono ?_;rintro e w' ⟨rfl,rfl⟩;rw[O.out];go_wp2;go_ret;exact⟨Di H.out.symm,n,rfl⟩
   ·have H:Hid (CW s=0):=by show _=_;rw[F.out,nC rfl,nB G,nB I]
    have Z:(h.toList==[116])=false:=by simpa using I
    clear F G I;go_enter func70,ntmps70;go_wp2_with fail
    refine(Lp s _ J).mono ?_;rintro e w' ⟨rfl,n,rfl⟩;rw[Q.out,R.out];go_wp2_with fail
    refine(Gc t _).mono ?_;rintro e w' ⟨rfl,rfl⟩;rw[O.out];go_wp2;go_ret;exact⟨Di H.out.symm,n,rfl⟩
def EM(l:List Kv):Prop:=∀x∈l,x.n.size≤255∧x.v.size≤255
def Fg(w:World)(b:Nat)(x:Kv):Prop:=w.cell? ⟨b,0,none⟩=some (.string x.n)∧w.cell? ⟨b,1,none⟩=some (.string x.v)
theorem Fg.new(w:World)(x:Kv):Fg (w.alloc (.cells #[.string x.n,.string x.v] 122)) w.heap.size x:=
 ⟨aC,aC⟩
theorem Fg.drew{w:World}{b:Nat}{x:Kv}(h:Fg w b x)(n:Nat):Fg (w.drewN n) b x:=h
def Am(n:Int):Value:=if n=0 then .nilIface else .iface 74 (.int .i64 n)
theorem AH{n m:Int}(h:n=m)(F:m≠0):Am n=.iface 74 (.int .i64 m):=by subst h;simp[Am,F]
theorem Cr{n:Int}(h:n=0):Am n=.nilIface:=by subst h;rfl
theorem Cm{a b:Value}(h:a=b):Ending.returned a=.returned b:=by rw[h]
theorem KH(a:Option Addr)(cap:Nat)(l:List Kv)(w:World)(bs:l.length≤1000)(bf:EM l)(h:Bm w.cell? a l):
 Calls prog 106 #[.slice a l.length cap] w fun e w'=>e=.returned (Am (CX l))∧Below w.heap.size w w':=by
 by_cases az:4<l.length
 ·have bg:decide (4<(l.length:Int))=true:=nE (by omega)
  have J:Hid (CX l=2):=by show _=_;unfold CX;rw[nC az]
  go_enter func106,ntmps106;go_wp2;go_ret;exact⟨Cm (AH J.out (by decide)).symm,nt _ _⟩
 have bg:decide (4<(l.length:Int))=false:=nA (by omega);have J:Hid (CX l=aF l 0 l.length):=by show _=_;unfold CX;rw[nB az]
 go_enter func106,ntmps106;go_wp2;go_loopw [11] (fun i wr=>∃k:Nat,k≤l.length∧i=.int .i64 k∧Hid (aF l 0 l.length=aF l k (l.length-k))∧Below w.heap.size w wr) (fun i _=>l.length-(intOf i).toNat)
 case atStart=>exact⟨0,nM _,rfl,rfl,nt _ _⟩
 case round=>
  obtain⟨k,bu,rfl,O,H⟩:=hrel;by_cases a1:k<l.length
  ·rcases h with rfl|⟨b,Q,rfl,ad⟩
   ·simp at a1
   ·obtain⟨x,hx⟩:∃x,l[k]? =some x:=⟨l[k],by simp[a1]⟩
    obtain⟨G,a6⟩:=ad k x hx;obtain⟨bv,bx⟩:=bf x (nD hx);have V:b<w.heap.size:=ny _ _ G;have bi:b<wr.heap.size:=nG V H.size;have bA:(k:Int)<(l.length:Int):=by omega
    have T:Hid (aF l k (l.length-k)=aF l k ((l.length-(k+1))+1)):=by show _=_;congr 1;omega
    have R:=hid hx;have a7:=hid ad;have bk:Ce wr b (Q+k*2) (.string x.n):=(H.cell (p:=(aD b (Q+k*2))) V).trans G;have q1:Ce wr b (Q+k*2+1) (.string x.v):=(H.cell (p:=(aD b (Q+k*2+1))) V).trans a6;obtain⟨c,a8⟩:∃c,CW x.n=c:=⟨_,rfl⟩;have Y:=hid a8;clear G a6 hx ad a8;go_wp2_with fail
    refine(KI x.n _ (by omega)).mono ?_;rintro e w' ⟨rfl,n,rfl⟩;rw[Y.out];have ak:=(Fg.new wr x).drew n;have I:=rz (H.alloc H.size (.cells #[.string x.n,.string x.v] 122)) n;generalize(wr.alloc (.cells #[.string x.n,.string x.v] 122)).drewN n=bl at ak I⊢;generalize wr.heap.size=bB at ak⊢;obtain⟨bC,bF⟩:=ak;clear bk q1 H bi;by_cases G:c=0
    ·subst G
     have F:=hid (T.out.trans ((LT (by rw[Ku R.out Y.out];decide)).trans (Ku R.out Y.out)));go_wp2;go_ret;exact⟨Cm (AH (by rw[J.out,O.out,F.out]) (by decide)).symm,I⟩
    have Z:Hid (CW x.n≠0):=by show _≠_;rw[Y.out];exact G
    have bc:(c==0)=false:=by simpa using G
    clear G;by_cases aa:20<x.v.size
    ·have bn:decide (20<(x.v.size:Int))=true:=nE (by omega)
     have F:=hid (T.out.trans ((LT (by rw[Kz R.out Z.out aa];decide)).trans (Kz R.out Z.out aa)));go_wp2;go_ret;exact⟨Cm (AH (by rw[J.out,O.out,F.out]) (by decide)).symm,I⟩
    have bn:decide (20<(x.v.size:Int))=false:=nA (by omega);have ba:=hid aa;clear aa;by_cases bo:k=0
    ·subst bo
     have F:=hid (T.out.trans (OI (Pw R.out Z.out ba.out)));go_wp2;go_quiet (fail)
     go_wp2;go_roundw
     case rel=>exact⟨0+1,by omega,by go_num,O.out.trans F.out,rz I _⟩
     case measure=>simp[intOf];omega
    ·obtain⟨j,bb⟩:∃j,k=j+1:=⟨k-1,by omega⟩
     obtain⟨p,ao⟩:∃p,l[j]? =some p:=⟨l[j]'(by omega),np _⟩;obtain⟨bd,_⟩:=a7.out j p ao;have bG:Ce bl b (Q+j*2) (.string p.n):=(I.cell (p:=(aD b (Q+j*2))) V).trans bd;have be:=hid bb;have ab:Hid (Ec l k=if AX p.n x.n=true then 0 else 3):=by show _=_;rw[be.out];exact MP (by rw[←be.out];exact R.out) ao Z.out ba.out
     have bH:decide (0<k)=true:=nE (by omega);have bY:IntKind.i64.wrap ((k:Int)-1)=(j:Int):=(Ez (by omega) (by omega)).trans (by omega);have b0:(k:Int)-1=(j:Int):=by omega
     have dl:(j:Int)<(l.length:Int):=by omega
     obtain⟨t,ap⟩:∃t,AX p.n x.n=t:=⟨_,rfl⟩;have b1:(Op.bytesLess x.n.toList p.n.toList||x.n.toList==p.n.toList)= !t:=by rw[Ov,ap]
     rw[ap]at ab;clear bb ap a7 ao bd;cases t
     ·have F:Hid (aF l k (l.length-k)=3):=T.out.trans ((LT (by rw[ab.out];decide)).trans (by rw[ab.out];rfl))
      go_wp2;go_quiet (fail)
      go_wp2;go_ret;exact⟨Cm (AH (by rw[J.out,O.out,F.out]) (by decide)).symm,rz I _⟩
     ·have F:Hid (aF l k (l.length-k)=aF l (k+1) (l.length-(k+1))):=T.out.trans (OI (by rw[ab.out];rfl))
      go_wp2;go_quiet (fail)
      go_wp2;go_roundw
      case rel=>exact⟨k+1,by omega,by go_num,O.out.trans F.out,rz I _⟩
      case measure=>simp[intOf];omega
  ·have bp:l.length-k=0:=by omega
   go_wp2;go_ret;exact⟨Cm (Cr (by rw[J.out,O.out,bp];rfl)).symm,H⟩
theorem Xu{f:Kv→Bool}{l:List Kv}{k:Nat}{b:Kv}(hb:l[k]? =some b)(h:(l.take k).all f=true)(F:f b=true):(l.take (k+1)).all f=true:=by
 rw[rv,hb];simp at h⊢;exact⟨h,F⟩
theorem Sm{f:Kv→Bool}{l:List Kv}{k:Nat}{b:Kv}(hb:l[k]? =some b)(F:f b=false):l.all f=false:=by
 have G:b∈l:=nD hb;cases h:l.all f with
 |false=>rfl
 |true=>rw[List.all_eq_true]at h;rw[h b G]at F;cases F
theorem Kr(a:Option Addr)(cap:Nat)(l:List Kv)(w:World)(h:Bm w.cell? a l):
 Calls prog 59 #[.slice a l.length cap] w fun e w'=>e=.returned (.bool (Fv l))∧w=w':=by
 by_cases Y:8<l.length
 ·have Q:decide (8<(l.length:Int))=true:=nE (by omega)
  have F:Hid (Fv l=false):=by show _=_;unfold Fv;rw[nA (by omega:¬l.length≤8)];rfl
  go_enter func59,ntmps59;go_wp2;go_ret;exact⟨Bf F.out.symm,rfl⟩
 have Q:=nA (by omega);have F:Hid (Fv l=l.all GG):=by show _=_;unfold Fv;rw[nE (by omega:l.length≤8)];rfl
 go_enter func59,ntmps59;go_wp2;go_loop [3] (fun i=>∃k:Nat,k≤l.length∧i=iN k∧Hid ((l.take k).all GG=true)) (fun i=>l.length-(intOf i).toNat)
 case atStart=>exact⟨0,nM _,rfl,rfl⟩
 case round=>
  obtain⟨k,Z,rfl,I⟩:=hrel;by_cases J:k<l.length
  ·rcases h with rfl|⟨b,aa,rfl,O⟩
   ·simp at J
   ·obtain⟨x,hx⟩:∃x,l[k]? =some x:=⟨l[k],by simp[J]⟩
    obtain⟨R,q1⟩:=O k x hx;have ab:b<w.heap.size:=bL R;have ad:(k:Int)<(l.length:Int):=by omega
    have H:=hid hx;clear hx O;by_cases ak:60<x.n.size
    ·have T:decide (60<(x.n.size:Int))=true:=nE (by omega)
     have G:Hid (l.all GG=false):=Sm H.out (by unfold GG;rw[nA (by omega:¬x.n.size≤60)];rfl);go_wp2;go_ret;exact⟨Bf (by rw[F.out,G.out]),rfl⟩
    have T:=nA (by omega);by_cases ao:60<x.v.size
    ·have V:decide (60<(x.v.size:Int))=true:=nE (by omega)
     have G:Hid (l.all GG=false):=Sm H.out (by unfold GG;rw[nA (by omega:¬x.v.size≤60)];simp);go_wp2;go_ret;exact⟨Bf (by rw[F.out,G.out]),rfl⟩
    have V:=nA (by omega);have G:Hid (GG x=true):=by show _=_;unfold GG;simp;omega
    go_wp2;go_round
    case rel=>exact⟨k+1,by omega,by go_num,Xu H.out I.out G.out⟩
    case measure=>simp[intOf];omega
  ·go_wp2
   go_ret;have:=I.out;rw[n1 (by omega)]at this;exact⟨Bf (by rw[F.out,this]),rfl⟩
def Cc(w:World)(b:Nat):Nd→Hd→Prop
 |.mk k m u g o nh d ks,h=>w.cell? ⟨b,0,none⟩=some (.int .i64 k)∧w.cell? ⟨b,1,none⟩=some (.int .i64 m)∧w.cell? ⟨b,2,none⟩=some (.int .i64 u)∧w.cell? ⟨b,3,none⟩=some (.int .i64 g)∧
  w.cell? ⟨b,4,none⟩=some (.bool o)∧w.cell? ⟨b,5,none⟩=some (.slice h.aa nh.length h.ca)∧w.cell? ⟨b,6,none⟩=some (.string d)∧w.cell? ⟨b,7,none⟩=some (.slice h.ak ks.length h.ck)
theorem Cc.new(w:World)(k m u g:Int)(o:Bool)(nh:List Kv)(d:BA)(ks:List (BA×Nd))(h:Hd):
 Cc (w.alloc (.cells #[iN k,iN m,iN u,iN g,.bool o,.slice h.aa nh.length h.ca,.string d,.slice h.ak ks.length h.ck] 50)) w.heap.size (.mk k m u g o nh d ks) h:=
 ⟨aC,aC,aC,aC,aC,aC,aC,aC⟩
theorem Cc.below{w w':World}{b:Nat}{x:Nd}{h:Hd}(H:Cc w b x h)(hb:Below w.heap.size w w'):Cc w' b x h:=by
 obtain⟨k,m,u,g,o,nh,d,ks⟩:=x;obtain⟨G,I,J,O,Q,R,T,V⟩:=H;have F:b<w.heap.size:=bL G
 exact⟨(hb.cell (p:=(aD b 0)) F).trans G,(hb.cell (p:=(aD b 1)) F).trans I,(hb.cell (p:=(aD b 2)) F).trans J,(hb.cell (p:=(aD b 3)) F).trans O,(hb.cell (p:=(aD b 4)) F).trans Q,
  (hb.cell (p:=(aD b 5)) F).trans R,(hb.cell (p:=(aD b 6)) F).trans T,(hb.cell (p:=(aD b 7)) F).trans V⟩
theorem Cc.at{w:World}{b:Nat}{x:Nd}{h:Hd}(hb:Cc w b x h):Bj w.cell? b 0 x h:=by
 obtain⟨k,m,u,g,o,nh,d,ks⟩:=x;exact hb
theorem Bj.box{w:World}{b:Nat}{x:Nd}{h:Hd}(hb:Bj w.cell? b 0 x h):Cc w b x h:=by
 obtain⟨k,m,u,g,o,nh,d,ks⟩:=x;exact hb
theorem Dd.nine{c:AJ}{b p:Nat}{n:BA}{k m u g:Int}{o:Bool}{nh:List Kv}{d:BA}{ks:At}{h:Hd}(F:Dd c b p n (.mk k m u g o nh d ks) h):c (aD b p)=some (.string n)∧c (aD b (p+1))=some (iN k)∧c (aD b (p+2))=some (iN m)∧c (aD b (p+3))=some (iN u)∧c (aD b (p+4))=some (iN g)∧
 c ⟨b,p+5,none⟩=some (.bool o)∧c ⟨b,p+6,none⟩=some (.slice h.aa nh.length h.ca)∧c ⟨b,p+7,none⟩=some (.string d)∧c ⟨b,p+8,none⟩=some (.slice h.ak ks.length h.ck):=F
theorem XL{w:World}{x:Nd}{h:Hd}(b0:Ah w.cell? x h):∀(W:World) (left:Int),Below w.heap.size w W→left≤1000→
 Calls prog 28 #[Ao x h,.int .i64 left] W fun e b1=>e=.returned (.int .i64 (Dw x left))∧Below W.heap.size W b1:=by
 induction b0 with
 |@mk k m u g o nh d ks h b c3 f b2 c4 c5 aa bn b3 bo=>
  intro W left ab c6;have T:Hid (Dw (.mk k m u g o nh d ks) left=if left≤0∨Fv nh=false∨300<d.size∨left<(ks.length:Int)then 0 else Dv ks (left-1)):=by show _=_;rw[Dw]
  have b4:=hid bn;have b5:=hid bo;have b6:=hid aa;clear bn b3 bo aa;show Calls prog 28 #[(AY k m u g o nh d ks h),.int .i64 left] _ _;obtain⟨G,Q⟩:∃G,Hid (Dw (.mk k m u g o nh d ks) left=G):=⟨_,rfl⟩;rw[Q.out];have R:=Cc.new W k m u g o nh d ks h;have J:Below W.heap.size W (W.alloc (Ap k m u g o nh d ks h)):=(nt _ _).alloc (nl _) _;have V:=(b2.below ab).below J;by_cases bd:left≤0
  ·have b7:decide (left≤0)=true:=nE bd
   have I:Hid (G=0):=by show _=_;rw[←Q.out,T.out,nC (.inl bd)]
   clear R V;go_enter func28,ntmps28;go_wp2;go_ret;exact⟨Di I.out.symm,J⟩
  have b7:decide (left≤0)=false:=nA bd;obtain⟨t,bp⟩:∃t,Fv nh=t:=⟨_,rfl⟩;have Y:=hid bp;clear bp;cases t
  ·have I:Hid (G=0):=by show _=_;rw[←Q.out,T.out,nC (.inr (.inl Y.out))]
   go_enter func28,ntmps28;go_wp2_with fail
   refine(Kr h.aa h.ca nh _ V).mono ?_;rintro e w' ⟨rfl,rfl⟩;rw[Y.out];go_wp2;go_ret;exact⟨Di I.out.symm,J⟩
  by_cases hd:300<d.size
  ·have b9:decide (300<(d.size:Int))=true:=nE (by omega)
   have I:Hid (G=0):=by show _=_;rw[←Q.out,T.out,nC (.inr (.inr (.inl hd)))]
   clear hd;go_enter func28,ntmps28;go_wp2_with fail
   refine(Kr h.aa h.ca nh _ V).mono ?_;rintro e w' ⟨rfl,rfl⟩;rw[Y.out];obtain⟨ad,ak,ao,ap,az,a1,a6,Z⟩:=R;go_wp2;go_ret;exact⟨Di I.out.symm,J⟩
  have b9:decide (300<(d.size:Int))=false:=nA (by omega);by_cases be:left<(ks.length:Int)
  ·have cb:decide (left<(ks.length:Int))=true:=nE be
   have I:Hid (G=0):=by show _=_;rw[←Q.out,T.out,nC (.inr (.inr (.inr be)))]
   clear hd;go_enter func28,ntmps28;go_wp2_with fail
   refine(Kr h.aa h.ca nh _ V).mono ?_;rintro e w' ⟨rfl,rfl⟩;rw[Y.out];obtain⟨ad,ak,ao,ap,az,a1,a6,Z⟩:=R;go_wp2;go_ret;exact⟨Di I.out.symm,J⟩
  have cb:decide (left<(ks.length:Int))=false:=nA be;have I:Hid (G=Dv ks (left-1)):=by show _=_;rw[←Q.out,T.out,nB (by rw[Y.out];simp;omega)]
  have c8:ks.length≤1000:=by omega
  clear Q T;go_enter func28,ntmps28;go_wp2_with fail
  refine(Kr h.aa h.ca nh _ V).mono ?_;rintro e w' ⟨rfl,rfl⟩;rw[Y.out];have cf:=ab.trans (J.mono ab.size);have cg:=R;obtain⟨ad,ak,ao,ap,az,a1,a6,Z⟩:=cg;go_wp2;clear ad ak ao ap az a1 a6 Z;generalize W.alloc (Ap k m u g o nh d ks h)=c9 at R J V cf⊢;generalize a7:W.heap.size=ch at R⊢;go_loopw [1,5] (fun cl i wr=>∃(j:Nat) (F:Int),j≤ks.length∧i=.int .i64 j∧cl=.int .i64 F∧F≤1000∧Hid (G=Dv (ks.drop j) F)∧Cc wr ch (.mk k m u g o nh d ks) h∧Below W.heap.size W wr) (fun _ i _=>ks.length-(intOf i).toNat)
  case atStart=>exact⟨0,left-1,nM _,rfl,by go_num,by omega,I.out,R,J⟩
  case round=>
   obtain⟨j,F,da,rfl,rfl,co,a8,bf,H⟩:=hrel;have cp:=bf;obtain⟨ad,ak,ao,ap,az,a1,a6,Z⟩:=cp;by_cases bs:F≤0
   ·have cq:decide (0<F)=false:=nA (by omega)
    have O:Hid (G=F):=by show _=_;rw[a8.out];exact Wd bs
    clear bs;by_cases ba:j<ks.length
    ·have bg:(j:Int)<(ks.length:Int):=by omega
     go_wp2;go_ret;exact⟨Di O.out.symm,by first|exact H|(rw[←a7];exact H)⟩
    ·have bg:decide ((j:Int)<(ks.length:Int))=false:=nA (by omega)
     go_wp2;go_ret;exact⟨Di O.out.symm,by first|exact H|(rw[←a7];exact H)⟩
   have cq:decide (0<F)=true:=nE (by omega);by_cases ba:j<ks.length
   ·have bg:(j:Int)<(ks.length:Int):=by omega
    obtain⟨⟨n,x⟩,hx⟩:∃x,ks[j]? =some x:=⟨ks[j],by simp[ba]⟩;have bu:Below w.heap.size w wr:=ab.trans (H.mono ab.size);have bv:=(b4.out j n x hx).below bu;have bi:Hid (Dv (ks.drop j) F=if 60<n.size then 0 else Dv (ks.drop (j+1)) (Dw x F)):=VZ hx (by omega);have bk:=hid (b5.out j n x hx);rcases b6.out with cr|aa
    ·rw[cr]at ba;simp at ba
    rw[aa]at Z;clear aa;have cu:=Qr x F;generalize bx:f j=db at bv bk;obtain⟨bb,bA⟩:∃bb,Hid (Dw x F=bb):=⟨_,rfl⟩;rw[bA.out]at cu bi;obtain⟨dd,de,dg,dj,dk,dm,dn,dp⟩:=x;obtain⟨z0,bB,bC,z3,z4,z5,bF,bG,bH⟩:=bv.nine;by_cases bY:60<n.size
    ·have cx:decide (60<(n.size:Int))=true:=nE (by omega)
     have O:Hid (G=0):=by show _=_;rw[a8.out,bi.out,nC bY]
     clear hx bx bk bB bC z3 z4 z5 bF bG bH;go_wp2;go_ret;exact⟨Di O.out.symm,by first|exact H|(rw[←a7];exact H)⟩
    ·have cx:decide (60<(n.size:Int))=false:=nA (by omega)
     have O:Hid (G=Dv (ks.drop (j+1)) bb):=by show _=_;rw[a8.out,bi.out,nB bY]
     clear hx bx;go_wp2_with fail
     refine(bk.out _ F bu co).mono ?_;rintro e dr ⟨rfl,bl⟩;rw[bA.out];have cA:=bf.below bl;have cB:=H.trans (bl.mono H.size);clear ad ak ao ap az a1 a6 Z z0 bB bC z3 z4 z5 bF bG bH bl bf H;go_wp2;go_roundw
     case rel=>exact⟨j+1,bb,by omega,by go_num,rfl,by omega,O.out,cA,cB⟩
     case measure=>simp[intOf];omega
   ·have bg:decide ((j:Int)<(ks.length:Int))=false:=nA (by omega)
    have O:Hid (G=F):=by show _=_;rw[a8.out,n7 (by omega),Dv]
    go_wp2;go_ret;exact⟨Di O.out.symm,by first|exact H|(rw[←a7];exact H)⟩
theorem Xe{w:World}{x:Nd}{h:Hd}(I:Ah w.cell? x h):Calls prog 13 #[Ao x h] w fun e J=>e=.returned (.bool (decide (0<Dw x 80)))∧Below w.heap.size w J:=by
 have G:=XL I;obtain⟨ao,H⟩:=A3 (Dw x 80);rw[H.out];obtain⟨k,m,u,g,o,nh,d,ks⟩:=x;have O:=Cc.new w k m u g o nh d ks h;have F:Below w.heap.size w (w.alloc (Ap k m u g o nh d ks h)):=bN;have Q:=hid G;clear G;show cL 13 #[(AY k m u g o nh d ks h)] _ _;obtain⟨R,T,V,Y,Z,aa,ab,ad⟩:=O;go_enter func13,ntmps13;go_wp2_with fail
 refine(Q.out _ 80 F (by decide)).mono ?_;rintro e w' ⟨rfl,c2⟩;rw[H.out];have ak:=F.trans (c2.mono F.size);clear R T V Y Z aa ab ad c2 F;go_wp2;go_ret;exact⟨rfl,ak⟩
mutual
def A7:Nd→Prop
 |.mk _ _ _ _ _ nh _ ks=>nh.length≤1000∧ks.length≤1000∧Dl ks
def Dl:List (BA×Nd)→Prop
 |[]=>True
 |(_,x)::l=>A7 x∧Dl l
end
theorem J2:∀{ks:List (BA×Nd)} {i:Nat} {n:BA} {x:Nd},Dl ks→ks[i]? =some (n,x)→A7 x
 |[],_,_,_,_,h=>by simp at h
 |(m,y)::l,0,n,x,hl,h=>by simp at h;rw[Dl]at hl;rw[←h.2];exact hl.1
 |(m,y)::l,i+1,n,x,hl,h=>by rw[Dl]at hl;exact J2 hl.2 (by simpa using h)
mutual
theorem GB:∀(x:Nd),cnt x≤1000→AB x→A7 x
 |.mk _ _ _ _ _ nh d ks,hc,hl=>by
  rw[cnt]at hc;rw[AB]at hl;rw[A7];have:=hl.1.1;have:=Hs ks;exact⟨by omega,by omega,Tn ks (by omega) hl.2.2⟩
theorem Tn:∀(l:At),cntL l≤1000→Bt l→Dl l
 |[],_,_=>by rw[Dl];trivial
 |(n,x)::l,hc,hl=>by
  rw[cntL]at hc;rw[Bt]at hl;rw[Dl];exact⟨GB x (by omega) hl.2.1,Tn l (by omega) hl.2.2⟩
end
theorem Cc.but{w w':World}{b H:Nat}{x:Nd}{h:Hd}(J:Cc w b x h)(hb:Au H w w')(F:b≠H):Cc w' b x h:=by
 obtain⟨k,m,u,g,o,nh,d,ks⟩:=x;obtain⟨I,O,Q,R,T,V,Y,Z⟩:=J;have G:b<w.heap.size:=bL I
 exact⟨(hb.cell (p:=(aD b 0)) G F).trans I,(hb.cell (p:=(aD b 1)) G F).trans O,(hb.cell (p:=(aD b 2)) G F).trans Q,(hb.cell (p:=(aD b 3)) G F).trans R,(hb.cell (p:=(aD b 4)) G F).trans T,
  (hb.cell (p:=(aD b 5)) G F).trans V,(hb.cell (p:=(aD b 6)) G F).trans Y,(hb.cell (p:=(aD b 7)) G F).trans Z⟩
theorem Tryz.infoA:(prog.info? 122).map (fun i=>(i.zero,i.size,i.bytes))=some (some (.agg #[.string ⟨#[]⟩,.string ⟨#[]⟩]),2,32):=by kernel_rfl
theorem Eb{P:Program}{t:TypeId}{z:Value}{n m:Nat}(h:(P.info? t).map (fun i=>(i.zero,i.size,i.bytes))=some (some z,n,m)):∃i,P.info? t=some i∧i.zero=some z∧i.size=n∧i.bytes=m:=by
 cases hi:P.info? t with
 |none=>rw[hi]at h;cases h
 |some i=>rw[hi]at h;simp at h;exact⟨i,rfl,h.1,h.2.1,h.2.2⟩
abbrev zK:Value:=.agg #[.string ⟨#[]⟩,.int .i64 0,.int .i64 0,.int .i64 0,.int .i64 0,.bool false,.slice none 0 0,.string ⟨#[]⟩,.slice none 0 0]
theorem Tryz.infoK:(prog.info? 73).map (fun i=>(i.zero,i.size,i.bytes))=some (some zK,9,120):=by kernel_rfl
theorem WL(a:Option Addr)(cap:Nat)(l:List Kv)(w:World)(ad:l.length≤1000)(h:Bm w.cell? a l):
 Calls prog 64 #[.slice a l.length cap] w fun e w'=>(∃v,e=.returned v∧w'.ownsRow w.heap.size 122 2 v l.length (CI l))∧Below w.heap.size w w':=by
 have ak:=fun(W:World) (n c:Nat)=>rY (P:=prog) W 47 122 a n c 0 0 underlying47;cases a with
 |none=>
  have Q:l=[]:=by
   rcases h with e|⟨b,ao,e,_⟩
   ·exact e
   ·cases e
  subst Q;go_enter func64,ntmps64;go_wp2;go_ret;exact⟨⟨_,rfl,rB _ _ _ _⟩,nt _ _⟩
 |some R=>
  obtain⟨T,V,Y,Z,aa⟩:=Eb Tryz.infoA;have F:Below w.heap.size w (w.alloc (.cells #[] 122)):=bN;have G:(w.alloc (.cells #[] 122)).ownsRow w.heap.size 122 2 (sL w.heap.size 0 0 0) 0 (CI []):=World.ownsRow_made w #[] 0 (nl _) (by decide) rfl;have I:=P6 (h.below F);have H:=F.size;go_enter func64,ntmps64;go_wp2_with (at_builtin;refine Ea _ rfl (.tmp 5) (.tmp 6) 47 rfl w.heap.size 122 T (.agg #[.string ⟨#[]⟩,.string ⟨#[]⟩]) 2 32 underlying47 V Y Z aa rfl (by decide) _ 0 (CI []) rfl G (some R) l.length cap (CI l) rfl (Kx l) I (Nq _) (by unfold maxLen;omega) (by omega) H ?_)
  intro ap az J O _;have ab:=F.grown O H (fun q e=>(G.lt q e).1);rw[show CI []++CI l=CI l from rfl]at J;clear O G F I H;go_wp2;go_ret;exact⟨⟨_,rfl,J⟩,ab⟩
theorem MJ(a:Option Addr)(cap:Nat)(L:BU)(w:World)(ad:L.length≤1000)(h:Cu w.cell? a L):
 Calls prog 65 #[.slice a L.length cap] w fun e w'=>(∃v,e=.returned v∧w'.ownsRow w.heap.size 73 9 v L.length (BH L))∧Below w.heap.size w w':=by
 have ak:=fun(W:World) (n c:Nat)=>rY (P:=prog) W 48 73 a n c 0 0 underlying48;cases a with
 |none=>
  have Q:L=[]:=by
   rcases h.1 with e|⟨b,ao,e,_⟩
   ·exact e
   ·cases e
  subst Q;go_enter func65,ntmps65;go_wp2;go_ret;exact⟨⟨_,rfl,rB _ _ _ _⟩,nt _ _⟩
 |some R=>
  obtain⟨T,V,Y,Z,aa⟩:=Eb Tryz.infoK;have F:Below w.heap.size w (w.alloc (.cells #[] 73)):=bN;have G:(w.alloc (.cells #[] 73)).ownsRow w.heap.size 73 9 (sL w.heap.size 0 0 0) 0 (BH []):=World.ownsRow_made w #[] 0 (nl _) (by decide) rfl;have I:=PY (h.on (Aj F));have H:=F.size;go_enter func65,ntmps65;go_wp2_with (at_builtin;refine Ea _ rfl (.tmp 5) (.tmp 6) 48 rfl w.heap.size 73 T zK 9 120 underlying48 V Y Z aa rfl (by decide) _ 0 (BH []) rfl G (some R) L.length cap (BH L) rfl (Hl L) I (Oi _) (by unfold maxLen;omega) (by omega) H ?_)
  intro ap az J O _;have ab:=F.grown O H (fun q e=>(G.lt q e).1);rw[show BH []++BH L=BH L from rfl]at J;clear O G F I H;go_wp2;go_ret;exact⟨⟨_,rfl,J⟩,ab⟩
theorem Hr{w w':World}{base:Nat}{e:TypeId}{size:Nat}{v:Value}{n:Nat}{xs:List Value}(h:w.ownsRow base e size v n xs)(hb:∀g,v.ownBlock=some g→w'.heap[g]? =w.heap[g]?):w'.ownsRow base e size v n xs:=by
 obtain⟨H,F⟩:=h;refine⟨H,?_⟩;rcases F with F|⟨g,cap,I,G,J,O,r⟩
 ·exact .inl F
 ·exact .inr ⟨g,cap,I,G,J,by rw[hb g (by rw[G];rfl)];exact O,r⟩
theorem Qd{w w':World}{base:Nat}{e:TypeId}{size:Nat}{v:Value}{n:Nat}{xs:List Value}(h:w.ownsRow base e size v n xs)(hb:Below w.heap.size w w'):w'.ownsRow base e size v n xs:=Hr h fun g F=>hb.block g (h.lt g F).2
theorem Rx{w w':World}{base b:Nat}{e:TypeId}{size:Nat}{v:Value}{n:Nat}{xs:List Value}(h:w.ownsRow base e size v n xs)(hb:Au b w w')(G:b<base):w'.ownsRow base e size v n xs:=Hr h fun g F=>hb.block g (h.lt g F).2 (by have:=(h.lt g F).1;omega)
theorem KU{w:World}{base:Nat}{e:TypeId}{size:Nat}{v:Value}{n:Nat}{xs:List Value}(h:w.ownsRow base e size v n xs){p:Addr}(G:p.block<base)(u:Value):(w.setCell p u).ownsRow base e size v n xs:=Hr h fun g F=>re _ _ _ _ (by have:=(h.lt g F).1;omega)
def As(w:World)(b:Nat)(x:Nd)(h:Hd):Prop:=Cc w b x h∧∀j,w.frozen? ⟨b,j,none⟩=false
theorem Cc.lt{w:World}{b:Nat}{x:Nd}{h:Hd}(F:Cc w b x h):b<w.heap.size:=by
 obtain⟨k,m,u,g,o,nh,d,ks⟩:=x;exact bL F.1
theorem As.below{w w':World}{b:Nat}{x:Nd}{h:Hd}(F:As w b x h)(hb:Below w.heap.size w w'):As w' b x h:=
 ⟨F.1.below hb,fun j=>(hb.frozen (p:=(aD b j)) F.1.lt).trans (F.2 j)⟩
theorem As.other{w:World}{b:Nat}{x:Nd}{h:Hd}(F:As w b x h){p:Addr}(G:p.block≠b)(v:Value):As (w.setCell p v) b x h:=by
 obtain⟨k,m,u,g,o,nh,d,ks⟩:=x;obtain⟨⟨H,I,J,O,Q,R,T,V⟩,Y⟩:=F;have e:∀o,(w.setCell p v).cell? (aD b o)=w.cell? (aD b o):=fun o=>nz _ _ _ _ (fun e=>G (by rw[e]));exact⟨⟨(e _).trans H,(e _).trans I,(e _).trans J,(e _).trans O,(e _).trans Q,(e _).trans R,(e _).trans T,(e _).trans V⟩,fun j=>by rw[rJ];exact Y j⟩
theorem As.set5{w:World}{b:Nat}{k m u g:Int}{o:Bool}{nh:List Kv}{d:BA}{ks:At}{h:Hd}(G:As w b (.mk k m u g o nh d ks) h)(F:Option Addr)(ca:Nat):As (w.setCell (aD b 5) (.slice F nh.length ca)) b (.mk k m u g o nh d ks) ⟨F,ca,h.ak,h.ck⟩:=by
 obtain⟨⟨H,I,J,O,Q,R,T,V⟩,Y⟩:=G;have e:∀o,o≠5→(w.setCell (aD b 5) (.slice F nh.length ca)).cell? (aD b o)=w.cell? (aD b o):=fun o Z=>nz _ _ _ _ (fun e=>Z (Addr.mk.inj e).2.1.symm);exact⟨⟨(e _ (by decide)).trans H,(e _ (by decide)).trans I,(e _ (by decide)).trans J,(e _ (by decide)).trans O,(e _ (by decide)).trans Q,nH _ _ _ R,(e _ (by decide)).trans T,(e _ (by decide)).trans V⟩,fun j=>by rw[rJ];exact Y j⟩
theorem As.set7{w:World}{b:Nat}{k m u g:Int}{o:Bool}{nh:List Kv}{d:BA}{ks:At}{h:Hd}(H:As w b (.mk k m u g o nh d ks) h)(F:At)(G:Option Addr)(ck:Nat):As (w.setCell (aD b 7) (.slice G F.length ck)) b (.mk k m u g o nh d F) ⟨h.aa,h.ca,G,ck⟩:=by
 obtain⟨⟨I,J,O,Q,R,T,V,Y⟩,Z⟩:=H;have e:∀o,o≠7→(w.setCell (aD b 7) (.slice G F.length ck)).cell? (aD b o)=w.cell? (aD b o):=fun o aa=>nz _ _ _ _ (fun e=>aa (Addr.mk.inj e).2.1.symm);exact⟨⟨(e _ (by decide)).trans I,(e _ (by decide)).trans J,(e _ (by decide)).trans O,(e _ (by decide)).trans Q,(e _ (by decide)).trans R,(e _ (by decide)).trans T,(e _ (by decide)).trans V,nH _ _ _ Y⟩,fun j=>by rw[rJ];exact Z j⟩
theorem As.new(w:World)(k m u g:Int)(o:Bool)(nh:List Kv)(d:BA)(ks:At)(h:Hd):As (w.alloc (.cells #[iN k,iN m,iN u,iN g,.bool o,.slice h.aa nh.length h.ca,.string d,.slice h.ak ks.length h.ck] 50)) w.heap.size (.mk k m u g o nh d ks) h:=
 ⟨Cc.new w k m u g o nh d ks h,fun _j=>World.frozen?_alloc_new _ _ _ _⟩
def zH:Hd:=⟨none,0,none,0⟩
theorem As.zero(w:World):As (w.alloc (.cells #[.int .i64 0,.int .i64 0,.int .i64 0,.int .i64 0,.bool false,.slice none 0 0,.string ⟨#[]⟩,.slice none 0 0] 50)) w.heap.size zN zH:=As.new w 0 0 0 0 false [] ⟨#[]⟩ [] zH
def Ar(w:World)(b:Nat):Nd→Hd→World
 |.mk k m u g o nh d ks,h=>(((((((w.setCell ⟨b,0,none⟩ (.int .i64 k)).setCell ⟨b,1,none⟩ (.int .i64 m)).setCell ⟨b,2,none⟩ (.int .i64 u)).setCell ⟨b,3,none⟩ (.int .i64 g)).setCell ⟨b,4,none⟩ (.bool o)).setCell ⟨b,5,none⟩ (.slice h.aa nh.length h.ca)).setCell ⟨b,6,none⟩ (.string d)).setCell ⟨b,7,none⟩ (.slice h.ak ks.length h.ck)
theorem Gh(w:World)(b:Nat)(x:Nd)(h:Hd):Ar w b x h=CZ w b 0 x h:=by
 obtain⟨k,m,u,g,o,nh,d,ks⟩:=x;rfl
theorem As.store{w:World}{b:Nat}{y:Nd}{h':Hd}(F:As w b y h')(x:Nd)(h:Hd):As (Ar w b x h) b x h:=by
 rw[Gh];exact⟨Bj.box (LJ F.1.at),fun j=>(MQ _).trans (F.2 j)⟩
theorem Cf{w:World}{b:Nat}{x:Nd}{h:Hd}:Au b w (Ar w b x h):=by rw[Gh];exact NT
theorem QS{w:World}{S:Nat→Bool}(bu:∀k,S k=true→k<w.heap.size){x:Nd}{h:Hd}(bv:Ah (Ag w.cell? S) x h)(W:World)(a6:Below w.heap.size w W)(bx:A7 x):
 Calls prog 31 #[Ao x h] W fun e a7=>(∃h',e=.returned (Ao x h')∧Ah (Ag a7.cell? S) x h'∧GC W.heap.size a7 h'.ak x.kids)∧Below W.heap.size W a7:=by
 obtain⟨k,m,u,g,o,nh,d,ks⟩:=x;rw[A7]at bx;obtain⟨bA,el,em,bB⟩:=Cj.1 (bv.on (CQ a6));obtain⟨c4,c5,_⟩:=bx;obtain⟨L,a8,bC⟩:=Og bB;have bF:ks.length=L.length:=by rw[←a8,ER]
 have bG:=hid a8;have bH:=hid bF;have c6:L.length≤1000:=by omega
 have bY:∀k,S k=true→k<W.heap.size:=fun k O=>nG (bu k O) a6.size;clear bv a6 bB a8 bF c5 bu
 show cL 31 #[(AY k m u g o nh d ks h)] _ _;have b0:=As.new W k m u g o nh d ks h;have ba:Below W.heap.size W (W.alloc (Ap k m u g o nh d ks h)):=bN;have bb:=As.zero (W.alloc (Ap k m u g o nh d ks h));rw[nv]at bb;have bd:=b0.below ((nt _ _).alloc (nl _) AO);have az:Below W.heap.size W ((W.alloc (Ap k m u g o nh d ks h)).alloc AO):=ba.alloc ba.size _;have b1:=(bA.on (Ci _ _)).below az;have be:W.heap.size+2≤((W.alloc (Ap k m u g o nh d ks h)).alloc AO).heap.size:=by simp
 obtain⟨⟨Q,R,T,V,Y,Z,aa,ab⟩,ad⟩:=id bd;clear b0 ba;go_enter func31,ntmps31;go_wp2_with fail
 refine(WL h.aa h.ca nh _ c4 b1).mono ?_;rintro e b2 ⟨⟨en,rfl,ak⟩,ao⟩;have bf:=bd.below ao;have bg:=bb.below ao;have b3:=az.trans (ao.mono az.size);have bi:=nO be ao.size;generalize((W.alloc (Ap k m u g o nh d ks h)).alloc AO).heap.size=base at be ak;clear Q R T V Y Z aa ab ad bd bb az ao b1 bA;generalize eo:W.heap.size=F at bf bg be bi⊢;obtain⟨a2,c2,b4,ep,eq,c8⟩:=Mz ak;rw[b4]at ak⊢;clear b4;have bk:=bf.set5 a2 c2;have b5:=bg.other (p:=(aD F 5)) (by simp) (.slice a2 nh.length c2);have b6:=KU ak (p:=(aD F 5)) (show F<base by omega) (.slice a2 nh.length c2);have a1:=b3.setCell (p:=(aD F 5)) (by show W.heap.size≤F;omega) (.slice a2 nh.length c2);have b7:F+2≤(b2.setCell (aD F 5) (.slice a2 nh.length c2)).heap.size:=by rw[World.size_setCell];exact bi
 have b9:=(bC.on (Ci _ _)).on (Aj a1);obtain⟨⟨Q,R,T,V,Y,Z,aa,ab⟩,ad⟩:=bf;have bl:=bk.1.2.2.2.2.2.2.2;clear ak c8 bg b3 bi;go_wp2_with fail
 rw[bH.out];refine(MJ h.ak h.ck L _ c6 b9).mono ?_;rintro e bn ⟨⟨er,rfl,H⟩,I⟩;have cb:=bk.below I;have cf:=b5.below I;have cg:=Qd b6 I;have ch:=a1.trans (I.mono a1.size);have es:=nO b7 I.size;generalize(b2.setCell (aD F 5) (.slice a2 nh.length c2)).heap.size=c9 at b7 H;clear Q R T V Y Z aa ab ad bl bk b5 b6 a1 I b9;obtain⟨a4,G,cl,da,eu,db⟩:=Ei H;clear db;rw[cl]at H⊢;clear cl;rw[←bH.out]at H da⊢;have dd:=cb.set7 ks a4 G;have bo:=cf.other (p:=(aD F 7)) (by simp) (.slice a4 ks.length G);have co:=KU cg (p:=(aD F 7)) (show F<base by omega) (.slice a4 ks.length G);have cp:=KU H (p:=(aD F 7)) (show F<c9 by omega) (.slice a4 ks.length G);have bp:=ch.setCell (p:=(aD F 7)) (by show W.heap.size≤F;omega) (.slice a4 ks.length G);obtain⟨⟨Q,R,T,V,Y,Z,aa,ab⟩,ad⟩:=cb;clear cg H ch cf;obtain⟨⟨x0,de,dg,dj,dk,dm,dn,dp⟩,dr⟩:=id dd;obtain⟨⟨z0,ds,du,z3,z4,z5,dw,bl⟩,dx⟩:=id bo;have cq:=bo.store (.mk k m u g o nh d ks) ⟨a2,c2,a4,G⟩;have ap:Au (F+1) (bn.setCell (aD F 7) (.slice a4 ks.length G)) (Ar (bn.setCell (aD F 7) (.slice a4 ks.length G)) (F+1) (.mk k m u g o nh d ks) ⟨a2,c2,a4,G⟩):=Cf;have cr:=Rx co ap (by omega);have cu:=Rx cp ap (by omega);have bs:=bp.trans (ap.below (B:=W.heap.size) (by omega) (by have:=bp.size;omega));generalize J:Ar (bn.setCell (aD F 7) (.slice a4 ks.length G)) (F+1) (.mk k m u g o nh d ks) ⟨a2,c2,a4,G⟩=dy at cq ap cr cu bs;have cx:=hid J;clear J ap co cp bp bo;go_wp2;have J:=cx.out;simp only[Ar]at J;rw[J];clear J cx x0 de dg dj dk dm dn dp dr Q R T V Y Z aa ab ad z0 ds du z3 z4 z5 dw bl dx;obtain⟨ev,c7,cA,dz,d0,d1⟩:=VJ (S:=S) (fun k O=>by have:=bY k O;omega) cr;have d2:∀e∈L,Ah (Ag dy.cell? S) e.2.1 e.2.2:=fun e d3=>(bC.2 e d3).on (CQ bs);obtain⟨eB,eE,cB,d4,d5,d6,c3⟩:=Po (fun k O=>by have:=bY k O;omega) cu d2
 simp only[ro,true_and]at cA cB;obtain⟨rfl,rfl⟩:=cA;obtain⟨rfl,rfl⟩:=cB;obtain⟨d7,d8,d9,ea,eb,ec,ed,ee⟩:=cq.1;refine nF (v:=Ao (.mk k m u g o nh d ks) ⟨a2,c2,a4,G⟩) (by simp[results,results31,go_sem,Ao,d7,d8,d9,ea,eb,ec,ed,ee]) rfl ⟨⟨⟨a2,c2,a4,G⟩,rfl,?_,?_⟩,?_⟩
 ·refine Cj.2 ⟨d1,⟨dz,d0⟩,⟨d4,d5⟩,?_⟩
  have:=IB d6;rw[bG.out]at this;exact this
 ·rw[bG.out]at c3
  rcases c3 with e|⟨ef,eg,eF,ej,ek⟩
  ·exact .inl e
  ·exact .inr ⟨ef,eg,by omega,ej,ek⟩
 ·exact bs
def Cz(p:BA→Bool):At→Nat→Int
 |[],_=>-1
 |q::l,i=>if p q.1=true then(i:Int)else Cz p l (i+1)
theorem M1{p:BA→Bool}{n:BA}{ks:At}{j:Nat}{x:Nd}(h:ks[j]? =some (n,x)):Cz p (ks.drop j) j=if p n=true then(j:Int)else Cz p (ks.drop (j+1)) (j+1):=by
 obtain⟨F,G⟩:=nw.1 h;rw[nN F,G,Cz]
theorem Nl(m:BA):∀(ks:At) (i:Nat),Cz (fun n=>decide (n=m)) ks i=Bl m ks i
 |[],i=>rfl
 |q::l,i=>by rw[Cz,Bl,Nl m l (i+1)];simp
theorem Sw(m:BA):∀(ks:At) (i:Nat),(Cz (fun n=>AX m n) ks i=-1∧DY m ks=ks.length)∨(Cz (fun n=>AX m n) ks i=((i+DY m ks:Nat):Int)∧DY m ks<ks.length)
 |[],i=>.inl ⟨rfl,rfl⟩
 |q::l,i=>by
  rw[Cz];have e:DY m (q::l)=if AX m q.1=true then 0 else DY m l+1:=by
   unfold DY;rw[List.findIdx_cons];cases AX m q.1<;>simp
  by_cases F:AX m q.1=true
  ·rw[nC F,e,nC F];right;exact⟨by simp,by simp⟩
  ·rw[nB F,e,nB F]
   rcases Sw m l (i+1)with⟨G,H⟩|⟨G,H⟩
   ·left;exact⟨G,by simp[H]⟩
   ·right;exact⟨by rw[G];congr 1;omega,by simp;omega⟩
theorem bR(a b:BA):(!Op.bytesLess a.toList b.toList&& !(a.toList==b.toList))=AX b a:=by
 have h:=Ov a b;have:(!Op.bytesLess a.toList b.toList&& !(a.toList==b.toList))= !(Op.bytesLess a.toList b.toList||a.toList==b.toList):=by cases Op.bytesLess a.toList b.toList<;>cases (a.toList==b.toList)<;>rfl
 rw[this,h];simp
theorem UN(a b:BA):(a.toList==b.toList)=decide (a=b):=by
 rw[r2];simp
 exact⟨I9,fun e=>by rw[e]⟩
def Pa(n:BA):Nd→Hd→Value
 |.mk k m u g o nh d ks,h=>.agg #[.string n,.int .i64 k,.int .i64 m,.int .i64 u,.int .i64 g,.bool o,.slice h.aa nh.length h.ca,.string d,.slice h.ak ks.length h.ck]
theorem I0.newW(w:World)(n:BA)(k m u g:Int)(o:Bool)(nh:List Kv)(d:BA)(ks:At)(h:Hd)(t:TypeId):
 (w.alloc (.cells #[.string n,.int .i64 k,.int .i64 m,.int .i64 u,.int .i64 g,.bool o,.slice h.aa nh.length h.ca,.string d,.slice h.ak ks.length h.ck] t)).cell? ⟨w.heap.size,0,none⟩=some (.string n):=nk _ _ _ _ rfl
theorem Ws(n m:BA)(x:Nd)(h:Hd)(F:Nat)(w:World)(H:w.cell? (aD F 0)=some (.string m)):
 Calls prog 165 #[Pa n x h,pO F 0] w fun e w'=>e=.returned (.bool (decide (n=m)))∧Below w.heap.size w w':=by
 obtain⟨k,G,u,g,o,nh,d,ks⟩:=x;have I:Below w.heap.size w (w.alloc (.cells #[.string n,iN k,iN G,iN u,iN g,.bool o,.slice h.aa nh.length h.ca,.string d,.slice h.ak ks.length h.ck] 73)):=bN;have c0:=I0.newW w n k G u g o nh d ks h 73;have c1:Ce (w.alloc (.cells #[.string n,iN k,iN G,iN u,iN g,.bool o,.slice h.aa nh.length h.ca,.string d,.slice h.ak ks.length h.ck] 73)) F 0 (.string m):=(I.cell (p:=(aD F 0)) (bL H)).trans H;have J:F<w.heap.size:=bL H;show cL 165 #[.agg #[.string n,iN k,iN G,iN u,iN g,.bool o,.slice h.aa nh.length h.ca,.string d,.slice h.ak ks.length h.ck],pO F 0] _ _;go_enter func165,ntmps165;go_wp2;go_ret;exact⟨Bf (by rw[←UN]),I⟩
theorem We(a:Option Addr)(cap H:Nat)(ks:At)(m:BA)(w:World)(bs:ks.length≤1000)(h:DP w.cell? a ks)(O:w.cell? (aD H 0)=some (.string m)):
 Calls prog 102 #[.slice a ks.length cap,.func (.func 165) #[] #[pO H 0]] w fun e w'=>e=.returned (iN (Cz (fun n=>decide (n=m)) ks 0))∧Below w.heap.size w w':=by
 obtain⟨F,Q⟩:∃F,Hid (Cz (fun n=>decide (n=m)) ks 0=F):=⟨_,rfl⟩;rw[Q.out];have a1:=hid O;have ad:=hid h;have a6:H<w.heap.size:=bL O;clear O h;by_cases R:ks=[]
 ·subst R
  have T:=hid Q.out.symm;go_enter func102,ntmps102;go_wp2;go_loop [8] (fun i=>i=iN 0) (fun _=>0)
  case atStart=>rfl
  case round=>
   subst hrel;go_wp2;go_ret;exact⟨Di T.out.symm,nt _ _⟩
 obtain⟨b,I,rfl,f,J⟩:∃b I,a=some (aD b I)∧∃f:Nat→Hd,∀i n x,ks[i]? =some (n,x)→Dd w.cell? b (I+i*9) n x (f i):=by
  rcases ad.out with e|⟨b,I,e,f,J⟩
  ·exact absurd e R
  ·exact⟨b,I,e,f,fun i n x a7=>(J i n x a7).1⟩
 have a8:=hid J;clear J R ad;go_enter func102,ntmps102;go_wp2;go_loopw [8] (fun i wr=>∃j:Nat,j≤ks.length∧i=iN j∧Hid (F=Cz (fun n=>decide (n=m)) (ks.drop j) j)∧Below w.heap.size w wr) (fun i _=>ks.length-(intOf i).toNat)
 case atStart=>exact⟨0,nM _,rfl,Q.out.symm,nt _ _⟩
 case round=>
  obtain⟨j,bu,rfl,V,G⟩:=hrel;by_cases ba:j<ks.length;rotate_left
  ·have bb:decide ((j:Int)<(ks.length:Int))=false:=nA (by omega)
   have T:Hid (F=-1):=by show _=_;rw[V.out,n7 (by omega),Cz]
   go_wp2;go_ret;exact⟨Di T.out.symm,G⟩
  have bb:(j:Int)<(ks.length:Int):=by omega
  obtain⟨⟨n,x⟩,hx⟩:∃x,ks[j]? =some x:=⟨ks[j],by simp[ba]⟩;have Y:=(a8.out j n x hx).below G;have ak:=(G.cell (p:=(aD H 0)) a6).trans a1.out;have Z:=hid (V.out.trans (M1 hx));clear hx V;generalize f j=bd at Y;have ao:=Ws n m x bd H wr ak;have aa:=hid ao;obtain⟨t,ap⟩:∃t,(decide (n=m))=t:=⟨_,rfl⟩;rw[ap]at Z aa;clear ap ao ak;obtain⟨bv,bx,bA,bB,bC,bF,bG,bH⟩:=x;obtain⟨be,bf,bg,bi,bk,bl,bn,bo,bp⟩:=Y.nine;clear Y;go_wp2_with fail
  refine aa.out.mono ?_;rintro e bY ⟨rfl,c2⟩;have az:=G.trans (c2.mono G.size);clear be bf bg bi bk bl bn bo bp c2 G aa;cases t
  ·have ab:Hid (F=Cz (fun n=>decide (n=m)) (ks.drop (j+1)) (j+1)):=by show _=_;rw[Z.out,nB (by simp)]
   go_wp2;go_roundw
   case rel=>exact⟨j+1,by omega,by go_num,ab.out,az⟩
   case measure=>simp[intOf];omega
  ·have ab:Hid (F=j):=by show _=_;rw[Z.out,nC rfl]
   go_wp2;go_ret;exact⟨Di ab.out.symm,az⟩
theorem Wi(n m:BA)(x:Nd)(h:Hd)(F:Nat)(w:World)(H:w.cell? (aD F 0)=some (.string m)):
 Calls prog 183 #[Pa n x h,pO F 0] w fun e w'=>e=.returned (.bool (AX m n))∧Below w.heap.size w w':=by
 obtain⟨k,G,u,g,o,nh,d,ks⟩:=x;have I:Below w.heap.size w (w.alloc (.cells #[.string n,iN k,iN G,iN u,iN g,.bool o,.slice h.aa nh.length h.ca,.string d,.slice h.ak ks.length h.ck] 73)):=bN;have c0:=I0.newW w n k G u g o nh d ks h 73;have c1:Ce (w.alloc (.cells #[.string n,iN k,iN G,iN u,iN g,.bool o,.slice h.aa nh.length h.ca,.string d,.slice h.ak ks.length h.ck] 73)) F 0 (.string m):=(I.cell (p:=(aD F 0)) (bL H)).trans H;have J:F<w.heap.size:=bL H;show cL 183 #[.agg #[.string n,iN k,iN G,iN u,iN g,.bool o,.slice h.aa nh.length h.ca,.string d,.slice h.ak ks.length h.ck],pO F 0] _ _;go_enter func183,ntmps183;go_wp2;go_ret;exact⟨Bf (by rw[←bR]),I⟩
theorem WU(a:Option Addr)(cap G:Nat)(ks:At)(m:BA)(w:World)(bs:ks.length≤1000)(h:DP w.cell? a ks)(O:w.cell? (aD G 0)=some (.string m)):
 Calls prog 102 #[.slice a ks.length cap,.func (.func 183) #[] #[pO G 0]] w fun e w'=>e=.returned (iN (Cz (fun n=>AX m n) ks 0))∧Below w.heap.size w w':=by
 obtain⟨I,Q⟩:=A3 (Cz (fun n=>AX m n) ks 0);rw[Q.out];have a1:=hid O;have ad:=hid h;have a6:G<w.heap.size:=bL O;clear O h;by_cases R:ks=[]
 ·subst R
  have T:=hid Q.out.symm;go_enter func102,ntmps102;go_wp2;go_loop [8] (fun i=>i=iN 0) (fun _=>0)
  case atStart=>rfl
  case round=>
   subst hrel;go_wp2;go_ret;exact⟨Di T.out.symm,nt _ _⟩
 obtain⟨b,H,rfl,f,J⟩:∃b H,a=some (aD b H)∧∃f:Nat→Hd,∀i n x,ks[i]? =some (n,x)→Dd w.cell? b (H+i*9) n x (f i):=by
  rcases ad.out with e|⟨b,H,e,f,J⟩
  ·exact absurd e R
  ·exact⟨b,H,e,f,fun i n x a7=>(J i n x a7).1⟩
 have a8:=hid J;clear J R ad;go_enter func102,ntmps102;go_wp2;go_loopw [8] (fun i wr=>∃j:Nat,j≤ks.length∧i=iN j∧Hid (I=Cz (fun n=>AX m n) (ks.drop j) j)∧Below w.heap.size w wr) (fun i _=>ks.length-(intOf i).toNat)
 case atStart=>exact⟨0,nM _,rfl,Q.out.symm,nt _ _⟩
 case round=>
  obtain⟨j,bu,rfl,V,F⟩:=hrel;by_cases ba:j<ks.length;rotate_left
  ·have bb:decide ((j:Int)<(ks.length:Int))=false:=nA (by omega)
   have T:Hid (I=-1):=by show _=_;rw[V.out,n7 (by omega),Cz]
   go_wp2;go_ret;exact⟨Di T.out.symm,F⟩
  have bb:(j:Int)<(ks.length:Int):=by omega
  obtain⟨⟨n,x⟩,hx⟩:∃x,ks[j]? =some x:=⟨ks[j],by simp[ba]⟩;have Y:=(a8.out j n x hx).below F;have ak:=(F.cell (p:=(aD G 0)) a6).trans a1.out;have Z:=hid (V.out.trans (M1 hx));clear hx V;generalize f j=bd at Y;have ao:=Wi n m x bd G wr ak;have aa:=hid ao;obtain⟨t,ap⟩:∃t,(AX m n)=t:=⟨_,rfl⟩;rw[ap]at Z aa;clear ap ao ak;obtain⟨bv,bx,bA,bB,bC,bF,bG,bH⟩:=x;obtain⟨be,bf,bg,bi,bk,bl,bn,bo,bp⟩:=Y.nine;clear Y;go_wp2_with fail
  refine aa.out.mono ?_;rintro e bY ⟨rfl,c2⟩;have az:=F.trans (c2.mono F.size);clear be bf bg bi bk bl bn bo bp c2 F aa;cases t
  ·have ab:Hid (I=Cz (fun n=>AX m n) (ks.drop (j+1)) (j+1)):=by show _=_;rw[Z.out,nB (by simp)]
   go_wp2;go_roundw
   case rel=>exact⟨j+1,by omega,by go_num,ab.out,az⟩
   case measure=>simp[intOf];omega
  ·have ab:Hid (I=j):=by show _=_;rw[Z.out,nC rfl]
   go_wp2;go_ret;exact⟨Di ab.out.symm,az⟩
theorem JT(a:Option Addr)(cap:Nat)(ks:At)(m:BA)(w:World)(J:ks.length≤1000)(h:DP w.cell? a ks):
 Calls prog 137 #[.slice a ks.length cap,.string m] w fun e w'=>e=.returned (iN (Bl m ks 0))∧Below w.heap.size w w':=by
 have F:Below w.heap.size w (w.alloc (.cells #[.string m] 9)):=bN;have c1:Ce (w.alloc (.cells #[.string m] 9)) w.heap.size 0 (.string m):=aC;have G:=We a cap w.heap.size ks m _ J (h.below F) c1;rw[Nl]at G;have H:Hid _:=G;clear G;go_enter func137,ntmps137;go_wp2_with fail
 refine nn H.out ?_;rintro e Q ⟨rfl,c2⟩;have O:=F.trans (c2.mono F.size);clear c1 H c2 F;obtain⟨R,I⟩:=A3 (Bl m ks 0);rw[I.out];go_wp2;go_ret;exact⟨Di I.out.symm,O⟩
theorem XZ(a:Option Addr)(cap:Nat)(ks:At)(m:BA)(w:World)(T:ks.length≤1000)(h:DP w.cell? a ks):
 Calls prog 167 #[.slice a ks.length cap,.string m] w fun e w'=>e=.returned (iN (DY m ks))∧Below w.heap.size w w':=by
 have F:Below w.heap.size w (w.alloc (.cells #[.string m] 9)):=bN;have c1:Ce (w.alloc (.cells #[.string m] 9)) w.heap.size 0 (.string m):=aC;have Q:=WU a cap w.heap.size ks m _ T (h.below F) c1;have H:Hid _:=Q;clear Q;have V:=Sw m ks 0;rcases V with⟨G,I⟩|⟨G,I⟩
 ·have J:Hid (Cz (fun n=>AX m n) ks 0=-1):=G
  have Y:=hid I;clear G I;go_enter func167,ntmps167;go_wp2_with fail
  refine nn H.out ?_;rintro e Z ⟨rfl,c2⟩;rw[J.out];have O:=F.trans (c2.mono F.size);clear c1 H c2 F;go_wp2;go_ret;exact⟨Di (by rw[Y.out]),O⟩
 ·rw[nT]at G
  have J:=hid G;clear G;go_enter func167,ntmps167;go_wp2_with fail
  refine nn H.out ?_;rintro e Z ⟨rfl,c2⟩;rw[J.out];have O:=F.trans (c2.mono F.size);clear c1 H c2 F J;obtain⟨aa,R⟩:=A3 (DY m ks);rw[R.out]at I⊢;go_wp2;go_ret;exact⟨Di (by rw[R.out]),O⟩
end Go.Proofs.YtgppjbhaimmlpaaGreatDoor
