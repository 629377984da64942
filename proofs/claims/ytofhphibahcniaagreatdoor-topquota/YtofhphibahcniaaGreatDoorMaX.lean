/-
  TopQuota: Ma Mb Ac Sh Ae Af Ag Wa Wb Nn Wi Wm.
-/
import Derived.Test.YtofhphibahcniaaGreatDoorApX
import Derived.RangeFuncNested
import Derived.RangeFuncBound
import Derived.RangeFuncCalls
import Derived.RangeFuncLeaves
import Derived.Shelf.Abstract
import Derived.Shelf.RegionOpen
import Derived.WalkKit
import Derived.OwnWalkIn
import Derived.TacticsInMore
import Derived.LoopNIn
import Derived.LoopIn
import Derived.Test.YtofhphibahcniaaGreatDoorRows
import Derived.WalkSpells
import Derived.WalkLawsBesides
import Derived.Lib.Strings
import Derived.Shelf.Strings.Search1
import Derived.Shelf.Strings.Search2
import Derived.Test.YtofhphibahcniaaGreatDoorProg
import Derived.Lib.CutLaws
import Derived.Deep.QuietTactic
import Derived.BigQuiet
import Derived.Deep.RegionHeld3
import Derived.Lib.SliceRun
import Derived.Lib.AppendZeros
set_option maxRecDepth 100000
set_option maxHeartbeats 16000000
namespace Go.Proofs.YtofhphibahcniaaGreatDoor
open Go.RowKit Go.Proofs.Tryz
structure VD (rec:LoopState→Option Code→Loop) (fn:FuncId) (tmps:Array Value) (ps:Array Tmp) (assign body:Code) (D:Nat):Prop where
 out:rec=fun st pe=>{state:=st,pending:=pe,fn,tmps,params:=ps,assign,body,defers:=D}
def fp(l:Nat)(rec:LoopState→Option Code→Loop)(F:Ending→World→Prop):Exit→Act→World→Prop
 |.normal,_,W=>W.heap[l]? =some (.loop (rec .busy none))∧F (.returned (.bool true)) (W.putObj l (.loop (rec .ready none)))
 |.ret,_,W=>W.heap[l]? =some (.loop (rec .busy none))∧F (.returned (.bool false)) (W.putObj l (.loop (rec .done (some .ret))))
 |.exit id,_,W=>W.heap[l]? =some (.loop (rec .busy none))∧F (.returned (.bool false)) (W.putObj l (.loop (rec .done (some (.exit id)))))
 |.goto t,_,W=>W.heap[l]? =some (.loop (rec .busy none))∧F (.returned (.bool false)) (W.putObj l (.loop (rec .done (some (.goto t)))))
 |.panic _,_,_=>False
 |.outgrown,_,_=>False
theorem NJ{P:Program}{n:Nat}{rec:LoopState→Option Code→Loop}{fn:FuncId}{tmps:Array Value}{O:Array Tmp}{assign body:Code}{D:Nat}(T:VD rec fn tmps O assign body D){l:Nat}{W:World}{args:Array Value}{Q:Ending→World→Prop}
 (V:W.heap[l]? =some (.loop (rec .ready none))) (Y:args.size=O.size)
 (h:assign.wpIn (Fence.wide.inRound l) n P (Exit.then (fun a w=>w.heap[l]? =some (.loop (rec .ready none))∧body.wpIn (Fence.wide.inRound l) n P (fp l rec Q) a (w.putObj l (.loop (rec .busy none)))) fun _ _ _=>False)
  {tmps:=(O.zip args).foldl (fun t (p,v)=>t.setIfInBounds p v) tmps,defers:=[]} W):YieldAt Fence.wide n P l args W Q:=by
 have H:=T.out;have R:=run_yield (P:=P) (args:=args) V (by rw[H];exact Y);rw[H]at R;refine⟨fn,_,assign,body,R,roundIn_of_wpIn trivial (wpIn_mono h ?_)⟩;intro e a w F;cases e with
 |normal=>
  obtain⟨Z,aa⟩:=F;refine⟨_,run_beginRound Z (by rw[H]),?_⟩;have ab:({rec .ready none with state:=.busy}:Loop)=rec .busy none:=by rw[H]
  rw[ab];refine wpIn_mono aa ?_;have I:∀(G:Option Code) (J:World),J.heap[l]? =some (.loop (rec .busy none))→(Instr.endRound l G).run P J=.ok (.bool G.isNone) (J.putObj l (.loop (rec (if G.isNone then .ready else .done) G))):=fun G J ad=>by
   have:=run_endRound (P:=P) G ad;rw[H]at this⊢;exact this
  intro e a w F;cases e with
  |normal=>exact⟨_,_,I none w F.1,F.2⟩
  |ret=>exact⟨_,_,I (some .ret) w F.1,F.2⟩
  |exit id=>exact⟨_,_,I (some (.exit id)) w F.1,F.2⟩
  |goto t=>exact⟨_,_,I (some (.goto t)) w F.1,F.2⟩
  |panic c=>exact F.elim
  |outgrown=>exact F.elim
 |ret=>exact F.elim
 |exit id=>exact F.elim
 |goto t=>exact F.elim
 |panic c=>exact F.elim
 |outgrown=>exact F.elim
theorem Oa{P:Program}{n:Nat}{g:Operand}{H:Array Tmp}{assign body:Code}{J:Exit→Act→World→Prop}{a:Act}{w:World}{gf:Nat}{lb:Array Value}
 (ab:a.eval g=.func (.func gf) #[] lb) (ad:∀args w,(callFunc gf args).run P w=.ok (.enter gf args) w)
 (h:∀fn rec,VD rec fn a.tmps H assign body w.heap.size→∀F:World,Below w.heap.size w F→F.heap.size=w.heap.size+1+1→F.heap[w.heap.size+1]? =some (.loop (rec .ready none))→F.heap[w.heap.size]? =some (.deferred (some []))→
  CallsIn Fence.wide (n-1) P gf (#[.func (.yield (w.heap.size+1)) #[] #[]]++lb) F fun e I=>(∃v,e=.returned v)∧
   ((I.heap[w.heap.size+1]? =some (.loop (rec .ready none))∧J .normal {a with defers:={target:=.collected w.heap.size,args:=#[]}::a.defers} (I.putObj (w.heap.size+1) (.loop (rec .exhausted none))))∨
    ∃c,I.heap[w.heap.size+1]? =some (.loop (rec .done (some c)))∧c.wpIn Fence.wide n P J {a with defers:={target:=.collected w.heap.size,args:=#[]}::a.defers} (I.putObj (w.heap.size+1) (.loop (rec .exhausted (some c)))))):
 (Code.rangeFunc g H assign body).wpIn Fence.wide n P J a w:=by
 refine wpIn_rangeFunc ?_;intro fn _;obtain⟨rec,G⟩:∃rec:LoopState→Option Code→Loop,rec=fun st ak=>{state:=st,pending:=ak,fn:=fn,tmps:=a.tmps,params:=H,assign:=assign,body:=body,defers:=w.heap.size}:=⟨_,rfl⟩;have R:((w.alloc (.deferred (some []))).alloc (.loop (rec .ready none))).heap.size=w.heap.size+1+1:=by rw[nw,nw]
 have T:Below w.heap.size w ((w.alloc (.deferred (some []))).alloc (.loop (rec .ready none))):=bN.alloc (by rw[nw];omega) _;have V:((w.alloc (.deferred (some []))).alloc (.loop (rec .ready none))).heap[w.heap.size+1]? =some (.loop (rec .ready none)):=by
  have:=World.alloc_heap_new (w.alloc (.deferred (some []))) (.loop (rec .ready none));rwa [nw]at this
 have Y:((w.alloc (.deferred (some []))).alloc (.loop (rec .ready none))).heap[w.heap.size]? =some (.deferred (some [])):=(rR _ _ _ (by rw[nw];omega)).trans (World.alloc_heap_new w _);have Z:(Instr.enterLoop fn a.tmps H assign body Fence.wide.round).run P w=.ok (w.heap.size+1,[{target:=.collected w.heap.size,args:=#[]}]) ((w.alloc (.deferred (some []))).alloc (.loop (rec .ready none))):=by rw[G];exact run_enterLoop_outer _ _ _ _ _
 obtain⟨F,aa⟩:∃F,(w.alloc (.deferred (some []))).alloc (.loop (rec .ready none))=F:=⟨_,rfl⟩;rw[aa]at Z R T V Y;clear aa
 refine⟨w.heap.size+1,[{target:=.collected w.heap.size,args:=#[]}],F,{target:=.fn (.func gf) lb,args:=#[.func (.yield (w.heap.size+1)) #[] #[]]},F,gf,
  #[.func (.yield (w.heap.size+1)) #[] #[]]++lb,F,Z,?_,fun ao _=>trivial,?_,fun e=>by simp[Fence.wide]at e,?_⟩
 ·simp only[resolve,ab]
  simp[go_sem]
 ·simp[invoke,go_sem,ad]
 ·refine(h fn rec ⟨G⟩ _ T R V Y).mono ?_
  rintro e W2 ⟨⟨v,rfl⟩,(⟨O,Q⟩|⟨c,O,Q⟩)⟩
  ·exact⟨none,_,by have:=run_endLoop (P:=P) O (by rw[G];simp);rw[G]at this⊢;exact this,Q⟩
  ·exact⟨some c,_,by have:=run_endLoop (P:=P) O (by rw[G];simp);rw[G]at this⊢;exact this,Q⟩
end Go.Proofs.YtofhphibahcniaaGreatDoor
namespace Go.Proofs.YtofhphibahcniaaGreatDoor
open Go.RowKit Go.Shelf Go.Proofs.Tryz
attribute [local go_sem] Oper.semAt_some
structure Sp where
 b:Nat
 p:Nat
 ly:Nat
 x:Nd
 h:Hd
def Sp.v(s:Sp):Value:=.agg #[.pointer (some ⟨s.b,s.p,none⟩),.int .i64 s.ly]
def Sp.pr(s:Sp):Nd×Nat:=(s.x,s.ly)
def CB(c:AH)(s:Sp):Prop:=Bi c s.b s.p s.x s.h∧Ah c s.x s.h
theorem CB.below{w w':World}{s:Sp}(h:CB w.cell? s)(hb:Below w.heap.size w w'):CB w'.cell? s:=⟨h.1.below hb,h.2.ab hb⟩
def MR(gf:Nat)(lb:Array Value)(n₀:Nat)(w:World)(G:List Sp):Prop:=
 ∀(l:Nat) (F:Nat→World→Prop) (H:World→Prop) (W:World),Below n₀ w W→(∀i A B,F i A→Below A.heap.size A B→F i B)→
  (∀i s A,G[i]? =some s→F i A→YieldAt Fence.wide 0 prog l #[s.v] A fun e B=>(e=.returned (.bool true)∧F (i+1) B∧Below n₀ A B)∨(e=.returned (.bool false)∧H B))→
  F 0 W→CallsIn Fence.wide 0 prog gf (#[.func (.yield l) #[] #[]]++lb) W fun e B=>(∃v,e=.returned v)∧(F G.length B∨H B)
theorem WW(F n₀:Nat)(a:Option Addr)(cap:Nat)(G:List Sp)(w:World)(J:F<n₀)(_hn:n₀≤w.heap.size)(O:w.cell? (aD F 0)=some (.slice a G.length cap))(ak:G.length≤1000)
 (Q:∀i s,G[i]? =some s→∃b H,a=some (aD b H)∧s.b=b∧s.p=H+i*8∧s.ly=i):
 MR 192 #[pO F 0] n₀ w G:=by
 intro l ao bg W ap bi R ar;have T:=(ap.cell (p:=(aD F 0)) J).trans O;show CallsIn Fence.wide 0 prog 192 #[.func (.yield l) #[] #[],pO F 0] W _;refine callsIn_of_wp func192 rfl trivial ?_ rfl;simp only[ntmps192,List.size_toArray,n3,nR,Nat.reduceAdd,Nat.reduceSub,r9,r8,List.push_toArray,List.append_toArray,ru,n9];have ay:Hid _:=R;have az:Hid _:=Q;obtain⟨N,V⟩:=AQ G.length;rw[V.out]at T ak⊢;clear R Q O;gi_wp2
 gi_loopw [3,6] (fun _ i wr=>∃j:Nat,j≤N∧i=iN j∧ao j wr∧Ce wr F 0 (.slice a N cap)) (fun _ i _=>N-(intOf i).toNat)
 case atStart=>exact⟨0,nN _,rfl,ar,T⟩
 case round=>
  obtain⟨j,bk,rfl,Y,a1⟩:=hrel;by_cases a6:j<N;rotate_left
  ·have a7:decide ((j:Int)<(N:Int))=false:=nB (by omega)
   gi_wp2
   go_end0
   exact⟨⟨_,rfl⟩,.inl (by rw[show N=j by omega];exact Y)⟩
  ·obtain⟨s,I⟩:∃s,G[j]? =some s:=⟨_,nt (by rw[V.out];exact a6)⟩
   obtain⟨b,H,rfl,Z,aa,ab⟩:=az.out j s I;obtain⟨fn,tmps,assign,body,a8,ad⟩:=ay.out j s wr I Y;rw[Sp.v,Z,aa,ab]at a8;have a7:decide ((j:Int)<(N:Int))=true:=nF (by omega);have ba:Hid _:=ad;clear ad I Z aa ab;gi_wp2
   refine⟨rfl,RoundIn.mono ba.out ?_⟩;rintro e bl (⟨rfl,bb,bd⟩|⟨rfl,be⟩)
   ·have bf:=(bd.cell (p:=(aD F 0)) J).trans a1
    gi_wp2
    go_roundw
    case rel=>exact⟨j+1,by omega,by go_num,bb,bf⟩
    case measure=>(simp[intOf];try omega)
   ·gi_wp2
    refine nG (results_none rfl _ _ _) rfl ?_;exact⟨⟨_,rfl⟩,.inr be⟩
end Go.Proofs.YtofhphibahcniaaGreatDoor
namespace Go.Proofs.YtofhphibahcniaaGreatDoor
open Go.RowKit Go.Proofs.Tryz
theorem Bh{a b:Bool}(h:a=b):Ending.returned (.bool a)=.returned (.bool b):=by rw[h]
theorem aG(n:Int)(w:World):Calls prog 167 #[.int .u8 n] w fun e w'=>e=.returned (.bool (Gl n))∧w=w':=by
 by_cases F:97≤n∧n≤122
 ·have J:decide (97≤n)=true:=by simpa using F.1
  have Z:decide (n≤122)=true:=by simpa using F.2
  go_enter func167,ntmps167;go_wp2;go_ret;exact⟨Bh (by simp[Gl,J,Z]),rfl⟩
 ·by_cases G:48≤n∧n≤57
  ·have J:decide (97≤n)=false:=by simp;omega
   have aa:decide (48≤n)=true:=by simpa using G.1
   have ab:decide (n≤57)=true:=by simpa using G.2
   go_enter func167,ntmps167;go_wp2;go_ret;exact⟨Bh (by simp[Gl,aa,ab]),rfl⟩
  ·have O:Gl n=((n==46||n==95)||n==45):=by
    unfold Gl;have H:(decide (97≤n)&&decide (n≤122))=false:=by simp;omega
    have I:(decide (48≤n)&&decide (n≤57))=false:=by simp;omega
    rw[H,I];simp
   have Q:=hid O;clear O;obtain⟨R,H⟩:∃t,decide (97≤n)=t:=⟨_,rfl⟩;obtain⟨T,I⟩:∃t,decide (48≤n)=t:=⟨_,rfl⟩;obtain⟨t3,ad⟩:∃t,(n==46)=t:=⟨_,rfl⟩;obtain⟨t4,ak⟩:∃t,(n==95)=t:=⟨_,rfl⟩;have V:R=true→decide (n≤122)=false:=by intro h;subst h;simp at H⊢;omega
   have Y:T=true→decide (n≤57)=false:=by intro h;subst h;simp at I⊢;omega
   have ao:Hid (Gl n=((t3||t4)||n==45)):=by show _=_;rw[Q.out,ad,ak]
   clear Q F G;cases R<;>cases T<;>cases t3<;>cases t4
   all_goals
    try replace V:=V rfl
    try replace Y:=Y rfl
    go_enter func167,ntmps167;go_wp2;go_ret;exact⟨Bh (by rw[ao.out];simp),rfl⟩
theorem Hz(s:BA):s.data.toList.length=s.size:=by rw[Array.length_toList];rfl
theorem Sh(s:BA)(k:Nat)(h:k<s.size):s.data.toList[k]? =some s[k]:=by
 have:k<s.data.size:=h;rw[Array.getElem?_toList,Array.getElem?_eq_getElem this];rfl
theorem aO{f:UInt8→Bool}{l:List UInt8}{k:Nat}{b:UInt8}(hb:l[k]? =some b)(h:(l.take k).all f=true)(F:f b=true):(l.take (k+1)).all f=true:=by
 rw[rv,hb];simp at h⊢;exact⟨h,F⟩
theorem cm{f:UInt8→Bool}{l:List UInt8}{k:Nat}{b:UInt8}(hb:l[k]? =some b)(F:f b=false):l.all f=false:=by
 have G:b∈l:=nE hb;cases h:l.all f with
 |false=>rfl
 |true=>rw[List.all_eq_true]at h;rw[h b G]at F;cases F
theorem Ge(s:BA)(w:World):Calls prog 129 #[.string s] w fun e w'=>e=.returned (.bool (AY s))∧w=w':=by
 have F:Hid (AY s=(((((!s.toList.isEmpty)&&decide (s.size≤12))&& !(s.toList==[46]))&& !(s.toList==[46,46]))&&s.data.toList.all (fun b=>Gl (b.toNat:Int)))):=by
  show _=_;unfold AY He;rw[Hz,r1]
 obtain⟨R,T⟩:∃t,s.toList.isEmpty=t:=⟨_,rfl⟩;rw[T]at F;cases R;rotate_left
 ·go_enter func129,ntmps129
  go_wp2;go_ret;exact⟨Bh (by rw[F.out];simp),rfl⟩
 by_cases ad:12<s.size
 ·have V:decide (12<(s.size:Int))=true:=by simp;omega
  go_enter func129,ntmps129;go_wp2;go_ret;exact⟨Bh (by rw[F.out];simp;omega),rfl⟩
 have V:decide (12<(s.size:Int))=false:=by simp;omega
 have H:Hid (decide (s.size≤12)=true):=by show _=_;simp;omega
 rw[H.out]at F;clear H;obtain⟨Y,Z⟩:∃t,(s.toList==[46])=t:=⟨_,rfl⟩;rw[Z]at F;cases Y;rotate_left
 ·go_enter func129,ntmps129
  go_wp2;go_ret;exact⟨Bh (by rw[F.out];simp),rfl⟩
 obtain⟨t3,aa⟩:∃t,(s.toList==[46,46])=t:=⟨_,rfl⟩;rw[aa]at F;cases t3;rotate_left
 ·go_enter func129,ntmps129
  go_wp2;go_ret;exact⟨Bh (by rw[F.out];simp),rfl⟩
 have I:Hid (AY s=s.data.toList.all (fun b=>Gl (b.toNat:Int))):=by show _=_;rw[F.out];simp
 clear F;go_enter func129,ntmps129;go_wp2;go_loop [21] (fun i=>∃k:Nat,k≤s.size∧i=iN k∧Hid ((s.data.toList.take k).all (fun b=>Gl (b.toNat:Int))=true)) (fun i=>s.size-(intOf i).toNat)
 case atStart=>exact⟨0,nN _,rfl,rfl⟩
 case round=>
  obtain⟨k,ak,rfl,J⟩:=hrel;by_cases ab:k<s.size
  ·have O:Hid (s.data.toList[k]? =some s[k]):=Sh s k ab
   obtain⟨t,Q⟩:∃t,Gl (s[k].toNat:Int)=t:=⟨_,rfl⟩;have G:=hid Q;clear Q;go_wp2_with fail
   refine(aG _ _).mono ?_;rintro e w' ⟨rfl,rfl⟩;rw[G.out];cases t
   ·go_wp2
    go_ret;exact⟨Bh (by rw[I.out];exact(cm O.out G.out).symm),rfl⟩
   ·go_wp2
    go_round
    case rel=>exact⟨k+1,by omega,by go_num,aO O.out J.out G.out⟩
    case measure=>simp[intOf];omega
  ·go_wp2
   go_ret;have:=J.out;rw[n1 (by rw[Hz];omega)]at this;exact⟨Bh (by rw[I.out,this]),rfl⟩
end Go.Proofs.YtofhphibahcniaaGreatDoor
namespace Go.Proofs.YtofhphibahcniaaGreatDoor
open Go.Shelf Go.Proofs.Tryz
def Tryz.lays219_ren:Go.Shelf.Ren:=⟨fun|219=>193|217=>205|225=>206|224=>207|267=>208|266=>214|314=>215|n=>n,fun|9=>9|3=>3|4=>4|5=>5|46=>91|146=>259|51=>241|n=>n,fun|1=>0|n=>n⟩
theorem Tryz.lays219:Go.Proofs.Lays.n219 prog Tryz.lays219_ren:={
 mixed:=by kernel_rfl
 f217:=func205.trans (nW some (by kernel_rfl))
 f219:=func193.trans (nW some (by kernel_rfl))
 f224:=func207.trans (nW some (by kernel_rfl))
 f225:=func206.trans (nW some (by kernel_rfl))
 f266:=func214.trans (nW some (by kernel_rfl))
 f267:=func208.trans (nW some (by kernel_rfl))
 f314:=func215.trans (nW some (by kernel_rfl))
 t3:=underlying3
 a3:=Tryz.isAgg3
 z3:=Tryz.sizeOf3
 v3:=Tryz.zeroValue3
 t4:=underlying4
 a4:=Tryz.isAgg4
 z4:=Tryz.sizeOf4
 v4:=Tryz.zeroValue4
 t5:=underlying5
 a5:=Tryz.isAgg5
 z5:=Tryz.sizeOf5
 v5:=Tryz.zeroValue5
 t9:=underlying9
 a9:=Tryz.isAgg9
 z9:=Tryz.sizeOf9
 v9:=Tryz.zeroValue9
 t46:=underlying91
 a46:=Tryz.isAgg91
 z46:=Tryz.sizeOf91
 v46:=Tryz.zeroValue91
 t51:=underlying241
 a51:=Tryz.isAgg241
 z51:=Tryz.sizeOf241
 v51:=Tryz.zeroValue241
 t146:=underlying259
 a146:=Tryz.isAgg259
 z146:=Tryz.sizeOf259
 v146:=Tryz.zeroValue259
 g1:=by kernel_rfl}
open Go.RowKit Go.Lib in
theorem Tryz.stringslite_Index_one(s:BA)(c:UInt8)(w:World):
 Calls prog 193 #[.string s,.string ⟨#[c]⟩] w fun e w'=>e=.returned (.int .i64 (Lib.indexByte s.data.toList c))∧w'=w:=Any.stringslite_Index_one Tryz.lays219 s c w
end Go.Proofs.YtofhphibahcniaaGreatDoor
namespace Go.Proofs.YtofhphibahcniaaGreatDoor
open Go.RowKit Go.Proofs.Tryz
theorem EG{x:Int}(F:-9223372036854775808≤x)(G:x≤9223372036854775807):IntKind.i64.wrap x=x:=by
 simp[IntKind.wrap,IntKind.signed,IntKind.bits];omega
def If(s:BA):BA:=⟨(Lib.cut s.data.toList [46]).1.toArray⟩
def I3(s:BA):BA:=⟨(Lib.cut s.data.toList [46]).2.1.toArray⟩
def MH(s:BA):Bool:=(Lib.cut s.data.toList [46]).2.2
theorem Zq(s:BA)(w:World)(Z:s.size≤1000):Calls prog 166 #[.string s,.string ⟨#[46]⟩] w fun e w'=>e=.returned (.tuple #[.string (If s),.string (I3 s),.bool (MH s)])∧∃n,w'=w.drewN n:=by
 have V:=(Lib.index_one s.data.toList 46).symm;have J:=hid V;clear V;rcases Lib.indexB_cases s ⟨#[46]⟩with F|⟨i,F,Y⟩
 ·obtain⟨G,H,I⟩:=Lib.cutB_miss s ⟨#[46]⟩ F
  have O:Hid (If s=s):=G;have Q:Hid (I3 s=ByteArray.empty):=H;have R:Hid (MH s=false):=I;have T:=hid (J.out.trans F);clear G H I F J;go_enter func166,ntmps166;go_wp2_with fail
  refine(Tryz.stringslite_Index_one _ _ _).mono ?_;rintro e w' ⟨rfl,rfl⟩;rw[T.out];go_wp2;go_ret3
  exact⟨by rw[O.out,Q.out,R.out];rfl,0,rfl⟩
 ·obtain⟨G,H,I⟩:=Lib.cutB_hit s ⟨#[46]⟩ i F
  have O:Hid (If s=s.extract 0 i):=G;have Q:Hid (I3 s=s.extract (i+1) s.size):=H;have R:Hid (MH s=true):=I;have T:=hid (J.out.trans F);have aa:i+1≤s.size:=Y;have c1:(0:Int)≤↑i:=by omega
  have c2:(↑i:Int)≤↑s.size:=by omega
  have ab:(0:Int)≤↑i+1:=by omega
  have ad:(↑i+1:Int)≤↑s.size:=by omega
  have ak:IntKind.i64.wrap (↑i+1)=↑i+1:=EG (by omega) (by omega);clear G H I F J Y;go_enter func166,ntmps166;go_wp2_with fail
  refine(Tryz.stringslite_Index_one _ _ _).mono ?_;rintro e w' ⟨rfl,rfl⟩;rw[T.out];go_wp2;go_quiet (fail)
  go_wp2;go_ret3
  exact⟨by rw[O.out,Q.out,R.out];rfl,_,rfl⟩
theorem LT(s:BA)(w:World)(F:s.size≤1000):Calls prog 128 #[.string s,.string ⟨#[46]⟩] w fun e w'=>e=.returned (.tuple #[.string (If s),.string (I3 s),.bool (MH s)])∧∃n,w'=w.drewN n:=by
 go_enter func128,ntmps128;go_wp2_with fail
 refine(Zq s _ F).mono ?_;rintro e w' ⟨rfl,n,rfl⟩;go_wp2;go_ret3
 exact⟨rfl,n,rfl⟩
theorem Xc(s:BA):Db s=if AY (I3 s)=true then(if(If s).toList=[117]then 1 else if(If s).toList=[116]then 2 else 0)else 0:=by
 unfold Db;rw[Y4];have F:(If s).toList=(Lib.cut s.data.toList [46]).1:=by rw[r1];rfl
 have G:(I3 s).data.toList=(Lib.cut s.data.toList [46]).2.1:=rfl;unfold AY;rw[F,G]
theorem Du{a b:Int}(h:a=b):Ending.returned (.int .i64 a)=.returned (.int .i64 b):=by rw[h]
theorem K8(s:BA)(w:World)(J:s.size≤1000):Calls prog 77 #[.string s] w fun e w'=>e=.returned (iN (Db s))∧∃n,w'=w.drewN n:=by
 have F:=hid (Xc s);generalize T:If s=h at F;generalize V:I3 s=t at F;obtain⟨b,hb⟩:∃b,AY t=b:=⟨_,rfl⟩;have O:=hid hb;rw[hb]at F;clear hb;have Q:=hid T;have R:=hid V;clear T V;cases b
 ·have H:Hid (Db s=0):=by show _=_;rw[F.out];rfl
  clear F;go_enter func77,ntmps77;go_wp2_with fail
  refine(LT s _ J).mono ?_;rintro e w' ⟨rfl,n,rfl⟩;rw[Q.out,R.out];go_wp2_with fail
  refine(Ge t _).mono ?_;rintro e w' ⟨rfl,rfl⟩;rw[O.out];go_wp2;go_ret;exact⟨Du H.out.symm,n,rfl⟩
 ·by_cases G:h.toList=[117]
  ·have H:Hid (Db s=1):=by show _=_;rw[F.out,nD rfl,nD G]
   have Y:(h.toList==[117])=true:=by simpa using G
   clear F G;go_enter func77,ntmps77;go_wp2_with fail
   refine(LT s _ J).mono ?_;rintro e w' ⟨rfl,n,rfl⟩;rw[Q.out,R.out];go_wp2_with fail
   refine(Ge t _).mono ?_;rintro e w' ⟨rfl,rfl⟩;rw[O.out];go_wp2;go_ret;exact⟨Du H.out.symm,n,rfl⟩
  ·have Y:(h.toList==[117])=false:=by simpa using G
   by_cases I:h.toList=[116]
   ·have H:Hid (Db s=2):=by show _=_;rw[F.out,nD rfl,nC G,nD I]
    have Z:(h.toList==[116])=true:=by simpa using I
    clear F G I;go_enter func77,ntmps77;go_wp2_with fail
    refine(LT s _ J).mono ?_;rintro e w' ⟨rfl,n,rfl⟩;rw[Q.out,R.out];go_wp2_with fail
    refine(Ge t _).mono ?_;rintro e w' ⟨rfl,rfl⟩;rw[O.out];go_wp2;go_ret;exact⟨Du H.out.symm,n,rfl⟩
   ·have H:Hid (Db s=0):=by show _=_;rw[F.out,nD rfl,nC G,nC I]
    have Z:(h.toList==[116])=false:=by simpa using I
    clear F G I;go_enter func77,ntmps77;go_wp2_with fail
    refine(LT s _ J).mono ?_;rintro e w' ⟨rfl,n,rfl⟩;rw[Q.out,R.out];go_wp2_with fail
    refine(Ge t _).mono ?_;rintro e w' ⟨rfl,rfl⟩;rw[O.out];go_wp2;go_ret;exact⟨Du H.out.symm,n,rfl⟩
def EP(l:List Kv):Prop:=∀x∈l,x.n.size≤255∧x.v.size≤255
def Fb(w:World)(b:Nat)(x:Kv):Prop:=w.cell? ⟨b,0,none⟩=some (.string x.n)∧w.cell? ⟨b,1,none⟩=some (.string x.v)
theorem Fb.new(w:World)(x:Kv):Fb (w.alloc (.cells #[.string x.n,.string x.v] 122)) w.heap.size x:=
 ⟨aC,aC⟩
theorem Fb.drew{w:World}{b:Nat}{x:Kv}(h:Fb w b x)(n:Nat):Fb (w.drewN n) b x:=h
def Am(n:Int):Value:=if n=0 then .nilIface else .iface 78 (.int .i64 n)
theorem AG{n m:Int}(h:n=m)(F:m≠0):Am n=.iface 78 (.int .i64 m):=by subst h;simp[Am,F]
theorem Co{n:Int}(h:n=0):Am n=.nilIface:=by subst h;rfl
theorem Cp{a b:Value}(h:a=b):Ending.returned a=.returned b:=by rw[h]
theorem K5(a:Option Addr)(cap:Nat)(l:List Kv)(w:World)(bo:l.length≤1000)(bd:EP l)(h:Bp w.cell? a l):
 Calls prog 131 #[.slice a l.length cap] w fun e w'=>e=.returned (Am (Dc l))∧Below w.heap.size w w':=by
 by_cases ar:4<l.length
 ·have be:decide (4<(l.length:Int))=true:=nF (by omega)
  have J:Hid (Dc l=2):=by show _=_;unfold Dc;rw[nD ar]
  go_enter func131,ntmps131;go_wp2;go_ret;exact⟨Cp (AG J.out (by decide)).symm,nv _ _⟩
 have be:decide (4<(l.length:Int))=false:=nB (by omega);have J:Hid (Dc l=aF l 0 l.length):=by show _=_;unfold Dc;rw[nC ar]
 go_enter func131,ntmps131;go_wp2;go_loopw [11] (fun i wr=>∃k:Nat,k≤l.length∧i=.int .i64 k∧Hid (aF l 0 l.length=aF l k (l.length-k))∧Below w.heap.size w wr) (fun i _=>l.length-(intOf i).toNat)
 case atStart=>exact⟨0,nN _,rfl,rfl,nv _ _⟩
 case round=>
  obtain⟨k,bp,rfl,O,H⟩:=hrel;by_cases ay:k<l.length
  ·rcases h with rfl|⟨b,Q,rfl,ad⟩
   ·simp at ay
   ·obtain⟨x,hx⟩:∃x,l[k]? =some x:=⟨l[k],by simp[ay]⟩
    obtain⟨G,az⟩:=ad k x hx;obtain⟨bs,bu⟩:=bd x (nE hx);have V:b<w.heap.size:=nz _ _ G;have bf:b<wr.heap.size:=nH V H.size;have bv:(k:Int)<(l.length:Int):=by omega
    have T:Hid (aF l k (l.length-k)=aF l k ((l.length-(k+1))+1)):=by show _=_;congr 1;omega
    have R:=hid hx;have a1:=hid ad;have bg:Ce wr b (Q+k*2) (.string x.n):=(H.cell (p:=(aD b (Q+k*2))) V).trans G;have q1:Ce wr b (Q+k*2+1) (.string x.v):=(H.cell (p:=(aD b (Q+k*2+1))) V).trans az;obtain⟨c,a6⟩:∃c,Db x.n=c:=⟨_,rfl⟩;have Y:=hid a6;clear G az hx ad a6;go_wp2_with fail
    refine(K8 x.n _ (by omega)).mono ?_;rintro e w' ⟨rfl,n,rfl⟩;rw[Y.out];have ak:=(Fb.new wr x).drew n;have I:=rz (H.alloc H.size (.cells #[.string x.n,.string x.v] 122)) n;generalize(wr.alloc (.cells #[.string x.n,.string x.v] 122)).drewN n=bi at ak I⊢;generalize wr.heap.size=bx at ak⊢;obtain⟨bA,bB⟩:=ak;clear bg q1 H bf;by_cases G:c=0
    ·subst G
     have F:=hid (T.out.trans ((Mp (by rw[KR R.out Y.out];decide)).trans (KR R.out Y.out)));go_wp2;go_ret;exact⟨Cp (AG (by rw[J.out,O.out,F.out]) (by decide)).symm,I⟩
    have Z:Hid (Db x.n≠0):=by show _≠_;rw[Y.out];exact G
    have bc:(c==0)=false:=by simpa using G
    clear G;by_cases aa:20<x.v.size
    ·have bk:decide (20<(x.v.size:Int))=true:=nF (by omega)
     have F:=hid (T.out.trans ((Mp (by rw[KV R.out Z.out aa];decide)).trans (KV R.out Z.out aa)));go_wp2;go_ret;exact⟨Cp (AG (by rw[J.out,O.out,F.out]) (by decide)).symm,I⟩
    have bk:decide (20<(x.v.size:Int))=false:=nB (by omega);have a7:=hid aa;clear aa;by_cases bl:k=0
    ·subst bl
     have F:=hid (T.out.trans (Pc (P4 R.out Z.out a7.out)));go_wp2;go_quiet (fail)
     go_wp2;go_roundw
     case rel=>exact⟨0+1,by omega,by go_num,O.out.trans F.out,rz I _⟩
     case measure=>simp[intOf];omega
    ·obtain⟨j,a8⟩:∃j,k=j+1:=⟨k-1,by omega⟩
     obtain⟨p,ao⟩:∃p,l[j]? =some p:=⟨l[j]'(by omega),nt _⟩;obtain⟨ba,_⟩:=a1.out j p ao;have bC:Ce bi b (Q+j*2) (.string p.n):=(I.cell (p:=(aD b (Q+j*2))) V).trans ba;have bb:=hid a8;have ab:Hid (Ed l k=if AZ p.n x.n=true then 0 else 3):=by show _=_;rw[bb.out];exact Nk (by rw[←bb.out];exact R.out) ao Z.out a7.out
     have bF:decide (0<k)=true:=nF (by omega);have bG:IntKind.i64.wrap ((k:Int)-1)=(j:Int):=(EG (by omega) (by omega)).trans (by omega);have bH:(k:Int)-1=(j:Int):=by omega
     have dl:(j:Int)<(l.length:Int):=by omega
     obtain⟨t,ap⟩:∃t,AZ p.n x.n=t:=⟨_,rfl⟩;have bY:(Op.bytesLess x.n.toList p.n.toList||x.n.toList==p.n.toList)= !t:=by rw[OS,ap]
     rw[ap]at ab;clear a8 ap a1 ao ba;cases t
     ·have F:Hid (aF l k (l.length-k)=3):=T.out.trans ((Mp (by rw[ab.out];decide)).trans (by rw[ab.out];rfl))
      go_wp2;go_quiet (fail)
      go_wp2;go_ret;exact⟨Cp (AG (by rw[J.out,O.out,F.out]) (by decide)).symm,rz I _⟩
     ·have F:Hid (aF l k (l.length-k)=aF l (k+1) (l.length-(k+1))):=T.out.trans (Pc (by rw[ab.out];rfl))
      go_wp2;go_quiet (fail)
      go_wp2;go_roundw
      case rel=>exact⟨k+1,by omega,by go_num,O.out.trans F.out,rz I _⟩
      case measure=>simp[intOf];omega
  ·have bn:l.length-k=0:=by omega
   go_wp2;go_ret;exact⟨Cp (Co (by rw[J.out,O.out,bn];rfl)).symm,H⟩
theorem Yx{f:Kv→Bool}{l:List Kv}{k:Nat}{b:Kv}(hb:l[k]? =some b)(h:(l.take k).all f=true)(F:f b=true):(l.take (k+1)).all f=true:=by
 rw[rv,hb];simp at h⊢;exact⟨h,F⟩
theorem S0{f:Kv→Bool}{l:List Kv}{k:Nat}{b:Kv}(hb:l[k]? =some b)(F:f b=false):l.all f=false:=by
 have G:b∈l:=nE hb;cases h:l.all f with
 |false=>rfl
 |true=>rw[List.all_eq_true]at h;rw[h b G]at F;cases F
theorem KM(a:Option Addr)(cap:Nat)(l:List Kv)(w:World)(h:Bp w.cell? a l):
 Calls prog 61 #[.slice a l.length cap] w fun e w'=>e=.returned (.bool (Fu l))∧w=w':=by
 by_cases Y:8<l.length
 ·have Q:decide (8<(l.length:Int))=true:=nF (by omega)
  have F:Hid (Fu l=false):=by show _=_;unfold Fu;rw[nB (by omega:¬l.length≤8)];rfl
  go_enter func61,ntmps61;go_wp2;go_ret;exact⟨Bh F.out.symm,rfl⟩
 have Q:=nB (by omega);have F:Hid (Fu l=l.all GN):=by show _=_;unfold Fu;rw[nF (by omega:l.length≤8)];rfl
 go_enter func61,ntmps61;go_wp2;go_loop [3] (fun i=>∃k:Nat,k≤l.length∧i=iN k∧Hid ((l.take k).all GN=true)) (fun i=>l.length-(intOf i).toNat)
 case atStart=>exact⟨0,nN _,rfl,rfl⟩
 case round=>
  obtain⟨k,Z,rfl,I⟩:=hrel;by_cases J:k<l.length
  ·rcases h with rfl|⟨b,aa,rfl,O⟩
   ·simp at J
   ·obtain⟨x,hx⟩:∃x,l[k]? =some x:=⟨l[k],by simp[J]⟩
    obtain⟨R,q1⟩:=O k x hx;have ab:b<w.heap.size:=bL R;have ad:(k:Int)<(l.length:Int):=by omega
    have H:=hid hx;clear hx O;by_cases ak:60<x.n.size
    ·have T:decide (60<(x.n.size:Int))=true:=nF (by omega)
     have G:Hid (l.all GN=false):=S0 H.out (by unfold GN;rw[nB (by omega:¬x.n.size≤60)];rfl);go_wp2;go_ret;exact⟨Bh (by rw[F.out,G.out]),rfl⟩
    have T:=nB (by omega);by_cases ao:60<x.v.size
    ·have V:decide (60<(x.v.size:Int))=true:=nF (by omega)
     have G:Hid (l.all GN=false):=S0 H.out (by unfold GN;rw[nB (by omega:¬x.v.size≤60)];simp);go_wp2;go_ret;exact⟨Bh (by rw[F.out,G.out]),rfl⟩
    have V:=nB (by omega);have G:Hid (GN x=true):=by show _=_;unfold GN;simp;omega
    go_wp2;go_round
    case rel=>exact⟨k+1,by omega,by go_num,Yx H.out I.out G.out⟩
    case measure=>simp[intOf];omega
  ·go_wp2
   go_ret;have:=I.out;rw[n1 (by omega)]at this;exact⟨Bh (by rw[F.out,this]),rfl⟩
def Ch(w:World)(b:Nat):Nd→Hd→Prop
 |.mk k m u g o nh d ks,h=>w.cell? ⟨b,0,none⟩=some (.int .i64 k)∧w.cell? ⟨b,1,none⟩=some (.int .i64 m)∧w.cell? ⟨b,2,none⟩=some (.int .i64 u)∧w.cell? ⟨b,3,none⟩=some (.int .i64 g)∧
  w.cell? ⟨b,4,none⟩=some (.bool o)∧w.cell? ⟨b,5,none⟩=some (.slice h.aa nh.length h.ca)∧w.cell? ⟨b,6,none⟩=some (.string d)∧w.cell? ⟨b,7,none⟩=some (.slice h.ak ks.length h.ck)
theorem Ch.new(w:World)(k m u g:Int)(o:Bool)(nh:List Kv)(d:BA)(ks:List (BA×Nd))(h:Hd):
 Ch (w.alloc (.cells #[iN k,iN m,iN u,iN g,.bool o,.slice h.aa nh.length h.ca,.string d,.slice h.ak ks.length h.ck] 54)) w.heap.size (.mk k m u g o nh d ks) h:=
 ⟨aC,aC,aC,aC,aC,aC,aC,aC⟩
theorem Ch.below{w w':World}{b:Nat}{x:Nd}{h:Hd}(H:Ch w b x h)(hb:Below w.heap.size w w'):Ch w' b x h:=by
 obtain⟨k,m,u,g,o,nh,d,ks⟩:=x;obtain⟨G,I,J,O,Q,R,T,V⟩:=H;have F:b<w.heap.size:=bL G
 exact⟨(hb.cell (p:=(aD b 0)) F).trans G,(hb.cell (p:=(aD b 1)) F).trans I,(hb.cell (p:=(aD b 2)) F).trans J,(hb.cell (p:=(aD b 3)) F).trans O,(hb.cell (p:=(aD b 4)) F).trans Q,
  (hb.cell (p:=(aD b 5)) F).trans R,(hb.cell (p:=(aD b 6)) F).trans T,(hb.cell (p:=(aD b 7)) F).trans V⟩
theorem Ch.at{w:World}{b:Nat}{x:Nd}{h:Hd}(hb:Ch w b x h):Bi w.cell? b 0 x h:=by
 obtain⟨k,m,u,g,o,nh,d,ks⟩:=x;exact hb
theorem Bi.box{w:World}{b:Nat}{x:Nd}{h:Hd}(hb:Bi w.cell? b 0 x h):Ch w b x h:=by
 obtain⟨k,m,u,g,o,nh,d,ks⟩:=x;exact hb
theorem Dq.nine{c:AH}{b p:Nat}{n:BA}{k m u g:Int}{o:Bool}{nh:List Kv}{d:BA}{ks:Ar}{h:Hd}(F:Dq c b p n (.mk k m u g o nh d ks) h):c (aD b p)=some (.string n)∧c (aD b (p+1))=some (iN k)∧c (aD b (p+2))=some (iN m)∧c (aD b (p+3))=some (iN u)∧c (aD b (p+4))=some (iN g)∧
 c ⟨b,p+5,none⟩=some (.bool o)∧c ⟨b,p+6,none⟩=some (.slice h.aa nh.length h.ca)∧c ⟨b,p+7,none⟩=some (.string d)∧c ⟨b,p+8,none⟩=some (.slice h.ak ks.length h.ck):=F
theorem YN{w:World}{x:Nd}{h:Hd}(bH:Ah w.cell? x h):∀(W:World) (left:Int),Below w.heap.size w W→left≤1000→
 Calls prog 34 #[Al x h,.int .i64 left] W fun e bY=>e=.returned (.int .i64 (DF x left))∧Below W.heap.size W bY:=by
 induction bH with
 |@mk k m u g o nh d ks h b c3 f b0 c4 c5 aa bk b1 bl=>
  intro W left ab c6;have T:Hid (DF (.mk k m u g o nh d ks) left=if left≤0∨Fu nh=false∨300<d.size∨left<(ks.length:Int)then 0 else DE ks (left-1)):=by show _=_;rw[DF]
  have b2:=hid bk;have b3:=hid bl;have b4:=hid aa;clear bk b1 bl aa;show Calls prog 34 #[(A5 k m u g o nh d ks h),.int .i64 left] _ _;obtain⟨G,Q⟩:∃G,Hid (DF (.mk k m u g o nh d ks) left=G):=⟨_,rfl⟩;rw[Q.out];have R:=Ch.new W k m u g o nh d ks h;have J:Below W.heap.size W (W.alloc (As k m u g o nh d ks h)):=(nv _ _).alloc (nn _) _;have V:=(b0.below ab).below J;by_cases ba:left≤0
  ·have b5:decide (left≤0)=true:=nF ba
   have I:Hid (G=0):=by show _=_;rw[←Q.out,T.out,nD (.inl ba)]
   clear R V;go_enter func34,ntmps34;go_wp2;go_ret;exact⟨Du I.out.symm,J⟩
  have b5:decide (left≤0)=false:=nB ba;obtain⟨t,bn⟩:∃t,Fu nh=t:=⟨_,rfl⟩;have Y:=hid bn;clear bn;cases t
  ·have I:Hid (G=0):=by show _=_;rw[←Q.out,T.out,nD (.inr (.inl Y.out))]
   go_enter func34,ntmps34;go_wp2_with fail
   refine(KM h.aa h.ca nh _ V).mono ?_;rintro e w' ⟨rfl,rfl⟩;rw[Y.out];go_wp2;go_ret;exact⟨Du I.out.symm,J⟩
  by_cases hd:300<d.size
  ·have b6:decide (300<(d.size:Int))=true:=nF (by omega)
   have I:Hid (G=0):=by show _=_;rw[←Q.out,T.out,nD (.inr (.inr (.inl hd)))]
   clear hd;go_enter func34,ntmps34;go_wp2_with fail
   refine(KM h.aa h.ca nh _ V).mono ?_;rintro e w' ⟨rfl,rfl⟩;rw[Y.out];obtain⟨ad,ak,ao,ap,ar,ay,az,Z⟩:=R;go_wp2;go_ret;exact⟨Du I.out.symm,J⟩
  have b6:decide (300<(d.size:Int))=false:=nB (by omega);by_cases bb:left<(ks.length:Int)
  ·have b7:decide (left<(ks.length:Int))=true:=nF bb
   have I:Hid (G=0):=by show _=_;rw[←Q.out,T.out,nD (.inr (.inr (.inr bb)))]
   clear hd;go_enter func34,ntmps34;go_wp2_with fail
   refine(KM h.aa h.ca nh _ V).mono ?_;rintro e w' ⟨rfl,rfl⟩;rw[Y.out];obtain⟨ad,ak,ao,ap,ar,ay,az,Z⟩:=R;go_wp2;go_ret;exact⟨Du I.out.symm,J⟩
  have b7:decide (left<(ks.length:Int))=false:=nB bb;have I:Hid (G=DE ks (left-1)):=by show _=_;rw[←Q.out,T.out,nC (by rw[Y.out];simp;omega)]
  have c8:ks.length≤1000:=by omega
  clear Q T;go_enter func34,ntmps34;go_wp2_with fail
  refine(KM h.aa h.ca nh _ V).mono ?_;rintro e w' ⟨rfl,rfl⟩;rw[Y.out];have b9:=ab.trans (J.mono ab.size);have cb:=R;obtain⟨ad,ak,ao,ap,ar,ay,az,Z⟩:=cb;go_wp2;clear ad ak ao ap ar ay az Z;generalize W.alloc (As k m u g o nh d ks h)=c9 at R J V b9⊢;generalize a1:W.heap.size=cd at R⊢;go_loopw [1,5] (fun cf i wr=>∃(j:Nat) (F:Int),j≤ks.length∧i=.int .i64 j∧cf=.int .i64 F∧F≤1000∧Hid (G=DE (ks.drop j) F)∧Ch wr cd (.mk k m u g o nh d ks) h∧Below W.heap.size W wr) (fun _ i _=>ks.length-(intOf i).toNat)
  case atStart=>exact⟨0,left-1,nN _,rfl,by go_num,by omega,I.out,R,J⟩
  case round=>
   obtain⟨j,F,da,rfl,rfl,cg,a6,bd,H⟩:=hrel;have ch:=bd;obtain⟨ad,ak,ao,ap,ar,ay,az,Z⟩:=ch;by_cases bo:F≤0
   ·have cl:decide (0<F)=false:=nB (by omega)
    have O:Hid (G=F):=by show _=_;rw[a6.out];exact Xe bo
    clear bo;by_cases a7:j<ks.length
    ·have be:(j:Int)<(ks.length:Int):=by omega
     go_wp2;go_ret;exact⟨Du O.out.symm,by first|exact H|(rw[←a1];exact H)⟩
    ·have be:decide ((j:Int)<(ks.length:Int))=false:=nB (by omega)
     go_wp2;go_ret;exact⟨Du O.out.symm,by first|exact H|(rw[←a1];exact H)⟩
   have cl:decide (0<F)=true:=nF (by omega);by_cases a7:j<ks.length
   ·have be:(j:Int)<(ks.length:Int):=by omega
    obtain⟨⟨n,x⟩,hx⟩:∃x,ks[j]? =some x:=⟨ks[j],by simp[a7]⟩;have bp:Below w.heap.size w wr:=ab.trans (H.mono ab.size);have bs:=(b2.out j n x hx).below bp;have bf:Hid (DE (ks.drop j) F=if 60<n.size then 0 else DE (ks.drop (j+1)) (DF x F)):=WX hx (by omega);have bg:=hid (b3.out j n x hx);rcases b4.out with co|aa
    ·rw[co]at a7;simp at a7
    rw[aa]at Z;clear aa;have cp:=Rd x F;generalize bu:f j=db at bs bg;obtain⟨a8,bv⟩:∃a8,Hid (DF x F=a8):=⟨_,rfl⟩;rw[bv.out]at cp bf;obtain⟨dd,de,dg,dj,dk,dm,dn,dp⟩:=x;obtain⟨z0,bx,bA,z3,z4,z5,bB,bC,bF⟩:=bs.nine;by_cases bG:60<n.size
    ·have cr:decide (60<(n.size:Int))=true:=nF (by omega)
     have O:Hid (G=0):=by show _=_;rw[a6.out,bf.out,nD bG]
     clear hx bu bg bx bA z3 z4 z5 bB bC bF;go_wp2;go_ret;exact⟨Du O.out.symm,by first|exact H|(rw[←a1];exact H)⟩
    ·have cr:decide (60<(n.size:Int))=false:=nB (by omega)
     have O:Hid (G=DE (ks.drop (j+1)) a8):=by show _=_;rw[a6.out,bf.out,nC bG]
     clear hx bu;go_wp2_with fail
     refine(bg.out _ F bp cg).mono ?_;rintro e dr ⟨rfl,bi⟩;rw[bv.out];have cu:=bd.below bi;have cx:=H.trans (bi.mono H.size);clear ad ak ao ap ar ay az Z z0 bx bA z3 z4 z5 bB bC bF bi bd H;go_wp2;go_roundw
     case rel=>exact⟨j+1,a8,by omega,by go_num,rfl,by omega,O.out,cu,cx⟩
     case measure=>simp[intOf];omega
   ·have be:decide ((j:Int)<(ks.length:Int))=false:=nB (by omega)
    have O:Hid (G=F):=by show _=_;rw[a6.out,n7 (by omega),DE]
    go_wp2;go_ret;exact⟨Du O.out.symm,by first|exact H|(rw[←a1];exact H)⟩
theorem Yf{w:World}{x:Nd}{h:Hd}(I:Ah w.cell? x h):Calls prog 16 #[Al x h] w fun e J=>e=.returned (.bool (decide (0<DF x 80)))∧Below w.heap.size w J:=by
 have G:=YN I;obtain⟨ao,H⟩:=AQ (DF x 80);rw[H.out];obtain⟨k,m,u,g,o,nh,d,ks⟩:=x;have O:=Ch.new w k m u g o nh d ks h;have F:Below w.heap.size w (w.alloc (As k m u g o nh d ks h)):=bN;have Q:=hid G;clear G;show cL 16 #[(A5 k m u g o nh d ks h)] _ _;obtain⟨R,T,V,Y,Z,aa,ab,ad⟩:=O;go_enter func16,ntmps16;go_wp2_with fail
 refine(Q.out _ 80 F (by decide)).mono ?_;rintro e w' ⟨rfl,c2⟩;rw[H.out];have ak:=F.trans (c2.mono F.size);clear R T V Y Z aa ab ad c2 F;go_wp2;go_ret;exact⟨rfl,ak⟩
mutual
def Be:Nd→Prop
 |.mk _ _ _ _ _ nh _ ks=>nh.length≤1000∧ks.length≤1000∧DI ks
def DI:List (BA×Nd)→Prop
 |[]=>True
 |(_,x)::l=>Be x∧DI l
end
theorem Ka:∀{ks:List (BA×Nd)} {i:Nat} {n:BA} {x:Nd},DI ks→ks[i]? =some (n,x)→Be x
 |[],_,_,_,_,h=>by simp at h
 |(m,y)::l,0,n,x,hl,h=>by simp at h;rw[DI]at hl;rw[←h.2];exact hl.1
 |(m,y)::l,i+1,n,x,hl,h=>by rw[DI]at hl;exact Ka hl.2 (by simpa using h)
mutual
theorem GI:∀(x:Nd),cnt x≤1000→AB x→Be x
 |.mk _ _ _ _ _ nh d ks,hc,hl=>by
  rw[cnt]at hc;rw[AB]at hl;rw[Be];have:=hl.1.1;have:=Gc ks;exact⟨by omega,by omega,Ub ks (by omega) hl.2.2⟩
theorem Ub:∀(l:Ar),cntL l≤1000→Bu l→DI l
 |[],_,_=>by rw[DI];trivial
 |(n,x)::l,hc,hl=>by
  rw[cntL]at hc;rw[Bu]at hl;rw[DI];exact⟨GI x (by omega) hl.2.1,Ub l (by omega) hl.2.2⟩
end
theorem Ch.but{w w':World}{b H:Nat}{x:Nd}{h:Hd}(J:Ch w b x h)(hb:Ao H w w')(F:b≠H):Ch w' b x h:=by
 obtain⟨k,m,u,g,o,nh,d,ks⟩:=x;obtain⟨I,O,Q,R,T,V,Y,Z⟩:=J;have G:b<w.heap.size:=bL I
 exact⟨(hb.cell (p:=(aD b 0)) G F).trans I,(hb.cell (p:=(aD b 1)) G F).trans O,(hb.cell (p:=(aD b 2)) G F).trans Q,(hb.cell (p:=(aD b 3)) G F).trans R,(hb.cell (p:=(aD b 4)) G F).trans T,
  (hb.cell (p:=(aD b 5)) G F).trans V,(hb.cell (p:=(aD b 6)) G F).trans Y,(hb.cell (p:=(aD b 7)) G F).trans Z⟩
theorem Tryz.infoA:(prog.info? 122).map (fun i=>(i.zero,i.size,i.bytes))=some (some (.agg #[.string ⟨#[]⟩,.string ⟨#[]⟩]),2,32):=by kernel_rfl
theorem DC{P:Program}{t:TypeId}{z:Value}{n m:Nat}(h:(P.info? t).map (fun i=>(i.zero,i.size,i.bytes))=some (some z,n,m)):∃i,P.info? t=some i∧i.zero=some z∧i.size=n∧i.bytes=m:=by
 cases hi:P.info? t with
 |none=>rw[hi]at h;cases h
 |some i=>rw[hi]at h;simp at h;exact⟨i,rfl,h.1,h.2.1,h.2.2⟩
abbrev zK:Value:=.agg #[.string ⟨#[]⟩,.int .i64 0,.int .i64 0,.int .i64 0,.int .i64 0,.bool false,.slice none 0 0,.string ⟨#[]⟩,.slice none 0 0]
theorem Tryz.infoK:(prog.info? 89).map (fun i=>(i.zero,i.size,i.bytes))=some (some zK,9,120):=by kernel_rfl
theorem XP(a:Option Addr)(cap:Nat)(l:List Kv)(w:World)(ad:l.length≤1000)(h:Bp w.cell? a l):
 Calls prog 66 #[.slice a l.length cap] w fun e w'=>(∃v,e=.returned v∧w'.ownsRow w.heap.size 122 2 v l.length (Cr l))∧Below w.heap.size w w':=by
 have ak:=fun(W:World) (n c:Nat)=>rY (P:=prog) W 51 122 a n c 0 0 underlying51;cases a with
 |none=>
  have Q:l=[]:=by
   rcases h with e|⟨b,ao,e,_⟩
   ·exact e
   ·cases e
  subst Q;go_enter func66,ntmps66;go_wp2;go_ret;exact⟨⟨_,rfl,rB _ _ _ _⟩,nv _ _⟩
 |some R=>
  obtain⟨T,V,Y,Z,aa⟩:=DC Tryz.infoA;have F:Below w.heap.size w (w.alloc (.cells #[] 122)):=bN;have G:(w.alloc (.cells #[] 122)).ownsRow w.heap.size 122 2 (sL w.heap.size 0 0 0) 0 (Cr []):=World.ownsRow_made w #[] 0 (nn _) (by decide) rfl;have I:=QH (h.below F);have H:=F.size;go_enter func66,ntmps66;go_wp2_with (at_builtin;refine DZ _ rfl (.tmp 5) (.tmp 6) 51 rfl w.heap.size 122 T (.agg #[.string ⟨#[]⟩,.string ⟨#[]⟩]) 2 32 underlying51 V Y Z aa rfl (by decide) _ 0 (Cr []) rfl G (some R) l.length cap (Cr l) rfl (KT l) I (Lu _) (by unfold maxLen;omega) (by omega) H ?_)
  intro ap ar J O _;have ab:=F.grown O H (fun q e=>(G.lt q e).1);rw[show Cr []++Cr l=Cr l from rfl]at J;clear O G F I H;go_wp2;go_ret;exact⟨⟨_,rfl,J⟩,ab⟩
theorem Qs(a:Option Addr)(cap:Nat)(L:BH)(w:World)(ad:L.length≤1000)(h:Cv w.cell? a L):
 Calls prog 67 #[.slice a L.length cap] w fun e w'=>(∃v,e=.returned v∧w'.ownsRow w.heap.size 89 9 v L.length (Bn L))∧Below w.heap.size w w':=by
 have ak:=fun(W:World) (n c:Nat)=>rY (P:=prog) W 52 89 a n c 0 0 underlying52;cases a with
 |none=>
  have Q:L=[]:=by
   rcases h.1 with e|⟨b,ao,e,_⟩
   ·exact e
   ·cases e
  subst Q;go_enter func67,ntmps67;go_wp2;go_ret;exact⟨⟨_,rfl,rB _ _ _ _⟩,nv _ _⟩
 |some R=>
  obtain⟨T,V,Y,Z,aa⟩:=DC Tryz.infoK;have F:Below w.heap.size w (w.alloc (.cells #[] 89)):=bN;have G:(w.alloc (.cells #[] 89)).ownsRow w.heap.size 89 9 (sL w.heap.size 0 0 0) 0 (Bn []):=World.ownsRow_made w #[] 0 (nn _) (by decide) rfl;have I:=Qu (h.on (Aj F));have H:=F.size;go_enter func67,ntmps67;go_wp2_with (at_builtin;refine DZ _ rfl (.tmp 5) (.tmp 6) 52 rfl w.heap.size 89 T zK 9 120 underlying52 V Y Z aa rfl (by decide) _ 0 (Bn []) rfl G (some R) L.length cap (Bn L) rfl (Ht L) I (Md _) (by unfold maxLen;omega) (by omega) H ?_)
  intro ap ar J O _;have ab:=F.grown O H (fun q e=>(G.lt q e).1);rw[show Bn []++Bn L=Bn L from rfl]at J;clear O G F I H;go_wp2;go_ret;exact⟨⟨_,rfl,J⟩,ab⟩
theorem Hy{w w':World}{base:Nat}{e:TypeId}{size:Nat}{v:Value}{n:Nat}{xs:List Value}(h:w.ownsRow base e size v n xs)(hb:∀g,v.ownBlock=some g→w'.heap[g]? =w.heap[g]?):w'.ownsRow base e size v n xs:=by
 obtain⟨H,F⟩:=h;refine⟨H,?_⟩;rcases F with F|⟨g,cap,I,G,J,O,r⟩
 ·exact .inl F
 ·exact .inr ⟨g,cap,I,G,J,by rw[hb g (by rw[G];rfl)];exact O,r⟩
theorem QP{w w':World}{base:Nat}{e:TypeId}{size:Nat}{v:Value}{n:Nat}{xs:List Value}(h:w.ownsRow base e size v n xs)(hb:Below w.heap.size w w'):w'.ownsRow base e size v n xs:=Hy h fun g F=>hb.block g (h.lt g F).2
theorem Sn{w w':World}{base b:Nat}{e:TypeId}{size:Nat}{v:Value}{n:Nat}{xs:List Value}(h:w.ownsRow base e size v n xs)(hb:Ao b w w')(G:b<base):w'.ownsRow base e size v n xs:=Hy h fun g F=>hb.block g (h.lt g F).2 (by have:=(h.lt g F).1;omega)
theorem Lj{w:World}{base:Nat}{e:TypeId}{size:Nat}{v:Value}{n:Nat}{xs:List Value}(h:w.ownsRow base e size v n xs){p:Addr}(G:p.block<base)(u:Value):(w.setCell p u).ownsRow base e size v n xs:=Hy h fun g F=>re _ _ _ _ (by have:=(h.lt g F).1;omega)
def Av(w:World)(b:Nat)(x:Nd)(h:Hd):Prop:=Ch w b x h∧∀j,w.frozen? ⟨b,j,none⟩=false
theorem Ch.lt{w:World}{b:Nat}{x:Nd}{h:Hd}(F:Ch w b x h):b<w.heap.size:=by
 obtain⟨k,m,u,g,o,nh,d,ks⟩:=x;exact bL F.1
theorem Av.below{w w':World}{b:Nat}{x:Nd}{h:Hd}(F:Av w b x h)(hb:Below w.heap.size w w'):Av w' b x h:=
 ⟨F.1.below hb,fun j=>(hb.frozen (p:=(aD b j)) F.1.lt).trans (F.2 j)⟩
theorem Av.other{w:World}{b:Nat}{x:Nd}{h:Hd}(F:Av w b x h){p:Addr}(G:p.block≠b)(v:Value):Av (w.setCell p v) b x h:=by
 obtain⟨k,m,u,g,o,nh,d,ks⟩:=x;obtain⟨⟨H,I,J,O,Q,R,T,V⟩,Y⟩:=F;have e:∀o,(w.setCell p v).cell? (aD b o)=w.cell? (aD b o):=fun o=>nA _ _ _ _ (fun e=>G (by rw[e]));exact⟨⟨(e _).trans H,(e _).trans I,(e _).trans J,(e _).trans O,(e _).trans Q,(e _).trans R,(e _).trans T,(e _).trans V⟩,fun j=>by rw[rJ];exact Y j⟩
theorem Av.set5{w:World}{b:Nat}{k m u g:Int}{o:Bool}{nh:List Kv}{d:BA}{ks:Ar}{h:Hd}(G:Av w b (.mk k m u g o nh d ks) h)(F:Option Addr)(ca:Nat):Av (w.setCell (aD b 5) (.slice F nh.length ca)) b (.mk k m u g o nh d ks) ⟨F,ca,h.ak,h.ck⟩:=by
 obtain⟨⟨H,I,J,O,Q,R,T,V⟩,Y⟩:=G;have e:∀o,o≠5→(w.setCell (aD b 5) (.slice F nh.length ca)).cell? (aD b o)=w.cell? (aD b o):=fun o Z=>nA _ _ _ _ (fun e=>Z (Addr.mk.inj e).2.1.symm);exact⟨⟨(e _ (by decide)).trans H,(e _ (by decide)).trans I,(e _ (by decide)).trans J,(e _ (by decide)).trans O,(e _ (by decide)).trans Q,nI _ _ _ R,(e _ (by decide)).trans T,(e _ (by decide)).trans V⟩,fun j=>by rw[rJ];exact Y j⟩
theorem Av.set7{w:World}{b:Nat}{k m u g:Int}{o:Bool}{nh:List Kv}{d:BA}{ks:Ar}{h:Hd}(H:Av w b (.mk k m u g o nh d ks) h)(F:Ar)(G:Option Addr)(ck:Nat):Av (w.setCell (aD b 7) (.slice G F.length ck)) b (.mk k m u g o nh d F) ⟨h.aa,h.ca,G,ck⟩:=by
 obtain⟨⟨I,J,O,Q,R,T,V,Y⟩,Z⟩:=H;have e:∀o,o≠7→(w.setCell (aD b 7) (.slice G F.length ck)).cell? (aD b o)=w.cell? (aD b o):=fun o aa=>nA _ _ _ _ (fun e=>aa (Addr.mk.inj e).2.1.symm);exact⟨⟨(e _ (by decide)).trans I,(e _ (by decide)).trans J,(e _ (by decide)).trans O,(e _ (by decide)).trans Q,(e _ (by decide)).trans R,(e _ (by decide)).trans T,(e _ (by decide)).trans V,nI _ _ _ Y⟩,fun j=>by rw[rJ];exact Z j⟩
theorem Av.new(w:World)(k m u g:Int)(o:Bool)(nh:List Kv)(d:BA)(ks:Ar)(h:Hd):Av (w.alloc (.cells #[iN k,iN m,iN u,iN g,.bool o,.slice h.aa nh.length h.ca,.string d,.slice h.ak ks.length h.ck] 54)) w.heap.size (.mk k m u g o nh d ks) h:=
 ⟨Ch.new w k m u g o nh d ks h,fun _j=>World.frozen?_alloc_new _ _ _ _⟩
def zH:Hd:=⟨none,0,none,0⟩
theorem Av.zero(w:World):Av (w.alloc (.cells #[.int .i64 0,.int .i64 0,.int .i64 0,.int .i64 0,.bool false,.slice none 0 0,.string ⟨#[]⟩,.slice none 0 0] 54)) w.heap.size zN zH:=Av.new w 0 0 0 0 false [] ⟨#[]⟩ [] zH
def Au(w:World)(b:Nat):Nd→Hd→World
 |.mk k m u g o nh d ks,h=>(((((((w.setCell ⟨b,0,none⟩ (.int .i64 k)).setCell ⟨b,1,none⟩ (.int .i64 m)).setCell ⟨b,2,none⟩ (.int .i64 u)).setCell ⟨b,3,none⟩ (.int .i64 g)).setCell ⟨b,4,none⟩ (.bool o)).setCell ⟨b,5,none⟩ (.slice h.aa nh.length h.ca)).setCell ⟨b,6,none⟩ (.string d)).setCell ⟨b,7,none⟩ (.slice h.ak ks.length h.ck)
theorem Ic(w:World)(b:Nat)(x:Nd)(h:Hd):Au w b x h=CU w b 0 x h:=by
 obtain⟨k,m,u,g,o,nh,d,ks⟩:=x;rfl
theorem Av.store{w:World}{b:Nat}{y:Nd}{h':Hd}(F:Av w b y h')(x:Nd)(h:Hd):Av (Au w b x h) b x h:=by
 rw[Ic];exact⟨Bi.box (Km F.1.at),fun j=>(Nl _).trans (F.2 j)⟩
theorem Cz{w:World}{b:Nat}{x:Nd}{h:Hd}:Ao b w (Au w b x h):=by rw[Ic];exact LX
theorem Ry{w:World}{S:Nat→Bool}(bp:∀k,S k=true→k<w.heap.size){x:Nd}{h:Hd}(bs:Ah (Ag w.cell? S) x h)(W:World)(az:Below w.heap.size w W)(bu:Be x):
 Calls prog 38 #[Al x h] W fun e a1=>(∃h',e=.returned (Al x h')∧Ah (Ag a1.cell? S) x h'∧GJ W.heap.size a1 h'.ak x.kids)∧Below W.heap.size W a1:=by
 obtain⟨k,m,u,g,o,nh,d,ks⟩:=x;rw[Be]at bu;obtain⟨bv,el,em,bx⟩:=Cq.1 (bs.on (CN az));obtain⟨c4,c5,_⟩:=bu;obtain⟨L,a6,bA⟩:=UT bx;have bB:ks.length=L.length:=by rw[←a6,E7]
 have bC:=hid a6;have bF:=hid bB;have c6:L.length≤1000:=by omega
 have bG:∀k,S k=true→k<W.heap.size:=fun k O=>nH (bp k O) az.size;clear bs az bx a6 bB c5 bp
 show cL 38 #[(A5 k m u g o nh d ks h)] _ _;have bH:=Av.new W k m u g o nh d ks h;have a7:Below W.heap.size W (W.alloc (As k m u g o nh d ks h)):=bN;have a8:=Av.zero (W.alloc (As k m u g o nh d ks h));rw[nw]at a8;have ba:=bH.below ((nv _ _).alloc (nn _) AJ);have ar:Below W.heap.size W ((W.alloc (As k m u g o nh d ks h)).alloc AJ):=a7.alloc a7.size _;have bY:=(bv.on (Ci _ _)).below ar;have bb:W.heap.size+2≤((W.alloc (As k m u g o nh d ks h)).alloc AJ).heap.size:=by simp
 obtain⟨⟨Q,R,T,V,Y,Z,aa,ab⟩,ad⟩:=id ba;clear bH a7;go_enter func38,ntmps38;go_wp2_with fail
 refine(XP h.aa h.ca nh _ c4 bY).mono ?_;rintro e b0 ⟨⟨en,rfl,ak⟩,ao⟩;have bd:=ba.below ao;have be:=a8.below ao;have b1:=ar.trans (ao.mono ar.size);have bf:=nP bb ao.size;generalize((W.alloc (As k m u g o nh d ks h)).alloc AJ).heap.size=base at bb ak;clear Q R T V Y Z aa ab ad ba a8 ar ao bY bv;generalize eo:W.heap.size=F at bd be bb bf⊢;obtain⟨a2,c2,b2,ep,eq,c8⟩:=M3 ak;rw[b2]at ak⊢;clear b2;have bg:=bd.set5 a2 c2;have b3:=be.other (p:=(aD F 5)) (by simp) (.slice a2 nh.length c2);have b4:=Lj ak (p:=(aD F 5)) (show F<base by omega) (.slice a2 nh.length c2);have ay:=b1.setCell (p:=(aD F 5)) (by show W.heap.size≤F;omega) (.slice a2 nh.length c2);have b5:F+2≤(b0.setCell (aD F 5) (.slice a2 nh.length c2)).heap.size:=by rw[World.size_setCell];exact bf
 have b6:=(bA.on (Ci _ _)).on (Aj ay);obtain⟨⟨Q,R,T,V,Y,Z,aa,ab⟩,ad⟩:=bd;have bi:=bg.1.2.2.2.2.2.2.2;clear ak c8 be b1 bf;go_wp2_with fail
 rw[bF.out];refine(Qs h.ak h.ck L _ c6 b6).mono ?_;rintro e bk ⟨⟨er,rfl,H⟩,I⟩;have b7:=bg.below I;have b9:=b3.below I;have cb:=QP b4 I;have cd:=ay.trans (I.mono ay.size);have es:=nP b5 I.size;generalize(b0.setCell (aD F 5) (.slice a2 nh.length c2)).heap.size=c9 at b5 H;clear Q R T V Y Z aa ab ad bi bg b3 b4 ay I b6;obtain⟨a4,G,cf,da,eu,db⟩:=Df H;clear db;rw[cf]at H⊢;clear cf;rw[←bF.out]at H da⊢;have dd:=b7.set7 ks a4 G;have bl:=b9.other (p:=(aD F 7)) (by simp) (.slice a4 ks.length G);have cg:=Lj cb (p:=(aD F 7)) (show F<base by omega) (.slice a4 ks.length G);have ch:=Lj H (p:=(aD F 7)) (show F<c9 by omega) (.slice a4 ks.length G);have bn:=cd.setCell (p:=(aD F 7)) (by show W.heap.size≤F;omega) (.slice a4 ks.length G);obtain⟨⟨Q,R,T,V,Y,Z,aa,ab⟩,ad⟩:=b7;clear cb H cd b9;obtain⟨⟨x0,de,dg,dj,dk,dm,dn,dp⟩,dr⟩:=id dd;obtain⟨⟨z0,ds,du,z3,z4,z5,dw,bi⟩,dx⟩:=id bl;have cl:=bl.store (.mk k m u g o nh d ks) ⟨a2,c2,a4,G⟩;have ap:Ao (F+1) (bk.setCell (aD F 7) (.slice a4 ks.length G)) (Au (bk.setCell (aD F 7) (.slice a4 ks.length G)) (F+1) (.mk k m u g o nh d ks) ⟨a2,c2,a4,G⟩):=Cz;have co:=Sn cg ap (by omega);have cp:=Sn ch ap (by omega);have bo:=bn.trans (ap.below (B:=W.heap.size) (by omega) (by have:=bn.size;omega));generalize J:Au (bk.setCell (aD F 7) (.slice a4 ks.length G)) (F+1) (.mk k m u g o nh d ks) ⟨a2,c2,a4,G⟩=dy at cl ap co cp bo;have cr:=hid J;clear J ap cg ch bn bl;go_wp2;have J:=cr.out;simp only[Au]at J;rw[J];clear J cr x0 de dg dj dk dm dn dp dr Q R T V Y Z aa ab ad z0 ds du z3 z4 z5 dw bi dx;obtain⟨ev,c7,cu,dz,d0,d1⟩:=PV (S:=S) (fun k O=>by have:=bG k O;omega) co;have d2:∀e∈L,Ah (Ag dy.cell? S) e.2.1 e.2.2:=fun e d3=>(bA.2 e d3).on (CN bo);obtain⟨eB,eE,cx,d4,d5,d6,c3⟩:=MW (fun k O=>by have:=bG k O;omega) cp d2
 simp only[rp,true_and]at cu cx;obtain⟨rfl,rfl⟩:=cu;obtain⟨rfl,rfl⟩:=cx;obtain⟨d7,d8,d9,ea,eb,ec,ed,ee⟩:=cl.1;refine nG (v:=Al (.mk k m u g o nh d ks) ⟨a2,c2,a4,G⟩) (by simp[results,results38,go_sem,Al,d7,d8,d9,ea,eb,ec,ed,ee]) rfl ⟨⟨⟨a2,c2,a4,G⟩,rfl,?_,?_⟩,?_⟩
 ·refine Cq.2 ⟨d1,⟨dz,d0⟩,⟨d4,d5⟩,?_⟩
  have:=IQ d6;rw[bC.out]at this;exact this
 ·rw[bC.out]at c3
  rcases c3 with e|⟨ef,eg,eL,ej,ek⟩
  ·exact .inl e
  ·exact .inr ⟨ef,eg,by omega,ej,ek⟩
 ·exact bo
def CF(p:BA→Bool):Ar→Nat→Int
 |[],_=>-1
 |q::l,i=>if p q.1=true then(i:Int)else CF p l (i+1)
theorem Ny{p:BA→Bool}{n:BA}{ks:Ar}{j:Nat}{x:Nd}(h:ks[j]? =some (n,x)):CF p (ks.drop j) j=if p n=true then(j:Int)else CF p (ks.drop (j+1)) (j+1):=by
 obtain⟨F,G⟩:=ny.1 h;rw[nO F,G,CF]
theorem NY(m:BA):∀(ks:Ar) (i:Nat),CF (fun n=>decide (n=m)) ks i=BD m ks i
 |[],i=>rfl
 |q::l,i=>by rw[CF,BD,NY m l (i+1)];simp
theorem Ti(m:BA):∀(ks:Ar) (i:Nat),(CF (fun n=>AZ m n) ks i=-1∧D7 m ks=ks.length)∨(CF (fun n=>AZ m n) ks i=((i+D7 m ks:Nat):Int)∧D7 m ks<ks.length)
 |[],i=>.inl ⟨rfl,rfl⟩
 |q::l,i=>by
  rw[CF];have e:D7 m (q::l)=if AZ m q.1=true then 0 else D7 m l+1:=by
   unfold D7;rw[List.findIdx_cons];cases AZ m q.1<;>simp
  by_cases F:AZ m q.1=true
  ·rw[nD F,e,nD F];right;exact⟨by simp,by simp⟩
  ·rw[nC F,e,nC F]
   rcases Ti m l (i+1)with⟨G,H⟩|⟨G,H⟩
   ·left;exact⟨G,by simp[H]⟩
   ·right;exact⟨by rw[G];congr 1;omega,by simp;omega⟩
theorem ew(a b:BA):(!Op.bytesLess a.toList b.toList&& !(a.toList==b.toList))=AZ b a:=by
 have h:=OS a b;have:(!Op.bytesLess a.toList b.toList&& !(a.toList==b.toList))= !(Op.bytesLess a.toList b.toList||a.toList==b.toList):=by cases Op.bytesLess a.toList b.toList<;>cases (a.toList==b.toList)<;>rfl
 rw[this,h];simp
theorem Vz(a b:BA):(a.toList==b.toList)=decide (a=b):=by
 rw[r2];simp
 exact⟨Jo,fun e=>by rw[e]⟩
def PI(n:BA):Nd→Hd→Value
 |.mk k m u g o nh d ks,h=>.agg #[.string n,.int .i64 k,.int .i64 m,.int .i64 u,.int .i64 g,.bool o,.slice h.aa nh.length h.ca,.string d,.slice h.ak ks.length h.ck]
theorem Ji.newW(w:World)(n:BA)(k m u g:Int)(o:Bool)(nh:List Kv)(d:BA)(ks:Ar)(h:Hd)(t:TypeId):
 (w.alloc (.cells #[.string n,.int .i64 k,.int .i64 m,.int .i64 u,.int .i64 g,.bool o,.slice h.aa nh.length h.ca,.string d,.slice h.ak ks.length h.ck] t)).cell? ⟨w.heap.size,0,none⟩=some (.string n):=nl _ _ _ _ rfl
theorem Xx(n m:BA)(x:Nd)(h:Hd)(F:Nat)(w:World)(H:w.cell? (aD F 0)=some (.string m)):
 Calls prog 175 #[PI n x h,pO F 0] w fun e w'=>e=.returned (.bool (decide (n=m)))∧Below w.heap.size w w':=by
 obtain⟨k,G,u,g,o,nh,d,ks⟩:=x;have I:Below w.heap.size w (w.alloc (.cells #[.string n,iN k,iN G,iN u,iN g,.bool o,.slice h.aa nh.length h.ca,.string d,.slice h.ak ks.length h.ck] 89)):=bN;have c0:=Ji.newW w n k G u g o nh d ks h 89;have c1:Ce (w.alloc (.cells #[.string n,iN k,iN G,iN u,iN g,.bool o,.slice h.aa nh.length h.ca,.string d,.slice h.ak ks.length h.ck] 89)) F 0 (.string m):=(I.cell (p:=(aD F 0)) (bL H)).trans H;have J:F<w.heap.size:=bL H;show cL 175 #[.agg #[.string n,iN k,iN G,iN u,iN g,.bool o,.slice h.aa nh.length h.ca,.string d,.slice h.ak ks.length h.ck],pO F 0] _ _;go_enter func175,ntmps175;go_wp2;go_ret;exact⟨Bh (by rw[←Vz]),I⟩
theorem Xf(a:Option Addr)(cap H:Nat)(ks:Ar)(m:BA)(w:World)(bo:ks.length≤1000)(h:Ea w.cell? a ks)(O:w.cell? (aD H 0)=some (.string m)):
 Calls prog 174 #[.slice a ks.length cap,.func (.func 175) #[] #[pO H 0]] w fun e w'=>e=.returned (iN (CF (fun n=>decide (n=m)) ks 0))∧Below w.heap.size w w':=by
 obtain⟨F,Q⟩:∃F,Hid (CF (fun n=>decide (n=m)) ks 0=F):=⟨_,rfl⟩;rw[Q.out];have ay:=hid O;have ad:=hid h;have az:H<w.heap.size:=bL O;clear O h;by_cases R:ks=[]
 ·subst R
  have T:=hid Q.out.symm;go_enter func174,ntmps174;go_wp2;go_loop [8] (fun i=>i=iN 0) (fun _=>0)
  case atStart=>rfl
  case round=>
   subst hrel;go_wp2;go_ret;exact⟨Du T.out.symm,nv _ _⟩
 obtain⟨b,I,rfl,f,J⟩:∃b I,a=some (aD b I)∧∃f:Nat→Hd,∀i n x,ks[i]? =some (n,x)→Dq w.cell? b (I+i*9) n x (f i):=by
  rcases ad.out with e|⟨b,I,e,f,J⟩
  ·exact absurd e R
  ·exact⟨b,I,e,f,fun i n x a1=>(J i n x a1).1⟩
 have a6:=hid J;clear J R ad;go_enter func174,ntmps174;go_wp2;go_loopw [8] (fun i wr=>∃j:Nat,j≤ks.length∧i=iN j∧Hid (F=CF (fun n=>decide (n=m)) (ks.drop j) j)∧Below w.heap.size w wr) (fun i _=>ks.length-(intOf i).toNat)
 case atStart=>exact⟨0,nN _,rfl,Q.out.symm,nv _ _⟩
 case round=>
  obtain⟨j,bp,rfl,V,G⟩:=hrel;by_cases a7:j<ks.length;rotate_left
  ·have a8:decide ((j:Int)<(ks.length:Int))=false:=nB (by omega)
   have T:Hid (F=-1):=by show _=_;rw[V.out,n7 (by omega),CF]
   go_wp2;go_ret;exact⟨Du T.out.symm,G⟩
  have a8:(j:Int)<(ks.length:Int):=by omega
  obtain⟨⟨n,x⟩,hx⟩:∃x,ks[j]? =some x:=⟨ks[j],by simp[a7]⟩;have Y:=(a6.out j n x hx).below G;have ak:=(G.cell (p:=(aD H 0)) az).trans ay.out;have Z:=hid (V.out.trans (Ny hx));clear hx V;generalize f j=ba at Y;have ao:=Xx n m x ba H wr ak;have aa:=hid ao;obtain⟨t,ap⟩:∃t,(decide (n=m))=t:=⟨_,rfl⟩;rw[ap]at Z aa;clear ap ao ak;obtain⟨bs,bu,bv,bx,bA,bB,bC,bF⟩:=x;obtain⟨bb,bd,be,bf,bg,bi,bk,bl,bn⟩:=Y.nine;clear Y;go_wp2_with fail
  refine aa.out.mono ?_;rintro e bG ⟨rfl,c2⟩;have ar:=G.trans (c2.mono G.size);clear bb bd be bf bg bi bk bl bn c2 G aa;cases t
  ·have ab:Hid (F=CF (fun n=>decide (n=m)) (ks.drop (j+1)) (j+1)):=by show _=_;rw[Z.out,nC (by simp)]
   go_wp2;go_roundw
   case rel=>exact⟨j+1,by omega,by go_num,ab.out,ar⟩
   case measure=>simp[intOf];omega
  ·have ab:Hid (F=j):=by show _=_;rw[Z.out,nD rfl]
   go_wp2;go_ret;exact⟨Du ab.out.symm,ar⟩
theorem Xn(n m:BA)(x:Nd)(h:Hd)(F:Nat)(w:World)(H:w.cell? (aD F 0)=some (.string m)):
 Calls prog 195 #[PI n x h,pO F 0] w fun e w'=>e=.returned (.bool (AZ m n))∧Below w.heap.size w w':=by
 obtain⟨k,G,u,g,o,nh,d,ks⟩:=x;have I:Below w.heap.size w (w.alloc (.cells #[.string n,iN k,iN G,iN u,iN g,.bool o,.slice h.aa nh.length h.ca,.string d,.slice h.ak ks.length h.ck] 89)):=bN;have c0:=Ji.newW w n k G u g o nh d ks h 89;have c1:Ce (w.alloc (.cells #[.string n,iN k,iN G,iN u,iN g,.bool o,.slice h.aa nh.length h.ca,.string d,.slice h.ak ks.length h.ck] 89)) F 0 (.string m):=(I.cell (p:=(aD F 0)) (bL H)).trans H;have J:F<w.heap.size:=bL H;show cL 195 #[.agg #[.string n,iN k,iN G,iN u,iN g,.bool o,.slice h.aa nh.length h.ca,.string d,.slice h.ak ks.length h.ck],pO F 0] _ _;go_enter func195,ntmps195;go_wp2;go_ret;exact⟨Bh (by rw[←ew]),I⟩
theorem XZ(a:Option Addr)(cap G:Nat)(ks:Ar)(m:BA)(w:World)(bo:ks.length≤1000)(h:Ea w.cell? a ks)(O:w.cell? (aD G 0)=some (.string m)):
 Calls prog 174 #[.slice a ks.length cap,.func (.func 195) #[] #[pO G 0]] w fun e w'=>e=.returned (iN (CF (fun n=>AZ m n) ks 0))∧Below w.heap.size w w':=by
 obtain⟨I,Q⟩:=AQ (CF (fun n=>AZ m n) ks 0);rw[Q.out];have ay:=hid O;have ad:=hid h;have az:G<w.heap.size:=bL O;clear O h;by_cases R:ks=[]
 ·subst R
  have T:=hid Q.out.symm;go_enter func174,ntmps174;go_wp2;go_loop [8] (fun i=>i=iN 0) (fun _=>0)
  case atStart=>rfl
  case round=>
   subst hrel;go_wp2;go_ret;exact⟨Du T.out.symm,nv _ _⟩
 obtain⟨b,H,rfl,f,J⟩:∃b H,a=some (aD b H)∧∃f:Nat→Hd,∀i n x,ks[i]? =some (n,x)→Dq w.cell? b (H+i*9) n x (f i):=by
  rcases ad.out with e|⟨b,H,e,f,J⟩
  ·exact absurd e R
  ·exact⟨b,H,e,f,fun i n x a1=>(J i n x a1).1⟩
 have a6:=hid J;clear J R ad;go_enter func174,ntmps174;go_wp2;go_loopw [8] (fun i wr=>∃j:Nat,j≤ks.length∧i=iN j∧Hid (I=CF (fun n=>AZ m n) (ks.drop j) j)∧Below w.heap.size w wr) (fun i _=>ks.length-(intOf i).toNat)
 case atStart=>exact⟨0,nN _,rfl,Q.out.symm,nv _ _⟩
 case round=>
  obtain⟨j,bp,rfl,V,F⟩:=hrel;by_cases a7:j<ks.length;rotate_left
  ·have a8:decide ((j:Int)<(ks.length:Int))=false:=nB (by omega)
   have T:Hid (I=-1):=by show _=_;rw[V.out,n7 (by omega),CF]
   go_wp2;go_ret;exact⟨Du T.out.symm,F⟩
  have a8:(j:Int)<(ks.length:Int):=by omega
  obtain⟨⟨n,x⟩,hx⟩:∃x,ks[j]? =some x:=⟨ks[j],by simp[a7]⟩;have Y:=(a6.out j n x hx).below F;have ak:=(F.cell (p:=(aD G 0)) az).trans ay.out;have Z:=hid (V.out.trans (Ny hx));clear hx V;generalize f j=ba at Y;have ao:=Xn n m x ba G wr ak;have aa:=hid ao;obtain⟨t,ap⟩:∃t,(AZ m n)=t:=⟨_,rfl⟩;rw[ap]at Z aa;clear ap ao ak;obtain⟨bs,bu,bv,bx,bA,bB,bC,bF⟩:=x;obtain⟨bb,bd,be,bf,bg,bi,bk,bl,bn⟩:=Y.nine;clear Y;go_wp2_with fail
  refine aa.out.mono ?_;rintro e bG ⟨rfl,c2⟩;have ar:=F.trans (c2.mono F.size);clear bb bd be bf bg bi bk bl bn c2 F aa;cases t
  ·have ab:Hid (I=CF (fun n=>AZ m n) (ks.drop (j+1)) (j+1)):=by show _=_;rw[Z.out,nC (by simp)]
   go_wp2;go_roundw
   case rel=>exact⟨j+1,by omega,by go_num,ab.out,ar⟩
   case measure=>simp[intOf];omega
  ·have ab:Hid (I=j):=by show _=_;rw[Z.out,nD rfl]
   go_wp2;go_ret;exact⟨Du ab.out.symm,ar⟩
theorem Lf(a:Option Addr)(cap:Nat)(ks:Ar)(m:BA)(w:World)(J:ks.length≤1000)(h:Ea w.cell? a ks):
 Calls prog 145 #[.slice a ks.length cap,.string m] w fun e w'=>e=.returned (iN (BD m ks 0))∧Below w.heap.size w w':=by
 have F:Below w.heap.size w (w.alloc (.cells #[.string m] 9)):=bN;have c1:Ce (w.alloc (.cells #[.string m] 9)) w.heap.size 0 (.string m):=aC;have G:=Xf a cap w.heap.size ks m _ J (h.below F) c1;rw[NY]at G;have H:Hid _:=G;clear G;go_enter func145,ntmps145;go_wp2_with fail
 refine np H.out ?_;rintro e Q ⟨rfl,c2⟩;have O:=F.trans (c2.mono F.size);clear c1 H c2 F;obtain⟨R,I⟩:=AQ (BD m ks 0);rw[I.out];go_wp2;go_ret;exact⟨Du I.out.symm,O⟩
theorem Y2(a:Option Addr)(cap:Nat)(ks:Ar)(m:BA)(w:World)(T:ks.length≤1000)(h:Ea w.cell? a ks):
 Calls prog 179 #[.slice a ks.length cap,.string m] w fun e w'=>e=.returned (iN (D7 m ks))∧Below w.heap.size w w':=by
 have F:Below w.heap.size w (w.alloc (.cells #[.string m] 9)):=bN;have c1:Ce (w.alloc (.cells #[.string m] 9)) w.heap.size 0 (.string m):=aC;have Q:=XZ a cap w.heap.size ks m _ T (h.below F) c1;have H:Hid _:=Q;clear Q;have V:=Ti m ks 0;rcases V with⟨G,I⟩|⟨G,I⟩
 ·have J:Hid (CF (fun n=>AZ m n) ks 0=-1):=G
  have Y:=hid I;clear G I;go_enter func179,ntmps179;go_wp2_with fail
  refine np H.out ?_;rintro e Z ⟨rfl,c2⟩;rw[J.out];have O:=F.trans (c2.mono F.size);clear c1 H c2 F;go_wp2;go_ret;exact⟨Du (by rw[Y.out]),O⟩
 ·rw[nU]at G
  have J:=hid G;clear G;go_enter func179,ntmps179;go_wp2_with fail
  refine np H.out ?_;rintro e Z ⟨rfl,c2⟩;rw[J.out];have O:=F.trans (c2.mono F.size);clear c1 H c2 F J;obtain⟨aa,R⟩:=AQ (D7 m ks);rw[R.out]at I⊢;go_wp2;go_ret;exact⟨Du (by rw[R.out]),O⟩
end Go.Proofs.YtofhphibahcniaaGreatDoor
