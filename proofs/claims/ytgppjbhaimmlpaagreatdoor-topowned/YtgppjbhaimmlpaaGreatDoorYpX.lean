/-
  TopOwned: Yp Yq Yr Gc Yg Yu.
-/
import Derived.Test.YtgppjbhaimmlpaaGreatDoorApX
import Derived.Test.YtgppjbhaimmlpaaGreatDoorYbX
import Derived.Test.YtgppjbhaimmlpaaGreatDoorFiX
import Derived.Deep.AppendSrc
import Derived.Deep.LoopGhost
import Derived.Test.YtgppjbhaimmlpaaGreatDoorVeX
import Derived.Test.YtgppjbhaimmlpaaGreatDoorCcX
set_option maxRecDepth 100000
set_option maxHeartbeats 16000000
namespace Go.Proofs.YtgppjbhaimmlpaaGreatDoor
open Go.RowKit Go.Proofs.Tryz
theorem XM{w:World}{x:Nd}{h:Hd}(bg:Ah w.cell? x h):∀(W:World),Below w.heap.size w W→
 Calls prog 135 #[Ao x h] W fun e ab=>(∃d,e=.returned (.int .i64 d))∧Below W.heap.size W ab:=by
 induction bg with
 |@mk k m u g o nh d ks h b a6 f bi bk ad G a7 bl a8=>
  intro W ba;have bn:=hid a7;have bo:=hid a8;have bp:=hid G;have b9:=nO ad.1 ad.2;clear a7 bl a8 G bi bk ad;show Calls prog 135 #[.agg #[.int .i64 k,.int .i64 m,.int .i64 u,.int .i64 g,.bool o,.slice h.aa nh.length h.ca,.string d,.slice h.ak ks.length h.ck]] _ _;have bs:=Cc.new W k m u g o nh d ks h;have I:Below W.heap.size W (W.alloc (.cells #[.int .i64 k,.int .i64 m,.int .i64 u,.int .i64 g,.bool o,.slice h.aa nh.length h.ca,.string d,.slice h.ak ks.length h.ck] 50)):=(nt _ _).alloc (nl _) _;obtain⟨bu,bv,bx,bA,bB,bC,bF,ak⟩:=bs;clear bu bv bx bA bB bC bF;rcases bp.out with bG|G
  ·subst bG
   go_enter func135,ntmps135;go_wp2;clear ak;generalize W.alloc (.cells #[.int .i64 k,.int .i64 m,.int .i64 u,.int .i64 g,.bool o,.slice h.aa nh.length h.ca,.string d,.slice h.ak 0 h.ck] 50)=bH at I⊢;first
   |(go_ret;exact⟨⟨_,rfl⟩,I⟩)
   |(go_loopw [3,9] (fun ao i wr=>i=.int .i64 0∧ao=.int .i64 0∧Below W.heap.size W wr) (fun _ _ _=>0)
     case atStart=>exact⟨rfl,rfl,I⟩
     case round=>
      obtain⟨rfl,rfl,H⟩:=hrel;go_wp2;go_ret;exact⟨⟨_,rfl⟩,H⟩)
  have bb:W.alloc (.cells #[.int .i64 k,.int .i64 m,.int .i64 u,.int .i64 g,.bool o,.slice h.aa nh.length h.ca,.string d,.slice h.ak ks.length h.ck] 50)=W.alloc (.cells #[.int .i64 k,.int .i64 m,.int .i64 u,.int .i64 g,.bool o,.slice h.aa nh.length h.ca,.string d,.slice (some ⟨b,a6,none⟩) ks.length h.ck] 50):=by rw[G]
  rw[bb]at I;clear bb;rw[G];rw[G]at ak;clear G;go_enter func135,ntmps135;go_wp2;clear ak;generalize W.alloc (.cells #[.int .i64 k,.int .i64 m,.int .i64 u,.int .i64 g,.bool o,.slice h.aa nh.length h.ca,.string d,.slice (some ⟨b,a6,none⟩) ks.length h.ck] 50)=bH at I⊢;go_loopw [3,9] (fun ao i wr=>∃(j:Nat) (bd:Int),j≤ks.length∧i=.int .i64 j∧ao=.int .i64 bd∧Below W.heap.size W wr) (fun _ i _=>ks.length-(intOf i).toNat)
  case atStart=>exact⟨0,0,nM _,rfl,rfl,I⟩
  case round=>
   obtain⟨j,bd,cb,rfl,rfl,H⟩:=hrel;by_cases bY:j<ks.length
   ·have b0:(j:Int)<(ks.length:Int):=by omega
    obtain⟨⟨n,x⟩,hx⟩:∃x,ks[j]? =some x:=⟨ks[j],by simp[bY]⟩;have aa:=ba.trans (H.mono ba.size);have ap:=(bn.out j n x hx).below aa;have az:=hid (bo.out j n x hx);generalize b1:f j=F at ap az;obtain⟨J,O,Q,R,T,V,Y,Z⟩:=x;obtain⟨z0,b2,b3,z3,z4,z5,b4,b5,b6⟩:=ap.nine;have a1:Below W.heap.size W (wr.alloc (.cells #[.string n,.int .i64 J,.int .i64 O,.int .i64 Q,.int .i64 R,.bool T,.slice F.aa V.length F.ca,.string Y,.slice F.ak Z.length F.ck] 73)):=H.alloc H.size _;have be:Hid (Calls prog 135 #[.agg #[.int .i64 J,.int .i64 O,.int .i64 Q,.int .i64 R,.bool T,.slice F.aa V.length F.ca,.string Y,.slice F.ak Z.length F.ck]] (wr.alloc (.cells #[.string n,.int .i64 J,.int .i64 O,.int .i64 Q,.int .i64 R,.bool T,.slice F.aa V.length F.ca,.string Y,.slice F.ak Z.length F.ck] 73)) fun e ab=>(∃d,e=.returned (.int .i64 d))∧Below (wr.alloc (.cells #[.string n,.int .i64 J,.int .i64 O,.int .i64 Q,.int .i64 R,.bool T,.slice F.aa V.length F.ca,.string Y,.slice F.ak Z.length F.ck] 73)).heap.size (wr.alloc (.cells #[.string n,.int .i64 J,.int .i64 O,.int .i64 Q,.int .i64 R,.bool T,.slice F.aa V.length F.ca,.string Y,.slice F.ak Z.length F.ck] 73)) ab):=az.out _ (aa.alloc aa.size _);clear hx b1 az ap aa;go_wp2_with fail
    refine be.out.mono ?_;rintro e cf ⟨⟨cg,rfl⟩,bf⟩;have b7:=a1.trans (bf.mono a1.size);clear z0 b2 b3 z3 z4 z5 b4 b5 b6 bf H a1 be;go_wp2;go_roundw
    case rel=>exact⟨j+1,_,by omega,by go_num,rfl,b7⟩
    case measure=>simp[intOf];omega
   ·have b0:decide ((j:Int)<(ks.length:Int))=false:=nA (by omega)
    go_wp2;go_ret;exact⟨⟨_,rfl⟩,H⟩
theorem Z2(a O:Option Addr)(c aa:Nat)(l F:List BA)(w:World)(a1:l.length≤1000)(h:A0 w.cell? a l)(h':A0 w.cell? O F):
 Calls prog 84 #[.slice a l.length c,.slice O F.length aa] w fun e w'=>(∃r,e=.returned (.bool r))∧Bw w w':=by
 have ab:=hid h;have ad:=hid h';clear h h';by_cases I:l.length=F.length;rotate_left
 ·have d:((l.length:Int)==(F.length:Int))=false:=by simp;omega
  have a6:=nA (by omega);go_enter func84,ntmps84;go_wp2;go_ret;exact⟨⟨_,rfl⟩,nt _ _⟩
 have ak:=hid I;rw[←I];clear I;go_enter func84,ntmps84;go_wp2;go_loopw [13] (fun i wr=>∃j:Nat,j≤l.length∧i=.int .i64 j∧Bw w wr) (fun i _=>l.length-(intOf i).toNat)
 case atStart=>exact⟨0,nM _,rfl,nt _ _⟩
 case round=>
  obtain⟨j,a7,rfl,G⟩:=hrel;by_cases J:j<l.length;rotate_left
  ·have ao:decide ((j:Int)<(l.length:Int))=false:=nA (by omega)
   go_wp2;go_ret;exact⟨⟨_,rfl⟩,G⟩
  have ao:(j:Int)<(l.length:Int):=by omega
  obtain⟨x,hx⟩:∃s,l[j]? =some s:=⟨l[j],np _⟩;obtain⟨y,H⟩:∃s,F[j]? =some s:=⟨F[j]'(by rw[←ak.out];exact J),np _⟩;rcases ab.out with e|⟨b,Q,rfl,R⟩
  ·rw[e]at J;simp at J
  rcases ad.out with e|⟨T,V,rfl,Y⟩
  ·rw[e]at H;simp at H
  have ap:=Ad G (R j x hx);have q1:=Ad G (Y j y H);clear R Y hx H;have Z:=hid G.drew;clear G;obtain⟨r,a8⟩:∃r,(x.toList==y.toList)=r:=⟨_,rfl⟩;have az:Ce wr.drew b (Q+j) (.string x)∧Ce wr.drew T (V+j) (.string y):=⟨ap,q1⟩;go_upto_region 6 with fail
  go_region_held3 (fun w'=>Ce w' b (Q+j) (.string x)∧Ce w' T (V+j) (.string y)) (first|with_reducible exact az) (fail)
  cases r with
  |true=>
   go_wp2;go_roundw
   case rel=>exact⟨j+1,by omega,by go_num,Z.out⟩
   case measure=>simp[intOf];omega
  |false=>
   go_wp2;go_ret;exact⟨⟨_,rfl⟩,Z.out⟩
abbrev dM:Oper:={dst:=some 5,op:=Op.fieldAddr 86 (Operand.tmp 3) 5,type:=0,pos:= "move.go:89",after:=#[],guard:=none}
abbrev dJ:Oper:={dst:=some 6,op:=Op.load 3 (Operand.tmp 5),type:=3,pos:= "move.go:89",after:=#[{on:=0,ground:=Ground.data}],guard:=none}
abbrev U8:Oper:={dst:=some 7,op:=Op.binOp BinOp.eql 3 (Operand.tmp 6) (Operand.const (Value.int IntKind.i64 0)) 3,type:=4,pos:= "move.go:89",after:=#[{on:=1,ground:=Ground.data}],guard:=none}
abbrev Va:Oper:={dst:=some 8,op:=Op.move (Operand.tmp 7),type:=4,pos:= "move.go:89",after:=#[{on:=2,ground:=Ground.data}],guard:=none}
abbrev Vh:Oper:={dst:=some 9,op:=Op.fieldAddr 86 (Operand.tmp 3) 4,type:=0,pos:= "move.go:89",after:=#[{on:=3,ground:=Ground.guard}],guard:=some (3,true)}
abbrev U3:Oper:={dst:=some 10,op:=Op.fieldAddr 50 (Operand.tmp 9) 4,type:=0,pos:= "move.go:89",after:=#[{on:=4,ground:=Ground.data},{on:=3,ground:=Ground.guard}],guard:=some (3,true)}
abbrev Vb:Oper:={dst:=some 11,op:=Op.load 4 (Operand.tmp 10),type:=4,pos:= "move.go:89",after:=#[{on:=5,ground:=Ground.data},{on:=3,ground:=Ground.guard}],guard:=some (3,true)}
abbrev O4:Oper:={dst:=some 12,op:=Op.move (Operand.tmp 11),type:=4,pos:= "move.go:89",after:=#[{on:=6,ground:=Ground.data},{on:=3,ground:=Ground.chain},{on:=3,ground:=Ground.guard}],guard:=some (3,true)}
abbrev O3:Oper:={dst:=some 13,op:=Op.move (Operand.tmp 0),type:=35,pos:= "move.go:89",after:=#[{on:=7,ground:=Ground.guard}],guard:=some (7,false)}
abbrev O1:Oper:={dst:=some 14,op:=Op.nilCheck (Operand.tmp 13),type:=0,pos:= "move.go:89",after:=#[{on:=8,ground:=Ground.data},{on:=7,ground:=Ground.guard}],guard:=some (7,false)}
abbrev OL:Oper:={dst:=some 15,op:=Op.fieldAddr 67 (Operand.tmp 14) 0,type:=0,pos:= "move.go:89",after:=#[{on:=9,ground:=Ground.data},{on:=7,ground:=Ground.guard}],guard:=some (7,false)}
abbrev OB:Oper:={dst:=some 16,op:=Op.fieldAddr 64 (Operand.tmp 15) 1,type:=0,pos:= "move.go:89",after:=#[{on:=10,ground:=Ground.data},{on:=7,ground:=Ground.guard}],guard:=some (7,false)}
abbrev OP:Oper:={dst:=some 17,op:=Op.load 30 (Operand.tmp 16),type:=30,pos:= "move.go:89",after:=#[{on:=11,ground:=Ground.data},{on:=7,ground:=Ground.guard}],guard:=some (7,false)}
abbrev Ox:Oper:={dst:=some 18,op:=Op.fieldAddr 86 (Operand.tmp 3) 2,type:=0,pos:= "move.go:89",after:=#[{on:=7,ground:=Ground.guard}],guard:=some (7,false)}
abbrev OA:Oper:={dst:=some 19,op:=Op.load 40 (Operand.tmp 18),type:=40,pos:= "move.go:89",after:=#[{on:=13,ground:=Ground.data},{on:=7,ground:=Ground.guard}],guard:=some (7,false)}
abbrev OO:Oper:={dst:=some 20,op:=Op.call {callee:=Callee.value (Operand.func 24),args:=#[Operand.tmp 17,Operand.tmp 19],argTypes:=#[30,40]},type:=4,pos:= "move.go:89",after:=#[{on:=12,ground:=Ground.data},{on:=14,ground:=Ground.data},{on:=7,ground:=Ground.chain},{on:=7,ground:=Ground.guard}],guard:=some (7,false)}
abbrev OK:Oper:={dst:=some 21,op:=Op.unOp UnOp.not 4 (Operand.tmp 20),type:=4,pos:= "move.go:89",after:=#[{on:=15,ground:=Ground.data},{on:=7,ground:=Ground.guard}],guard:=some (7,false)}
abbrev OV:Oper:={dst:=some 22,op:=Op.pick (Operand.tmp 12) (Operand.const (Value.bool true)) (Operand.tmp 21),type:=4,pos:= "move.go:89",after:=#[{on:=7,ground:=Ground.data},{on:=16,ground:=Ground.data},{on:=3,ground:=Ground.guard}],guard:=some (3,true)}
abbrev OJ:Oper:={dst:=some 23,op:=Op.pick (Operand.tmp 8) (Operand.tmp 22) (Operand.const (Value.bool false)),type:=4,pos:= "move.go:89",after:=#[{on:=3,ground:=Ground.data},{on:=17,ground:=Ground.data}],guard:=none}
abbrev OR:Oper:={dst:=some 4,op:=Op.assign (Operand.tmp 23),type:=4,pos:= "move.go:89",after:=#[{on:=18,ground:=Ground.data},{on:=15,ground:=Ground.chain},{on:=0,ground:=Ground.phase},{on:=1,ground:=Ground.phase},{on:=2,ground:=Ground.phase},{on:=3,ground:=Ground.phase},{on:=4,ground:=Ground.phase},{on:=5,ground:=Ground.phase},{on:=6,ground:=Ground.phase},{on:=7,ground:=Ground.phase},{on:=8,ground:=Ground.phase},{on:=9,ground:=Ground.phase},{on:=10,ground:=Ground.phase},{on:=11,ground:=Ground.phase},{on:=12,ground:=Ground.phase},{on:=13,ground:=Ground.phase},{on:=14,ground:=Ground.phase},{on:=15,ground:=Ground.phase},{on:=16,ground:=Ground.phase},{on:=17,ground:=Ground.phase},{on:=18,ground:=Ground.phase}],guard:=none}
def Vn(x0:Nd)(ni:List Nd)(nf:List BA)(F:Bool)(ly:Int)(e:Ending):Prop:=∃r,e=.returned (.bool r)∧(r=true→ly=0∧(F=true∨DX (x0::ni) nf=false))
theorem Yl{w:World}{b:Nat}{B:Bx}{x0:Nd}{ni:List Nd}(h:A5 w b B)(ao:BS B x0 ni)(G:List Value){na:Option Addr}{nc:Nat}{nf:List BA}{I:Bool}{ly:Int}(a6:G[10]? =some (.slice na nf.length nc))(f16:G[16]? =some (.bool I))(f20:G[20]? =some (.int .i64 ly))(a7:A0 w.cell? na nf)(a8:nf.length≤1000)(ba:nf.length≤nc∧nc≤9223372036854775807):
 Calls prog 134 #[.pointer (some ⟨b,0,none⟩),BK G] w fun e w'=>Vn x0 ni nf I ly e∧Bw w w':=by
 have Y:=A6.new2 w _ rfl G 86;have Z:Bw w (w.alloc (.cells G.toArray 86)):=(nt _ _).alloc (nl _) _;have ap:=h.below Z;have az:=ap.lay;have a1:=ap.cells.2.2.1;rw[ao.xs]at az a1;have bb:(w.alloc (.cells G.toArray 86)).cell? ⟨w.heap.size,10,none⟩=some (.slice na nf.length nc):=by simpa using Y 10 _ a6
 have bd:(w.alloc (.cells G.toArray 86)).cell? ⟨w.heap.size,16,none⟩=some (.bool I):=by simpa using Y 16 _ f16
 have be:(w.alloc (.cells G.toArray 86)).cell? ⟨w.heap.size,20,none⟩=some (.int .i64 ly):=by simpa using Y 20 _ f20
 have O:Ce (w.alloc (.cells G.toArray 86)).drew w.heap.size 10 (.slice na nf.length nc)∧Ce (w.alloc (.cells G.toArray 86)).drew w.heap.size 16 (.bool I)∧Ce (w.alloc (.cells G.toArray 86)).drew w.heap.size 20 (.int .i64 ly)∧Ce (w.alloc (.cells G.toArray 86)).drew b 2 (.slice B.la (ni.length+1) B.lc):=⟨bb,bd,be,a1⟩;obtain⟨J,bf⟩:∃J,Hid (DX (x0::ni) nf=J):=⟨_,rfl⟩;have bk:Hid (Calls prog 24 #[.slice B.la (ni.length+1) B.lc,.slice na nf.length nc] (w.alloc (.cells G.toArray 86)).drew fun e w'=>e=.returned (.bool J)∧Bw (w.alloc (.cells G.toArray 86)).drew w'):=by
  have e:=KE (w:=(w.alloc (.cells G.toArray 86)).drew) (S:=fun _=>false) (xs:=x0::ni) (a:=B.la) (cap:=B.lc) (an:=na) (nj:=nc) (nf:=nf) (fun _ bl=>(by cases bl)) (by rw[C4];exact az) (by rw[C4];exact a7.on (Aj Z.drew)) (ao.sz.ok (by omega)) a8 ba;rw[bf.out]at e;exact e
 have aa:=hid Z.drew;have bg:=BT G;unfold Value.cells at bg;clear Y a6 f16 f20 bb bd be az a1 ap Z h ao a7 a8 ba;go_enter func134,ntmps134;go_upto_region 1 with fail
 clear bg;generalize(w.alloc (.cells G.toArray 86))=bp at*;refine wp_region_held_drew (S:=fun w'=>Ce w' w.heap.size 10 (.slice na nf.length nc)∧Ce w' w.heap.size 16 (.bool I)∧Ce w' w.heap.size 20 (.int .i64 ly)∧Ce w' b 2 (.slice B.la (ni.length+1) B.lc)) (by kernel_rfl) O (fun F=>?_);refine tI 0 dM (.pointer (some ⟨w.heap.size,20,none⟩)) F ?_;simp only[tk];refine tI 1 dJ (.int .i64 ly) F ?_;simp only[tk];by_cases ab:ly=0
 ·refine nS (i:=2) (oi:=U8) (v:=.bool true) rfl (by kernel_rfl) (by kernel_rfl) (by kernel_rfl) (fun _ _ _ h=>h) (Or.inl ⟨by rfl,fun w H=>by obtain⟨Q,R,T,V⟩:=H;first|(go_simp;done)|(go_simp;simp[ab])⟩) F ?_
  simp only[tk];refine tI 3 Va (.bool true) F ?_;simp only[tk];refine tI 4 Vh (.pointer (some ⟨w.heap.size,12,none⟩)) F ?_;simp only[tk];refine tI 5 U3 (.pointer (some ⟨w.heap.size,16,none⟩)) F ?_;simp only[tk];refine tI 6 Vb (.bool I) F ?_;simp only[tk];cases I with
  |true=>
   refine tI 7 O4 (.bool true) F ?_;simp only[tk];refine tO 8 O3 F ?_;simp only[tk];refine tO 9 O1 F ?_;simp only[tk];refine tO 10 OL F ?_;simp only[tk];refine tO 11 OB F ?_;simp only[tk];refine tO 12 OP F ?_;simp only[tk];refine tO 13 Ox F ?_;simp only[tk];refine tO 14 OA F ?_;simp only[tk];refine tO 15 OO F ?_;simp only[tk];refine tO 16 OK F ?_;simp only[tk];refine tI 17 OV (.bool true) F ?_;simp only[tk];refine tI 18 OJ (.bool true) F ?_;simp only[tk];refine tI 19 OR (.bool true) F ?_;simp only[tk];refine rN (by kernel_rfl) ?_ _;go_wp2;go_ret;exact⟨⟨_,rfl,fun _=>⟨ab,.inl rfl⟩⟩,aa.out⟩
  |false=>
   refine tI 7 O4 (.bool false) F ?_;simp only[tk];refine tI 8 O3 (.pointer (some ⟨b,0,none⟩)) F ?_;simp only[tk];refine tI 9 O1 (.pointer (some ⟨b,0,none⟩)) F ?_;simp only[tk];refine tI 10 OL (.pointer (some ⟨b,0,none⟩)) F ?_;simp only[tk];refine tI 11 OB (.pointer (some ⟨b,2,none⟩)) F ?_;simp only[tk];refine tI 12 OP (.slice B.la (ni.length+1) B.lc) F ?_;simp only[tk];refine tI 13 Ox (.pointer (some ⟨w.heap.size,10,none⟩)) F ?_;simp only[tk];refine tI 14 OA (.slice na nf.length nc) F ?_;simp only[tk];refine wpAnyH_ready (rs:=[15]) (by kernel_rfl) (by simp) ?_;refine AllReadyH.cons (o:=OO) rfl (fun K bi=>?_) AllReadyH.nil;rw[nC (by rfl)];go_simp;refine nn bk.out ?_;rintro e ad ⟨rfl,q6⟩;have bn:Ce ad w.heap.size 10 (.slice na nf.length nc)∧Ce ad w.heap.size 16 (.bool false)∧Ce ad w.heap.size 20 (.int .i64 ly)∧Ce ad b 2 (.slice B.la (ni.length+1) B.lc):=⟨Ad q6 O.1,Ad q6 O.2.1,Ad q6 O.2.2.1,Ad q6 O.2.2.2⟩;have bo:=hid (aa.out.trans (q6.mono aa.out.size));clear q6;go_wp2_with fail
   refine bi.out _ _ bn (fun ak=>?_);clear bi K;refine nS (i:=16) (oi:=OK) (v:=.bool (!J)) rfl (by kernel_rfl) (by kernel_rfl) (by kernel_rfl) (fun _ _ _ h=>h) (Or.inl ⟨by rfl,fun w H=>by obtain⟨Q,R,T,V⟩:=H;go_simp⟩) ak ?_;simp only[tk];refine nS (i:=17) (oi:=OV) (v:=.bool (!J)) rfl (by kernel_rfl) (by kernel_rfl) (by kernel_rfl) (fun _ _ _ h=>h) (Or.inl ⟨by rfl,fun w H=>by obtain⟨Q,R,T,V⟩:=H;go_simp⟩) ak ?_;simp only[tk];refine nS (i:=18) (oi:=OJ) (v:=.bool (!J)) rfl (by kernel_rfl) (by kernel_rfl) (by kernel_rfl) (fun _ _ _ h=>h) (Or.inl ⟨by rfl,fun w H=>by obtain⟨Q,R,T,V⟩:=H;go_simp⟩) ak ?_;simp only[tk];refine nS (i:=19) (oi:=OR) (v:=.bool (!J)) rfl (by kernel_rfl) (by kernel_rfl) (by kernel_rfl) (fun _ _ _ h=>h) (Or.inl ⟨by rfl,fun w H=>by obtain⟨Q,R,T,V⟩:=H;go_simp⟩) ak ?_;simp only[tk];refine rN (by kernel_rfl) ?_ _;go_wp2;go_ret;exact⟨⟨_,rfl,fun e=>⟨ab,.inr (by rw[bf.out];simpa using e)⟩⟩,bo.out⟩
 ·refine nS (i:=2) (oi:=U8) (v:=.bool false) rfl (by kernel_rfl) (by kernel_rfl) (by kernel_rfl) (fun _ _ _ h=>h) (Or.inl ⟨by rfl,fun w H=>by obtain⟨Q,R,T,V⟩:=H;first|(go_simp;done)|(go_simp;simp[ab])⟩) F ?_
  simp only[tk];refine tI 3 Va (.bool false) F ?_;simp only[tk];refine tO 4 Vh F ?_;simp only[tk];refine tO 5 U3 F ?_;simp only[tk];refine tO 6 Vb F ?_;simp only[tk];refine tO 7 O4 F ?_;simp only[tk];refine tO 8 O3 F ?_;simp only[tk];refine tO 9 O1 F ?_;simp only[tk];refine tO 10 OL F ?_;simp only[tk];refine tO 11 OB F ?_;simp only[tk];refine tO 12 OP F ?_;simp only[tk];refine tO 13 Ox F ?_;simp only[tk];refine tO 14 OA F ?_;simp only[tk];refine tO 15 OO F ?_;simp only[tk];refine tO 16 OK F ?_;simp only[tk];refine tO 17 OV F ?_;simp only[tk];refine tI 18 OJ (.bool false) F ?_;simp only[tk];refine tI 19 OR (.bool false) F ?_;simp only[tk];refine rN (by kernel_rfl) ?_ _;go_wp2;go_ret;exact⟨⟨_,rfl,fun e=>by cases e⟩,aa.out⟩
end Go.Proofs.YtgppjbhaimmlpaaGreatDoor
namespace Go.Proofs.YtgppjbhaimmlpaaGreatDoor
open Go.RowKit Go.Shelf Go.Proofs.Tryz
theorem Tryz.infoStr:(prog.info? 9).map (fun i=>(i.zero,i.size,i.bytes))=some (some (.string ⟨#[]⟩),1,16):=by kernel_rfl
def Cp(l:List BA):List Value:=l.map .string
theorem JV(l:List BA):∀u∈Cp l,u.oneCell'=true:=fun u F=>by
 obtain⟨s,_,rfl⟩:=rx.1 F;rfl
theorem ZH(l:List BA):(Cp l).length=l.length:=rk _
theorem Xm{w:World}{base:Nat}{S:Nat→Bool}(F:∀k,S k=true→k<base){v:Value}{l:List BA}(h:w.ownsRow base 9 1 v l.length (Cp l)):∃a cap,v=.slice a l.length cap∧l.length≤cap∧cap≤9223372036854775807∧A0 (Ag w.cell? S) a l:=by
 obtain⟨a,cap,G,H,I,J⟩:=Ei h;refine⟨a,cap,G,H,I,?_⟩;rcases J with⟨_,O,_⟩|⟨g,Q,hb,_,R,_⟩
 ·exact .inl (nW O)
 ·refine .inr ⟨g,0,Q,fun i s T=>?_⟩
  rw[Co,nT]
  ·refine R i _ ?_
   unfold Cp;rw[n4,T];rfl
  ·show S g=false
   cases hh:S g with
   |false=>rfl
   |true=>have:=F g hh;omega
theorem MV{w:World}{S:Nat→Bool}(az:∀k,S k=true→k<w.heap.size){a:Option Addr}{cap:Nat}{xs:List Nd}{an:Option Addr}{nj:Nat}{nf:List BA}(hx:Ch (Ag w.cell? S) a xs)(Q:A0 (Ag w.cell? S) an nf)(ab:EW xs)(bH:nf.length≤1000):
 Calls prog 34 #[.slice a xs.length cap,.slice an nf.length nj] w fun e w'=>(∃ad a1,e=.returned (.slice ad (DF (AP xs nf)).length a1)∧(DF (AP xs nf)).length≤a1∧a1≤9223372036854775807∧A0 (Ag w'.cell? S) ad (DF (AP xs nf)))∧Below w.heap.size w w':=by
 have a6:Hid _:=SQ (cap:=cap) (nj:=nj) az hx Q ab.len bH ab.small;have V:Hid _:=ab.stack nf;have bl:Hid _:=az;clear hx Q ab az;generalize AP xs nf=F at a6 V⊢;obtain⟨bY,bn,bo,bp,bs⟩:=Eb Tryz.infoStr;have b0:Hid _:=bn;have b1:Hid _:=bo;have b2:Hid _:=bp;have b3:Hid _:=bs;clear bn bo bp bs;go_enter func34,ntmps34;go_wp2_with fail
 refine nn a6.out ?_;rintro e ak ⟨v,rfl,b4,ao⟩;obtain⟨b5,vc,D,rfl,g1,b6,g3,g4,I⟩:=b4;have bu:Hid (cL 68 #[.slice b5 D.length vc] ak fun e w'=>∃v,e=.returned v∧O9 (Ag w'.cell? S) v ((DF F).map fun nm=>(nm,Cv F nm))∧Below ak.heap.size ak w'):=by
  have e:=WW (w:=ak) (S:=S) (vc:=vc) (D:=D) (fun k a7=>nG (bl.out k a7) ao.size) g3 g4 (by
   cases D with
   |nil=>intro i j a b b7;simp at b7
   |cons s D=>exact cY I (V.out (by rw[←I];simp)).ly) (fun s Q=>(V.out (by rw[←I];intro e;rw[List.map_eq_nil_iff]at e;rw[e]at Q;cases Q)).lil s.pr (by rw[←I];exact rW Q)) (by
   rw[I];by_cases Y:F=[]
   ·rw[Y];exact nM _
   ·exact(V.out Y).tot)
  rw[I]at e;exact e
 have b9:Hid ((DF F).length≤1000):=by
  show _≤_;have H:=XK F;by_cases Y:F=[]
  ·rw[Y];exact nM _
  ·have:=(V.out Y).tot;omega
 clear a6 g1 b6 g3 g4 I;go_wp2_with fail
 refine nn bu.out ?_;rintro e J ⟨v5,rfl,cb,bv⟩;obtain⟨cf,db,G,rfl,cg,dd,bx,ch,bA⟩:=cb;have a8:Hid (G.map (·.n)=DF F):=by
  show _=_;have H:=nV (List.map Prod.fst) bA;rw[r4,r4]at H;have ba:(DF F).map (Prod.fst∘fun nm=>(nm,Cv F nm))=DF F:=by
   have:(Prod.fst∘fun nm:BA=>(nm,Cv F nm))=id:=rfl;rw[this,List.map_id]
  rw[ba]at H;rw[←H];unfold Ck;rw[r4];rfl
 have bB:G.length=(DF F).length:=by rw[←a8.out,rk]
 have cl:Hid _:=bx;have bb:=ao.trans (bv.mono ao.size);obtain⟨O,Z⟩:=A3 G.length;have de:O≤1000:=by have:=b9.out;rw[←bB,Z.out]at this;exact this
 rw[Z.out]at cg⊢;clear bu bx ch bA ao bv bB;go_wp2;go_loopw [5,13] (fun v i wr=>∃j:Nat,j≤O∧i=iN j∧Hid (wr.ownsRow J.heap.size 9 1 v j (Cp ((G.map (·.n)).take j)))∧Hid (Below J.heap.size J wr)) (fun _ i _=>O-(intOf i).toNat)
 case atStart=>exact⟨0,nM _,rfl,rB _ _ _ _,nt _ _⟩
 case round=>
  obtain⟨j,dg,rfl,bd,R⟩:=hrel;by_cases co:j<O
  ·have cp:decide ((j:Int)<(O:Int))=true:=nE (by omega)
   have dj:(j:Int)<(O:Int):=by omega
   obtain⟨e,aa⟩:∃e,G[j]? =some e:=⟨_,np (by rw[Z.out];exact co)⟩;obtain⟨dk,cq,bC⟩:∃b,cf=some (aD b 0)∧∀(i:Nat) e,G[i]? =some e→Ag J.cell? S (aD b (i*2))=some (.string e.n)∧Ag J.cell? S (aD b (i*2+1))=some (.slice e.a e.L.length e.c):=by
    rcases cl.out with q|q
    ·rw[q]at aa;simp at aa
    ·exact q
   subst cq;obtain⟨x0,be⟩:=bC j e aa;have x0:=Aj R.out _ _ (Ci _ _ _ _ x0);have be:=Aj R.out _ _ (Ci _ _ _ _ be);have cr:Hid (Cp ((G.map (·.n)).take (j+1))=Cp ((G.map (·.n)).take j)++Cp [e.n]):=by
    show _=_;rw[rv,n4,aa];unfold Cp;rw[rA];rfl
   obtain⟨bf,bg⟩:=GA wr (.string e.n) (.slice e.a e.L.length e.c) 128;have bi:=(nt _ wr).alloc (nl _) (.cells #[.string e.n,.slice e.a e.L.length e.c] 128);have ap:Hid _:=GR bd.out bi;have T:Hid _:=R.out.trans (bi.mono R.out.size);clear aa bC bd R bi;go_upto_region 5 with fail
   generalize wr.alloc (.cells #[.string e.n,.slice e.a e.L.length e.c] 128)=bk at bf bg ap T⊢;generalize wr.heap.size=dm at bf bg⊢;clear x0 be;go_wp2_with (at_builtin;refine Ea (bk.alloc (.cells #[.string e.n] 9)) rfl (.tmp 17) (.tmp 20) 40 rfl J.heap.size 9 bY (.string ⟨#[]⟩) 1 16 underlying40 b0.out b1.out b2.out b3.out rfl (by decide) u5 j (Cp ((G.map (·.n)).take j)) rfl (World.ownsRow.alloc ap.out _) (some (aD bk.heap.size 0)) 1 1 (Cp [e.n]) rfl rfl (.inr ⟨_,rfl,fun q t cu=>by rw[DV,nT];refine aC.trans ?_;simpa [Cp]using cu⟩) (JV _) (by unfold maxLen;omega) (by omega) (by have:=(Below.size T.out);rw[nv];omega) ?_)
   intro cx cA bF bG cB;have c3:Hid (cA.ownsRow J.heap.size 9 1 cx (j+1) (Cp ((G.map (·.n)).take (j+1)))):=by
    show World.ownsRow ..;rw[cr.out];exact bF
   have c4:=hid ((Below.trans T.out (((nt _ bk).alloc (Below.size T.out) _))).grown bG (by have:=(Below.size T.out);rw[nv];omega) (fun g e=>((World.ownsRow.lt ap.out) g e).1));clear bF bG cB ap T bf bg;go_wp2;go_roundw
   case rel=>exact⟨j+1,by omega,by go_num,c3.out,c4.out⟩
   case measure=>(simp[intOf];try omega)
  ·obtain rfl:j=O:=by omega
   have cp:=nA (by omega);go_wp2;go_ret;have H:=bd.out;rw[n1 (by rw[rk,Z.out];omega),a8.out]at H;have c5:(DF F).length=j:=by rw[←a8.out,rk,Z.out]
   rw[←c5]at H;obtain⟨ad,c6,c8,ba,c9,da⟩:=Xm (S:=S) (fun k a7=>nG (bl.out k a7) bb.size) H;exact⟨⟨ad,c6,by rw[c8];rfl,ba,c9,da⟩,bb.trans (R.out.mono bb.size)⟩
end Go.Proofs.YtgppjbhaimmlpaaGreatDoor
namespace Go.Proofs.YtgppjbhaimmlpaaGreatDoor
open Go.RowKit Go.Proofs.Tryz
theorem KF{P:Program}{F:Array Oper}{ni:List Oper}{o:Oper}{a:Act}{w:World}{G:Exit→Act→World→Prop}(H:o.guard=none)(x:Operand)(I:o.op=.move x)(h:wpList P F G ni (a.put o.dst (a.eval x)) w):wpList P F G (o::ni) a w:=
 wpList_plain H fun _ J=>by
  unfold Oper.wp execOp;simp only[I,Sem.run_pure];exact J _ _ h
theorem VK{H w:World}{M:CE}{x0:Nd}{ni:List Nd}(I:Cs M.us M.gs ni 60 x0)(F:Fo 60 x0 ni){an:Option Addr}{nj:Nat}{nf:List BA}(G:A0 H.cell? an nf)(J:∀s∈nf,AQ s=true)(O:nf≠[])(a1:nf.length≤100)(V:nf.length≤nj∧nj≤9223372036854775807)
 {Q:Nat} (Y:Ce w Q 10 (.slice an nf.length nj)):
 Kg H w M x0 ni (.func (.func 81) #[] #[.pointer (some ⟨Q,0,none⟩)]):=by
 refine⟨_,_,rfl,fun args w=>by kernel_rfl,fun W R Z lc aa a6 a7 ab=>?_⟩;have c0:=Ad aa Y
 have ad:Hid (Calls prog 82 #[.pointer (some ⟨R,0,none⟩),.slice an nf.length nj] W fun e w'=>e=.returned (Am (Et M.us M.gs x0 ni nf).1)∧Bd H w' R Z lc M (Et M.us M.gs x0 ni nf).2 ni∧Au Z W w'):=PD ab F G O (by omega) V (fun T=>by
  have e:=I.up (nf:=nf.dropLast) (fun s G=>J s (List.dropLast_subset _ G)) (fun x hx=>(F.low x hx).1) T;rw[r7]at e;exact⟨e.lil,e.ids,by have:=e.cnt;omega,F.low,F.len⟩)
 have ao:Hid ((Et M.us M.gs x0 ni nf).1=0→Cs M.us M.gs ni 400 (Et M.us M.gs x0 ni nf).2):=fun T=>by
  have e:=I.remove O J (fun x hx=>(F.low x hx).1) T;exact⟨e.own,e.lil,e.ids,by have:=e.cnt;omega⟩
 generalize Et M.us M.gs x0 ni nf=P at*;clear I F G J O V Y ab aa;show Calls prog 81 #[.pointer (some ⟨R,0,none⟩),.pointer (some ⟨Q,0,none⟩)] W _;go_enter func81,ntmps81;go_wp2_with fail
 refine nn ad.out ?_;rintro e a8 ⟨rfl,ak,ap⟩;have az:=hid ak;clear ad ak ap;go_wp2;go_ret;exact⟨P.1,P.2,rfl,az.out,ao.out⟩
theorem VN{w:World}{b:Nat}{B:Bx}{x0:Nd}{ni:List Nd}(h:A5 w b B)(ak:BS B x0 ni){G H I:Int}{F J O Q:BA}(bC:Int)(bF:w.cell? ⟨0,0,none⟩=some (.int .i64 bC)):
 Calls prog 40 #[.pointer (some ⟨b,0,none⟩),.agg #[.int .i64 G,.string F,.string J,.string O,.string Q,.int .i64 H,.int .i64 I]] w fun e w'=>(∃E,e=.returned (Am E))∧BI w w' b B ni:=by
 have ao:Bw w (w.alloc (Ax G F J O Q H I)):=(nt _ _).alloc (nl _) _;have ap:=hid ao;have bG:Ce (w.alloc (Ax G F J O Q H I)) w.heap.size 1 (.string F):=nk _ _ _ _ rfl;have bH:Hid (Calls prog 33 #[.pointer (some ⟨b,0,none⟩),.string F] (w.alloc (Ax G F J O Q H I)) fun e w'=>CC B w' F true e∧Bw (w.alloc (Ax G F J O Q H I)) w'):=by
  refine nn (Jt (h.below ao) ak.good F (C7 _).1 (C7 _).2 bC (Ad ao bF)) ?_;rintro e w' ⟨cq,cr⟩;exact⟨IF ak.good cq,cr⟩
 have az:=hid h;have R:=hid ak;have a1:Hid (∀w',Bw w w'→BI w w' b B ni):=fun w' hb=>⟨Au.of_below hb,B,x0,az.out.below hb,R.out,rfl,rfl⟩;have bY:Hid (∀Y,Calls prog 78 #[.string F] Y fun e w'=>(∃r,e=.returned (.bool r)∧(r=false→F.data.toList≠[47]))∧Y=w'):=fun Y=>P4 Y F
 clear h ak ao bF;go_enter func40,ntmps40;go_wp2_with fail
 refine nn (bY.out _) ?_;rintro e dy ⟨⟨r,rfl,bd⟩,rfl⟩;cases r with
 |false=>
  have cu:=hid (bd rfl);clear bd;go_wp2_with fail
  generalize(w.alloc (Ax G F J O Q H I))=Y at*;refine nn bH.out ?_;rintro e Z ⟨cx,q2⟩;clear bH bY;obtain⟨cs,E,rfl,be,b0,b1⟩:=cx;obtain⟨cA,cB,bf,b2,c3⟩:=FV Z cs be b0;have b3:=BT cs;unfold Value.cells at b3;have c4:=hid be;have c5:=hid (q2.trans (b2.out.mono q2.size));have a6:=hid (ap.out.trans (c5.out.mono ap.out.size));have b4:Hid _:=b1;have dz:=hid (nO ap.out.size q2.size);clear b0 b1 be;by_cases b5:E=0
  ·subst b5
   obtain⟨f,bg,b6,bi,bk,bl,bn,b7⟩:=b4.out rfl;clear b4;have T:=Fu b6;rw[←bi]at T;have c6:=bn.dir;have bo:=hid (Nw (az.out.below a6.out) cs f.t f.dir (by rw[bg];obtain⟨t,dir,na,nc,nf,c8,⟨c9,da,db,dd,de,dg,dj,xs⟩,dk,ly⟩:=f;rfl) c6.1);generalize B.takE f.t f.dir=bp at bo;obtain⟨t,dir,na,nc,nf,c8,⟨c9,da,db,dd,de,dg,dj,xs⟩,dk,ly⟩:=f;dsimp only at bi bk bl bn b7 T;have b9:Ce cA Z.heap.size 10 (.slice na nf.length nc):=bf.out 10 _ (by rw[bg];rfl);have cb:=hid (bk.on (Aj b2.out));have a7:Hid ((∀s∈nf,AQ s=true)∧nf.length≤6∧nf≠[]):=⟨T.1,T.2.1,T.2.2 cu.out⟩;have dm:=hid bl;rw[show Am 0=Value.nilIface from rfl];clear bg b6 bi bk bl bn b7 T bG c3;go_upto_region 6 with fail
   refine rU ?_;refine KF rfl _ rfl ?_;simp only[tk];refine wpList_load_mid rfl _ _ rfl _ _ rfl cs _ bf.out rfl rfl (by rw[c4.out];rfl) ?_;simp only[tk];go_wp2_with fail
   refine nn bo.out ?_;rintro e V ⟨rfl,a8⟩;have bs:=hid (a6.out.trans (a8.mono a6.out.size));have bu:=Ad a8 b9;have cf:=hid (cb.out.on (Aj a8));clear bo bf cb a8 b9 cB b3;by_cases cg:bp=0
   ·subst cg
    rw[show Am 0=Value.nilIface from rfl];have bv:=az.out.below bs.out;have bx:=bv.lay;have bA:=bv.cells.2.2.1;rw[R.out.xs]at bx bA;have aa:Ce V.drew b 2 (.slice B.la (ni.length+1) B.lc)∧Ce V.drew Z.heap.size 10 (.slice na nf.length nc):=⟨bA,bu⟩;have ch:Hid (Calls prog 34 #[.slice B.la (ni.length+1) B.lc,.slice na nf.length nc] V.drew fun e w'=>(∃a n cap,e=.returned (.slice a n cap))∧Bw V.drew w'):=by
     refine nn (MV (w:=V.drew) (S:=fun _=>false) (xs:=x0::ni) (a:=B.la) (cap:=B.lc) (an:=na) (nj:=nc) (nf:=nf) (fun _ dn=>(by cases dn)) (by rw[C4];exact bx) (by rw[C4];exact cf.out) (R.out.sz.ok (by omega)) (by have:=a7.out.2.1;omega)) ?_;rintro e w' ⟨⟨dp,c1,dr,_⟩,ds⟩;exact⟨⟨dp,_,c1,dr⟩,ds⟩
    have cl:=hid bs.out.drew;clear bx bA bv;go_upto_region 9 with fail
    go_region_held3 (fun w'=>Ce w' b 2 (.slice B.la (ni.length+1) B.lc)∧Ce w' Z.heap.size 10 (.slice na nf.length nc)) (first|with_reducible exact aa|with_reducible exact ba) (first|(go_at_call 34;(with_reducible refine nn ch.out ?_);rintro e bb ⟨⟨la,du,d0,rfl⟩,ab⟩;have ba:Ce bb b 2 (.slice B.la (ni.length+1) B.lc)∧Ce bb Z.heap.size 10 (.slice na nf.length nc):=⟨Ad ab aa.1,Ad ab aa.2⟩;have bB:Hid (Bw w bb):=cl.out.trans (ab.mono cl.out.size);have dw:Hid (Bw V bb):=(nt _ _).drew.trans ab;clear ch ab))
    all_goals
     cases du with
     |succ n=>
      clear aa ba bu;go_wp2;go_ret;exact⟨⟨8,rfl⟩,a1.out _ bB.out⟩
     |zero=>
      have co:=hid (I8 (az.out.below bB.out) (nt _ _) R.out (VK R.out.fine R.out.sz (cf.out.on (Aj dw.out)) a7.out.1 a7.out.2.2 (by have:=a7.out.2.1;omega) dm.out ba.2));clear aa ba bu;go_wp2_with fail
      refine nn co.out ?_;rintro e d1 ⟨⟨E,rfl⟩,cp⟩;have dx:=hid (cp.up bB.out);clear cp co;go_wp2;go_ret;exact⟨⟨E,rfl⟩,dx.out⟩
   ·have ad:=AH (n:=bp) rfl cg
    rw[ad];go_wp2;go_ret;exact⟨⟨bp,by rw[ad];rfl⟩,a1.out _ bs.out⟩
  ·have ad:=AH (n:=E) rfl b5
   rw[ad];clear bG;go_wp2;go_ret;exact⟨⟨E,by rw[ad];rfl⟩,a1.out _ a6.out⟩
 |true=>
  clear bd;go_wp2;go_ret;exact⟨⟨15,rfl⟩,a1.out _ ap.out⟩
abbrev dD:Oper:={dst:=some 40,op:=Op.fieldAddr 86 (Operand.tmp 1) 0,type:=0,pos:= "move.go:32",after:=#[],guard:=none}
abbrev dO:Oper:={dst:=some 41,op:=Op.fieldAddr 84 (Operand.tmp 40) 0,type:=0,pos:= "move.go:32",after:=#[{on:=0,ground:=Ground.data}],guard:=none}
abbrev U2:Oper:={dst:=some 42,op:=Op.load 4 (Operand.tmp 41),type:=4,pos:= "move.go:32",after:=#[{on:=1,ground:=Ground.data}],guard:=none}
abbrev Ve:Oper:={dst:=some 43,op:=Op.move (Operand.tmp 42),type:=4,pos:= "move.go:32",after:=#[{on:=2,ground:=Ground.data}],guard:=none}
abbrev U4:Oper:={dst:=some 44,op:=Op.move (Operand.tmp 0),type:=94,pos:= "move.go:32",after:=#[{on:=3,ground:=Ground.guard}],guard:=some (3,true)}
abbrev Vf:Oper:={dst:=some 45,op:=Op.nilCheck (Operand.tmp 44),type:=0,pos:= "move.go:32",after:=#[{on:=4,ground:=Ground.data},{on:=3,ground:=Ground.guard}],guard:=some (3,true)}
abbrev Vk:Oper:={dst:=some 46,op:=Op.fieldAddr 64 (Operand.tmp 45) 1,type:=0,pos:= "move.go:32",after:=#[{on:=5,ground:=Ground.data},{on:=3,ground:=Ground.guard}],guard:=some (3,true)}
abbrev Vi:Oper:={dst:=some 47,op:=Op.load 30 (Operand.tmp 46),type:=30,pos:= "move.go:32",after:=#[{on:=6,ground:=Ground.data},{on:=3,ground:=Ground.guard}],guard:=some (3,true)}
abbrev Vd:Oper:={dst:=some 48,op:=Op.fieldAddr 86 (Operand.tmp 2) 2,type:=0,pos:= "move.go:32",after:=#[{on:=3,ground:=Ground.guard}],guard:=some (3,true)}
abbrev Vl:Oper:={dst:=some 49,op:=Op.load 40 (Operand.tmp 48),type:=40,pos:= "move.go:32",after:=#[{on:=8,ground:=Ground.data},{on:=3,ground:=Ground.guard}],guard:=some (3,true)}
abbrev UW:Oper:={dst:=some 50,op:=Op.call {callee:=Callee.value (Operand.func 24),args:=#[Operand.tmp 47,Operand.tmp 49],argTypes:=#[30,40]},type:=4,pos:= "move.go:32",after:=#[{on:=7,ground:=Ground.data},{on:=9,ground:=Ground.data},{on:=3,ground:=Ground.chain},{on:=3,ground:=Ground.guard}],guard:=some (3,true)}
abbrev UU:Oper:={dst:=some 51,op:=Op.pick (Operand.tmp 43) (Operand.tmp 50) (Operand.const (Value.bool false)),type:=4,pos:= "move.go:32",after:=#[{on:=3,ground:=Ground.data},{on:=10,ground:=Ground.data}],guard:=none}
abbrev UX:Oper:={dst:=some 52,op:=Op.fieldAddr 50 (Operand.tmp 7) 4,type:=0,pos:= "move.go:32",after:=#[{on:=0,ground:=Ground.phase},{on:=1,ground:=Ground.phase},{on:=2,ground:=Ground.phase},{on:=3,ground:=Ground.phase},{on:=4,ground:=Ground.phase},{on:=5,ground:=Ground.phase},{on:=6,ground:=Ground.phase},{on:=7,ground:=Ground.phase},{on:=8,ground:=Ground.phase},{on:=9,ground:=Ground.phase},{on:=10,ground:=Ground.phase},{on:=11,ground:=Ground.phase}],guard:=none}
abbrev UQ:Oper:={dst:=none,op:=Op.store 4 (Operand.tmp 52) (Operand.tmp 51),type:=0,pos:= "move.go:32",after:=#[{on:=12,ground:=Ground.data},{on:=11,ground:=Ground.data},{on:=10,ground:=Ground.chain},{on:=0,ground:=Ground.phase},{on:=1,ground:=Ground.phase},{on:=2,ground:=Ground.phase},{on:=3,ground:=Ground.phase},{on:=4,ground:=Ground.phase},{on:=5,ground:=Ground.phase},{on:=6,ground:=Ground.phase},{on:=7,ground:=Ground.phase},{on:=8,ground:=Ground.phase},{on:=9,ground:=Ground.phase},{on:=10,ground:=Ground.phase},{on:=11,ground:=Ground.phase}],guard:=none}
theorem cW{us gs:List Rg}{ni:List Nd}{n:Nat}{F:Nd}(h:Cs us gs ni n F)(nf:List BA)(H:1≤n):AB ((AV nf F).getD zN)∧AM ((AV nf F).getD zN)∧cnt ((AV nf F).getD zN)≤n:=by
 cases hq:AV nf F with
 |none=>exact⟨by show AB zN;unfold zN;rw[AB,Bt];exact⟨⟨by decide,fun r G=>by cases G⟩,by decide,trivial⟩,by show AM zN;unfold zN;rw[AM,Bu];exact⟨by unfold AZ;omega,by unfold AZ;omega,trivial⟩,by show cnt zN≤_;have:cnt zN=1:=rfl;omega⟩
 |some y=>
  obtain⟨a,b,c⟩:=MZ hq h.lil h.ids;exact⟨a,b,by have:=h.cnt;show cnt y≤_;omega⟩
theorem Yj{bd w:World}{M:CE}{x0:Nd}{ni:List Nd}(cb:Bw bd w)(ee:Cs M.us M.gs ni 60 x0)(d0:Fo 60 x0 ni)(e7:∀x∈x0::ni,VV x){an:Option Addr}{nj:Nat}{nf:List BA}(bs:A0 bd.cell? an nf)(d1:∀s∈nf,AQ s=true)(bY:nf≠[])(e8:nf.length≤6)(ef:nf.length≤nj∧nj≤9223372036854775807)
 {az:Option Addr} {aa:Nat} {F:List BA} (e9:A0 bd.cell? az F) (d2:∀s∈F,AQ s=true) (eg:F≠[]) (fa:F.length≤6) (d3:F.length≤aa∧aa≤9223372036854775807)
 {G ab:Nat} {dir:Bool} (ej:Ce w G 0 (.bool dir)) (fb:Ce w G 10 (.slice an nf.length nj)) (ek:Ce w ab 10 (.slice az F.length aa))
 (fc:¬nf<+:F) {q:Nd×Nat} {r:AU} (fd:AP (x0::ni) nf=q::r) (fe:q.1.kind=2→q.2=0∧(q.1.opq=true∨DX (x0::ni) nf=false)):
 Kg bd w M x0 ni (.func (.func 86) #[] #[.pointer (some ⟨G,0,none⟩),.pointer (some ⟨ab,0,none⟩)]):=by
 refine⟨_,_,rfl,fun args w=>by kernel_rfl,fun W T ak lc cq gy el ff=>?_⟩;have a0:=Ad cq ej;have fg:=Ad cq fb;have a2:=Ad cq ek;have cr:G<w.heap.size:=ny _ _ ej;have em:ab<w.heap.size:=ny _ _ ek;obtain⟨dl,fh⟩:∃dl,Hid (F.dropLast.length=dl):=⟨_,rfl⟩;have fT:F.dropLast.length≤F.length:=by rw[r7];omega
 have fi:∀s∈F.dropLast,AQ s=true:=fun s bs=>d2 s (List.dropLast_subset _ bs);have d4:∀x∈ni,AB x:=fun x hx=>(d0.low x hx).1
 have fj:Hid (∀a8,Calls prog 88 #[.slice az F.length aa] a8 fun e w'=>e=.returned (.slice az dl aa)∧Bw a8 w'):=fun a8=>by
  have e:=MH a8 az aa F eg d3;rw[fh.out]at e;exact e
 have b0:=hid (J7 ff d0 (by omega) bs (by omega) ef);have cu:Hid ((Bo M.us M.gs x0 ni nf).1=0→Cs M.us M.gs ni 66 (Bo M.us M.gs x0 ni nf).2):=fun ao=>by
  have e:=ee.up d1 d4 ao;exact⟨e.own,e.lil,e.ids,by have:=e.cnt;omega⟩
 have cf:Hid (∀ba bv,(Bo M.us M.gs x0 ni nf).1=0→(Bo M.us M.gs x0 ni nf).2=ba→(Bo M.us M.gs ba ni F.dropLast).1=0→(Bo M.us M.gs ba ni F.dropLast).2=bv→∀(k m u g:Int) (o:Bool) (nh:List Kv) (d:BA) (ks:At),(AV nf bv).getD zN=.mk k m u g o nh d ks→k≠3∧∀en eo,Ct M.us M.gs (.mk k m u g en nh d ks) eo):=fun ba bv ep eq er fU k m u g o nh d ks fV=>Xy d1 d2 d4 ee e7 ep eq er fU fc bY fd fe fV;have cg:=hid d0
 have es:=hid d4;have fl:=hid bs;have eu:=hid e9;have ev:Hid ((∀s∈nf,AQ s=true)∧nf≠[]∧nf.length≤6):=⟨d1,bY,e8⟩;have d5:Hid ((∀s∈F,AQ s=true)∧F≠[]∧F.length≤6∧(∀s∈F.dropLast,AQ s=true)∧F.dropLast.length≤6):=⟨d2,eg,fa,fi,by omega⟩;have fW:=hid cb.size;have fX:=hid ef;have eB:Hid (F.length≤aa∧aa≤9223372036854775807∧F.dropLast.length≤aa):=⟨d3.1,d3.2,by omega⟩;have eE:=hid cq;generalize Bo M.us M.gs x0 ni nf=P at*;obtain⟨E,ba⟩:=P;dsimp only at b0 cu cf;clear ee d0 bs e9 ef d3 ff ej fb ek d1 d2 fi cq fT e8 fa bY eg e7 fc fd fe d4 cb q r;show Calls prog 86 #[.pointer (some ⟨T,0,none⟩),.pointer (some ⟨G,0,none⟩),.pointer (some ⟨ab,0,none⟩)] W _;go_enter func86,ntmps86;go_wp2_with fail
 refine nn b0.out ?_;rintro e fY ⟨rfl,d6,fm⟩;have a1:=fm.below (B:=w.heap.size) el eE.out.size;have c0:=(a1.cell (p:=⟨G,0,none⟩) cr).trans a0;have c1:=(a1.cell (p:=⟨G,10,none⟩) cr).trans fg;have c2:=(a1.cell (p:=⟨ab,10,none⟩) em).trans a2;have eF:=hid (eE.out.trans a1);have eG:=hid d6;clear b0 fm eE a1 a0 fg a2 d6;by_cases ao:E=0
 case neg=>
  have bx:=AH (n:=E) rfl ao;rw[bx];go_wp2;go_ret;exact⟨E,ba,by rw[bx];rfl,eG.out,fun e=>absurd e ao⟩
 case pos=>
  subst ao;have fo:=cu.out (by first|rfl|trivial);have fp:=hid fo;have cf:Hid (∀bv,(Bo M.us M.gs ba ni F.dropLast).1=0→(Bo M.us M.gs ba ni F.dropLast).2=bv→∀(k m u g:Int) (o:Bool) (nh:List Kv) (d:BA) (ks:At),(AV nf bv).getD zN=.mk k m u g o nh d ks→k≠3∧∀en eo,Ct M.us M.gs (.mk k m u g en nh d ks) eo):=fun bv=>cf.out ba bv (by first|rfl|trivial) rfl;have b0:Hid (∀a8,Bw fY a8→Calls prog 87 #[.pointer (some ⟨T,0,none⟩),.slice az dl aa] a8 fun e w'=>e=.returned (Am (Bo M.us M.gs ba ni F.dropLast).1)∧Bd bd w' T ak lc M (Bo M.us M.gs ba ni F.dropLast).2 ni∧Au ak a8 w'):=fun a8 hb=>by
   have cx:=d5.out;have bA:=eB.out;have e:=J7 (eG.out.below hb) (fp.out.sz cg.out) (by omega) (QG eu.out cx.2.1) (nj:=aa) (by omega) ⟨bA.2.2,bA.2.1⟩;rw[fh.out]at e;exact e
  have cu:Hid ((Bo M.us M.gs ba ni F.dropLast).1=0→Cs M.us M.gs ni 72 (Bo M.us M.gs ba ni F.dropLast).2):=fun ao=>by
   have cx:=d5.out;have e:=fp.out.up cx.2.2.2.1 es.out ao;exact⟨e.own,e.lil,e.ids,by have:=e.cnt;omega⟩
  generalize Bo M.us M.gs ba ni F.dropLast=P at*;obtain⟨E,V⟩:=P;dsimp only at b0 cu cf;rw[show Am 0=Value.nilIface from rfl];clear fo;go_wp2_with fail
  refine nn (fj.out _) ?_;rintro e eH ⟨rfl,b1⟩;have ch:Hid (Calls prog 87 #[.pointer (some ⟨T,0,none⟩),.slice az dl aa] eH fun e w'=>e=.returned (Am E)∧Bd bd w' T ak lc M V ni∧Au ak eH w'):=b0.out eH b1;clear fj b0;go_wp2_with fail
  refine nn ch.out ?_;rintro e I ⟨rfl,d7,fq⟩;have eI:=eF.out.trans (b1.mono eF.out.size);have a1:=fq.below (B:=w.heap.size) el eI.size;have eJ:=hid (eI.trans a1);have fs:=(a1.cell (p:=⟨G,0,none⟩) cr).trans (Ad b1 c0);have bl:=(a1.cell (p:=⟨G,10,none⟩) cr).trans (Ad b1 c1);have eK:=(a1.cell (p:=⟨ab,10,none⟩) em).trans (Ad b1 c2);have cA:=hid d7;clear ch fq b1 eI a1 c0 c1 c2 eF eG;by_cases ao:E=0
  case neg=>
   have bx:=AH (n:=E) rfl ao;rw[bx];clear d7;go_wp2;go_ret;exact⟨E,V,by rw[bx];rfl,cA.out,fun e=>absurd e ao⟩
  case pos=>
   subst ao;have cB:=cu.out (by first|rfl|trivial);have ft:Hid (∀w',Bw I w'→Calls prog 22 #[.pointer (some ⟨T,0,none⟩)] w' fun e eL=>(∃h',e=.returned (Ao V h')∧Ah eL.cell? V h')∧Bw w' eL):=fun w' hb=>by
    have fu:=cA.out.below hb;refine nn (Gy fu.c2 fu.lay) ?_;rintro e eL ⟨⟨h',ep,_,eq⟩,er⟩;exact⟨⟨h',ep,eq⟩,er⟩
   have fZ:=hid (fl.out.on (Aj d7.base));obtain⟨cl,eM⟩:∃cl,Hid ((AV nf V).getD zN=cl):=⟨_,rfl⟩;have fv:Hid (AB cl∧AM cl∧cnt cl≤72):=by
    show _∧_;rw[←eM.out];exact cW cB nf (by omega)
   have fw:Hid (cnt V≤800∧A7 V):=by
    have:=cB.cnt;exact⟨by omega,GB V (by omega) cB.lil⟩
   have eN:=hid cB;have f0:Hid (nf.length≤1000):=by have:=ev.out.2.2;show _≤_;omega
   have fx:Hid (∀a8,Bd bd a8 T ak lc M V ni→Calls prog 82 #[.pointer (some ⟨T,0,none⟩),.slice an nf.length nj] a8 fun e w'=>e=.returned (Am (Et M.us M.gs V ni nf).1)∧Bd bd w' T ak lc M (Et M.us M.gs V ni nf).2 ni∧Au ak a8 w'):=fun a8 eO=>by
    have c3:=ev.out;refine PD eO (eN.out.sz cg.out) fl.out c3.2.1 (by omega) fX.out (fun ao=>?_);have e:=eN.out.up (nf:=nf.dropLast) (fun s bs=>c3.1 s (List.dropLast_subset _ bs)) es.out ao;rw[r7]at e;exact⟨e.lil,e.ids,by have:=e.cnt;omega,cg.out.low,cg.out.len⟩
   have eP:Hid ((Et M.us M.gs V ni nf).1=0→Cs M.us M.gs ni 79 (Et M.us M.gs V ni nf).2):=fun ao=>by
    have c3:=ev.out;have e:=eN.out.remove c3.2.1 c3.1 es.out ao;exact⟨e.own,e.lil,e.ids,by have:=e.cnt;omega⟩
   rw[show Am 0=Value.nilIface from rfl];clear d7 cB;obtain⟨d8,f1⟩:∃b,Hid ((AV nf V).isSome=b):=⟨_,rfl⟩;obtain⟨k,m,u,g,o,nh,d,ks⟩:=cl;have fy:=hid (cf.out V (by first|rfl|trivial) rfl k m u g o nh d ks eM.out);clear cf;have be:Ce I.drew G 10 (.slice an nf.length nj):=bl;have d9:Hid (Bw I I.drew):=(nt _ _).drew;have c4:Hid (Bw I (I.alloc AO).drew):=((nt _ _).alloc (nl _) _).drew;have fA:Ce (I.alloc AO).drew G 10 (.slice an nf.length nj):=Ad c4.out bl;have eQ:Hid (Calls prog 22 #[.pointer (some ⟨T,0,none⟩)] I.drew fun e w'=>(∃h',e=.returned (Ao V h')∧Ah w'.cell? V h')∧Bw I.drew w'):=ft.out _ d9.out;have ch:Hid (Calls prog 22 #[.pointer (some ⟨T,0,none⟩)] (I.alloc AO).drew fun e w'=>(∃h',e=.returned (Ao V h')∧Ah w'.cell? V h')∧Bw (I.alloc AO).drew w'):=ft.out _ c4.out;have ea:Hid (∀(J:World) (bi:Hd),Bw I J→Ah J.cell? V bi→Calls prog 89 #[Ao V bi,.slice an nf.length nj] J fun e bk=>(∃h',e=.returned (.tuple #[(AY k m u g o nh d ks h'),.bool d8])∧Ah bk.cell? (.mk k m u g o nh d ks) h')∧Bw J bk):=fun J bi f2 bB=>by
    have e:=KK bB an nj nf (fZ.out.on (Aj f2)) f0.out fw.out.1 fw.out.2;rw[eM.out,f1.out]at e;exact e
   have b2:G<I.heap.size:=ny I ⟨G,10,none⟩ bl;go_upto_region 7 with fail
   go_region_held3 (fun w'=>w'.cell? ⟨G,10,none⟩=some (.slice an nf.length nj)) (first|with_reducible exact be|with_reducible exact fA|with_reducible exact bn|with_reducible exact b3|(with_reducible refine Ay ?_;with_reducible exact be)|(with_reducible refine Ay ?_;with_reducible exact bn)|(with_reducible refine Ay ?_;with_reducible exact b3)|(with_reducible refine ED ?_ b3;show G≠_;have g4:=eR.out;omega)|(with_reducible refine ED ?_ b3;show G≠_;skip;omega)) (first|(go_at_call 22;(with_reducible refine nn eQ.out ?_);rintro e J ⟨⟨bi,rfl,bB⟩,q6⟩;have a6:Hid (Bw I J):=d9.out.trans (q6.mono d9.out.size);have bn:J.cell? ⟨G,10,none⟩=some (.slice an nf.length nj):=(a6.out.cell (p:=⟨G,10,none⟩) b2).trans bl;have c5:Hid (Calls prog 89 #[Ao V bi,.slice an nf.length nj] J fun e bk=>(∃h',e=.returned (.tuple #[(AY k m u g o nh d ks h'),.bool d8])∧Ah bk.cell? (.mk k m u g o nh d ks) h')∧Bw J bk):=ea.out J bi a6.out bB;have fB:Hid (Calls prog 89 #[Ao V bi,.slice an nf.length nj] (J.alloc AO) fun e bk=>(∃h',e=.returned (.tuple #[(AY k m u g o nh d ks h'),.bool d8])∧Ah bk.cell? (.mk k m u g o nh d ks) h')∧Bw (J.alloc AO) bk):=ea.out _ bi (a6.out.alloc a6.out.size _) (bB.on (Aj ((nt _ _).alloc (nl _) _)));clear eQ ch bB q6)|(go_at_call 22;(with_reducible refine nn ch.out ?_);rintro e J ⟨⟨bi,rfl,bB⟩,q6⟩;have a6:Hid (Bw I J):=c4.out.trans (q6.mono c4.out.size);have bn:J.cell? ⟨G,10,none⟩=some (.slice an nf.length nj):=(a6.out.cell (p:=⟨G,10,none⟩) b2).trans bl;have c5:Hid (Calls prog 89 #[Ao V bi,.slice an nf.length nj] J fun e bk=>(∃h',e=.returned (.tuple #[(AY k m u g o nh d ks h'),.bool d8])∧Ah bk.cell? (.mk k m u g o nh d ks) h')∧Bw J bk):=ea.out J bi a6.out bB;have f3:Hid (BV J I.heap.size):=((BV.new I).below ((nt _ _).drew)).below q6;clear eQ ch bB q6)|(go_at_call 89;(with_reducible refine nn c5.out ?_);rintro e R ⟨⟨O,rfl,bC⟩,q7⟩;have bf:Hid (Bw I R):=a6.out.trans (q7.mono a6.out.size);have b3:R.cell? ⟨G,10,none⟩=some (.slice an nf.length nj):=(bf.out.cell (p:=⟨G,10,none⟩) b2).trans bl;have f4:Hid (Bw J R):=q7;have co:Hid (Ah R.cell? (.mk k m u g o nh d ks) O):=bC;have c6:Hid (BV R I.heap.size):=f3.out.below q7;obtain⟨⟨⟨z0,c8,c9,z3,z4,z5,da,db⟩,ap⟩,_⟩:=id c6.out;have f5:=ap 0;have f7:=ap 1;have f8:=ap 2;have f9:=ap 3;have dd:=ap 4;have ga:=ap 5;have gb:=ap 6;have gd:=ap 7;clear ap;clear c5 bC q7)|(go_at_call 89;(with_reducible refine nn c5.out ?_);rintro e R ⟨⟨O,rfl,bC⟩,q7⟩;have bf:Hid (Bw I R):=a6.out.trans (q7.mono a6.out.size);have b3:R.cell? ⟨G,10,none⟩=some (.slice an nf.length nj):=(bf.out.cell (p:=⟨G,10,none⟩) b2).trans bl;have f4:Hid (Bw J R):=q7;have co:Hid (Ah R.cell? (.mk k m u g o nh d ks) O):=bC;clear c5 bC q7)|(go_at_call 89;(with_reducible refine nn fB.out ?_);rintro e R ⟨⟨O,rfl,bC⟩,q7⟩;have bf:Hid (Bw I R):=(a6.out.alloc a6.out.size _).trans (q7.mono (nO a6.out.size ((nt _ _).alloc (nl _) _:Bw J _).size));have b3:R.cell? ⟨G,10,none⟩=some (.slice an nf.length nj):=(bf.out.cell (p:=⟨G,10,none⟩) b2).trans bl;have co:Hid (Ah R.cell? (.mk k m u g o nh d ks) O):=bC;have c6:Hid (BV R J.heap.size):=(BV.new J).below q7;have eR:Hid (I.heap.size≤J.heap.size):=a6.out.size;obtain⟨⟨⟨z0,c8,c9,z3,z4,z5,da,db⟩,ap⟩,_⟩:=id c6.out;have f5:=ap 0;have f7:=ap 1;have f8:=ap 2;have f9:=ap 3;have dd:=ap 4;have ga:=ap 5;have gb:=ap 6;have gd:=ap 7;clear ap;clear fB bC q7))
   all_goals
    first|(obtain⟨bo,b4,a7,bp⟩:=BV.store c6.out co.out;have a7:=bf.out.trans (a7.below (B:=I.heap.size) eR.out bf.out.size);generalize b5:Ar R J.heap.size (.mk k m u g o nh d ks) O=eS at bo b4 a7 bp;simp only[Ar]at b5;rw[b5];clear b5;generalize de:J.heap.size=nx at bo bp⊢;have eT:I.heap.size≤nx:=(by rw[←de];exact eR.out);clear de)|(obtain⟨bo,b4,a7,bp⟩:=BV.store c6.out co.out;have a7:=bf.out.trans (a7.below (B:=I.heap.size) (nl _) bf.out.size);generalize b5:Ar R I.heap.size (.mk k m u g o nh d ks) O=eS at bo b4 a7 bp;simp only[Ar]at b5;rw[b5];clear b5;generalize de:I.heap.size=nx at bo bp⊢;have eT:I.heap.size≤nx:=(by rw[←de];exact(nl _));clear de)|(obtain⟨bo,b4,a7,bp⟩:As (R.alloc (Ap k m u g o nh d ks O)) R.heap.size (.mk k m u g o nh d ks) O∧Ah (R.alloc (Ap k m u g o nh d ks O)).cell? (.mk k m u g o nh d ks) O∧Bw I (R.alloc (Ap k m u g o nh d ks O))∧(∀Z,8≤Z→(R.alloc (Ap k m u g o nh d ks O)).cell? ⟨R.heap.size,Z,none⟩=none):=⟨As.new R k m u g o nh d ks O,co.out.on (Aj ((nt _ _).alloc (nl _) _)),bf.out.alloc bf.out.size _,fun o b6=>(by rw[nk _ _ _ _ rfl];exact rG (by simpa using b6))⟩;have eT:=bf.out.size;generalize R.alloc (Ap k m u g o nh d ks O)=eS at bo b4 a7 bp⊢;generalize R.heap.size=nx at bo bp eT⊢)
    clear be fA bn b3 d9 c4 ea;have fC:=(a7.cell (p:=⟨G,0,none⟩) b2).trans fs;have gg:=(a7.cell (p:=⟨G,10,none⟩) b2).trans bl;have fD:=(a7.cell (p:=⟨ab,10,none⟩) (ny _ _ eK)).trans eK;have eU:=cA.out.below a7;have eV:=hid (fx.out eS eU);have fE:=hid eU;have eW:=hid bo;have fF:=hid b4;have fG:=hid bp;have gh:=hid (eJ.out.trans (a7.mono eJ.out.size));have eX:Hid (ak<nx∧T<nx∧G<nx∧ab<nx∧bd.heap.size≤nx):=by
     have q1:=cA.out.ltn;have q2:=cA.out.lts;have b1:=eJ.out.size;have q4:=fW.out;refine⟨?_,?_,?_,?_,?_⟩<;>omega
    clear eU bo b4 bp a7 co fx fs bl eK;generalize Et M.us M.gs V ni nf=P at*;obtain⟨E,bg⟩:=P;dsimp only at eV eP;go_wp2_with fail
    refine nn eV.out ?_;rintro e H ⟨rfl,eY,dg⟩;have bY:nx≠ak:=by have:=eX.out.1;omega
    have a1:=dg.below (B:=w.heap.size) el gh.out.size;have fH:=(a1.cell (p:=⟨G,0,none⟩) cr).trans fC;have fI:=(a1.cell (p:=⟨ab,10,none⟩) em).trans fD;have eZ:=hid eY;have e0:=hid (eW.out.but dg bY);have fJ:=hid ((fE.out.off fF.out).on (Lt dg));have fK:Hid (∀Z,8≤Z→H.cell? ⟨nx,Z,none⟩=none):=fun Z b6=>(dg.cell (p:=⟨nx,Z,none⟩) eW.out.1.lt bY).trans (fG.out Z b6);clear dg a1 fC gg fD fE eW fF fG eV bY
    by_cases ao:E=0
    case neg=>
     have bx:=AH (n:=E) rfl ao;rw[bx];clear eY;go_wp2;go_ret;exact⟨E,bg,by rw[bx];rfl,eZ.out,fun e=>absurd e ao⟩
    case pos=>
     subst ao;have fL:=eP.out (by first|rfl|trivial);have e1:=hid fL;have b7:Bw H H.drew:=(nt _ _).drew;have dj:=hid (eZ.out.below b7);have be:Ce H.drew G 0 (.bool dir)∧Ce H.drew ab 10 (.slice az F.length aa)∧Ce H.drew T 2 (.slice (some ⟨ak,0,none⟩) (ni.length+1) lc):=⟨Ad b7 fH,Ad b7 fI,dj.out.c2⟩;have eb:=hid (e0.out.below b7);have fM:=hid (fJ.out.on (Aj b7));have fN:Hid (∀Z,8≤Z→H.drew.cell? ⟨nx,Z,none⟩=none):=fun Z b6=>(b7.cell (p:=⟨nx,Z,none⟩) e0.out.1.lt).trans (fK.out Z b6);obtain⟨Q,gi⟩:∃Q,Hid (DX (bg::ni) F=Q):=⟨_,rfl⟩
     have gj:Hid (Calls prog 24 #[.slice (some ⟨ak,0,none⟩) (ni.length+1) lc,.slice az F.length aa] H.drew fun e w'=>e=.returned (.bool Q)∧Bw H.drew w'):=by
      have cx:=d5.out;have bA:=eB.out;have e:=KE (w:=H.drew) (S:=fun _=>false) (xs:=bg::ni) (a:=some ⟨ak,0,none⟩) (cap:=lc) (an:=az) (nj:=aa) (nf:=F) (fun _ gl=>(by cases gl)) (by rw[C4];exact dj.out.lay) (by rw[C4];exact eu.out.on (Aj dj.out.base)) ((e1.out.sz cg.out).ok (by omega)) (by omega) ⟨bA.1,bA.2.1⟩;rw[gi.out]at e;exact e
     have ec:Hid (∀(bb:Bool) (bF:World),Bd bd bF T ak lc M bg ni→Ah bF.cell? (.mk k m u g o nh d ks) O→As bF nx (.mk k m u g o nh d ks) O→(∀Z,8≤Z→bF.cell? ⟨nx,Z,none⟩=none)→Calls prog 90 #[.pointer (some ⟨T,0,none⟩),.slice az F.length aa,(AY k m u g bb nh d ks O)] (bF.setCell ⟨nx,4,none⟩ (.bool bb)) fun e w'=>e=.returned (Am (Cn (.mk k m u g bb nh d ks) F bg).1)∧Bd bd w' T ak lc M (Cn (.mk k m u g bb nh d ks) F bg).2 ni∧Au ak (bF.setCell ⟨nx,4,none⟩ (.bool bb)) w'):=fun bb bF eO gm fO fP=>by
      have hx:=eX.out;have cx:=d5.out;have bA:=eB.out;have cp:=fv.out;have fQ:=(Au.refl nx bF).setCell 4 none (.bool bb);have bs:=eO.other fQ hx.2.2.2.2 (by omega) (by omega) (Jj fO.1 fP);exact Je bs (e1.out.sz cg.out) (by omega) (x:=(.mk k m u g bb nh d ks)) (hd:=O) (KV (Kf fQ fO.1 fP gm)) (by have q:=cp.1;rw[AB]at q⊢;exact q) (by have q:=cp.2.2;rw[cnt]at q⊢;omega) eu.out (by omega) ⟨bA.1,bA.2.1⟩
     have ed:Hid (∀bb:Bool,(Cn (.mk k m u g bb nh d ks) F bg).1=0→Cs M.us M.gs ni 400 (Cn (.mk k m u g bb nh d ks) F bg).2):=fun bb go=>by
      have cp:=fv.out;have e:=e1.out.put (z:=(.mk k m u g bb nh d ks)) (k:=72) (fy.out.2 bb _) (by have q:=cp.1;rw[AB]at q⊢;exact q) (by have q:=cp.2.1;rw[AM]at q⊢;exact q) (by have q:=cp.2.2;rw[cnt]at q⊢;exact q) go;exact⟨e.own,e.lil,e.ids,by have:=e.cnt;omega⟩
     have hx:=eX.out;obtain⟨gz,gA,gB,gC,gD⟩:=hx;rw[show Am 0=Value.nilIface from rfl];clear eY fL b7 fH fI eZ e0 fJ fK fy eP;go_upto_region 11 with fail
     refine wp_region_held_drew (S:=fun w'=>Ce w' G 0 (.bool dir)∧Ce w' ab 10 (.slice az F.length aa)∧Ce w' T 2 (.slice (some ⟨ak,0,none⟩) (ni.length+1) lc)) (by kernel_rfl) be (fun ad=>?_);refine tI 0 dD (.pointer (some ⟨G,0,none⟩)) ad ?_;simp only[tk];refine tI 1 dO (.pointer (some ⟨G,0,none⟩)) ad ?_;simp only[tk];cases dir with
     |false=>
      refine tI 2 U2 (.bool false) ad ?_;simp only[tk];refine tI 3 Ve (.bool false) ad ?_;simp only[tk];refine tO 4 U4 ad ?_;simp only[tk];refine tO 5 Vf ad ?_;simp only[tk];refine tO 6 Vk ad ?_;simp only[tk];refine tO 7 Vi ad ?_;simp only[tk];refine tO 8 Vd ad ?_;simp only[tk];refine tO 9 Vl ad ?_;simp only[tk];refine tO 10 UW ad ?_;simp only[tk];refine tI 11 UU (.bool false) ad ?_;simp only[tk];refine tI 12 UX (.pointer (some ⟨nx,4,none⟩)) ad ?_;simp only[tk];refine wpAnyH_ready (rs:=[13]) (by kernel_rfl) (by simp) ?_;refine AllReadyH.cons (o:=UQ) rfl (fun K bG=>?_) AllReadyH.nil;rw[nC (by rfl)];obtain⟨⟨dk,dm,dn,dp,dr,ds,du,dw⟩,dx⟩:=eb.out;have dd:=dx 4;clear dx;go_simp;refine bG.out _ _ ⟨(AW (by show G≠nx;omega)).trans be.1,(AW (by show ab≠nx;omega)).trans be.2.1,(AW (by show T≠nx;omega)).trans be.2.2⟩ (fun e2=>?_);clear bG K;refine rN (by kernel_rfl) ?_ _;have z0:Ce (H.setCell ⟨nx,4,none⟩ (.bool false)).drew nx 0 (.int .i64 k):=show(H.drew.setCell ⟨nx,4,none⟩ (.bool false)).cell? ⟨nx,0,none⟩=_ from(AA (by omega)).trans dk
      have c8:Ce (H.setCell ⟨nx,4,none⟩ (.bool false)).drew nx 1 (.int .i64 m):=show(H.drew.setCell ⟨nx,4,none⟩ (.bool false)).cell? ⟨nx,1,none⟩=_ from(AA (by omega)).trans dm
      have c9:Ce (H.setCell ⟨nx,4,none⟩ (.bool false)).drew nx 2 (.int .i64 u):=show(H.drew.setCell ⟨nx,4,none⟩ (.bool false)).cell? ⟨nx,2,none⟩=_ from(AA (by omega)).trans dn
      have z3:Ce (H.setCell ⟨nx,4,none⟩ (.bool false)).drew nx 3 (.int .i64 g):=show(H.drew.setCell ⟨nx,4,none⟩ (.bool false)).cell? ⟨nx,3,none⟩=_ from(AA (by omega)).trans dp
      have z4:Ce (H.setCell ⟨nx,4,none⟩ (.bool false)).drew nx 4 (.bool false):=show(H.drew.setCell ⟨nx,4,none⟩ (.bool false)).cell? ⟨nx,4,none⟩=_ from nH _ _ _ dr
      have z5:Ce (H.setCell ⟨nx,4,none⟩ (.bool false)).drew nx 5 (.slice O.aa nh.length O.ca):=show(H.drew.setCell ⟨nx,4,none⟩ (.bool false)).cell? ⟨nx,5,none⟩=_ from(AA (by omega)).trans ds
      have da:Ce (H.setCell ⟨nx,4,none⟩ (.bool false)).drew nx 6 (.string d):=show(H.drew.setCell ⟨nx,4,none⟩ (.bool false)).cell? ⟨nx,6,none⟩=_ from(AA (by omega)).trans du
      have db:Ce (H.setCell ⟨nx,4,none⟩ (.bool false)).drew nx 7 (.slice O.ak ks.length O.ck):=show(H.drew.setCell ⟨nx,4,none⟩ (.bool false)).cell? ⟨nx,7,none⟩=_ from(AA (by omega)).trans dw
      have e3:Ce (H.setCell ⟨nx,4,none⟩ (.bool false)).drew ab 10 (.slice az F.length aa):=show(H.drew.setCell ⟨nx,4,none⟩ (.bool false)).cell? ⟨ab,10,none⟩=_ from(AW (by show ab≠nx;omega)).trans be.2.1
      have b9:Hid (Calls prog 90 #[.pointer (some ⟨T,0,none⟩),.slice az F.length aa,(AY k m u g false nh d ks O)] (H.setCell ⟨nx,4,none⟩ (.bool false)).drew fun e w'=>e=.returned (Am (Cn (.mk k m u g false nh d ks) F bg).1)∧Bd bd w' T ak lc M (Cn (.mk k m u g false nh d ks) F bg).2 ni∧Au ak (H.setCell ⟨nx,4,none⟩ (.bool false)).drew w'):=ec.out false (H.drew) dj.out fM.out eb.out fN.out;have dy:=hid (ed.out false);generalize(H.setCell ⟨nx,4,none⟩ (.bool false)).drew=gp at*;obtain⟨bu,e4⟩:∃bu,Hid (Cn (.mk k m u g false nh d ks) F bg=bu):=⟨_,rfl⟩;rw[e4.out]at b9 dy;clear dk dm dn dp dr ds du dw dd ec ed e2;go_wp2_with fail
      refine nn b9.out ?_;rintro e gq ⟨rfl,dz,e5⟩;have e6:=hid dz;clear b9 dz e5 z0 c8 c9 z3 z4 z5 da db e3;go_wp2;go_ret;exact⟨bu.1,bu.2,rfl,e6.out,dy.out⟩
     |true=>
      refine tI 2 U2 (.bool true) ad ?_;simp only[tk];refine tI 3 Ve (.bool true) ad ?_;simp only[tk];refine tI 4 U4 (.pointer (some ⟨T,0,none⟩)) ad ?_;simp only[tk];refine tI 5 Vf (.pointer (some ⟨T,0,none⟩)) ad ?_;simp only[tk];refine tI 6 Vk (.pointer (some ⟨T,2,none⟩)) ad ?_;simp only[tk];refine tI 7 Vi (.slice (some ⟨ak,0,none⟩) (ni.length+1) lc) ad ?_;simp only[tk];refine tI 8 Vd (.pointer (some ⟨ab,10,none⟩)) ad ?_;simp only[tk];refine tI 9 Vl (.slice az F.length aa) ad ?_;simp only[tk];refine wpAnyH_ready (rs:=[10]) (by kernel_rfl) (by simp) ?_;refine AllReadyH.cons (o:=UW) rfl (fun K bG=>?_) AllReadyH.nil;rw[nC (by rfl)];go_simp;refine nn gj.out ?_;rintro e Y ⟨rfl,bH⟩;have bn:Ce Y G 0 (.bool true)∧Ce Y ab 10 (.slice az F.length aa)∧Ce Y T 2 (.slice (some ⟨ak,0,none⟩) (ni.length+1) lc):=⟨Ad bH be.1,Ad bH be.2.1,Ad bH be.2.2⟩;have fR:=hid (eb.out.below bH);have gr:=hid (dj.out.below bH);have gu:=hid (fM.out.on (Aj bH));have gv:Hid (∀Z,8≤Z→Y.cell? ⟨nx,Z,none⟩=none):=fun Z b6=>(bH.cell (p:=⟨nx,Z,none⟩) eb.out.1.lt).trans (fN.out Z b6);clear bH
      go_wp2_with fail
      refine bG.out _ _ bn (fun fS=>?_);clear bG K;refine nS (i:=11) (oi:=UU) (v:=.bool Q) rfl (by kernel_rfl) (by kernel_rfl) (by kernel_rfl) (fun _ _ _ h=>h) (Or.inl ⟨by rfl,fun w cb=>by obtain⟨gw,gx,d6⟩:=cb;go_simp⟩) fS ?_;simp only[tk];refine nS (i:=12) (oi:=UX) (v:=.pointer (some ⟨nx,4,none⟩)) rfl (by kernel_rfl) (by kernel_rfl) (by kernel_rfl) (fun _ _ _ h=>h) (Or.inl ⟨by rfl,fun w cb=>by obtain⟨gw,gx,d6⟩:=cb;go_simp⟩) fS ?_;simp only[tk];refine wpAnyH_ready (rs:=[13]) (by kernel_rfl) (by simp) ?_;refine AllReadyH.cons (o:=UQ) rfl (fun K bG=>?_) AllReadyH.nil;rw[nC (by rfl)];obtain⟨⟨dk,dm,dn,dp,dr,ds,du,dw⟩,dx⟩:=fR.out;have dd:=dx 4;clear dx;go_simp;refine bG.out _ _ ⟨(AW (by show G≠nx;omega)).trans bn.1,(AW (by show ab≠nx;omega)).trans bn.2.1,(AW (by show T≠nx;omega)).trans bn.2.2⟩ (fun e2=>?_);clear bG K;refine rN (by kernel_rfl) ?_ _;have z0:Ce (Y.setCell ⟨nx,4,none⟩ (.bool Q)) nx 0 (.int .i64 k):=show(Y.setCell ⟨nx,4,none⟩ (.bool Q)).cell? ⟨nx,0,none⟩=_ from(AA (by omega)).trans dk
      have c8:Ce (Y.setCell ⟨nx,4,none⟩ (.bool Q)) nx 1 (.int .i64 m):=show(Y.setCell ⟨nx,4,none⟩ (.bool Q)).cell? ⟨nx,1,none⟩=_ from(AA (by omega)).trans dm
      have c9:Ce (Y.setCell ⟨nx,4,none⟩ (.bool Q)) nx 2 (.int .i64 u):=show(Y.setCell ⟨nx,4,none⟩ (.bool Q)).cell? ⟨nx,2,none⟩=_ from(AA (by omega)).trans dn
      have z3:Ce (Y.setCell ⟨nx,4,none⟩ (.bool Q)) nx 3 (.int .i64 g):=show(Y.setCell ⟨nx,4,none⟩ (.bool Q)).cell? ⟨nx,3,none⟩=_ from(AA (by omega)).trans dp
      have z4:Ce (Y.setCell ⟨nx,4,none⟩ (.bool Q)) nx 4 (.bool Q):=show(Y.setCell ⟨nx,4,none⟩ (.bool Q)).cell? ⟨nx,4,none⟩=_ from nH _ _ _ dr
      have z5:Ce (Y.setCell ⟨nx,4,none⟩ (.bool Q)) nx 5 (.slice O.aa nh.length O.ca):=show(Y.setCell ⟨nx,4,none⟩ (.bool Q)).cell? ⟨nx,5,none⟩=_ from(AA (by omega)).trans ds
      have da:Ce (Y.setCell ⟨nx,4,none⟩ (.bool Q)) nx 6 (.string d):=show(Y.setCell ⟨nx,4,none⟩ (.bool Q)).cell? ⟨nx,6,none⟩=_ from(AA (by omega)).trans du
      have db:Ce (Y.setCell ⟨nx,4,none⟩ (.bool Q)) nx 7 (.slice O.ak ks.length O.ck):=show(Y.setCell ⟨nx,4,none⟩ (.bool Q)).cell? ⟨nx,7,none⟩=_ from(AA (by omega)).trans dw
      have e3:Ce (Y.setCell ⟨nx,4,none⟩ (.bool Q)) ab 10 (.slice az F.length aa):=show(Y.setCell ⟨nx,4,none⟩ (.bool Q)).cell? ⟨ab,10,none⟩=_ from(AW (by show ab≠nx;omega)).trans bn.2.1
      have b9:=hid (ec.out Q (Y) gr.out gu.out fR.out gv.out);have dy:=hid (ed.out Q);generalize(Y.setCell ⟨nx,4,none⟩ (.bool Q))=gp at*;obtain⟨bu,e4⟩:∃bu,Hid (Cn (.mk k m u g Q nh d ks) F bg=bu):=⟨_,rfl⟩;rw[e4.out]at b9 dy;clear dk dm dn dp dr ds du dw dd ec ed e2;go_wp2_with fail
      refine nn b9.out ?_;rintro e gq ⟨rfl,dz,e5⟩;have e6:=hid dz;clear b9 dz e5 z0 c8 c9 z3 z4 z5 da db e3;go_wp2;go_ret;exact⟨bu.1,bu.2,rfl,e6.out,dy.out⟩
end Go.Proofs.YtgppjbhaimmlpaaGreatDoor
