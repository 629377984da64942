/- Part: Xp Va Vb Vc Vd Ve Vf Vh Vi Xs Xq Xt Xu. -/
import Derived.Test.YtchpdmjlicmdaaaGreatDoorShpX
import Derived.Lib.SlBytesRow
set_option maxRecDepth 100000
set_option maxHeartbeats 16000000
namespace Go.Proofs.YtchpdmjlicmdaaaGreatDoor
open Go.RowKit Go.Proofs.Tryz
variable {G lc n rN:Nat}{Y b x x0:Nd}{rM:List Nd}{W w w' w0 wr:World}{H v:Value}{M:Df}{an:Option Addr}{ry:List BA}{h:Hd}{xs:List Value}{m:BA}{gs us:List Rg}{a q:Int}
structure G9 (n:Nat) (x0:Nd) (rM:List Nd):Prop where
 lil:AI x0
 ids:A0 x0
 cnt:cnt x0<=n
 low:∀x∈rM,AI x/\A0 x/\Go.Proofs.YtchpdmjlicmdaaaGreatDoor.cnt x<=100
 len:rM.length<=4
theorem ph{l:Bc}(h:∀q∈l,cnt q.1<=100):tot l<=100*l.length:=by induction l<;>grind [tot]
theorem G9.ok(h:G9 n x0 rM)(O:n<=400):GE (x0::rM)where
 lil:=λx hx=>by
  rcases R1.1 hx with rfl|hx
  .exact h.lil
  .exact(h.low x hx).1
 tot:=by
  have e:A5 (x0::rM)=(x0,0)::rM.zipIdx 1:=rfl;rw[e,tot]
  have H:=ph (l:=rM.zipIdx 1) λq I=>(h.low q.1 (by
   obtain⟨i,G⟩:=R7 I;rw[List.getElem?_zipIdx]at G;obtain⟨y,J,rfl⟩:=R2.1 G;exact NW J)).2.2
  rw[List.length_zipIdx]at H;have:=h.cnt;have:=h.len;show Go.Proofs.YtchpdmjlicmdaaaGreatDoor.cnt x0+_<=1000;omega
 ids:=λx hx=>by
  rcases R1.1 hx with rfl|hx
  .exact h.ids
  .exact(h.low x hx).2.1
def IK(R:Except Int Nd)(x0:Nd):Int×Nd:=(Gl R,if Gl R=0 then E5 R else x0)
def Cx(us gs:List Rg)(x0:Nd)(rM:List Nd)(ry:List BA):Int×Nd:=IK (Gb us gs (x0::rM) ry x0) x0
def DJ(n:Nd)(ry:List BA)(x0:Nd):Int×Nd:=if ry=[]then(0,n)else IK (A3 (some n) ry x0) x0
def N0:Nd:=.mk 3 0 0 0 false [] ⟨#[]⟩ []
def EW(us gs:List Rg)(x0:Nd)(rM:List Nd)(ry:List BA):Int×Nd:=
 if(Cx us gs x0 rM ry.dropLast).1=0 then(if G5 ((Cx us gs x0 rM ry.dropLast).2::rM) ry=true then DJ N0 ry (Cx us gs x0 rM ry.dropLast).2 else IK (A3 none ry (Cx us gs x0 rM ry.dropLast).2) (Cx us gs x0 rM ry.dropLast).2)else Cx us gs x0 rM ry.dropLast
theorem Ra(w:World)(an:Option Addr)(rN:Nat)(ry:List BA)(H:ry≠[])(I:ry.length<=rN/\rN<=9223372036854775807):
 Calls prog 175 #[.slice an ry.length rN] w λe w'=>e=.returned (.slice an ry.dropLast.length rN)/\Bw w w':=by
 obtain⟨n,G⟩:∃n,ry.length=n+1:=⟨ry.length-1,by have:=CC.2 H;omega⟩;rw[tF,G];rw[G]at I;go_enter func175,ntmps175;go_wp2;go_ret;exact⟨rfl,NB _ _⟩
abbrev Qg:=λG ua (us:List Rg) uc ga (gs:List Rg) gc nb (rM:List Nd) lc (X:World)=>(Ce X G 0 (.slice ua us.length uc)/\Ce X G 1 (.slice ga gs.length gc)/\Ce X G 2 (sL nb 0 (rM.length+1) lc):Prop)
theorem Nf{H:Nat}(h:BQ w0 w H G lc M x0 rM)(O:G9 n x0 rM)(ao:n<=400)(ap:Bi w0.cell? an ry)(ar:ry.length<=500)(aw:ry.length<=rN/\rN<=9223372036854775807):
 Calls prog 174 #[pO H 0,.slice an ry.length rN] w λe w'=>e=.returned (Ao (Cx M.us M.gs x0 rM ry).1)/\BQ w0 w' H G lc M (Cx M.us M.gs x0 rM ry).2 rM/\Az G w w':=by
 have hd:=h.below<|(NB w.heap.size w).drew;obtain⟨R,ad⟩:=Aq<|Gb M.us M.gs (x0::rM) ry x0;have Z:Hid (Calls prog 227 #[sL G 0 (rM.length+1) lc,M.v,.slice an ry.length rN] w.drew λe ab=>(∃h',e=.returned (.tuple #[At (E5 R) h',Ao<|Gl R])/\Am ab.cell? (E5 R) h')/\Bw w.drew ab):=by
  have I:=O.ok ao;have e:=pQ (W:=w.drew) (S:=λ_=>false) (a:=some<|aD G 0) (cap:=lc) (an:=an) (rN:=rN) (ry:=ry) (xs:=x0::rM) (M:=M) (U:=x0) (λ_ az=>by cases az) (by rw[Fe];exact hd.lay) (by rw[Fe];exact ap.on<|Ai hd.base) I.len ar aw I.small I.lim (λq aA=>I.ids _<|JX aA) hd.mapsW (λx hx=>by cases hx;rfl) (by have:=O.cnt;omega)<|Zg _ O.lil;rw[ad.out]at e;go_call e as e ab ⟨⟨h',h1,h2⟩,h3⟩
  rw[Fe]at h2;exact⟨⟨h',h1,h2⟩,h3⟩
 show Calls prog 174 #[pO H 0,.slice an ry.length rN] w λe w'=>e=.returned (Ao (IK (Gb M.us M.gs (x0::rM) ry x0) x0).1)/\BQ w0 w' H G lc M (IK (Gb M.us M.gs (x0::rM) ry x0) x0).2 rM/\Az G w w';rw[ad.out]
 have a1:Hid _:=hd;obtain⟨ua,ga,uc,gc,us,gs⟩:=M;have bd:(Qg H ua us uc ga gs gc G rM lc w.drew):=⟨hd.c0,hd.c1,hd.c2⟩;have a6:Hid<|Az G w w.drew:=Az.of_below<|(NB w.heap.size w).drew;unfold Df.v at Z;dsimp only at Z;unfold IK;dsimp only;generalize E5 R=V at*;generalize Gl R=E at*;obtain⟨ak,al⟩:=Aq<|(if E=0 then V else x0);rw[al.out];go_enter func174,ntmps174;go_upto_region 1 with fail
 go_region_held3 (Qg H ua us uc ga gs gc G rM lc) (assumption) (first|(go_at_call 227;go_call Z.out as e w6 ⟨⟨h6,rfl,n6⟩,q6⟩;have J:=a1.out.below q6;have be:(Qg H ua us uc ga gs gc G rM lc w6):=⟨J.c0,J.c1,J.c2⟩;have a7:Hid (Calls prog 222 #[pO H 0,At V h6,Ao E] w6 λe w'=>e=.returned (Ao E)/\BQ w0 w' H G lc ⟨ua,ga,uc,gc,us,gs⟩ ak rM/\Az G w6 w'):=(by have e:=O5 J n6 E;rw[al.out]at e;exact e);have a8:Hid<|Az G w w6:=a6.out.then q6)|(go_at_call 222;go_call a7.out as e w7 ⟨rfl,s7,b7⟩;have bf:(Qg H ua us uc ga gs gc G rM lc w7):=⟨s7.c0,s7.c1,s7.c2⟩;have ba:Hid<|BQ w0 w7 H G lc ⟨ua,ga,uc,gc,us,gs⟩ ak rM:=s7;have bb:Hid<|Az G w w7:=a8.out.trans b7))
 all_goals
  go_wp2;go_ret;exact⟨rfl,ba,bb⟩
def b8(z:Int):UInt8:=UInt8.ofNat (z%256).toNat
theorem PE(z:Int):((b8 z).toNat:Int)=z%256:=by
 unfold b8;have G:0<=z%256:=Int.emod_nonneg _ oD;have H:z%256<256:=Int.emod_lt_of_pos _ oD;rw[UInt8.toNat_ofNat'];omega
def bc(l:List UInt8):List Value:=l.map λb=>.int .u8 b.toNat
theorem MH(a b:List UInt8):bc (a++b)=bc a++bc b:=by simp[bc]
theorem IZ(a:List UInt8):∀u∈bc a,u.oneCell'=true:=by
 intro u G;unfold bc at G;obtain⟨b,_,rfl⟩:=CQ.1 G;rfl
def BT(s:BA):List UInt8:=b8 s.size::s.data.toList
theorem Hx(s:BA):(BT s).length=1+s.size:=by simp[BT];omega
def Dd(z:Int):List UInt8:=[b8<|z / 256,b8 z]
def EJ:List Kv->List UInt8
 |[]=>[]
 |r::l=>BT r.n++(BT r.v++EJ l)
mutual
def Cy:Nd->List UInt8
 |.mk k m u g o rL d ks=>b8 (if o=true then k+8 else k)::(Dd m++(Dd u++(Dd g++(b8 rL.length::(EJ rL++(BT d++(b8 ks.length::DC ks)))))))
def DC:Ay->List UInt8
 |[]=>[]
 |p::l=>BT p.1++(Cy p.2++DC l)
end
structure Gr (w w':World) (v v':Value):Prop where
 g:w.grownBy w' v.ownBlock
 o:v'.ownBlock=v.ownBlock\/∃s,v'.ownBlock=some s/\w.heap.size<=s
theorem Gr.trans{G H:World}{I J:Value}(h:Gr w G v I)(k:Gr G H I J):Gr w H v J:=by
 obtain⟨⟨O,a2,a3,a4,a5⟩,ak⟩:=h;obtain⟨⟨Z,ab,b3,ad,b5⟩,al⟩:=k;refine⟨⟨Z.trans O,ab.trans a2,b3.trans a3,Rz a4 ad,λq ao ap=>?_⟩,?_⟩;all_goals grind
theorem aH{P:Program}(w:World)(base:Nat)(t u H e:TypeId)(i:TypeInfo)(I:P.underlying t=some (.slice e))(J:P.underlying u=some .string)(O:P.info? e=some i)(ak:i.zero=some (.int .u8 0))(Z:i.size=1)(al:i.bytes=1)
 (v:Value) (n:Nat) (xs:List Value) (ab:w.ownsRow base e 1 v n xs) (ba:0<n) (s:BA) (bb:n+s.size<=100000000) (ap:base<=w.heap.size):
 ∃G w',(Builtin.append_ #[t,u] H #[v,.string s]).run P w=.ok G w'/\w'.ownsRow base e 1 G (n+s.size) (xs++bc s.data.toList)/\Gr w w' v G:=by
 obtain⟨G,w',ad,ar,aw,_⟩:=Lib.run_append_own_string (P:=P) w base t u H e i I J O ak Z al v n xs ab s (by unfold maxLen;omega) oM ap;refine⟨G,w',ad,ar,aw,?_⟩;obtain⟨a,cap,rfl,bd,be,az⟩:=Jm ab;rcases az with⟨_,bf,_⟩|⟨g,aA,rfl,hb,ao,a1,hx⟩
 .omega
 .by_cases a6:n+s.size<=cap
  .have q:=Lib.run_append_room_string (P:=P) w t u H e i I J O Z g n cap aA ao s a6 (by rw[a1];omega)
   rw[ad]at q;obtain⟨rfl,_⟩:G=sL g 0 (n+s.size) cap/\w'=_:=by simpa using q
   exact .inl rfl
  .have a7:xs.length=n*1:=ab.1
   have q:=Lib.run_append_grow_string (P:=P) w t u H e i (.int .u8 0) I J O ak (aD g 0) n cap xs (by rw[Z];exact a7) (λj u a8=>by rw[Ef,RT];exact Iu ao hx a8) s oM oM (by rw[al];exact growslice_fits oM oM);rw[ad]at q;obtain⟨rfl,_⟩:G=sL w.heap.size 0 (n+s.size) (grownCap w (n+s.size) cap e)/\w'=_:=by simpa using q
   exact .inr ⟨w.heap.size,rfl,rP _⟩
theorem aB{P:Program}(w:World){H:Array Oper}{rM:List Oper}{o:Oper}{a:Act}{Q:Exit->Act->World->Prop}(J:o.guard=none)(I x:Operand)(t u:TypeId)
 (O:o.op=.call {callee:=.builtin .append,args:=#[I,x],argTypes:=#[t,u]})
 (base:Nat) (e:TypeId) (i:TypeInfo) (Z:P.underlying t=some (.slice e)) (ab:P.underlying u=some .string) (ad:P.info? e=some i) (ak:i.zero=some (.int .u8 0)) (al:i.size=1) (ao:i.bytes=1)
 (v:Value) (n:Nat) (xs:List Value) (ap:a.eval I=v) (ar:w.ownsRow base e 1 v n xs) (aw:0<n) (s:BA) (hx:a.eval x=.string s) (az:n+s.size<=100000000) (aA:base<=w.heap.size)
 (h:∀G w',w'.ownsRow base e 1 G (n+s.size) (xs++bc s.data.toList)->Gr w w' v G->wpList P H Q rM (a.put o.dst G) w'):wpList P H Q (o::rM) a w:=by
 refine wpList_plain J λK a1=>?_;obtain⟨G,w',a6,a7,a8⟩:=aH (P:=P) w base t u o.type e i Z ab ad ak al ao v n xs ar aw s az aA
 unfold Oper.wp execOp;simp only[O,resolve,invoke,builtin,Sem.run_bind,Sem.run_pure,Result.andThen_ok,List.map_toArray,CB,List.map_nil,ap,hx,a6];exact a1 _ _<|h G w' a7 a8
theorem Tryz.infoB:(prog.info? 5).map (λi=>(i.zero,i.size,i.bytes))=some (some<|.int .u8 0,1,1):=by kernel_rfl
theorem O3(w:World)(z:Int)(t:TypeId):∀j u,(bc [b8 z])[j]? =some u->(w.alloc<|.cells #[.int .u8<|IntKind.u8.wrap z] t).cell? (((aD w.heap.size 0):Addr).add j)=some u:=by
 intro j u G;rw[Ef,RT];refine aC.trans ?_;cases j with
 |zero=>
  simp[bc]at G;subst G;simp[IntKind.wrap_u8,PE]
 |succ j=>simp[bc]at G
theorem KJ{o:Obj}{G:Value}(I:(w.alloc o).grownBy w' v.ownBlock)(Z:G.ownBlock=v.ownBlock\/G.ownBlock=some (w.heap.size+1)):Gr w w' v G:=by
 refine⟨?_,?_⟩
 .obtain⟨J,a2,a3,a4,a5⟩:=I
  have b:=(NB _ w).alloc (rP _) o;exact⟨J.trans b.os,a2.trans b.tape,a3.trans b.output,Rz b.size a4,λq H O=>(a5 q (N1 H b.size) O).trans<|b.block q H⟩
 all_goals grind
theorem Gr.size{G:Value}(h:Gr w w' v G):w.heap.size<=w'.heap.size:=h.g.size
theorem Og{base:Nat}(s:BA)(W:World)(v:Value)(n:Nat)(xs:List Value)(al:W.ownsRow base 5 1 v n xs)(ao:base<=W.heap.size)(ba:n+s.size<=90000000):
 Calls prog 143 #[v,.string s] W λe w'=>∃G,e=.returned G/\w'.ownsRow base 5 1 G (n+(1+s.size)) (xs++bc (BT s))/\Gr W w' v G:=by
 obtain⟨H,I,J,O,Z⟩:=EL Tryz.infoB;have ap:=hid al;go_enter func143,ntmps143;go_wp2_with (at_builtin;refine DP (W.alloc<|.cells #[.int .u8<|IntKind.u8.wrap s.size] 5) rfl (.tmp 5) (.tmp 9) 102 rfl base 5 H (.int .u8 0) 1 1 underlying102 I J O Z rfl oD v n xs rfl (ap.alloc _) (some<|aD W.heap.size 0) 1 1 (bc [b8 s.size]) rfl rfl (.inr ⟨_,rfl,O3 _ _ _⟩) (IZ _) (by unfold maxLen;omega) oM (by rw[ND];omega) ?_)
 intro ab ad ar aw az;have ak:Gr W ad v ab:=KJ aw az;have aA:=Rz ao ak.size;have a1:=hid ak;go_wp2_with (at_builtin;refine aB ad rfl (.tmp 11) (.tmp 12) 102 9 rfl base 5 H underlying102 underlying9 I J O Z ab (n+1) (xs++bc [b8 s.size]) rfl ar oM s rfl oM aA ?_)
 intro a6 bb a7 a8;go_wp2;go_ret;refine⟨a6,rfl,?_,a1.trans a8⟩;rw[show n+(1+s.size)=n+1+s.size by omega,show bc (BT s)=bc [b8 s.size]++bc s.data.toList from by rw[<-MH];rfl];exact a7
mutual
def Lq:Nd->Prop
 |.mk k m u g _ rL d ks=>(0<=k/\k<=100)/\(0<=m/\m<=65535)/\(0<=u/\u<=65535)/\(0<=g/\g<=65535)/\(rL.length<=1000/\∀r∈rL,r.n.size<=1000/\r.v.size<=1000)/\d.size<=1000/\ks.length<=1000/\KZ ks
def KZ:Ay->Prop
 |[]=>True
 |p::l=>p.1.size<=1000/\Lq p.2/\KZ l
end
theorem jx:∀{ks:Ay} {i:Nat} {n:BA} {x:Nd},KZ ks->ks[i]? =some (n,x)->n.size<=1000/\Lq x:=by intro ks i n x;induction ks generalizing i n x<;>grind [KZ]
structure LS (w0 W wr:World) (v vr:Value) (n:Nat) (xs:List Value) (sb:Nat) (x:Nd) (h:Hd) (pre:List UInt8):Prop where
 row:wr.ownsRow w0.heap.size 5 1 vr (n+pre.length)<|xs++bc pre
 gr:Gr W wr v vr
 box:Cm wr sb x h
 ne:some sb≠vr.ownBlock
 low:Below w0.heap.size w0 wr
theorem Cm.gr(hb:Cm w G x h)(I:Gr w w' v H)(J:some G≠v.ownBlock):Cm w' G x h:=by
 have O:=hb.lt;obtain⟨k,m,u,g,o,rL,d,ks⟩:=x;have q:∀j,w'.cell? (aD G j)=w.cell? (aD G j):=λj=>RE (w:=w)<|I.g.block G O J;obtain⟨Z,ab,ad,ak,al,ao,ap,ar⟩:=hb
 exact⟨(q 0).trans Z,(q 1).trans ab,(q 2).trans ad,(q 3).trans ak,(q 4).trans al,(q 5).trans ao,(q 6).trans ap,(q 7).trans ar⟩
theorem Ta(I:Gr w w' v H)(J:G<w.heap.size)(O:some G≠v.ownBlock):some G≠H.ownBlock:=by cases I<;>grind
theorem LS.app{Z J:Value}{ab:Nat}{H:List UInt8}(G:LS w0 W wr v Z n xs ab x h H)(I:Gr wr w' Z J)(O:List UInt8){q:Nat}(ad:w'.ownsRow w0.heap.size 5 1 J q<|xs++(bc H++bc O))(ak:q=n+H.length+O.length):LS w0 W w' v J n xs ab x h<|H++O:=by
 refine⟨?_,G.gr.trans I,G.box.gr I G.ne,Ta I G.box.lt G.ne,?_⟩
 .grind [MH]
 .exact G.low.grown I.g G.low.size λq e=>(G.row.lt q e).1
theorem LS.alloc{I:Nat}{J:List UInt8}(G:LS w0 W wr v H n xs I x h J)(o:Obj):LS w0 W (wr.alloc o) v H n xs I x h J:=by
 have b:Below wr.heap.size wr<|wr.alloc o:=(NB _ _).alloc (rP _) o;exact⟨G.row.alloc _,G.gr.trans ⟨⟨b.os,b.tape,b.output,b.size,λq O _=>b.block q O⟩,.inl rfl⟩,G.box.below b,G.ne,G.low.trans<|b.mono G.low.size⟩
theorem LS.drew{I:Nat}{J:List UInt8}(G:LS w0 W wr v H n xs I x h J):LS w0 W wr.drew v H n xs I x h J:=by
 have b:Below wr.heap.size wr wr.drew:=CS (NB _ wr) 1;exact⟨G.row.drew,G.gr.trans ⟨⟨b.os,b.tape,b.output,b.size,λq O _=>b.block q O⟩,.inl rfl⟩,G.box.below b,G.ne,G.low.trans<|b.mono G.low.size⟩
theorem LS.start(G:Below w0.heap.size w0 W)(H:W.ownsRow w0.heap.size 5 1 v n xs)(k m u g:Int)(o:Bool)(rL:List Kv)(d:BA)(ks:Ay)(h:Hd):
 LS w0 W (W.alloc<|.cells #[iN k,iN m,iN u,iN g,.bool o,.slice h.aa rL.length h.ca,.string d,.slice h.ak ks.length h.ck] 31) v v n xs W.heap.size (.mk k m u g o rL d ks) h []:=by
 have b:Below W.heap.size W<|W.alloc<|Aw k m u g o rL d ks h:=bN;refine⟨?_,⟨⟨b.os,b.tape,b.output,b.size,λq I _=>b.block q I⟩,.inl rfl⟩,Cm.new W k m u g o rL d ks h,?_,G.trans<|b.mono G.size⟩
 .have:=H.alloc (Aw k m u g o rL d ks h)
  rw[show bc []=[]from rfl,te];exact this
 .intro e
  have:=(H.lt _ e.symm).2;omega
theorem gQ(w:World)(z:Int)(t:TypeId)(G:0<=z/\z<=255):∀j u,(bc [b8 z])[j]? =some u->(w.alloc<|.cells #[.int .u8 z] t).cell? (((aD w.heap.size 0):Addr).add j)=some u:=by
 have e:IntKind.u8.wrap z=z:=by rw[IntKind.wrap_u8];omega
 have:=O3 w z t;rwa [e]at this
theorem TE(x y z:Value)(w:World):(Instr.index 236 (.agg #[x,y,z])<|iN 0).run prog w=.ok x w/\(Instr.index 236 (.agg #[x,y,z])<|iN 1).run prog w=.ok y w/\(Instr.index 236 (.agg #[x,y,z])<|iN 2).run prog w=.ok z w:=⟨by kernel_rfl,by kernel_rfl,by kernel_rfl⟩
def IG:List Int->List UInt8
 |[]=>[]
 |z::l=>Dd z++IG l
theorem QZ(w:World)(z:Int)(t:TypeId)(G:0<=z/\z<=65535):∀j u,(bc<|Dd z)[j]? =some u->(w.alloc<|.cells #[.int .u8<|z / 256,.int .u8<|z%256] t).cell? (((aD w.heap.size 0):Addr).add j)=some u:=by grind [Ef,aC,bc,Dd,PE]
theorem Oe(z:Int):(Dd z).length=2:=rfl
theorem kL{l:List Kv}{j:Nat}{r:Kv}(h:l[j]? =some r):EJ (l.drop j)=BT r.n++(BT r.v++EJ (l.drop<|j+1)):=by grind [N9,EJ]
theorem i3{l:Ay}{j:Nat}(h:l[j]? =some (m,x)):DC (l.drop j)=BT m++(Cy x++DC (l.drop<|j+1)):=by grind [N9,DC]
abbrev TF:=λG nm I J O Z ab (H:Hd) (ad:List Kv) d' (ak:Ay) (X:World)=>(Ce X G 0 (.string nm)/\Ce X G 1 (iN I)/\Ce X G 2 (iN J)/\Ce X G 3 (iN O)/\Ce X G 4 (iN Z)/\Ce X G 5 (.bool ab)/\Ce X G 6 (.slice H.aa ad.length H.ca)/\Ce X G 7 (.string d')/\Ce X G 8 (.slice H.ak ak.length H.ck):Prop)
theorem mL(d8:Am w0.cell? x h):∀(W:World) (v:Value) (n:Nat) (xs:List Value),Lq x->Below w0.heap.size w0 W->W.ownsRow w0.heap.size 5 1 v n xs->n+(Cy x).length<=80000000->
 Calls prog 97 #[v,At x h] W λe w'=>∃a8,e=.returned a8/\w'.ownsRow w0.heap.size 5 1 a8 (n+(Cy x).length) (xs++bc (Cy x))/\Gr W w' v a8:=by
 obtain⟨b6,d9,eb,ed,bH⟩:=EL Tryz.infoB;have b7:Hid _:=d9;have b9:Hid _:=eb;have ce:Hid _:=ed;have cf:Hid _:=bH;induction d8 with
 |@mk k m u g o rL d ks h b e7 f ee e8 e9 ef eg bY ej=>
  intro W v n xs ds ek em en;rw[Lq]at ds;obtain⟨⟨fa,fb⟩,⟨fc,fd⟩,⟨fe,ff⟩,⟨fg,fh⟩,⟨fo,eo⟩,fp,fs,ep⟩:=ds;have eq:=hid eo;have er:=hid ep;have du:=hid ee;have es:=hid eg;have eu:Hid _:=ej;have dw:=hid ef;have dx:=LS.start ek em k m u g o rL d ks h;have c4:Hid (Cy (.mk k m u g o rL d ks)=b8 (if o=true then k+8 else k)::(Dd m++(Dd u++(Dd g++(b8 rL.length::(EJ rL++(BT d++(b8 ks.length::DC ks)))))))):=by show _=_;rw[Cy]
  have dy:=hid en;obtain⟨R,dz⟩:=Aq<|Cy<|.mk k m u g o rL d ks;rw[dz.out]at c4 dy;rw[dz.out];have ev:∀(p q:List UInt8),R=p++q->n+p.length<=80000000:=λp q e=>by have:=dy.out;rw[e,N6]at this;omega
  have bo:=hid ev;have ch:=hid dx;have ft:=bo.out [] R rfl;show cL 97 #[v,.agg #[iN k,iN m,iN u,iN g,.bool o,.slice h.aa rL.length h.ca,.string d,.slice h.ak ks.length h.ck]] _ _;obtain⟨b0,bs,bu,bx,b1,ba,bA,bb⟩:=dx.box;obtain⟨aa,bF⟩:=Aq h.aa;obtain⟨dT,bG⟩:=Aq h.ak;rw[bF.out,bG.out]at ch b0 bs bu bx b1 ba bA bb⊢;rw[bF.out]at du;rw[bG.out]at dw;obtain⟨kd,cF⟩:=Aq<|(if o=true then k+8 else k);rw[cF.out]at c4;go_enter func97,ntmps97;have fx:0<=kd/\kd<=255:=by rw[<-cF.out];split<;>omega
  go_upto_if 15 with fail
  go_cut [5]from 16 (λt5 wr=>t5=iN kd/\wr=W.alloc (.cells #[iN k,iN m,iN u,iN g,.bool o,.slice aa rL.length h.ca,.string d,.slice dT ks.length h.ck] 31))
  case first=>
   cases o
   .go_wp2
    go_meet
    exact⟨by rw[<-cF.out];rfl,rfl⟩
   .go_wp2
    go_meet
    exact⟨by rw[<-cF.out];rfl,rfl⟩
  case rest=>
   obtain⟨rfl,rfl⟩:=hcut;have ew:Hid<|R=[]++(b8 kd::(IG [m,u,g]++(b8 rL.length::(EJ rL++(BT d++(b8 ks.length::DC ks)))))):=by
    show _=_;rw[c4.out];simp[IG]
   have gb:([]:List UInt8).length=0:=rfl;generalize gg:W.alloc (.cells #[iN k,iN m,iN u,iN g,.bool o,.slice aa rL.length h.ca,.string d,.slice dT ks.length h.ck] 31)=d0 at ch bs bu bx ba bA bb⊢;generalize gl:W.heap.size=bB at ch bs bu bx ba bA bb⊢;go_wp2_with (at_builtin;refine DP (d0.alloc<|.cells #[.int .u8 kd] 5) rfl (.tmp 18) (.tmp 21) 102 rfl w0.heap.size 5 b6 (.int .u8 0) 1 1 underlying102 b7 b9 ce cf rfl oD v (n+([]:List UInt8).length) (xs++bc ([]:List UInt8)) rfl (ch.row.alloc _) (some<|aD d0.heap.size 0) 1 1 (bc [b8 kd]) rfl rfl (.inr ⟨_,rfl,gQ _ _ _ oM⟩) (IZ _) (by unfold maxLen;omega) oM (Rz ch.low.size (by rw[ND];omega)) ?_)
   intro go gq bk bl bn;have c5:=hid<|ch.app (KJ bl bn) [b8 kd] bk oS;have a1:Hid<|R=([]++[b8 kd])++(IG [m,u,g]++(b8 rL.length::(EJ rL++(BT d++(b8 ks.length::DC ks))))):=by show _=_;rw[ew.out];rfl
   generalize([]++[b8 kd]:List UInt8)=p2 at c5 a1;obtain⟨b0,bs,bu,bx,b1,ba,bA,bb⟩:=c5.box;rw[bF.out]at ba;rw[bG.out]at bb;go_wp2;go_loopw [30,0] (λi co wr=>∃(j:Nat) (G:List UInt8),j<=3/\i=iN j/\Hid (R=G++(IG ([m,u,g].drop j)++(b8 rL.length::(EJ rL++(BT d++(b8 ks.length::DC ks))))))/\Hid (LS w0 W wr v co n xs bB (.mk k m u g o rL d ks) h G)) (λi _ _=>3-(intOf i).toNat)
   case atStart=>exact⟨0,p2,by omega,rfl,a1,c5⟩
   case round=>
    obtain⟨j,G,ey,rfl,bd,I⟩:=hrel;have hb:=bo.out _ _ bd;have ez:j=0\/j=1\/j=2\/j=3:=by omega
    have eB:=(TE (iN m) (iN u) (iN g) wr).1;have eD:=(TE (iN m) (iN u) (iN g) wr).2.1;have eE:=(TE (iN m) (iN u) (iN g) wr).2.2;rcases ez with rfl|rfl|rfl|rfl
    .have bH:0<=m/\m<=65535:=by omega
     go_wp2_with (at_builtin;refine DP (wr.alloc<|.cells #[.int .u8<|m / 256,.int .u8<|m%256] 5) rfl (.tmp 33) (.tmp 39) 102 rfl w0.heap.size 5 b6 (.int .u8 0) 1 1 underlying102 b7 b9 ce cf rfl oD u0 (n+G.length) (xs++bc G) rfl (I.row.alloc _) (some<|aD wr.heap.size 0) 2 2 (bc<|Dd m) rfl rfl (.inr ⟨_,rfl,QZ _ _ _ bH⟩) (IZ _) (by unfold maxLen;omega) oM (Rz I.low.size (by rw[ND];omega)) ?_)
     intro v3 d1 bk bl bn;have cr:=hid<|I.app (KJ bl bn) (Dd m) bk (by simp[Oe]);have b2:Hid<|R=(G++Dd m)++(IG ([m,u,g].drop (0+1))++(b8 rL.length::(EJ rL++(BT d++(b8 ks.length::DC ks))))):=by show _=_;rw[bd.out];simp[IG]
     go_wp2;go_roundw
     case rel=>exact⟨0+1,_,by omega,by go_num,b2,cr⟩
     case measure=>simp[intOf]
    .have bH:0<=u/\u<=65535:=by omega
     go_wp2_with (at_builtin;refine DP (wr.alloc<|.cells #[.int .u8<|u / 256,.int .u8<|u%256] 5) rfl (.tmp 33) (.tmp 39) 102 rfl w0.heap.size 5 b6 (.int .u8 0) 1 1 underlying102 b7 b9 ce cf rfl oD u0 (n+G.length) (xs++bc G) rfl (I.row.alloc _) (some<|aD wr.heap.size 0) 2 2 (bc<|Dd u) rfl rfl (.inr ⟨_,rfl,QZ _ _ _ bH⟩) (IZ _) (by unfold maxLen;omega) oM (Rz I.low.size (by rw[ND];omega)) ?_)
     intro v3 d1 bk bl bn;have cr:=hid<|I.app (KJ bl bn) (Dd u) bk (by simp[Oe]);have b2:Hid<|R=(G++Dd u)++(IG ([m,u,g].drop (1+1))++(b8 rL.length::(EJ rL++(BT d++(b8 ks.length::DC ks))))):=by show _=_;rw[bd.out];simp[IG]
     go_wp2;go_roundw
     case rel=>exact⟨1+1,_,by omega,by go_num,b2,cr⟩
     case measure=>simp[intOf]
    .have bH:0<=g/\g<=65535:=by omega
     go_wp2_with (at_builtin;refine DP (wr.alloc<|.cells #[.int .u8<|g / 256,.int .u8<|g%256] 5) rfl (.tmp 33) (.tmp 39) 102 rfl w0.heap.size 5 b6 (.int .u8 0) 1 1 underlying102 b7 b9 ce cf rfl oD u0 (n+G.length) (xs++bc G) rfl (I.row.alloc _) (some<|aD wr.heap.size 0) 2 2 (bc<|Dd g) rfl rfl (.inr ⟨_,rfl,QZ _ _ _ bH⟩) (IZ _) (by unfold maxLen;omega) oM (Rz I.low.size (by rw[ND];omega)) ?_)
     intro v3 d1 bk bl bn;have cr:=hid<|I.app (KJ bl bn) (Dd g) bk (by simp[Oe]);have b2:Hid<|R=(G++Dd g)++(IG ([m,u,g].drop (2+1))++(b8 rL.length::(EJ rL++(BT d++(b8 ks.length::DC ks))))):=by show _=_;rw[bd.out];simp[IG]
     go_wp2;go_roundw
     case rel=>exact⟨2+1,_,by omega,by go_num,b2,cr⟩
     case measure=>simp[intOf]
    .clear eB eD eE
     have b2:Hid<|R=G++(b8 rL.length::(EJ rL++(BT d++(b8 ks.length::DC ks)))):=bd.out;obtain⟨b0,bs,bu,bx,b1,ba,bA,bb⟩:=I.box;rw[bF.out]at ba;rw[bG.out]at bb;go_wp2_with (at_builtin;refine DP (wr.alloc<|.cells #[.int .u8<|IntKind.u8.wrap<|(rL.length:Int)] 5) rfl (.tmp 42) (.tmp 47) 102 rfl w0.heap.size 5 b6 (.int .u8 0) 1 1 underlying102 b7 b9 ce cf rfl oD u0 (n+G.length) (xs++bc G) rfl (I.row.alloc _) (some<|aD wr.heap.size 0) 1 1 (bc [b8<|(rL.length:Int)]) rfl rfl (.inr ⟨_,rfl,O3 _ _ _⟩) (IZ _) (by unfold maxLen;omega) oM (Rz I.low.size (by rw[ND];omega)) ?_)
     intro v4 gr bk bl bn;have c6:=hid<|I.app (KJ bl bn) [b8<|(rL.length:Int)] bk oS;have d2:Hid<|R=(G++[b8 (rL.length:Int)])++(EJ (rL.drop 0)++(BT d++(b8 ks.length::DC ks))):=by show _=_;rw[b2.out];simp
     generalize G++[b8 (rL.length:Int)]=d3 at c6 d2;obtain⟨b0,bs,bu,bx,b1,ba,bA,bb⟩:=c6.box;rw[bF.out]at ba;rw[bG.out]at bb;go_wp2;go_loopw [52,0] (λi co wr=>∃(j:Nat) (G:List UInt8),j<=rL.length/\i=iN j/\Hid (R=G++(EJ (rL.drop j)++(BT d++(b8 ks.length::DC ks))))/\Hid (LS w0 W wr v co n xs bB (.mk k m u g o rL d ks) h G)) (λi _ _=>rL.length-(intOf i).toNat)
     case atStart=>exact⟨0,d3,N7 _,rfl,d2,c6⟩
     case round=>
      obtain⟨j,G,ey,rfl,bd,I⟩:=hrel;have hb:=bo.out _ _ bd;by_cases c8:j<rL.length
      .have eF:(j:Int)<(rL.length:Int):=by omega
       obtain⟨r,bY⟩:∃r,rL[j]? =some r:=⟨rL[j],by simp[c8]⟩;have gu:=eq.out r<|NW bY;have a1:Hid<|R=G++(BT r.n++(BT r.v++(EJ (rL.drop<|j+1)++(BT d++(b8 ks.length::DC ks))))):=by show _=_;rw[bd.out,kL bY];simp
       rcases du.out with c9|⟨gv,gw,rfl,c3⟩
       .rw[c9]at c8;simp at c8
       have gx:=(I.low.cell<|bL (c3 j r bY).1).trans (c3 j r bY).1;have q1:=(I.low.cell<|bL (c3 j r bY).2).trans (c3 j r bY).2;go_upto_region 14 with fail
       have bC:Hid<|LS w0 W (wr.alloc<|Ip r.n r.v).drew v u0 n xs bB (.mk k m u g o rL d ks) h G:=(I.alloc _).drew
       have a6:Ce (wr.alloc<|Ip r.n r.v).drew wr.heap.size 0 (.string r.n)/\Ce (wr.alloc<|Ip r.n r.v).drew wr.heap.size 1 (.string r.v):=
        ⟨aC,aC⟩
       have a7:some wr.heap.size≠u0.ownBlock:=λe=>by have:=(I.row.lt _ e.symm).2;omega
       have O:wr.heap.size<(wr.alloc<|Ip r.n r.v).drew.heap.size:=by show _<(wr.alloc _).heap.size;rw[ND];omega
       generalize wr.alloc (Ip r.n r.v)=ad at bC a6 O⊢;generalize wr.heap.size=H at a6 a7 O⊢;have da:=bo.out (G++BT r.n) _ (by rw[a1.out,R9]);have eL:=bo.out (G++(BT r.n++BT r.v)) (EJ (rL.drop<|j+1)++(BT d++(b8 ks.length::DC ks))) (by rw[a1.out];simp only[R9]);simp only[N6,Hx]at da eL;have dd:=hid<|Og r.n ad.drew u0 _ _ bC.row bC.low.size oM;go_region_held3 (λw'=>Ce w' H 0 (.string r.n)/\Ce w' H 1 (.string r.v)) (assumption) (first|(go_at_call 143;(with_reducible refine rQ dd.out ?_);rintro e J ⟨bp,rfl,de,ab⟩;have bf:Ce J H 0 (.string r.n)/\Ce J H 1 (.string r.v):=⟨(RE (w:=ad.drew)<|ab.g.block H O a7).trans a6.1,(RE (w:=ad.drew)<|ab.g.block H O a7).trans a6.2⟩;have bg:=Ta ab O a7;have bi:=N1 O ab.size;have b4:Hid<|LS w0 W J v bp n xs bB (.mk k m u g o rL d ks) h<|G++BT r.n:=bC.out.app ab (BT r.n) (by rw[<-R9];exact de) (by rw[Hx]);have dg:Hid (cL 143 #[bp,.string r.v] J λe w'=>∃a8,e=.returned a8/\w'.ownsRow w0.heap.size 5 1 a8 (n+(G++BT r.n).length+(1+r.v.size)) (xs++bc (G++BT r.n)++bc (BT r.v))/\Gr J w' bp a8):=Og r.v J bp _ _ b4.out.row b4.out.low.size (by rw[N6,Hx];omega))|(go_at_call 143;go_call dg.out as e w7 ⟨v7,rfl,hrow7,g7⟩;have eX:Ce w7 H 0 (.string r.n)/\Ce w7 H 1 (.string r.v):=⟨(RE (w:=J)<|g7.g.block H bi bg).trans bf.1,(RE (w:=J)<|g7.g.block H bi bg).trans bf.2⟩;have dj:Hid<|LS w0 W w7 v v7 n xs bB (.mk k m u g o rL d ks) h<|(G++BT r.n)++BT r.v:=b4.out.app g7 (BT r.v) (by rw[<-R9];exact hrow7) (by rw[Hx])))
       all_goals
        have dk:Hid<|R=((G++BT r.n)++BT r.v)++(EJ (rL.drop<|j+1)++(BT d++(b8 ks.length::DC ks))):=by show _=_;rw[a1.out];simp only[R9]
        go_wp2;go_roundw
        case rel=>exact⟨j+1,_,by omega,by go_num,dk,dj⟩
        case measure=>simp[intOf];omega
      .have eF:decide ((j:Int)<(rL.length:Int))=false:=NM oM
       have a1:Hid<|R=G++(BT d++(b8 ks.length::DC ks)):=by show _=_;rw[bd.out,R8 oM];simp[EJ]
       have da:=bo.out (G++BT d) _ (by rw[a1.out,R9]);simp only[N6,Hx]at da;obtain⟨b0,bs,bu,bx,b1,ba,bA,bb⟩:=I.box;rw[bF.out]at ba;rw[bG.out]at bb;go_wp2_with fail
       go_call Og d wr u0 _ _ I.row I.low.size oM as e ad ⟨v5,rfl,hrow5,g5⟩
       have cx:=hid<|I.app g5 (BT d) (by rw[<-R9];exact hrow5) (by rw[Hx]);have dm:Hid<|R=(G++BT d)++(b8 ks.length::DC ks):=by show _=_;rw[a1.out,R9]
       generalize G++BT d=cD at cx dm;have d4:=bo.out _ _ dm;obtain⟨b0,bs,bu,bx,b1,ba,bA,bb⟩:=cx.box;rw[bF.out]at ba;rw[bG.out]at bb;go_wp2_with (at_builtin;refine DP (ad.alloc<|.cells #[.int .u8<|IntKind.u8.wrap<|(ks.length:Int)] 5) rfl (.tmp 68) (.tmp 73) 102 rfl w0.heap.size 5 b6 (.int .u8 0) 1 1 underlying102 b7 b9 ce cf rfl oD v5 (n+cD.length) (xs++bc cD) rfl (cx.row.alloc _) (some<|aD ad.heap.size 0) 1 1 (bc [b8<|(ks.length:Int)]) rfl rfl (.inr ⟨_,rfl,O3 _ _ _⟩) (IZ _) (by unfold maxLen;omega) oM (Rz cx.low.size (by rw[ND];omega)) ?_)
       intro bp J bk bl bn;have dn:=hid<|cx.app (KJ bl bn) [b8<|(ks.length:Int)] bk oS;have d5:Hid<|R=(cD++[b8 (ks.length:Int)])++DC (ks.drop 0):=by show _=_;rw[dm.out];simp
       generalize cD++[b8 (ks.length:Int)]=d6 at dn d5;obtain⟨b0,bs,bu,bx,b1,ba,bA,bb⟩:=dn.box;rw[bF.out]at ba;rw[bG.out]at bb;go_wp2;go_loopw [78,0] (λi co wr=>∃(j:Nat) (G:List UInt8),j<=ks.length/\i=iN j/\Hid (R=G++DC (ks.drop j))/\Hid (LS w0 W wr v co n xs bB (.mk k m u g o rL d ks) h G)) (λi _ _=>ks.length-(intOf i).toNat)
       case atStart=>exact⟨0,d6,N7 _,rfl,d5,dn⟩
       case round=>
        obtain⟨be,bq,gy,rfl,bd,I⟩:=hrel;have gz:=bo.out _ _ bd;by_cases dp:be<ks.length
        .have e0:(be:Int)<(ks.length:Int):=by omega
         obtain⟨⟨nm,x⟩,hx⟩:∃x,ks[be]? =some x:=⟨ks[be],by simp[dp]⟩;obtain⟨g0,e1⟩:=jx er hx;have a1:Hid<|R=bq++(BT nm++(Cy x++DC (ks.drop<|be+1))):=by show _=_;rw[bd.out,i3 hx]
         rcases dw.out with c9|rfl
         .rw[c9]at dp;simp at dp
         have d7:=(es be nm x hx).on<|Ai I.low;have dr:Hid (∀(W:World) (v:Value) (n:Nat) (xs:List Value),Below w0.heap.size w0 W->W.ownsRow w0.heap.size 5 1 v n xs->n+(Cy x).length<=80000000->cL 97 #[v,At x<|f be] W λe w'=>∃a8,e=.returned a8/\w'.ownsRow w0.heap.size 5 1 a8 (n+(Cy x).length) (xs++bc (Cy x))/\Gr W w' v a8):=λW v n xs e2 e3 e4=>eu be nm x hx W v n xs e1 e2 e3 e4;obtain⟨cl,e5⟩:=Aq<|Cy x
         rw[e5.out]at a1 dr;generalize f be=Z at d7 dr;obtain⟨ak,al,ao,ap,ar,aw,az,aA⟩:=x;obtain⟨p0,p1,p2,p3,d3,cD,d6,g2,g6⟩:=d7.nine;go_upto_region 21 with fail
         have bC:Hid<|LS w0 W (wr.alloc<|DM nm ak al ao ap ar Z aw az aA).drew v u0 n xs bB (.mk k m u g o rL d ks) h bq:=(I.alloc _).drew
         have a6:Ce (wr.alloc<|DM nm ak al ao ap ar Z aw az aA).drew wr.heap.size 0 (.string nm)/\Ce (wr.alloc<|DM nm ak al ao ap ar Z aw az aA).drew wr.heap.size 1 (iN ak)/\Ce (wr.alloc<|DM nm ak al ao ap ar Z aw az aA).drew wr.heap.size 2 (iN al)/\Ce (wr.alloc<|DM nm ak al ao ap ar Z aw az aA).drew wr.heap.size 3 (iN ao)/\Ce (wr.alloc<|DM nm ak al ao ap ar Z aw az aA).drew wr.heap.size 4 (iN ap)/\Ce (wr.alloc<|DM nm ak al ao ap ar Z aw az aA).drew wr.heap.size 5 (.bool ar)/\Ce (wr.alloc<|DM nm ak al ao ap ar Z aw az aA).drew wr.heap.size 6 (.slice Z.aa aw.length Z.ca)/\Ce (wr.alloc<|DM nm ak al ao ap ar Z aw az aA).drew wr.heap.size 7 (.string az)/\Ce (wr.alloc<|DM nm ak al ao ap ar Z aw az aA).drew wr.heap.size 8 (.slice Z.ak aA.length Z.ck):=
          ⟨aC,aC,aC,aC,aC,aC,aC,aC,aC⟩
         have a7:some wr.heap.size≠u0.ownBlock:=λe=>by have:=(I.row.lt _ e.symm).2;omega
         have O:wr.heap.size<(wr.alloc<|DM nm ak al ao ap ar Z aw az aA).drew.heap.size:=by show _<(wr.alloc _).heap.size;rw[ND];omega
         generalize wr.alloc (DM nm ak al ao ap ar Z aw az aA)=ad at bC a6 O⊢;generalize wr.heap.size=H at a6 a7 O⊢;have e6:=bo.out (bq++BT nm) _ (by rw[a1.out,R9]);have d4:=bo.out (bq++(BT nm++cl)) (DC<|ks.drop<|be+1) (by rw[a1.out];simp only[R9]);simp only[N6,Hx]at e6 d4;have dd:=hid<|Og nm ad.drew u0 _ _ bC.row bC.low.size oM;go_region_held3 (TF H nm ak al ao ap ar Z aw az aA) (assumption) (first|(go_at_call 143;go_call dd.out as e J ⟨bp,rfl,de,ab⟩;have bf:(TF H nm ak al ao ap ar Z aw az aA J):=⟨(RE (w:=ad.drew)<|ab.g.block H O a7).trans a6.1,(RE (w:=ad.drew)<|ab.g.block H O a7).trans a6.2.1,(RE (w:=ad.drew)<|ab.g.block H O a7).trans a6.2.2.1,(RE (w:=ad.drew)<|ab.g.block H O a7).trans a6.2.2.2.1,(RE (w:=ad.drew)<|ab.g.block H O a7).trans a6.2.2.2.2.1,(RE (w:=ad.drew)<|ab.g.block H O a7).trans a6.2.2.2.2.2.1,(RE (w:=ad.drew)<|ab.g.block H O a7).trans a6.2.2.2.2.2.2.1,(RE (w:=ad.drew)<|ab.g.block H O a7).trans a6.2.2.2.2.2.2.2.1,(RE (w:=ad.drew)<|ab.g.block H O a7).trans a6.2.2.2.2.2.2.2.2⟩;have bg:=Ta ab O a7;have bi:=N1 O ab.size;have b4:Hid<|LS w0 W J v bp n xs bB (.mk k m u g o rL d ks) h<|bq++BT nm:=bC.out.app ab (BT nm) (by rw[<-R9];exact de) (by rw[Hx]);have dg:Hid (cL 97 #[bp,Ba ak al ao ap ar aw az aA Z] J λe w'=>∃a8,e=.returned a8/\w'.ownsRow w0.heap.size 5 1 a8 (n+(bq++BT nm).length+cl.length) (xs++bc (bq++BT nm)++bc cl)/\Gr J w' bp a8):=dr.out J bp _ _ b4.out.low b4.out.row (by rw[N6,Hx];omega))|(go_at_call 97;go_call dg.out as e w7 ⟨v7,rfl,hrow7,g7⟩;have eX:(TF H nm ak al ao ap ar Z aw az aA w7):=⟨(RE (w:=J)<|g7.g.block H bi bg).trans bf.1,(RE (w:=J)<|g7.g.block H bi bg).trans bf.2.1,(RE (w:=J)<|g7.g.block H bi bg).trans bf.2.2.1,(RE (w:=J)<|g7.g.block H bi bg).trans bf.2.2.2.1,(RE (w:=J)<|g7.g.block H bi bg).trans bf.2.2.2.2.1,(RE (w:=J)<|g7.g.block H bi bg).trans bf.2.2.2.2.2.1,(RE (w:=J)<|g7.g.block H bi bg).trans bf.2.2.2.2.2.2.1,(RE (w:=J)<|g7.g.block H bi bg).trans bf.2.2.2.2.2.2.2.1,(RE (w:=J)<|g7.g.block H bi bg).trans bf.2.2.2.2.2.2.2.2⟩;have dj:Hid<|LS w0 W w7 v v7 n xs bB (.mk k m u g o rL d ks) h<|(bq++BT nm)++cl:=b4.out.app g7 cl (by rw[<-R9];exact hrow7) rfl))
         all_goals
          have dk:Hid<|R=((bq++BT nm)++cl)++DC (ks.drop<|be+1):=by show _=_;rw[a1.out];simp only[R9]
          go_wp2;go_roundw
          case rel=>exact⟨be+1,_,by omega,by go_num,dk,dj⟩
          case measure=>simp[intOf];omega
        .have e0:decide ((be:Int)<(ks.length:Int))=false:=NM oM
         have a1:Hid<|R=bq:=by show _=_;rw[bd.out,R8 oM];simp[DC]
         go_wp2;go_ret;refine⟨_,rfl,?_,I.gr⟩;rw[a1.out];exact I.row
theorem Ye{up G:Bool}{k m u g:Int}{o:Bool}{rL:List Kv}{d:BA}{ks:Ay}(h:EQ up G (.mk k m u g o rL d ks)=0):(1<=k/\k<=3)/\(0<=m/\m<=4095)/\(0<=u/\u<=65535)/\(0<=g/\g<=65535):=by grind [EQ,DT]
mutual
theorem XK(up:Bool):∀(x:Nd) (G H:Nat),(DA up x G H).1=0->AI x->cnt x<=1000->Lq x
 |.mk k m u g o rL d ks,G,H,h,hl,hc=>by
  rw[DA]at h;split at h
  .simp at h
  split at h
  .rename_i h2;exact absurd h h2
  rename_i h1 h2;obtain⟨a,b,c,e⟩:=Ye<|Decidable.not_not.1 h2;rw[AI]at hl;rw[cnt]at hc;have O:=JV ks;obtain⟨Z,I⟩:=hl.1;rw[Lq];exact⟨by omega,by omega,c,e,⟨by omega,λr J=>by have:=I r J;omega⟩,by omega,by omega,Xp up none ks (G+1) (H+1) h hl.2.2 oM⟩
theorem Xp(up:Bool):∀(p:Option BA) (l:Ay) (G H:Nat),(Dw up p l G H).1=0->Co l->cntL l<=1000->KZ l
 |p,[],G,H,h,hl,hc=>by rw[KZ];trivial
 |p,(n,x)::l,G,H,h,hl,hc=>by
  rw[Dw]at h;split at h
  .simp at h
  split at h
  .simp at h
  split at h
  .rename_i h2;exact absurd h h2
  rename_i h1 h2 h3;rw[Co]at hl;rw[cntL]at hc;rw[KZ];exact⟨by show n.size<=1000;omega,XK up x G H (Decidable.not_not.1 h3) hl.2.1 oM,Xp up (some n) l G _ h hl.2.2 oM⟩
end
theorem qt{up:Bool}(h:Dj up x=0)(G:AI x)(H:cnt x<=1000):Lq x:=by
 obtain⟨k,m,u,g,o,rL,d,ks⟩:=x;grind [Dj,XK]
def DS(l:List UInt8):BA:=⟨l.toArray⟩
theorem Jo(l:List UInt8):(DS l).size=l.length:=by simp[DS,ByteArray.size]
theorem Sb{base:Nat}{l:List UInt8}(G:w.ownsRow base 5 1 v n<|bc l)(H:n=l.length)(ab:0<n):(convert 102 9 v).run prog w=.ok (.string<|DS l) w:=by
 subst H;obtain⟨a,cap,rfl,_,_,I⟩:=Ev G;rcases I with⟨_,e,_⟩|⟨g,rfl,_,_,J,_⟩
 .omega
 .have:=Lib.run_convert_whole (P:=prog) w 102 5 9 underlying102 underlying5 underlying9 g 0 (DS l) (λi O=>by
   rw[RT];refine J i _ ?_;have Z:i<l.length:=by rwa [Jo]at O
   simp[bc,DS,NA Z];rfl) cap
  rwa [Jo]at this
theorem oB(x:Nd):0<(Cy x).length:=by
 obtain⟨k,m,u,g,o,rL,d,ks⟩:=x;rw[Cy];simp
def FM(x:Nd):BA:=if Dj true x=0 then DS (Cy x)else⟨#[]⟩
theorem pJ{G:Value}(h:Gr w w' (nL) G):Below w.heap.size w w':=⟨h.g.os,h.g.tape,h.g.output,h.g.size,λk H=>h.g.block k H (by simp[Value.ownBlock])⟩
theorem Rf(a1:Am w.cell? x h)(a6:AI x)(a7:cnt x<=1000)(a8:(Cy x).length<=60000000):
 Calls prog 59 #[At x h] w λe w'=>e=.returned (.tuple #[.string<|FM x,Ao<|Dj true x])/\Below w.heap.size w w':=by
 have ad:=hid a6;have ak:=hid a7;have al:=hid a1;obtain⟨F,H⟩:=Aq<|Dj true x;obtain⟨B,ao⟩:=Aq<|FM x;obtain⟨Y,I⟩:=Aq<|Cy x;have ap:=oB x;have ba:=a8;rw[I.out]at ap ba;rw[ao.out,H.out];have bb:∀G:World,Below w.heap.size w G->Hid (cL 57 #[At x h,.bool true] G λe bd=>e=.returned (Ao F)/\Below G.heap.size G bd):=λG hb=>by
  have:=Oq true (al.ab hb) ad (by have:=ak.out;omega);rw[H.out]at this;exact this
 have be:F=0->∀G:World,Below w.heap.size w G->Hid (cL 97 #[nL,At x h] G λe w'=>∃J,e=.returned J/\w'.ownsRow G.heap.size 5 1 J Y.length (bc Y)/\Below G.heap.size G w'):=λhF G hb=>by
  go_call mL (al.ab hb) G nL 0 [] (qt (H.trans hF) ad (by have:=ak.out;omega)) (NB _ _) (CZ _ _ _ _) (by rw[I.out];omega) as e w' ⟨J,rfl,h1,h2⟩
  rw[I.out,RT,CN]at h1;exact⟨J,rfl,h1,pJ h2⟩
 have bf:=hid bb;have bg:=hid be;have ar:Hid (B=if F=0 then DS Y else⟨#[]⟩):=by show _=_;rw[<-ao.out,FM,H.out,I.out]
 obtain⟨k,m,u,g,o,rL,d,ks⟩:=x;have aw:=Cm.new w k m u g o rL d ks h;have Z:Below w.heap.size w<|w.alloc<|Aw k m u g o rL d ks h:=bN;show cL 59 #[(Ba k m u g o rL d ks h)] _ _;go_enter func59,ntmps59;have bi:=aw;obtain⟨bk,bl,bn,bo,bp,bq,bs,bu⟩:=bi;go_wp2_with fail
 refine rQ (bf _ Z).out ?_;rintro e bx ⟨rfl,az⟩;have bA:=aw.below az;have O:=Z.trans<|az.mono Z.size;by_cases hF:F=0
 .rw[DE hF]
  have ab:B=DS Y:=by rw[ar.out,NS hF]
  have bB:=bg.out hF bx O;have aA:Hid<|F=0/\B=DS Y:=⟨hF,ab⟩;obtain⟨bk,bl,bn,bo,bp,bq,bs,bu⟩:=bA;go_wp2_with fail
  go_call bB as e w4 ⟨v4,rfl,hrow,hB4⟩
  have bF:=Sb hrow rfl ap;go_wp2;go_ret2;exact⟨by rw[aA.out.2,aA.out.1];rfl,O.trans<|hB4.mono O.size⟩
 .have ab:B=⟨#[]⟩:=by rw[ar.out,NO hF]
  rw[AP rfl hF];have bC:=hid hF;go_wp2;go_ret2;exact⟨by rw[ab,AP rfl bC.out];rfl,O⟩
theorem Xj:∀{l:List Kv},(∀r∈l,r.n.size<=255/\r.v.size<=255)->(EJ l).length<=l.length*512
 |[],_=>by simp[EJ]
 |r::l,h=>by
  have H:=h r<|N4 ..;have I:=Xj (l:=l) λq G=>h q<|R4 _ G;rw[EJ]
  simp only[N6,R5,Hx];omega
mutual
theorem LI:∀(x:Nd),AI x->(Cy x).length+256<=cnt x*140000
 |.mk k m u g o rL d ks,hl=>by
  rw[AI]at hl;have G:=Xj hl.1.2;have H:=Wh ks hl.2.2;have I:=hl.1.1;have J:=hl.2.1;rw[Cy,cnt];simp only[N6,R5,Hx,Oe];omega
theorem Wh:∀(l:Ay),Co l->(DC l).length<=cntL l*140000
 |[],_=>by simp[DC]
 |(n,x)::l,hl=>by
  rw[Co]at hl;have G:=LI x hl.2.1;have H:=Wh l hl.2.2;have I:=hl.1;rw[DC,cntL];simp only[N6,Hx];omega
end
theorem Rv(G:(Cy x).length<=60000000):(FM x).size<=60000000:=by
 unfold FM;split
 .rw[Jo];exact G
 .show(0:Nat)<=_;omega
theorem ii(J:Am w.cell? x h)(O:AI x)(Z:cnt x<=1000)(H:(Cy x).length<=60000000):
 Calls prog 32 #[At x h] w λe w'=>e=.returned (iN (FM x).size)/\Below w.heap.size w w':=by
 have a8:=Rv H;have ab:∀G:World,Below w.heap.size w G->Hid (cL 59 #[At x h] G λe ak=>e=.returned (.tuple #[.string<|FM x,Ao<|Dj true x])/\Below G.heap.size G ak):=λG hb=>Rf (J.ab hb) O Z H;have ad:Hid _:=ab
 clear ab J O Z H;generalize FM x=B at*;generalize Ao (Dj true x)=ba at*;obtain⟨k,m,u,g,o,rL,d,ks⟩:=x;have al:=Cm.new w k m u g o rL d ks h;have I:Below w.heap.size w<|w.alloc<|Aw k m u g o rL d ks h:=bN;show cL 32 #[(Ba k m u g o rL d ks h)] _ _;go_enter func32,ntmps32;obtain⟨ao,ap,ar,aw,az,aA,a1,a6⟩:=al;go_wp2_with fail
 refine rQ (ad _ I).out ?_;rintro e bb ⟨rfl,a7⟩;clear ao ap ar aw az aA a1 a6 ad;go_wp2;go_ret;exact⟨rfl,I.trans<|a7.mono I.size⟩
def EP(x:Nd):Int:=((FM x).size+63) / 64
theorem Oh(J:Am w.cell? x h)(O:AI x)(Z:cnt x<=1000)(H:(Cy x).length<=60000000):
 Calls prog 12 #[At x h] w λe w'=>e=.returned (iN<|EP x)/\Below w.heap.size w w':=by
 have ba:=Rv H;have ak:Hid<|EP x=(((FM x).size:Int)+63) / 64:=rfl;have ab:∀G:World,Below w.heap.size w G->Hid (cL 32 #[At x h] G λe al=>e=.returned (iN (FM x).size)/\Below G.heap.size G al):=λG hb=>ii (J.ab hb) O Z H;have ad:Hid _:=ab
 clear ab J O Z H;generalize(FM x).size=z at*;generalize EP x=b at*;obtain⟨k,m,u,g,o,rL,d,ks⟩:=x;have ao:=Cm.new w k m u g o rL d ks h;have I:Below w.heap.size w<|w.alloc<|Aw k m u g o rL d ks h:=bN;show cL 12 #[(Ba k m u g o rL d ks h)] _ _;go_enter func12,ntmps12;obtain⟨ap,ar,aw,az,aA,a1,a6,a7⟩:=ao;go_wp2_with fail
 refine rQ (ad _ I).out ?_;rintro e bb ⟨rfl,a8⟩;clear ap ar aw az aA a1 a6 a7 ad;go_wp2;go_ret;have e:b=((z:Int)+64-1) / 64:=by rw[ak.out];omega
 exact⟨by rw[e];rfl,I.trans<|a8.mono I.size⟩
structure DF (n:Nat) (V:Nd):Prop where
 lil:AI V
 ids:A0 V
 cnt:Go.Proofs.YtchpdmjlicmdaaaGreatDoor.cnt V<=n
theorem XI{R:Except Int Nd}(G:∀f,R=.error f->f≠0)(h:Gl R=0):∃V,R=.ok V:=by
 cases R with
 |ok V=>exact⟨V,rfl⟩
 |error f=>exact absurd h (G f rfl)
theorem mD(G:∀s∈ry,Bf s=true)(h:(Cx us gs x0 rM ry).1=0):Gb us gs (x0::rM) ry x0=.ok (Cx us gs x0 rM ry).2:=by
 unfold Cx IK at h⊢
 obtain⟨V,H⟩:=XI (λf I=>by
  rcases(gh λ_ _ i J=>G _<|List.getElem_mem J).2 f I with e|e
  .rw[e];decide
  .rw[e];decide) h
 rw[H];rfl
theorem Y8{c:Option Nd}(h:(IK (A3 c ry x0) x0).1=0):A3 c ry x0=.ok (IK (A3 c ry x0) x0).2:=by
 unfold IK at h⊢;obtain⟨V,G⟩:=XI (λf H=>by have:=(iF H).1;omega) h;rw[G];rfl
theorem jP:∀{ks:Ay},CJ ks->CJ (Gn m ks):=by intro ks;induction ks<;>grind [CJ,Gn]
theorem Kx{ks:Ay}:A0 (x.with ks)↔A0 (x.with [])/\CJ ks:=by
 obtain⟨k,m,u,g,o,rL,d,G⟩:=x;grind [Nd.with,A0,CJ]
theorem YD{y:Nd}:∀{ks:Ay},CJ ks->fk m ks=some y->A0 y:=by intro ks;induction ks<;>grind [CJ,fk]
theorem iH{z:Nd}(G:A0 z):∀{ks:Ay},CJ ks->CJ (C9 m z ks):=by intro ks;induction ks<;>grind [CJ,C9]
theorem Ym:∀{l:List BA} {n r:Nd},A3 none l n=.ok r->A0 n->A0 r
 |[],n,r,h,_=>by rw[A3]at h;cases h
 |[m],n,r,h,hi=>by
  rw[KD]at h;by_cases G:n.kind=2
  .rw[NO (by simp[G])]at h
   simp only[GF]at h;split at h
   .cases h
   injection h with h
   subst h;rw[<-Nd.eta n]at hi;exact Kx.2 ⟨(Kx.1 hi).1,jP (Kx.1 hi).2⟩
  .rw[NS G]at h;cases h
 |m::I::N,n,r,h,hi=>by
  rw[LW]at h;by_cases G:n.kind=2
  .rw[NO (by simp[G])]at h
   cases hf:fk m n.kids with
   |none=>rw[hf]at h;cases h
   |some y=>
    rw[hf]at h;dsimp only at h;cases hy:A3 none (I::N) y with
    |error f=>rw[hy]at h;cases h
    |ok z=>
     rw[hy]at h;have h:Except.ok (n.with<|C9 m z n.kids)=Except.ok r:=h;injection h with h
     subst h;rw[<-Nd.eta n]at hi;have H:=(Kx.1 hi).2;exact Kx.2 ⟨(Kx.1 hi).1,iH (Ym hy<|YD H hf) H⟩
  .rw[NS G]at h;cases h
theorem Rq:∀{l:List BA} {x y:Nd},Ct l x=some y->AI x->A0 x->AI y/\A0 y/\cnt y<=cnt x
 |[],x,y,h,h1,h2=>by rw[Ct]at h;cases h;exact⟨h1,h2,rP _⟩
 |m::l,x,y,h,h1,h2=>by
  have H:=(WJ h).2;rw[Pr]at h;by_cases G:x.kind=2
  .rw[NO (by simp[G])]at h
   cases hf:fk m x.kids with
   |none=>rw[hf]at h;cases h
   |some z=>
    rw[hf]at h;rw[<-Nd.eta x]at h1 h2;obtain⟨a,b,_⟩:=Rq h (Sr (Jp.1 h1).2 hf)<|YD (Kx.1 h2).2 hf;exact⟨a,b,H⟩
  .rw[NS G]at h;cases h
theorem DF.up(G:∀s∈ry,Bf s=true)(H:∀x∈rM,AI x)(h:DF n x0)(I:(Cx us gs x0 rM ry).1=0):DF (n+ry.length) (Cx us gs x0 rM ry).2:=by
 have J:=mD G I
 obtain⟨a,b,c⟩:=pZ (λx hx=>by
  rcases R1.1 hx with rfl|hx
  .exact h.lil
  .exact H x hx) h.lil h.ids J
 exact⟨a,b,by have:=h.cnt;omega⟩
theorem DF.put{z:Nd}{k:Nat}(h:DF n x0)(I:AI z)(J:A0 z)(Z:Go.Proofs.YtchpdmjlicmdaaaGreatDoor.cnt z<=k)(G:(DJ z ry x0).1=0):DF (n+k) (DJ z ry x0).2:=by
 unfold DJ at G⊢;by_cases O:ry=[]
 .subst O
  rw[NS rfl];exact⟨I,J,by show Go.Proofs.YtchpdmjlicmdaaaGreatDoor.cnt z<=_;omega⟩
 .rw[NO O]at G⊢
  have H:=Y8 G
  exact⟨Sj H I h.lil,XZ H J h.ids,by
   have:=Nk H;have e:Jz (some z)=Go.Proofs.YtchpdmjlicmdaaaGreatDoor.cnt z:=rfl;have:=h.cnt;omega⟩
theorem DF.remove(_hne:ry≠[])(J:∀s∈ry,Bf s=true)(O:∀x∈rM,AI x)(h:DF n x0)(G:(EW us gs x0 rM ry).1=0):DF (n+ry.length+1) (EW us gs x0 rM ry).2:=by
 have Z:∀s∈ry.dropLast,Bf s=true:=λs ab=>J s<|List.dropLast_subset _ ab;unfold EW at G⊢
 by_cases I:(Cx us gs x0 rM ry.dropLast).1=0
 .rw[NS I]at G⊢
  have hF:=h.up Z O I;rw[tF]at hF;have hF:DF (n+ry.length) (Cx us gs x0 rM ry.dropLast).2:=⟨hF.lil,hF.ids,by have:=hF.cnt;omega⟩;generalize(Cx us gs x0 rM ry.dropLast).2=V at*;by_cases hb:G5 (V::rM) ry=true
  .rw[NS hb]at G⊢
   exact hF.put (by simp[N0,AI,Co];decide) (by simp[N0,A0,CJ];exact⟨by decide,by decide⟩) (rP 1) G
  .rw[NO hb]at G⊢
   have H:=Y8 G;refine⟨YE H hF.lil,Ym H hF.ids,?_⟩;have:=Nk H;have e:Jz (none:Option Nd)=0:=rfl;have:=hF.cnt;omega
 all_goals grind
def JB(s:Int×Nd)(k:Nd->Int×Nd):Int×Nd:=if s.1=0 then k s.2 else s
def Hm(us gs:List Rg)(x0:Nd)(rM:List Nd)(ry:List BA)(G:Nd->Nd):Int×Nd:=JB (Cx us gs x0 rM ry) λV=>DJ (G<|(Ct ry V).getD zN) ry V
def fin(q:Int)(x0:Nd)(r:Int×Nd):Int×Nd:=if r.1≠0 then(r.1,x0)else if Dj true r.2≠0 then(Dj true r.2,x0)else if q<EP r.2 then(12,x0)else(0,r.2)
theorem Jw{E:Int}(h:E≠0)(e:fin q x0 (E,Y)=(a,b)):a=E/\b=x0:=by grind [fin]
theorem qM(h:Dj true Y≠0)(e:fin q x0 (0,Y)=(a,b)):a=Dj true Y/\b=x0:=by grind [fin]
theorem qR(h:Dj true Y=0)(G:q<EP Y)(e:fin q x0 (0,Y)=(a,b)):a=12/\b=x0:=by grind [fin]
theorem qI(h:Dj true Y=0)(G:¬q<EP Y)(e:fin q x0 (0,Y)=(a,b)):a=0/\b=Y:=by grind [fin]
theorem py(x:Nd)(h:Hd)(o:Nat)(v:Value)(G:(Bq x h)[o]? =some v):((∃s,v=.string s)->o%8=6)/\(o%8=7->¬IC v):=by
 obtain⟨k,m,u,g,H,rL,d,ks⟩:=x;have I:o<8:=by
  grind [Fb]
 rcases(by omega:o=0\/o=1\/o=2\/o=3\/o=4\/o=5\/o=6\/o=7)with q|q|q|q|q|q|q|q<;>subst q<;>simp[Bq]at G<;>subst G<;>simp[IC]
theorem YQ:∀(L:List Fl) (o:Nat) (v:Value),(BK L)[o]? =some v->((∃s,v=.string s)->o%8=6)/\(o%8=7->¬IC v)
 |[],o,v,h=>by simp[BK]at h
 |f::r,o,v,h=>by
  rw[BK]at h;by_cases G:o<8
  .rw[C5 (by rw[Fb];omega)]at h
   exact py _ _ _ _ h
  .rw[CG (by rw[Fb];omega),Fb]at h
   have:=YQ r (o-8) v h;rwa [show(o-8)%8=o%8 by omega]at this
abbrev IJ:Value:=GK
theorem qK(k o:Nat)(v:Value)(h:(Builtin.zeroCells IJ.cells k)[o]? =some v):((∃s,v=.string s)->o%8=6)/\(o%8=7->¬IC v):=by
 have e:IJ.cells=#[iN 0,iN 0,iN 0,iN 0,.bool false,nL,.string ⟨#[]⟩,nL]:=rfl;rw[e]at h;unfold Builtin.zeroCells at h;rw[Array.getElem?_map]at h;obtain⟨a,G,rfl⟩:=R2.1 h;have ea:o=a:=by
  rw[N3]at G;obtain⟨J,H⟩:=G;rw[Array.getElem_range]at H;exact H
 subst ea;have I:o%8<8:=by omega
 show((∃s,(#[iN 0,iN 0,iN 0,iN 0,.bool false,nL,.string ⟨#[]⟩,nL]:Array Value)[o%8]! =.string s)->o%8=6)/\(o%8=7->¬IC (#[iN 0,iN 0,iN 0,iN 0,.bool false,nL,.string ⟨#[]⟩,nL]:Array Value)[o%8]!);generalize o%8=q at I;rcases(by omega:q=0\/q=1\/q=2\/q=3\/q=4\/q=5\/q=6\/q=7)with e|e|e|e|e|e|e|e<;>subst e<;>simp[IC]
theorem dK(b I cap:Nat)(L:List Fl)(bo:0<L.length)(bp:L.length<=1000)(ba:∀j u,(BK L)[j]? =some u->Ce w b (I+j) u):
 Calls prog 254 #[sL b I L.length cap] w λe w'=>(∃G H,e=.returned (sL G 0 L.length H)/\(L.length<=H/\H<=9223372036854775807)/\w.heap.size<=G/\(∀j u,(BK L)[j]? =some u->Ce w' G j u)/\Dn w'.cell? G/\∀o,w'.frozen? (aD G o)=false)/\Bw w w':=by
 have bq:=λ(W:World) (n c:Nat)=>tt (P:=prog) W 115 31 (some<|aD b I) n c 0 0 underlying115;obtain⟨ao,bb,bd,be,bf⟩:=EL Tryz.infoNd
 have O:Bw w<|w.alloc<|.cells #[] 31:=(NB _ _).alloc (rP _) _;have bg:Src prog ao.size 115 (sL b I L.length cap) L.length (BK L)<|w.alloc<|.cells #[] 31:=by
  rw[be];exact Src.ofSlice _ underlying115 (aD b I) L.length cap (BK L) (Pw L) (λj u J=>by rw[Addr.add_lit];exact Aj O<|ba j u J)<|mI L
 have ap:∀ak,(Builtin.append_ #[115,115] ak #[sL w.heap.size 0 0 0,sL b I L.length cap]).run prog (w.alloc<|.cells #[] 31)=_:=λak=>run_append_grow_src _ 115 115 ak 31 ao IJ underlying115 bb bd (some<|aD w.heap.size 0) 0 0 [] (run_firstCells_some _ _ 0 (aD w.heap.size 0) 0 0 [] oS (λj u J=>by simp at J)) _ L.length (BK L) bg oM oM (by rw[nextslicecap_zero oM,bf];omega);have bi:0+L.length<=grownCap (w.alloc<|.cells #[] 31) (0+L.length) 0 31:=grownCap_ge _ _ 0 31
 have al:grownCap (w.alloc<|.cells #[] 31) (0+L.length) 0 31<=maxLen:=grownCap_le_maxLen _ _ 0 31 (by unfold maxLen;omega);generalize grownCap (w.alloc<|.cells #[] 31) (0+L.length) 0 31=c at ap bi al;have ar:∀o,((w.alloc<|.cells #[] 31).drew.alloc<|.cells (([]++BK L).toArray++Builtin.zeroCells IJ.cells (c-(0+L.length))) 31).cell? ⟨(w.alloc<|.cells #[] 31).heap.size,o,none⟩=(([]++BK L).toArray++Builtin.zeroCells IJ.cells (c-(0+L.length)))[o]?:=λo=>rO _ _ _ _ rfl;have aw:∀o,((w.alloc<|.cells #[] 31).drew.alloc<|.cells (([]++BK L).toArray++Builtin.zeroCells IJ.cells (c-(0+L.length))) 31).frozen? ⟨(w.alloc<|.cells #[] 31).heap.size,o,none⟩=false:=λo=>RB _ _ _ _ rfl
 have bk:Bw w<|(w.alloc<|.cells #[] 31).drew.alloc<|.cells (([]++BK L).toArray++Builtin.zeroCells IJ.cells (c-(0+L.length))) 31:=(O.drew).alloc O.size _;have az:w.heap.size<=(w.alloc<|.cells #[] 31).heap.size:=O.size;have aA:∀j u,(BK L)[j]? =some u->((w.alloc<|.cells #[] 31).drew.alloc<|.cells (([]++BK L).toArray++Builtin.zeroCells IJ.cells (c-(0+L.length))) 31).cell? ⟨(w.alloc<|.cells #[] 31).heap.size,j,none⟩=some u:=λj u J=>by
  have bl:=(NE.1 J).1;rw[ar,Array.getElem?_append_left (by simpa using bl)];simpa using J
 have a1:∀o v,(([]++BK L).toArray++Builtin.zeroCells IJ.cells (c-(0+L.length)))[o]? =some v->((∃s,v=.string s)->o%8=6)/\(o%8=7->¬IC v):=λo v Z=>by
  rcases Nat.lt_or_ge o (BK L).length with ab|ab
  .rw[Array.getElem?_append_left (by simpa using ab)]at Z
   exact YQ L o v (by simpa using Z)
  .rw[Array.getElem?_append_right (by simpa using ab)]at Z
   have:=qK _ _ v Z;have el:([]++BK L).toArray.size=L.length*8:=by simp[Pw]
   rw[el,show(o-L.length*8)%8=o%8 by rw[Pw]at ab;omega]at this;exact this
 have a6:Dn ((w.alloc<|.cells #[] 31).drew.alloc<|.cells (([]++BK L).toArray++Builtin.zeroCells IJ.cells (c-(0+L.length))) 31).cell? (w.alloc<|.cells #[] 31).heap.size:=λo s v a7 a8=>by
  rw[ar]at a7 a8;have bs:=(a1 _ _ a7).1 ⟨s,rfl⟩;exact(a1 _ _ a8).2 oM
 generalize bu:((w.alloc<|.cells #[] 31).drew.alloc<|.cells (([]++BK L).toArray++Builtin.zeroCells IJ.cells (c-(0+L.length))) 31)=ad at*;unfold maxLen at al;simp only[ND]at aA a6 aw az;have bn:Hid ((∃G H,Ending.returned (sL (w.heap.size+1) 0 L.length c)=.returned (sL G 0 L.length H)/\(L.length<=H/\H<=9223372036854775807)/\w.heap.size<=G/\(∀j u,(BK L)[j]? =some u->Ce ad G j u)/\Dn ad.cell? G/\∀o,ad.frozen? (aD G o)=false)/\Bw w ad):=⟨⟨_,c,rfl,⟨by omega,al⟩,az,aA,a6,aw⟩,bk⟩;go_enter func254,ntmps254;go_wp2_with (at_builtin;refine Lib.wpList_append_run _ rfl _ _ _ _ rfl _ _ rfl rfl _ _ (ap _) ?_)
 go_wp2;go_ret;exact bn
theorem XQ{c:Option Nd}{l:List BA}{r:Nd}(G:AI x0)(H:∀x,c=some x->AI x)(I:cnt x0+Jz c<=1000)(h:A3 c l x0=.ok r):A7 r/\cnt r<=1000:=by
 have J:=Nk h;have O:AI r:=by
  cases c with
  |none=>exact YE h G
  |some x=>exact Sj h (H x rfl) G
 grind [Id]
theorem OS{H:Nat}(h:BQ w0 w H G lc M x0 rM)(ab:G9 n x0 rM)(c3:n<=400){hd:Hd}(bp:Am w.cell? x hd)(hx:AI x)(c4:cnt x<=400)(bq:Bi w0.cell? an ry)(c5:ry.length<=500)(bs:ry.length<=rN/\rN<=9223372036854775807):
 Calls prog 178 #[pO H 0,.slice an ry.length rN,At x hd] w λe w'=>e=.returned (Ao (DJ x ry x0).1)/\BQ w0 w' H G lc M (DJ x ry x0).2 rM/\Az G w w':=by
 obtain⟨k,m,u,g,o,rL,d,ks⟩:=x;have ao:=AC.new w k m u g o rL d ks hd;have J:Bw w<|w.alloc<|Aw k m u g o rL d ks hd:=(NB _ _).alloc (rP _) _;have ap:=h.below J;have ar:=bp.on<|Ai J;have bu:w.heap.size≠G:=by have:=h.ltn;omega
 have bx:Hid _:=J;show Calls prog 178 #[pO H 0,.slice an ry.length rN,(Ba k m u g o rL d ks hd)] w _;obtain⟨P,I⟩:=Aq<|DJ (.mk k m u g o rL d ks) ry x0;rw[I.out];unfold DJ at I;by_cases O:ry=[]
 .have bA:Hid (Calls prog 222 #[pO H 0,(Ba k m u g o rL d ks hd),.nilIface] (w.alloc<|Aw k m u g o rL d ks hd) λe w'=>e=.returned (.nilIface)/\BQ w0 w' H G lc M (.mk k m u g o rL d ks) rM/\Az G (w.alloc<|Aw k m u g o rL d ks hd) w'):=by
   have e:=O5 ap ar 0;rw[NS rfl]at e;exact e
  have bB:Hid<|P=(0,.mk k m u g o rL d ks):=by show P=_;rw[<-I.out,NS O]
  rw[bB.out];subst O;obtain⟨aw,az,aA,a1,a6,a7,a8,ba⟩:=ao.1;go_enter func178,ntmps178;go_wp2_with fail
  go_call bA as e w2 ⟨rfl,s2,b2⟩
  have bC:=hid s2;have bF:=hid<|(Az.of_below bx).trans b2;go_wp2;go_ret;exact⟨rfl,bC,bF⟩
 .rw[NO O]at I
  have ad:Bw (w.alloc<|Aw k m u g o rL d ks hd) (w.alloc<|Aw k m u g o rL d ks hd).drew:=(NB _ _).drew;have Z:=ap.below ad;have bG:=hid<|bq.on<|Ai Z.base;have bb:=ao.below ad;have bH:=hid bb;have bY:=hid<|ar.on<|Ai ad;have b0:=hid<|IU Z.c2 Z.lay;have b1:=hid Z;have bd:=hid J.drew;obtain⟨R,be⟩:=Aq<|A3 (some<|.mk k m u g o rL d ks) ry x0;have b4:Hid (∀r,A3 (some<|.mk k m u g o rL d ks) ry x0=.ok r->A7 r/\cnt r<=1000):=λr b6=>XQ ab.lil (λy ak=>by injection ak with ak;subst ak;exact hx) (by have e:Jz (some (.mk k m u g o rL d ks:Nd))=cnt (.mk k m u g o rL d ks):=rfl;have:=ab.cnt;omega) b6;have b7:Hid<|cnt x0<=800:=by have:=ab.cnt;show _<=_;omega
  have b9:Hid<|P=(Gl R,if Gl R=0 then E5 R else x0):=by show P=_;rw[<-I.out,be.out];rfl
  rw[b9.out];obtain⟨bf,al⟩:=Aq<|(if Gl R=0 then E5 R else x0);rw[al.out];obtain⟨N,bg⟩:∃N,ry.length=N+1:=⟨ry.length-1,by have:=CC.2 O;omega⟩;rw[bg];have ce:=hid bg;have cf:=hid bs;have ch:Hid<|ry.length<=1000:=by show _<=_;omega
  have c6:N8 (w.alloc<|Aw k m u g o rL d ks hd).drew w.heap.size k m u g o rL d ks hd:=by
   obtain⟨aw,az,aA,a1,a6,a7,a8,ba⟩:=bb.1;exact⟨aw,az,aA,a1,a6,a7,a8,ba⟩
  obtain⟨E,bi⟩:=Aq<|Gl R;rw[bi.out]at al⊢;go_enter func178,ntmps178;go_upto_region 3 with fail
  generalize(w.alloc<|Aw k m u g o rL d ks hd)=c8 at*;go_region_held3 (λw'=>N8 w' w.heap.size k m u g o rL d ks hd) (assumption) (first|(go_at_call 85;go_call b0.out as e w6 ⟨⟨h6,rfl,_,n6⟩,q6⟩;have bk:Hid<|AC w6 w.heap.size (.mk k m u g o rL d ks) hd:=bH.out.below q6;have c9:N8 w6 w.heap.size k m u g o rL d ks hd:=bk.out.1;have cl:Hid (Calls prog 229 #[At x0 h6,.slice an (N+1) rN,(Ba k m u g o rL d ks hd)] w6 λe bl=>(∃h',e=.returned (.tuple #[At (E5 R) h',Ao E])/\Am bl.cell? (E5 R) h')/\Bw w6 bl):=(by have e:=ll n6 an rN ry (bG.out.on<|Ai q6) ch.out cf.out b7.out (.mk k m u g o rL d ks) hd (bY.out.on<|Ai q6) b4.out;rw[be.out,ce.out]at e;unfold QC at e;rw[bi.out]at e;exact e);have co:Hid<|BQ w0 w6 H G lc M x0 rM:=b1.out.below q6;have bn:Hid<|Bw w w6:=bd.out.trans<|q6.mono bd.out.size)|(go_at_call 229;go_call cl.out as e w7 ⟨⟨h7,rfl,n7⟩,q7⟩;have bo:Hid<|AC w7 w.heap.size (.mk k m u g o rL d ks) hd:=bk.out.below q7;have da:N8 w7 w.heap.size k m u g o rL d ks hd:=bo.out.1;have cr:Hid (Calls prog 222 #[pO H 0,At (E5 R) h7,Ao E] w7 λe w'=>e=.returned (Ao E)/\BQ w0 w' H G lc M bf rM/\Az G w7 w'):=(by have e:=O5 (co.out.below q7) n7 E;rw[al.out]at e;exact e);have cx:Hid<|Bw w w7:=bn.out.trans<|q7.mono bn.out.size)|(go_at_call 222;go_call cr.out as e w8 ⟨rfl,s8,b8⟩;have dd:N8 w8 w.heap.size k m u g o rL d ks hd:=(bo.out.but b8 bu).1;have cD:Hid<|BQ w0 w8 H G lc M bf rM:=s8;have cF:Hid<|Az G w w8:=(Az.of_below cx.out).trans b8))
  all_goals
   go_wp2;go_ret;exact⟨rfl,cD,cF⟩
theorem UA{H:Nat}(h:BQ w0 w H G lc M x0 rM)(bo:G9 n x0 rM)(aA:Bi w0.cell? an ry)(ak:ry≠[])(bp:n+ry.length<=399)(a1:ry.length<=rN/\rN<=9223372036854775807)(a6:(Cx M.us M.gs x0 rM ry.dropLast).1=0->G9 (n+ry.length) (Cx M.us M.gs x0 rM ry.dropLast).2 rM):
 Calls prog 169 #[pO H 0,.slice an ry.length rN] w λe w'=>e=.returned (Ao (EW M.us M.gs x0 rM ry).1)/\BQ w0 w' H G lc M (EW M.us M.gs x0 rM ry).2 rM/\Az G w w':=by
 have c5:ry.dropLast.length<=ry.length:=by rw[tF];omega
 have bq:Bi w0.cell? an ry.dropLast:=by
  rcases aA with e|⟨b,bs,bu,bx⟩
  .exact absurd e ak
  .refine .inr ⟨b,bs,bu,λi s J=>bx i s ?_⟩
   have c6:=(NE.1 J).1;rw[List.getElem?_dropLast]at J;split at J
   .exact J
   .cases J
 obtain⟨dl,a7⟩:=Aq<|ry.dropLast.length;have bA:Hid (Calls prog 175 #[.slice an ry.length rN] w λe w'=>e=.returned (.slice an dl rN)/\Bw w w'):=by
  have e:=Ra w an rN ry ak a1;rw[a7.out]at e;exact e
 have a8:∀I,Bw w I->Hid (Calls prog 174 #[pO H 0,.slice an dl rN] I λe w'=>e=.returned (Ao (Cx M.us M.gs x0 rM ry.dropLast).1)/\BQ w0 w' H G lc M (Cx M.us M.gs x0 rM ry.dropLast).2 rM/\Az G I w'):=λI hb=>by
  have e:=Nf (h.below hb) bo oM bq (rN:=rN) oM oM;rw[a7.out]at e;exact e
 obtain⟨F,O⟩:=Aq<|EW M.us M.gs x0 rM ry;rw[O.out];have hF:=O.out;unfold EW at hF;generalize Cx M.us M.gs x0 rM ry.dropLast=P at*;obtain⟨E,V⟩:=P;dsimp only at a8 a6 hF;have O:Hid _:=hF;have al:Hid _:=a1;have ba:=hid bp;have c8:=hid ak;have ao:=hid aA;have bB:Hid _:=a6;go_enter func169,ntmps169;go_wp2_with fail
 go_call bA as e I ⟨rfl,q2⟩
 have bC:=a8 I q2;go_wp2_with fail
 go_call bC as e w3 ⟨rfl,s3,b3⟩
 have ap:=hid<|(Az.of_below q2).trans b3;have bb:=hid s3;by_cases ar:E=0
 .subst ar
  have bd:=bB.out rfl;have bF:=bd.ok (by have:=ba.out;omega);have bG:=ao.out.on<|Ai s3.base;have c9:=ba.out;have da:=s3.c2;have bH:Hid (Calls prog 177 #[sL G 0 (rM.length+1) lc,.slice an ry.length rN] w3 λe w'=>e=.returned (.bool<|G5 (V::rM) ry)/\Bw w3 w'):=Rh (w:=w3) (S:=λ_=>false) (xs:=V::rM) (λ_ bY=>by cases bY) (by rw[Fe];exact s3.lay) (by rw[Fe];exact bG) bF oM al;have Z:Hid _:=bd;rw[show Ao 0=Value.nilIface from rfl];have hF:=O.out;rw[NS rfl]at hF;generalize G5 (V::rM) ry=b0 at*;have be:Hid _:=hF;go_wp2_with fail
  go_call bH as e w4 ⟨rfl,q4⟩
  have ab:=bb.out.below q4;cases b0 with
  |true=>
   have hF:=be.out;rw[NS rfl]at hF;have bf:=hid<|OS ab Z oM (x:=N0) (hd:=zH) (Cs.2 ⟨.inl rfl,⟨rP _,by decide⟩,⟨rP _,by decide⟩,.inl rfl⟩) (by unfold N0;rw[AI,Co];exact⟨⟨by decide,λr aw=>by cases aw⟩,by decide,trivial⟩) oD ao oM al;rw[hF]at bf;have az:=hid<|ap.then q4;go_wp2_with fail
   go_call bf as e w5 ⟨rfl,s5,b5⟩
   have b1:=hid s5;have b2:=hid<|az.trans b5;go_wp2;go_ret;exact⟨rfl,b1,b2⟩
  |false=>
   have hF:=be.out;rw[NO oD]at hF;have b4:Hid _:=hF;have b6:=hid<|IU ab.c2 ab.lay;have b7:=hid ab;have az:=hid<|ap.then q4;obtain⟨R,bg⟩:=Aq<|A3 none ry V;have b9:Hid (∀r,A3 none ry V=.ok r->A7 r/\cnt r<=1000):=λr aw=>XQ Z.lil (λy ce=>by cases ce) (by have e:Jz (none:Option Nd)=0:=rfl;have:=Z.out.cnt;omega) aw;have cf:Hid<|cnt V<=800:=by have:=Z.out.cnt;show _<=_;omega
   have ch:Hid<|ry.length<=1000:=by show _<=_;omega
   have ad:=b4.out;rw[bg.out]at ad;unfold IK at ad;obtain⟨E,bi⟩:=F;have bk:Hid<|Gl R=E:=RX Prod.fst ad;have cl:Hid<|(if E=0 then E5 R else V)=bi:=by
    have e:=RX Prod.snd ad;dsimp only at e;rw[bk.out]at e;exact e
   go_wp2_with fail
   go_call b6 as e w6 ⟨⟨h6,rfl,_,n6⟩,q6⟩
   have bl:=hid<|b7.below q6;have co:=hid<|az.then q6;have cr:Hid (Calls prog 223 #[At V h6,.slice an ry.length rN] w6 λe bn=>(∃h',e=.returned (.tuple #[At (E5 R) h',Ao E])/\Am bn.cell? (E5 R) h')/\Bw w6 bn):=by
    have e:=jv n6 an rN ry (ao.on<|Ai bl.base) ch al cf b9;rw[bg.out]at e;unfold QC at e;rw[bk.out]at e;exact e
   go_wp2_with fail
   go_call cr as e w7 ⟨⟨h7,rfl,n7⟩,q7⟩
   have cx:Hid (Calls prog 222 #[pO H 0,At (E5 R) h7,Ao E] w7 λe w'=>e=.returned (Ao E)/\BQ w0 w' H G lc M bi rM/\Az G w7 w'):=by
    have e:=O5 (bl.below q7) n7 E;rw[cl.out]at e;exact e
   have cD:=hid<|co.then q7;go_wp2_with fail
   go_call cx as e w8 ⟨rfl,s8,b8⟩
   have cF:=hid s8;have c3:=hid<|cD.trans b8;go_wp2;go_ret;exact⟨rfl,cF,c3⟩
 .have c4:=AP (n:=E) rfl ar
  have hF:=O.out;rw[NO ar]at hF;subst hF;rw[c4];go_wp2;go_ret;exact⟨rfl,bb,ap⟩
end Go.Proofs.YtchpdmjlicmdaaaGreatDoor
