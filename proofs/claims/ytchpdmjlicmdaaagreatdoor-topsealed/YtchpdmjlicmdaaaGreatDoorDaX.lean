/- Part: Da Db Dd De Hoa Hob Hoc Hod Hoe Hof Hog Hoh Hoi Hoj. -/
import Derived.Test.YtchpdmjlicmdaaaGreatDoorYzX
import Derived.Lib.BufferRead
set_option maxRecDepth 100000
set_option maxHeartbeats 16000000
namespace Go.Proofs.YtchpdmjlicmdaaaGreatDoor
open Go.RowKit Go.Proofs.Tryz
variable {W w w':World}{G H J b base cap db hb lb m n:Nat}{t:TypeId}{P:Program}{I L:Nat->Option Nat}{a:Option Addr}{zs:List Int}{D:DataW Unit}
def Nv(n:Int):Value:=if n=0 then .nilIface else .iface 101 (iN n)
theorem lw{n:Int}(h:n≠0):Nv n=.iface 101 (iN n):=NO h
def E7(G:Bool)(sz:Nat)(p n:Int):Int:=if G=true then 16 else if p<0\/n<0\/(sz:Int)-p<n then 1 else 0
def Fu(G n:Int):Int:=if G<0 then n else min n G
def Jb(G n:Int):Int:=if G<0 then G else G-min n G
def F7(s:BA)(p:Nat)(t:BA)(k:Nat):BA:=s.extract 0 p++t.extract 0 k++s.extract (p+k) s.size
structure Dk where
 s:BA
 cut:Int
 wr:Int
 off:Bool
def N5(c:Dk)(p:Int)(t:BA):Int:=if E7 c.off c.s.size p t.size=0 then(if Fu c.cut t.size<t.size then 16 else 0)else E7 c.off c.s.size p t.size
def Mr(c:Dk)(p:Int)(t:BA):Dk:=
 if E7 c.off c.s.size p t.size=0 then⟨F7 c.s p.toNat t (Fu c.cut t.size).toNat,Jb c.cut t.size,c.wr+Fu c.cut t.size,decide (Fu c.cut t.size<t.size)⟩else c
theorem pu(G:Int)(n:Nat)(_h:-1<=G):0<=Fu G n/\Fu G n<=n:=by
 unfold Fu;split<;>omega
theorem OP(s:BA)(p:Nat)(t:BA)(k:Nat)(G:k<=t.size)(H:p+k<=s.size):(F7 s p t k).size=s.size:=by grind [F7,ByteArray.size_extract]
theorem WH(s:BA)(p:Nat)(t:BA)(k:Nat):(F7 s p t k).data.toList=s.data.toList.take p++t.data.toList.take k++s.data.toList.drop (p+k):=by simp[F7,R3]
theorem nO{G:Bool}{sz:Nat}{p n:Int}(h:E7 G sz p n=0):G=false/\0<=p/\0<=n/\p+n<=sz:=by grind [E7]
structure KB (w:World) (db rb cap:Nat) (c:Dk):Prop where
 box:w.heap[db]? =some (.cells #[sL rb 0 c.s.size cap,iN c.cut,iN c.wr,.bool c.off] 104 (0,0))
 row:∃cur,w.heap[rb]? =some (.cells cur 5 (0,0))/\cur.size=cap/\cur.toList.take c.s.size=Lib.byteCells c.s.data.toList
 le:c.s.size<=cap
 hi:cap<=maxLen
 ne:db≠rb
theorem Cw{o:Obj}(h:w.heap[b]? =some o):b<w.heap.size:=by grind
theorem AG{i:Nat}{cs:Array Value}{v:Value}(h:w.heap[b]? =some (.cells cs t (0,0)))(G:cs[i]? =some v):w.cell? ⟨b,i,none⟩=some v:=by
 simp[World.cell?,h,G]
theorem Cr{cs:Array Value}(h:w.heap[b]? =some (.cells cs t (0,0)))(i:Nat):w.frozen? ⟨b,i,none⟩=false:=by
 simp[World.frozen?,h]
theorem KB.lt{c:Dk}(h:KB w db G cap c):db<w.heap.size/\G<w.heap.size:=by
 obtain⟨I,H,_⟩:=h.row;exact⟨Cw h.box,Cw H⟩
theorem KB.cells{c:Dk}(h:KB w db G cap c):
 w.cell? ⟨db,0,none⟩=some (sL G 0 c.s.size cap)/\w.cell? ⟨db,1,none⟩=some (iN c.cut)/\w.cell? ⟨db,2,none⟩=some (iN c.wr)/\w.cell? ⟨db,3,none⟩=some (.bool c.off)/\
   w.frozen? ⟨db,0,none⟩=false/\w.frozen? ⟨db,1,none⟩=false/\w.frozen? ⟨db,2,none⟩=false/\w.frozen? ⟨db,3,none⟩=false:=
 ⟨AG h.box rfl,AG h.box rfl,AG h.box rfl,AG h.box rfl,Cr h.box _,Cr h.box _,Cr h.box _,Cr h.box _⟩
theorem KB.bytes{c:Dk}(h:KB w db G cap c):Lib.Bytes w G 0 c.s:=by
 obtain⟨H,I,O,J⟩:=h.row;intro i Z;rw[RT];refine AG I ?_;have ab:c.s.data.toList.length=c.s.size:=by simp
 have:(H.toList.take c.s.size)[i]? =some (.int .u8 (c.s[i].toNat:Int)):=by
  rw[J,Lib.byteCells,R6];rw[NA oM];rfl
 grind
theorem KB.mv{S:Nat->Prop}{c:Dk}(h:KB w db G cap c)(hb:Mv S w w')(H:¬S db)(I:¬S G):KB w' db G cap c:=by
 obtain⟨J,O⟩:=h.lt;obtain⟨Z,g1,ab,g3⟩:=h.row;exact⟨(hb.block db J H).trans h.box,⟨Z,(hb.block G O I).trans g1,ab,g3⟩,h.le,h.hi,h.ne⟩
theorem KB.set1{c:Dk}(h:KB w db G cap c)(x:Int):KB (w.setCell ⟨db,1,none⟩<|iN x) db G cap ⟨c.s,x,c.wr,c.off⟩:=by
 obtain⟨H,g1,I,g3⟩:=h.row;exact⟨Lib.heap_setCell_same (i:=1) h.box _,⟨H,(heap_setCell_other _ _ _ _ λe=>h.ne e.symm).trans g1,I,g3⟩,h.le,h.hi,h.ne⟩
theorem KB.set2{c:Dk}(h:KB w db G cap c)(x:Int):KB (w.setCell ⟨db,2,none⟩<|iN x) db G cap ⟨c.s,c.cut,x,c.off⟩:=by
 obtain⟨H,g1,I,g3⟩:=h.row;exact⟨Lib.heap_setCell_same (i:=2) h.box _,⟨H,(heap_setCell_other _ _ _ _ λe=>h.ne e.symm).trans g1,I,g3⟩,h.le,h.hi,h.ne⟩
theorem KB.set3{c:Dk}(h:KB w db G cap c)(x:Bool):KB (w.setCell ⟨db,3,none⟩<|.bool x) db G cap ⟨c.s,c.cut,c.wr,x⟩:=by
 obtain⟨H,g1,I,g3⟩:=h.row;exact⟨Lib.heap_setCell_same (i:=3) h.box _,⟨H,(heap_setCell_other _ _ _ _ λe=>h.ne e.symm).trans g1,I,g3⟩,h.le,h.hi,h.ne⟩
theorem TX(w:World)(g k:Nat)(cs:Array Value)(h:k≠g):(w.setRow g cs).heap[k]? =w.heap[k]?:=by grind [World.setRow]
theorem KB.copied{c:Dk}(h:KB w db H cap c)(p:Nat)(t:BA)(k:Nat)(I:k<=t.size)(J:p+k<=c.s.size):
 ∃w',(∀(O:TypeId) (n:Nat),k<=n->(Builtin.copy_ #[102,9] O #[sL H p n<|cap-p,.string<|t.extract 0 k]).run prog w=.ok (iN k) w')/\KB w' db H cap ⟨F7 c.s p t k,c.cut,c.wr,c.off⟩/\Mv (λb=>b=H) w w':=by
 obtain⟨G,g1,ab,g3⟩:=h.row;have ad:=h.le;have Z:(t.extract 0 k).size=k:=by simp[ByteArray.size_extract];omega
 have ar:G.toList.length=cap:=by simpa using ab
 refine⟨w.setRow H (G.toList.take p++Lib.byteCells (t.extract 0 k).data.toList++G.toList.drop (p+(t.extract 0 k).size)).toArray,λO n aw=>?_,⟨?_,⟨_,setRow_heap w H G _ 5 _ g1,?_,?_⟩,?_,h.hi,h.ne⟩,?_⟩
 .have:=Lib.run_copy_row_string (P:=prog) w 102 9 O 5 H p n (cap-p) (t.extract 0 k) G 5 underlying102 oK g1 oM oM
  rw[this,Z];rfl
 .rw[TX _ _ _ _ h.ne,h.box]
  simp only[OP c.s p t k I J]
 .simp[Lib.byteCells];omega
 .show List.take (F7 c.s p t k).size _=Lib.byteCells (F7 c.s p t k).data.toList
  rw[OP c.s p t k I J,WH,Z];have az:c.s.data.toList.length=c.s.size:=by simp
  have aA:t.data.toList.length=t.size:=by simp
  have ak:G.toList.take p=Lib.byteCells (c.s.data.toList.take p):=by
   have:=RX (List.take p) g3;rw[List.take_take,Nat.min_eq_left oM]at this;rw[this,Lib.byteCells,Lib.byteCells,List.map_take]
  have al:(G.toList.drop<|p+k).take (c.s.size-(p+k))=Lib.byteCells (c.s.data.toList.drop<|p+k):=by
   have:=RX (List.drop<|p+k) g3;rw[List.drop_take]at this;rw[this,Lib.byteCells,Lib.byteCells,List.map_drop]
  have ao:(t.extract 0 k).data.toList=t.data.toList.take k:=by simp[ByteArray.data_extract]
  rw[ao,List.toList_toArray,List.take_append,R3 (by simp[Lib.byteCells];omega)];have ap:c.s.size-(G.toList.take p++Lib.byteCells (t.data.toList.take k)).length=c.s.size-(p+k):=by
   simp[Lib.byteCells];omega
  rw[ap,al,ak];simp[Lib.byteCells]
 .show(F7 c.s p t k).size<=cap
  rw[OP c.s p t k I J];exact ad
 .exact⟨rfl,rfl,rfl,by simp[World.setRow],λb _ hb=>TX _ _ _ _ hb⟩
theorem cH{c:Dk}(h:KB W db J cap c)(p n:Int)(ar:p<=9223372036854775807)(O:c.s.size<=100000000):
 Calls prog 103 #[pO db 0,iN p,iN n] W λe w'=>e=.returned (Nv<|E7 c.off c.s.size p n)/\W=w':=by
 obtain⟨Z,ab,ad,ak,z0,aw,az,z3⟩:=h.cells;obtain⟨s,aA,wr,al⟩:=c;simp only at Z ab ad ak O⊢;cases al;rotate_left
 .rw[show E7 true s.size p n=16 from NS rfl]
  go_enter func103,ntmps103;go_wp2;go_ret;exact⟨rfl,rfl⟩
 by_cases G:p<0
 .rw[show E7 false s.size p n=1 by unfold E7;rw[NO oD,NS<|.inl G]]
  have ao:decide (p<0)=true:=NY G;go_enter func103,ntmps103;go_wp2;go_ret;exact⟨rfl,rfl⟩
 have ao:decide (p<0)=false:=NM G;by_cases H:n<0
 .rw[show E7 false s.size p n=1 by unfold E7;rw[NO oD,NS<|.inr<|.inl H]]
  have ap:decide (n<0)=true:=NY H;go_enter func103,ntmps103;go_wp2;go_ret;exact⟨rfl,rfl⟩
 have ap:decide (n<0)=false:=NM H;have a1:0<=p:=by omega
 by_cases I:(s.size:Int)-p<n
 .rw[show E7 false s.size p n=1 by unfold E7;rw[NO oD,NS<|.inr<|.inr I]]
  have b3:decide ((s.size:Int)-p<n)=true:=NY I;go_enter func103,ntmps103;go_wp2;go_ret;exact⟨rfl,rfl⟩
 .rw[show E7 false s.size p n=0 by unfold E7;rw[NO oD,NO oM]]
  have b3:decide ((s.size:Int)-p<n)=false:=NM I;go_enter func103,ntmps103;go_wp2;go_ret;exact⟨rfl,rfl⟩
theorem cV{I:Nat}{c:Dk}(h:KB W db I cap c)(n:Int)(al:0<=n)(ao:n<=1000000)(J:c.cut<=9223372036854775807):
 Calls prog 104 #[pO db 0,iN n] W λe w'=>e=.returned (iN<|Fu c.cut n)/\Mv (λb=>b=db) W w'/\KB w' db I cap ⟨c.s,Jb c.cut n,c.wr,c.off⟩:=by
 have HK:Hid<|KB W db I cap c:=h;obtain⟨O,Z,ab,ad,z0,ap,ar,z3⟩:=h.cells;obtain⟨s,G,wr,aw⟩:=c;simp only at O Z ab ad J⊢;by_cases H:G<0
 .rw[show Fu G n=n from NS H,show Jb G n=G from NS H]
  have ak:decide (G<0)=true:=NY H;go_enter func104,ntmps104;go_wp2;go_ret;exact⟨rfl,Mv.refl _ _,HK⟩
 .have ak:decide (G<0)=false:=NM H
  rw[show Fu G n=min n G from NO H,show Jb G n=G-min n G from NO H];have az:0<=min n G:=by omega
  have aA:min n G<=G:=by omega
  go_enter func104,ntmps104;go_wp2;go_ret;exact⟨rfl,Mv.setCell (S:=λb=>b=db) (Mv.refl _ _) rfl _,HK.set1 _⟩
theorem US{c:Dk}(h:KB W db G cap c):
 Calls prog 68 #[pO db 0] W λe w'=>e=.returned (.bool<|!c.off)/\W=w':=by
 obtain⟨H,I,J,O,z0,Z,ab,z3⟩:=h.cells;go_enter func68,ntmps68;go_wp2;go_ret;exact⟨rfl,rfl⟩
theorem UH{c:Dk}(h:KB W db G cap c)(k:Nat)(H:c.s.size=64*k):
 Calls prog 30 #[pO db 0] W λe w'=>e=.returned (iN k)/\W=w':=by
 obtain⟨I,Z,ab,ad,z0,ak,al,z3⟩:=h.cells;have J:=h.le;have O:=h.hi;unfold maxLen at O;rw[H]at I J;go_enter func30,ntmps30;go_wp2;go_ret;exact⟨by congr 2,rfl⟩
theorem dt{c:Dk}(h:KB W db G cap c):
 Calls prog 36 #[pO db 0] W λe w'=>e=.returned (.string c.s)/\W=w':=by
 have H:=Lib.run_convert_whole (P:=prog) W 102 5 9 underlying102 underlying5 underlying9 G 0 c.s h.bytes cap;obtain⟨I,J,O,Z,z0,ab,ad,z3⟩:=h.cells;go_enter func36,ntmps36;go_wp2;go_ret;exact⟨rfl,rfl⟩
theorem cU{G:Array Oper}{o:Oper}{a:Act}{K:Act->World->Prop}{Q:Exit->Act->World->Prop}{E:Prop}
 (Z:o.guard=none) (d x:Operand) (H I:TypeId) (ab:o.op=Op.call {callee:=Callee.builtin Builtin.copy,args:=#[d,x],argTypes:=#[H,I]})
 (J O:Value) (hd:a.eval d=J) (hx:a.eval x=O) (r:Value) (w':World) (ad:(Builtin.copy_ #[H,I] o.type #[J,O]).run P w=.ok r w')
 (ak:K (a.put o.dst r) w'):
 if Region.wanted o (yielded G a.tmps)=true then Oper.wp P o a w K Q else E:=by
 have al:Region.wanted o (yielded G a.tmps)=true:=by simp[Region.wanted,Z]
 rw[NS al];unfold Oper.wp;simp[execOp,ab,resolve,invoke,builtin,hd,hx,ad,Result.andThen];exact ak
theorem dh{c:Dk}(h:KB W db G cap c)(p:Int)(t:BA)(bf:p<=9223372036854775807)(aA:c.s.size<=100000000)(b2:t.size<=1000)(ao:-1<=c.cut/\c.cut<=9223372036854775807)(a1:0<=c.wr/\c.wr<=1000000):
 Calls prog 71 #[pO db 0,iN p,.string t] W λe w'=>e=.returned (Nv<|N5 c p t)/\Mv (λb=>b=db\/b=G) W w'/\KB w' db G cap (Mr c p t):=by
 have J:Hid (Calls prog 103 #[pO db 0,iN p,iN t.size] W λe w'=>e=.returned (Nv<|E7 c.off c.s.size p t.size)/\W=w'):=cH h p t.size bf aA;have HK:Hid<|KB W db G cap c:=h;by_cases O:E7 c.off c.s.size p t.size=0;rotate_left
 .rw[show N5 c p t=E7 c.off c.s.size p t.size from NO O,show Mr c p t=c from NO O]
  rw[lw O]at J⊢;obtain⟨F,ad⟩:∃F,Hid<|E7 c.off c.s.size p t.size=F:=⟨_,rfl⟩;rw[ad.out]at J⊢;go_enter func71,ntmps71;go_wp2_with fail
  go_call J as e w' ⟨rfl,rfl⟩
  go_wp2;go_ret;exact⟨rfl,Mv.refl _ _,HK⟩
 obtain⟨a6,b4,_,bg⟩:=nO O;obtain⟨F,ad⟩:∃F,Hid<|N5 c p t=F:=⟨_,rfl⟩;obtain⟨D,a7⟩:∃D,Hid<|Mr c p t=D:=⟨_,rfl⟩;rw[ad.out,a7.out];have ak:Hid (F=if Fu c.cut t.size<t.size then 16 else 0):=(ad.symm.trans<|NS O);have ab:Hid<|D=⟨F7 c.s p.toNat t (Fu c.cut t.size).toNat,Jb c.cut t.size,c.wr+Fu c.cut t.size,decide (Fu c.cut t.size<t.size)⟩:=(a7.symm.trans<|NS O);have a8:=pu c.cut t.size ao.1;have al:Hid (Calls prog 104 #[pO db 0,iN t.size] W λe w'=>e=.returned (iN<|Fu c.cut t.size)/\Mv (λb=>b=db) W w'/\KB w' db G cap ⟨c.s,Jb c.cut t.size,c.wr,c.off⟩):=cV h t.size oM oM ao.2;rw[O]at J;obtain⟨q,rfl⟩:∃q:Nat,p=q:=⟨p.toNat,by omega⟩;obtain⟨s,ap,I,b6⟩:=c;simp only at a6 bg J al HK aA ao a1 ak ab a8⊢;subst a6;obtain⟨k,bi⟩:∃k:Nat,Fu ap t.size=k:=⟨(Fu ap t.size).toNat,by omega⟩;rw[bi]at ak ab al a8;simp only[Int.toNat_natCast]at ab;obtain⟨cu,bk⟩:∃cu,Jb ap t.size=cu:=⟨_,rfl⟩;rw[bk]at al ab;have bl:=HK.out.le;simp only at bl;obtain⟨b7,b9⟩:=a1;rw[show(Nv 0)=.nilIface from rfl]at J;have bn:k<=t.size:=by omega
 have ce:(k:Int)<=(t.size:Int):=by omega
 have cf:q<=s.size:=by omega
 have ch:(q:Int)<=(s.size:Int):=by omega
 go_enter func71,ntmps71;go_wp2_with fail
 go_call J as e w' ⟨rfl,rfl⟩
 go_wp2_with fail
 go_call al as e w1 ⟨rfl,M1,K1⟩
 have bo:Hid<|KB w1 db G cap ⟨s,cu,I,false⟩:=K1;have bp:Hid<|Mv (λb=>b=db) W w1:=M1;obtain⟨bq,bs,bu,bx,z0,cl,co,z3⟩:=K1.cells;simp only at bq bs bu bx;obtain⟨H,bA,ba,bB⟩:∃H,(∀Z,(Builtin.copy_ #[102,9] Z #[.slice (if cap=q then some (aD G 0)else some (aD G q)) (s.size-q)<|cap-q,.string<|t.extract 0 k]).run prog w1.drew=.ok (iN k) H)/\KB H db G cap ⟨F7 s q t k,cu,I,false⟩/\Mv (λb=>b=G) w1.drew H:=by
  have bb:KB w1.drew db G cap ⟨s,cu,I,false⟩:=bo.mv (S:=λ_=>False) (Mv.drew<|Mv.refl _ _) id id;by_cases bC:k=0
  .subst bC
   refine⟨w1.drew,λZ=>?_,?_,Mv.refl _ _⟩
   .exact Lib.run_copy_empty_string (P:=prog) w1.drew 102 9 Z 5 _ _ _ _ underlying102 oK oS
   .have e:F7 s q t 0=s:=by
     apply ByteArray.ext;apply Array.toList_inj.1;rw[WH];simp
    rw[e];exact bb
  .rw[NO oM]
   obtain⟨H,bF,a2,a3⟩:=bb.copied q t k bn (by simp only;omega);exact⟨H,λZ=>bF Z _ oM,a2,a3⟩
 obtain⟨x0,bG,bH,bY,v0,cr,cx,v3⟩:=ba.cells;simp only at x0 bG bH bY;have bd:Hid<|KB H db G cap ⟨F7 s q t k,cu,I,false⟩:=ba;have b0:Hid<|Mv (λb=>b=G) w1.drew H:=bB;have b1:Hid (∀Z,(Builtin.copy_ #[102,9] Z #[.slice (if cap=q then some (aD G 0)else some (aD G q)) (s.size-q)<|cap-q,.string<|t.extract 0 k]).run prog w1.drew=.ok (iN k) H):=bA;have cD:IntKind.i64.wrap (I+(k:Int))=I+(k:Int):=by exact DQ oM oM
 have be:Hid (∀(x:Int),Mv (λb=>b=db\/b=G) W<|H.setCell (aD db 2)<|iN x):=λx=>Mv.setCell (S:=λb=>b=db\/b=G) ((Mv.mono bp.out λ_ e=>.inl e).trans<|(Mv.drew<|Mv.refl _ _).trans<|Mv.mono b0.out λ_ e=>.inr e) (.inl rfl) _;go_upto_region 5 with fail
 go_region_law (refine cU rfl (.tmp 30) (.tmp 33) 102 9 rfl _ _ (by simp[Act.eval,Act.put]) (by simp[Act.eval,Act.put]) _ _ (b1.out _) ?_)
 all_goals
  generalize(if cap=q then some ((aD G 0):Addr)else some (aD G q))=cF;by_cases hb:k<t.size
  .have ar:(k:Int)<(t.size:Int):=by omega
   go_wp2;go_ret;have aw:F=16:=by rw[ak.out,NS ar]
   have az:D=⟨F7 s q t k,cu,I+k,true⟩:=by rw[ab.out,NY ar]
   exact⟨by rw[aw];rfl,Mv.setCell (S:=λb=>b=db\/b=G) (be.out _) (.inl rfl) _,by rw[az];exact(bd.set2 _).set3 true⟩
  .have ar:¬(k:Int)<(t.size:Int):=by omega
   go_wp2;go_ret;have aw:F=0:=by rw[ak.out,NO oM]
   have az:D=⟨F7 s q t k,cu,I+k,false⟩:=by rw[ab.out,NM oM]
   exact⟨by rw[aw];rfl,be.out _,by rw[az];exact bd.set2 _⟩
theorem Tryz.infoU:(prog.info? 5).map (λi=>(i.zero,i.size,i.bytes))=some (some<|.int .u8 0,1,1):=by kernel_rfl
theorem Kr{z:Value}(h:(P.info? t).map (λi=>(i.zero,i.size,i.bytes))=some (some z,n,m)):∃i,P.info? t=some i/\i.zero=some z/\i.size=n/\i.bytes=m:=by simp_all
def Fo(n:Nat):BA:=⟨(List.replicate n (0:UInt8)).toArray⟩
theorem Rb(n:Nat):(Fo n).size=n:=by simp[Fo,ByteArray.size]
theorem bR(n:Nat):(madeCells #[.int .u8 0] n).toList=Lib.byteCells (Fo n).data.toList:=by
 apply List.ext_getElem
 .simp[madeCells,Lib.byteCells,Fo]
 .intro i G H
  simp[madeCells,Lib.byteCells,Fo,Nat.mod_one]
theorem KB.mk'{v:Value}{c:Dk}(H:w.ownsRow base 5 1 v n<|Lib.byteCells c.s.data.toList)(G:Nat)(I:v=sL G 0 n cap)(J:n=c.s.size)
 (O:w.heap[db]? =some (.cells #[v,iN c.cut,iN c.wr,.bool c.off] 104 (0,0))) (Z:db≠G):KB w db G cap c:=by
 subst I J;obtain⟨aw,ab⟩:=H;rcases ab with⟨e,_⟩|⟨g,az,ad,e,hb,ak,al,ao,ap,ar⟩
 .cases e
 .cases e
  exact⟨O,⟨ad,ak,by simpa using ap,by simpa using ar⟩,al,ao,Z⟩
theorem lN(n:Nat)(W:World)(h:n<=2000):
 Calls prog 16 #[iN n] W λe w'=>∃db J,e=.returned (.tuple #[pO db 0,.nilIface])/\KB w' db J (64*n) ⟨Fo<|64*n,-1,0,false⟩/\W.heap.size<=db/\W.heap.size<=J/\Below W.heap.size W w':=by
 have az:decide ((n:Int)<0)=false:=NM oM;have aA:decide (2000<(n:Int))=false:=NM oM;obtain⟨O,Z,ab,ad,ak⟩:=Kr Tryz.infoU;have al:Hid<|O.bytes=1:=ak;go_enter func16,ntmps16;go_wp2_with (at_make;refine wpList_make_full _ rfl _ _ 102 rfl W.heap.size 5 O (.int .u8 0) 1 underlying102 Z ab ad .i64 .i64 _ _ (64*n) rfl rfl oM oM (by rw[al.out];omega) (by unfold maxLen;omega) (rP _) ?_)
 intro G I H;rw[bR]at I;have ao:Hid<|G.ownsRow W.heap.size 5 1 (sL W.heap.size 0 (64*n)<|64*n) (64*n)<|Lib.byteCells (Fo<|64*n).data.toList:=I;have ap:Hid<|Below W.heap.size W G:=⟨H.os,H.tape,H.output,H.size,λk ar=>H.block k ar oS⟩;have aw:W.heap.size<G.heap.size:=(I.lt W.heap.size rfl).2;go_wp2;go_ret2;refine⟨G.heap.size,W.heap.size,rfl,?_,by omega,rP _,ap.alloc (K6 aw) _⟩;refine KB.mk' (v:=sL W.heap.size 0 (64*n)<|64*n) (n:=64*n) (base:=W.heap.size) ?_ W.heap.size rfl (Rb _).symm ?_ oM
 .exact ao.alloc _
 .exact tM G _
def Ml:Nat->BA|0=>⟨#[48]⟩|_=>⟨#[49]⟩
def Jh(k:Nat):BA:=⟨#[105,100,115,104,105,102,116]⟩++Ml k
theorem fV(k:Nat)(G:k<2)(w:World):Calls prog 236 #[iN k] w λe w'=>e=.returned (.string<|Ml k)/\w=w':=by
 have:k=0\/k=1:=by omega
 rcases this with rfl|rfl
 .go_enter func236,ntmps236
  go_wp2;go_ret;exact⟨rfl,rfl⟩
 .go_enter func236,ntmps236
  go_wp2;go_ret;exact⟨rfl,rfl⟩
theorem cX(k:Nat)(G:k<2)(w:World):Calls prog 193 #[iN k,iN 10] w λe w'=>e=.returned (.string<|Ml k)/\w=w':=by
 have C:=fV k G w;have H:decide ((0:Int)<=(k:Int))=true:=NY oM;have I:decide ((k:Int)<100)=true:=NY oM;go_enter func193,ntmps193;go_wp2_with fail
 refine C.mono ?_;rintro e w' ⟨rfl,rfl⟩;go_wp2;go_ret;exact⟨rfl,rfl⟩
theorem gj(k:Nat)(G:k<2)(w:World):Calls prog 144 #[iN k] w λe w'=>e=.returned (.string<|Ml k)/\w=w':=by
 have C:=cX k G w;go_enter func144,ntmps144;go_wp2_with fail
 refine C.mono ?_;rintro e w' ⟨rfl,rfl⟩;go_wp2;go_ret;exact⟨rfl,rfl⟩
theorem gZ(k:Nat)(G:k<2)(w:World):Calls prog 102 #[iN k] w λe w'=>e=.returned (.string<|Ml k)/\w=w':=by
 have C:=gj k G w;go_enter func102,ntmps102;go_wp2_with fail
 refine C.mono ?_;rintro e w' ⟨rfl,rfl⟩;go_wp2;go_ret;exact⟨rfl,rfl⟩
theorem U1(k:Nat)(G:k<2)(w:World):Calls prog 70 #[iN k] w λe w'=>e=.returned (.string<|Jh k)/\w=w':=by
 have C:=gZ k G w;have H:(Ml k).size=1:=by
  have:k=0\/k=1:=by omega
  rcases this with rfl|rfl<;>rfl
 go_enter func70,ntmps70;go_wp2_with fail
 refine C.mono ?_;rintro e w' ⟨rfl,rfl⟩;go_wp2;go_ret;exact⟨rfl,rfl⟩
theorem dP(n:Nat)(G:8<=n)(I:n<=1000000)(k:Nat)(J:k<2)(w:World):Calls prog 101 #[.string<|Fo n,.string<|Jh k] w λe w'=>e=.returned (.bool false)/\w=w':=by
 have O:(Fo n).size=n:=Rb n;have Z:(Jh k).size=8:=by
  have:k=0\/k=1:=by omega
  rcases this with rfl|rfl<;>rfl
 have ab:decide (((Jh k).size:Int)<=((Fo n).size:Int))=true:=NY oM;have hx:(((Fo n).extract 0 8).toList==(Jh k).toList)=false:=by
  have H:((Fo n).extract 0 8).toList=List.replicate 8 0:=by
   rw[tz];simp[Fo,ByteArray.data_extract];rw[Nat.min_eq_left G];rfl
  rw[H,tz];have:k=0\/k=1:=by omega
  rcases this with rfl|rfl<;>rfl
 go_enter func101,ntmps101;go_wp2;go_ret;exact⟨rfl,rfl⟩
theorem jM(n:Nat)(G:8<=n)(H:n<=1000000)(k:Nat)(I:k<2)(w:World):Calls prog 69 #[.string<|Fo n,.string<|Jh k] w λe w'=>e=.returned (.bool false)/\w=w':=by
 have C:=dP n G H k I w;go_enter func69,ntmps69;go_wp2_with fail
 refine C.mono ?_;rintro e w' ⟨rfl,rfl⟩;go_wp2;go_ret;exact⟨rfl,rfl⟩
theorem aS(n:Nat)(I:8<=n)(J:n<=1000000)(w:World):Calls prog 35 #[.string<|Fo n] w λe w'=>e=.returned (.tuple #[iN 0,.bool false])/\w=w':=by
 have O:Hid (∀k:Nat,k<2->Calls prog 70 #[iN k] w λe w'=>e=.returned (.string<|Jh k)/\w=w'):=λk G=>U1 k G w;have Z:Hid (∀k:Nat,k<2->Calls prog 69 #[.string<|Fo n,.string<|Jh k] w λe w'=>e=.returned (.bool false)/\w=w'):=λk G=>jM n I J k G w
 go_enter func35,ntmps35;go_wp2;go_loop [4,5,7,8,9,10,11] (λ_ i _ _ _ _ _=>∃k:Nat,k<=2/\i=iN k) (λ_ i _ _ _ _ _=>2-(intOf i).toNat)
 case atStart=>exact⟨0,by omega,rfl⟩
 case round=>
  obtain⟨k,G,rfl⟩:=hrel;by_cases H:k<2
  .have c1:=O.out k H
   have c2:=Z.out k H;have ab:decide ((k:Int)<2)=true:=NY oM;go_wp2_with fail
   refine c1.mono ?_;rintro e w' ⟨rfl,rfl⟩;go_wp2_with fail
   refine c2.mono ?_;rintro e w' ⟨rfl,rfl⟩;go_wp2;go_round
   case rel=>exact⟨k+1,by omega,by go_num⟩
   case measure=>simp[intOf];omega
  .have ab:decide ((k:Int)<2)=false:=NM oM
   go_wp2;go_ret2;exact⟨rfl,rfl⟩
theorem cT(k:Nat)(G:k<2)(w:World):Calls prog 72 #[iN k] w λe w'=>e=.returned (iN<|64+k*64)/\w=w':=by
 go_enter func72,ntmps72;go_wp2;go_ret;exact⟨rfl,rfl⟩
def pA:Option Nat->Option Addr
 |none=>none
 |some b=>some ⟨b,0,none⟩
abbrev pV(o:Option Nat):Value:=.pointer<|pA o
abbrev Cz(db H:Nat)(L G:Nat->Option Nat):Array Value:=#[pO db 0,.bool false,iN H,pV<|L 0,pV<|L 1,pV<|L 2,pV<|L 3,pV<|L 4,pV<|G 0,pV<|G 1,pV<|G 2,pV<|G 3,pV<|G 4]
structure HK (w:World) (hb db rb cap n side m:Nat) (L G:Nat->Option Nat):Prop where
 box:w.heap[hb]? =some (.cells (Cz db side L G) 97 (0,0))
 disk:∃c,KB w db rb cap c/\c.s.size=64*n/\c.cut=-1/\c.off=false/\0<=c.wr/\c.wr<=m
 ne:hb≠db/\hb≠rb
 sd:side<2
 nn:n<=2000
theorem HK.lt(h:HK w hb db G cap n H m L I):hb<w.heap.size/\db<w.heap.size/\G<w.heap.size:=by
 obtain⟨c,J,_⟩:=h.disk;exact⟨Cw h.box,J.lt⟩
theorem HK.mv{S:Nat->Prop}(h:HK w hb db G cap n H m L I)(J:Mv S w w')(O:¬S hb)(Z:¬S db)(ab:¬S G):HK w' hb db G cap n H m L I:=by
 obtain⟨c,ad,q⟩:=h.disk;exact⟨(J.block hb h.lt.1 O).trans h.box,⟨c,ad.mv J Z ab,q⟩,h.ne,h.sd,h.nn⟩
theorem HK.below(h:HK w hb db G cap n H m L I)(J:Below w.heap.size w w'):HK w' hb db G cap n H m L I:=
 h.mv (S:=λ_=>False) (Mv.of J) (λe=>e) (λe=>e) (λe=>e)
theorem cO{c:Dk}(h:KB w db H cap c)(I:c.s.size=64*n)(J:c.off=false)(Z:200<=n):Calls prog 34 #[pO db 0] w λe w'=>e=.returned .nilIface/\w=w':=by
 have G:=US h;rw[J]at G;have O:=UH h n I;have ab:decide ((n:Int)<200)=false:=NM oM;go_enter func34,ntmps34;go_wp2_with fail
 go_call G as e w' ⟨rfl,rfl⟩
 go_wp2_with fail
 go_call O as e w' ⟨rfl,rfl⟩
 go_wp2;go_ret;exact⟨rfl,rfl⟩
theorem RZ{I:Nat}{J:Nat->Option Nat}(h:HK w hb db H cap n I m L J):Calls prog 46 #[pO hb 0] w λe w'=>e=.returned (.bool false)/\w=w':=by
 obtain⟨c,O,_,_,Z,_⟩:=h.disk;have G:=US O;rw[Z]at G;have c0:=AG (i:=0) h.box rfl;have c1:=AG (i:=1) h.box rfl;go_enter func46,ntmps46;go_wp2_with fail
 go_call G as e w' ⟨rfl,rfl⟩
 go_wp2;go_ret;exact⟨rfl,rfl⟩
theorem MC{O:Nat->Option Nat}(h:HK w hb db G cap n J m L O)(p:Nat)(t:BA)(ad:t.size<=1000)(ap:p+t.size<=64*n)(ar:m<=900000):
 Calls prog 37 #[pO hb 0,iN p,.string t] w λe w'=>e=.returned .nilIface/\Mv (λb=>b=db\/b=G) w w'/\HK w' hb db G cap n J (m+t.size) L O:=by
 have H:Hid<|HK w hb db G cap n J m L O:=h;obtain⟨c,ak,q1,q2,al,q4,q5⟩:=h.disk;have aw:=h.nn;have Z:E7 c.off c.s.size p t.size=0:=by unfold E7;rw[al,NO oD,NO oM]
 have ab:Fu c.cut t.size=t.size:=by unfold Fu;rw[q2,NS oD]
 have hF:N5 c p t=0:=by unfold N5;rw[NS Z,ab,NO oM]
 have ao:Mr c p t=⟨F7 c.s p t t.size,Jb c.cut t.size,c.wr+t.size,decide ((t.size:Int)<t.size)⟩:=by
  unfold Mr;rw[NS Z,ab];simp
 have I:=dh ak p t oM oM ad oM oM;rw[hF]at I;have I:Hid (Calls prog 71 #[pO db 0,iN p,.string t] w λe w'=>e=.returned .nilIface/\Mv (λb=>b=db\/b=G) w w'/\KB w' db G cap (Mr c p t)):=I;have c0:=AG (i:=0) h.box rfl;go_enter func37,ntmps37;go_wp2_with fail
 go_call I as e w' ⟨rfl,M,K⟩
 go_wp2;go_ret;refine⟨rfl,M,⟨(M.block hb H.lt.1 (by have:=H.out.ne;omega)).trans H.box,⟨_,K,?_⟩,H.ne,H.sd,H.nn⟩⟩;rw[ao];refine⟨?_,?_,?_,?_,?_⟩
 .show(F7 _ _ _ _).size=_
  rw[OP _ _ _ _ oM oM];exact q1
 .show Jb c.cut t.size=-1
  unfold Jb;rw[q2,NS oD]
 .show decide _=false
  simp
 .show 0<=c.wr+t.size
  omega
 .show c.wr+t.size<=((m+t.size:Nat):Int)
  omega
theorem aX{u e:TypeId}(H:P.underlying t=some (.slice e))(I:P.underlying u=some (.slice e)){i:TypeInfo}(J:P.info? e=some i)(G:TypeId)(a b:Option Addr)(n c m d:Nat)(w:World):
 (Builtin.append_ #[t,u] G #[.slice a n c,.slice b m d]).run P w=(Builtin.append_ #[t,t] G #[.slice a n c,.slice b m d]).run P w:=by
 simp[Builtin.append_,run_underlying H,run_underlying I,sizeOf,typeInfo,J]
theorem Tryz.infoIn:(prog.info? 3).map (λi=>(i.zero,i.size,i.bytes))=some (some<|iN 0,1,8):=by kernel_rfl
theorem Tryz.infoU8:(prog.info? 5).map (λi=>(i.zero,i.size,i.bytes))=some (some<|.int .u8 0,1,1):=by kernel_rfl
theorem aE(w:World){Z:Array Oper}{rM:List Oper}{o:Oper}{a:Act}{Q:Exit->Act->World->Prop}(ao:o.guard=none)(s x:Operand)(t u:TypeId)
 (ap:o.op=.call {callee:=.builtin .append,args:=#[s,x],argTypes:=#[t,u]})
 (base:Nat) (e:TypeId) (i:TypeInfo) (z:Value) (size J:Nat) (ab:P.underlying t=some (.slice e)) (ar:P.underlying u=some (.slice e)) (ad:P.info? e=some i) (aw:i.zero=some z)
 (az:i.size=size) (aA:i.bytes=J) (a1:z.cells.size=size) (a6:0<size)
 (v:Value) (n:Nat) (xs:List Value) (a7:a.eval s=v) (ak:w.ownsRow base e size v n xs)
 (I:Option Addr) (m c:Nat) (H:List Value) (hx:a.eval x=.slice I m c) (a8:H.length=m*size) (ba:(I=none/\m=0)\/∃O,I=some O/\∀j u,H[j]? =some u->w.cell? (O.add j)=some u) (bb:∀u∈H,u.oneCell'=true)
 (bd:n+m<=maxLen) (be:(n+m)*J<=140737488355328) (bf:base<=w.heap.size)
 (h:∀G w',w'.ownsRow base e size G (n+m) (xs++H)->w.grownBy w' v.ownBlock->(G.ownBlock=v.ownBlock\/G.ownBlock=some w.heap.size)->wpList P Z Q rM (a.put o.dst G) w'):wpList P Z Q (o::rM) a w:=by
 refine wpList_plain ao λK bg=>?_;obtain⟨G,w',al,bi,bk,bl⟩:=QJ (P:=P) w base t o.type e i z size J ab ad aw az aA a1 a6 v n xs ak I m c H a8 ba bb bd be bf
 obtain⟨O,cap,rfl,_⟩:=Jm ak;rw[<-aX ab ar ad]at al;unfold Oper.wp execOp;simp only[ap,resolve,invoke,builtin,Sem.run_bind,Sem.run_pure,Result.andThen_ok,List.map_toArray,CB,List.map_nil,a7,hx,al];exact bg _ _<|h G w' bi bk bl
def Cp(l:List Int):List Value:=l.map<|Value.int .i64
theorem LP(l:List Int):∀u∈Cp l,u.oneCell'=true:=λu G=>by
 obtain⟨z,_,rfl⟩:=CQ.1 G;rfl
theorem XT(l:List Int):(Cp l).length=l.length:=by simp[Cp]
theorem Ow(a b:List Int):Cp (a++b)=Cp a++Cp b:=by simp[Cp]
theorem Xf(h:AV w a zs):(a=none/\zs.length=0)\/zs=[]\/∃G,a=some G/\∀j u,(Cp zs)[j]? =some u->w.cell? (G.add j)=some u:=by cases h<;>grind [Cp,Ef]
theorem bJ(w:World)(x y z:Int)(t:TypeId):∀j u,(bc [b8 x,b8 y,b8 z])[j]? =some u->(w.alloc<|.cells #[.int .u8<|x%256,.int .u8<|y%256,.int .u8<|z%256] t).cell? (((aD w.heap.size 0):Addr).add j)=some u:=by grind [Ef,rO,bc,PE]
theorem Vw(h:AV w a zs)(ak:zs.length<=400)(al:0<zs.length):
 Calls prog 94 #[.slice a zs.length cap] w λe w'=>(∃s,e=.returned (.string s)/\s.size=3*zs.length)/\Below w.heap.size w w':=by
 obtain⟨ao,ap,ar,aw,az⟩:=Kr Tryz.infoU8;obtain⟨N,G⟩:∃N,zs.length=N:=⟨_,rfl⟩;have bg:Hid<|zs.length=N:=G;rw[G]at ak al⊢;go_enter func94,ntmps94;go_wp2;go_loopw [3,5,8,9,10,11,12,13,14,15,16,17,18,19,20,21,22] (λu3 _ u8 _ _ _ _ _ _ _ _ _ _ _ _ _ _ wr=>∃k:Nat,k<=N/\u8=iN k/\Hid (∃L:List UInt8,L.length=3*k/\wr.ownsRow w.heap.size 5 1 u3 (3*k) (bc L))/\Hid (Below w.heap.size w wr)) (λ_ _ u8 _ _ _ _ _ _ _ _ _ _ _ _ _ _ _=>N-(intOf u8).toNat)
 case atStart=>exact⟨0,N7 _,rfl,⟨[],rfl,CZ _ _ _ _⟩,NB _ _⟩
 case round=>
  obtain⟨k,bi,rfl,ab,H⟩:=hrel;by_cases bk:k<N
  .have aA:decide ((k:Int)<(N:Int))=true:=NY oM
   have bl:(k:Int)<(N:Int):=by omega
   obtain⟨z,a1⟩:∃z,zs.getD k 0=z:=⟨_,rfl⟩;obtain⟨b,I,rfl,a6⟩:∃b I,a=some (aD b I)/\∀i,i<zs.length->Ce w b (I+i) (iN<|zs.getD i 0):=by
    rcases h with h|h
    .rw[h]at G;simp at G;omega
    .exact h
   have J:=a6 k oM;rw[a1]at J;have J:=(H.cell (p:=(aD b<|I+k))<|NF _ _ J).trans J;obtain⟨L,Z,O⟩:=ab.out;have a7:=H.out.size;have a8:3*(k+1)=3*k+3:=by omega
   go_upto_region 5 with fail
   go_wp2_with (at_builtin;refine DP (wr.alloc<|.cells #[.int .u8<|z / 65536%256,.int .u8<|z / 256%256,.int .u8<|z%256] 5) rfl (.tmp 12) (.tmp 21) 102 rfl w.heap.size 5 ao (.int .u8 0) 1 1 underlying102 ap ar aw az rfl oD _ (3*k) (bc L) rfl (tL O _) (some<|aD wr.heap.size 0) 3 3 (bc [b8<|z / 65536,b8<|z / 256,b8 z]) rfl rfl (.inr ⟨_,rfl,bJ _ _ _ _ _⟩) (IZ _) (by unfold maxLen;omega) oM (by rw[ND];omega) ?_)
   intro ba ad bb bd bn;have be:Hid (∃L:List UInt8,L.length=3*(k+1)/\ad.ownsRow w.heap.size 5 1 ba (3*(k+1)) (bc L)):=⟨L++[b8<|z / 65536,b8<|z / 256,b8 z],by simp;omega,by rw[a8,MH];exact bb⟩;have bf:Hid<|Below w.heap.size w ad:=(H.alloc a7 _).grown bd (by rw[ND];omega) λg e=>((tK O) g e).1;go_wp2;go_roundw
   case rel=>exact⟨k+1,by omega,by go_num,be,bf⟩
   case measure=>(simp[intOf];try omega)
  .obtain rfl:k=N:=by omega
   have aA:decide ((k:Int)<(k:Int))=false:=NM oM;obtain⟨L,Z,O⟩:=ab.out;have bo:=Sb O Z.symm oM;go_wp2;go_ret;exact⟨⟨_,rfl,by rw[Jo,Z]⟩,H⟩
def NR(base:Nat)(w:World)(v:Value)(L:List Int):Prop:=w.ownsRow base 3 1 v L.length<|Cp L
theorem Gr.newb(w:World)(o:Obj)(v:Value):Gr w (w.alloc o) v v:=⟨⟨rfl,rfl,rfl,by rw[ND];omega,λk G _=>heap_alloc_old w o G⟩,.inl rfl⟩
theorem AV.grown{row:Option Nat}(h:AV w a zs)(J:w.grownBy w' row)(O:∀p,a=some p->zs≠[]->row≠some p.block):AV w' a zs:=by
 by_cases G:zs=[]
 .exact .inl G
 rcases h with h|⟨b,Z,rfl,H⟩
 .grind
 .refine .inr ⟨b,Z,rfl,λi I=>?_⟩
  have ab:b<w.heap.size:=NF w (aD b _)<|H i I;have ad:=O _ rfl G;exact(RE (w:=w)<|J.block b ab λe=>ad e.symm).trans (H i I)
theorem iB{v:Value}{L:List Int}(ar:NR base w v L)(h:AV w a zs)(aw:∀p,a=some p->zs≠[]->v.ownBlock≠some p.block)(bs:L.length<=1000)(az:zs.length<=1000)(hb:base<=w.heap.size)(aA:a=none->zs=[]):
 Calls prog 93 #[v,.slice a zs.length cap] w λe w'=>∃H,e=.returned H/\NR base w' H (L++(zs.length:Int)::zs)/\Gr w w' v H:=by
 obtain⟨Z,ab,ad,ak,al⟩:=Kr Tryz.infoIn;obtain⟨N,ao⟩:∃N,zs.length=N:=⟨_,rfl⟩;have I:Hid<|zs.length=N:=ao;have a1:Hid<|AV w a zs:=h;have a6:Hid (∀p,a=some p->zs≠[]->v.ownBlock≠some p.block):=aw;have a7:Hid<|a=none->zs=[]:=aA;rw[ao]at az⊢;go_enter func93,ntmps93;go_wp2_with (at_builtin;refine DP (w.alloc<|.cells #[iN N] 3) rfl (.tmp 5) (.tmp 8) 136 rfl base 3 Z (iN 0) 1 8 underlying136 ab ad ak al rfl oD v L.length (Cp L) rfl (tL ar _) (some<|aD w.heap.size 0) 1 1 (Cp [(N:Int)]) rfl rfl (.inr ⟨_,rfl,cell_one_new _ _ _⟩) (LP _) (by unfold maxLen;omega) oM (by rw[ND];omega) ?_)
 intro a8 J ba O bb;have bd:Hid<|AV J a zs:=(a1.below<|(NB _ _).alloc (rP _)<|.cells #[iN N] 3).grown O a6;have be:(a=none/\N=0)\/∃G,a=some G/\∀j u,(Cp zs)[j]? =some u->J.cell? (G.add j)=some u:=by
  have e:=I.out;cases a with
  |none=>exact .inl ⟨rfl,by rw[<-e,a7.out rfl];rfl⟩
  |some G=>
   refine .inr ⟨G,rfl,?_⟩;by_cases ap:zs=[]
   .subst ap;intro j u bf;simp[Cp]at bf
   rcases Xf bd with⟨q,_⟩|q|⟨_,q,bg⟩
   .cases q
   .exact absurd q ap
   .cases q;exact bg
 have bi:(Cp zs).length=N*1:=by rw[XT,I.out,Nat.mul_one]
 go_wp2_with (at_builtin;refine aE J rfl (.tmp 9) (.tmp 10) 136 39 rfl base 3 Z (iN 0) 1 8 underlying136 underlying39 ab ad ak al rfl oD a8 (L.length+1) (Cp L++Cp [(N:Int)]) rfl ba a N cap (Cp zs) rfl bi be (LP _) (by unfold maxLen;omega) oM (by have:=O.size;rw[ND]at this;omega) ?_)
 intro bk bu bl bn bo;go_wp2;go_ret;refine⟨bk,rfl,?_,?_⟩
 .unfold NR
  have bp:(L++(N:Int)::zs).length=L.length+1+N:=by simp[I.out];omega
  have bq:Cp (L++(N:Int)::zs)=Cp L++(Cp [(N:Int)]++Cp zs):=by simp[Cp]
  rw[bp,bq];exact bl
 .exact((Gr.newb w _ v).trans ⟨O,bb.imp id (λe=>⟨_,e,by rw[ND];omega⟩)⟩).trans ⟨bn,bo.imp id λe=>⟨_,e,rP _⟩⟩
theorem dN(w:World)(x y z:Int)(t:TypeId):∀j u,(Cp [x,y,z])[j]? =some u->(w.alloc<|.cells #[iN x,iN y,iN z] t).cell? (((aD w.heap.size 0):Addr).add j)=some u:=by grind [Ef,rO,Cp]
structure Pl where
 a:Option Addr
 l:List Int
 c:Nat
 fr:Int
 sz:Int
abbrev Pl.v(p:Pl):Value:=.agg #[.slice p.a p.l.length p.c,iN p.fr,iN p.sz]
def EC:Pl:=⟨none,[],0,0,0⟩
def Et(w:World)(o:Option Nat)(p:Pl):Prop:=match o with
 |none=>p=EC
 |some b=>w.cell? ⟨b,0,none⟩=some (.slice p.a p.l.length p.c)/\w.cell? ⟨b,1,none⟩=some (iN p.fr)/\w.cell? ⟨b,2,none⟩=some (iN p.sz)
theorem qX(w:World)(L:Nat->Option Nat)(k:Nat)(G:k<5):(Instr.index 94 (.agg #[pV<|L 0,pV<|L 1,pV<|L 2,pV<|L 3,pV<|L 4])<|iN k).run prog w=.ok (pV<|L k) w:=by
 rcases(by omega:k=0\/k=1\/k=2\/k=3\/k=4)with rfl|rfl|rfl|rfl|rfl<;>kernel_rfl
theorem Z2(w:World)(L:Nat->Option Nat)(k:Nat)(G:k<5):(Instr.index 95 (.agg #[pV<|L 0,pV<|L 1,pV<|L 2,pV<|L 3,pV<|L 4])<|iN k).run prog w=.ok (pV<|L k) w:=by
 rcases(by omega:k=0\/k=1\/k=2\/k=3\/k=4)with rfl|rfl|rfl|rfl|rfl<;>kernel_rfl
theorem WB{w0:World}{a6:Nat}{G:Nat->Option Nat}{Q R:Nat->Pl}(ao:w0.heap[hb]? =some (.cells (Cz db a6 L G) 97 (0,0)))(a7:∀k,Et w0 (L k)<|Q k)(a8:∀k,Et w0 (G k)<|R k){F:FuncId}(hF:F=105\/F=66)(I:Nat->World->Prop)(ar:I 0 w)
 (ba:∀k W,k<5->I k W->Calls prog F #[(Q k).v,pO lb 0] W λe ap=>e=.returned (.tuple #[])/\I (k+1) ap)
 (bb:∀k W,k<5->I (5+k) W->Calls prog F #[(R k).v,pO lb 0] W λe ap=>e=.returned (.tuple #[])/\I (5+(k+1)) ap)
 (bd:∀k W o,I k W->I k (W.alloc o)) (aw:∀k W,I k W->Below w0.heap.size w0 W):
 Calls prog 65 #[pO hb 0,.func (.func F) #[] #[pO lb 0]] w λe w'=>e=.returned (.tuple #[])/\I 10 w':=by
 have be:=hid ba;have bf:=hid bb;have az:=hid bd;have Z:=hid aw;have aA:=hid ao;have bg:=hid a7;have bi:=hid a8;have O:=((aw 0 w ar).block hb<|Cw ao).trans ao;have bo:Ce w hb 3<|pV<|L 0:=AG O rfl;have bp:Ce w hb 4<|pV<|L 1:=AG O rfl;have bq:Ce w hb 5<|pV<|L 2:=AG O rfl;have bs:Ce w hb 6<|pV<|L 3:=AG O rfl;have c7:Ce w hb 7<|pV<|L 4:=AG O rfl;rcases hF with rfl|rfl
 all_goals
  go_enter func65,ntmps65;go_wp2;go_loopw [5,12,13,14,15,16,17,18,19,20,21,22,23,24,25] (λ_ u12 _ _ _ _ _ _ _ _ _ _ _ _ _ wr=>∃k:Nat,k<=5/\u12=iN k/\Hid (I k wr)) (λ_ u12 _ _ _ _ _ _ _ _ _ _ _ _ _ _=>5-(intOf u12).toNat)
  case atStart=>exact⟨0,by omega,rfl,ar⟩
  case round=>
   obtain⟨k,bk,rfl,HK⟩:=hrel;by_cases ab:k<5
   .have a1:decide ((k:Int)<5)=true:=NY oM
    have hx:=qX wr L k ab;have J:=bg.out k;have H:=be.out k;cases hl:L k with
    |none=>
     rw[hl]at J hx;have J:Q k=EC:=J;rw[J]at H;replace hx:(Instr.index 94 (.agg #[pV<|L 0,pV<|L 1,pV<|L 2,pV<|L 3,pV<|L 4])<|iN k).run prog wr=.ok (.pointer none) wr:=hx;go_wp2_with fail
     go_call H _ ab (az k wr _ HK) as e w2 ⟨rfl,H⟩
     have ad:=hid H;go_wp2;go_roundw
     case rel=>exact⟨k+1,by omega,by go_num,ad⟩
     case measure=>(simp[intOf];try omega)
    |some b=>
     rw[hl]at J hx;obtain⟨ak,g1,al⟩:=J;replace hx:(Instr.index 94 (.agg #[pV<|L 0,pV<|L 1,pV<|L 2,pV<|L 3,pV<|L 4])<|iN k).run prog wr=.ok (pO b 0) wr:=hx;replace ak:=Ai (Z k wr HK) _ _ ak;replace g1:=Ai (Z k wr HK) _ _ g1;replace al:=Ai (Z k wr HK) _ _ al;go_wp2_with fail
     go_call H _ ab HK as e w2 ⟨rfl,H⟩
     have ad:=hid H;go_wp2;go_roundw
     case rel=>exact⟨k+1,by omega,by go_num,ad⟩
     case measure=>(simp[intOf];try omega)
   .have bl:Hid<|k=5:=by show _=_;omega
    have a1:decide ((k:Int)<5)=false:=NM oM;replace HK:Hid<|I 5 wr:=by rw[<-bl.out];exact HK
    have O:=((Z 5 wr HK).block hb<|Cw aA).trans aA;have bu:Ce wr hb 8<|pV<|G 0:=AG O rfl;have bx:Ce wr hb 9<|pV<|G 1:=AG O rfl;have bA:Ce wr hb 10<|pV<|G 2:=AG O rfl;have bB:Ce wr hb 11<|pV<|G 3:=AG O rfl;have bC:Ce wr hb 12<|pV<|G 4:=AG O rfl;go_wp2;go_loopw [7,30,31,32,33,34,35,36,37,38,39,40,41,42,43] (λ_ u30 _ _ _ _ _ _ _ _ _ _ _ _ _ wr=>∃k:Nat,k<=5/\u30=iN k/\Hid (I (5+k) wr)) (λ_ u30 _ _ _ _ _ _ _ _ _ _ _ _ _ _=>5-(intOf u30).toNat)
    case atStart=>exact⟨0,by omega,rfl,HK⟩
    case round=>
     obtain⟨k,bk,rfl,HK⟩:=hrel;by_cases ab:k<5
     .have a1:decide ((k:Int)<5)=true:=NY oM
      have hx:=Z2 wr G k ab;have J:=bi.out k;have H:=bf.out k;cases hl:G k with
      |none=>
       rw[hl]at J hx;have J:R k=EC:=J;rw[J]at H;replace hx:(Instr.index 95 (.agg #[pV<|G 0,pV<|G 1,pV<|G 2,pV<|G 3,pV<|G 4])<|iN k).run prog wr=.ok (.pointer none) wr:=hx;go_wp2_with fail
       go_call H _ ab (az (5+k) wr _ HK) as e w2 ⟨rfl,H⟩
       have ad:=hid H;go_wp2;go_roundw
       case rel=>exact⟨k+1,by omega,by go_num,ad⟩
       case measure=>(simp[intOf];try omega)
      |some b=>
       rw[hl]at J hx;obtain⟨ak,g1,al⟩:=J;replace hx:(Instr.index 95 (.agg #[pV<|G 0,pV<|G 1,pV<|G 2,pV<|G 3,pV<|G 4])<|iN k).run prog wr=.ok (pO b 0) wr:=hx;replace ak:=Ai (Z (5+k) wr HK) _ _ ak;replace g1:=Ai (Z (5+k) wr HK) _ _ g1;replace al:=Ai (Z (5+k) wr HK) _ _ al;go_wp2_with fail
       go_call H _ ab HK as e w2 ⟨rfl,H⟩
       have ad:=hid H;go_wp2;go_roundw
       case rel=>exact⟨k+1,by omega,by go_num,ad⟩
       case measure=>(simp[intOf];try omega)
     .have bn:k=5:=by omega
      have bF:decide ((k:Int)<5)=false:=NM oM;replace HK:Hid<|I 10 wr:=by rw[bn]at HK;exact HK
      go_wp2;go_end0
      exact⟨rfl,HK⟩
theorem jS(w:World)(x y:Int)(t:TypeId):∀j u,(Cp [x,y])[j]? =some u->(w.alloc<|.cells #[iN x,iN y] t).cell? (((aD w.heap.size 0):Addr).add j)=some u:=by grind [Ef,rO,Cp]
theorem bS{e:TypeId}{size:Nat}{v:Value}{xs:List Value}(h:w.ownsRow base e size v n xs){o:Nat}(hb:v.ownBlock≠some b)(u:Value):(w.setCell (aD b o) u).ownsRow base e size v n xs:=by
 refine⟨h.1,?_⟩;rcases h.2 with q|⟨g,cap,G,rfl,H,I,J⟩
 .grind
 .refine .inr ⟨g,cap,G,rfl,H,?_,J⟩
  rw[Deep.blk_setCell_other _ _ _ _ (show g≠b from λe=>hb (by rw[<-e];rfl))];exact I
theorem fP{v pv:Value}{L:List Int}{fr sz:Int}(hb:W.heap[lb]? =some (.cells #[v] 136 (0,0)))(ap:NR base W v L)(a8:lb<base)(ba:base<=W.heap.size)(bb:L.length<=1000):
 Calls prog 105 #[.agg #[pv,iN fr,iN sz],pO lb 0] W λe Z=>e=.returned (.tuple #[])/\(∃al,Z.heap[lb]? =some (.cells #[al] 136 (0,0))/\NR base Z al (L++[fr,sz]))/\Below lb W Z:=by
 obtain⟨ar,aw,az,aA,a1⟩:=Kr Tryz.infoIn;have c0:Ce W lb 0 v:=AG hb rfl;have f0:W.frozen? (aD lb 0)=false:=Cr hb 0;have G:Hid<|W.heap[lb]? =some (.cells #[v] 136 (0,0)):=hb;have ab:=Cw hb;have p1:Ce (W.alloc<|.cells #[pv,iN fr,iN sz] 72) W.heap.size 1<|iN fr:=rO _ _ _ _ rfl;have p2:Ce (W.alloc<|.cells #[pv,iN fr,iN sz] 72) W.heap.size 2<|iN sz:=rO _ _ _ _ rfl;have H:Below W.heap.size W<|W.alloc<|.cells #[pv,iN fr,iN sz] 72:=(NB _ _).alloc (rP _) _;have c0:=(H.cell (p:=(aD lb 0)) ab).trans c0;have G:=(H.block lb ab).trans G;have I:Hid<|(W.alloc<|.cells #[pv,iN fr,iN sz] 72).ownsRow base 3 1 v L.length<|Cp L:=tL ap _;go_enter func105,ntmps105;go_upto_region 1 with fail
 generalize W.alloc (.cells #[pv,iN fr,iN sz] 72)=J at p1 p2 H c0 G I⊢;have bd:=H.size;have G:Hid<|J.heap[lb]? =some (.cells #[v] 136 (0,0)):=G;go_wp2_with (at_builtin;refine DP (J.alloc<|.cells #[iN fr,iN sz] 3) rfl (.tmp 3) (.tmp 8) 136 rfl base 3 ar (iN 0) 1 8 underlying136 aw az aA a1 rfl oD v L.length (Cp L) rfl (tL I _) (some<|aD J.heap.size 0) 2 2 (Cp [fr,sz]) rfl rfl (.inr ⟨_,rfl,jS _ _ _ _⟩) (LP _) (by unfold maxLen;omega) oM (by rw[ND];omega) ?_)
 intro be O ad ao bf;have a6:v.ownBlock≠some lb:=λe=>by have:=(tK I lb e).1;omega
 have ak:Hid<|O.heap[lb]? =some (.cells #[v] 136 (0,0)):=(ao.block lb (by rw[ND];omega) λe=>a6 e.symm).trans<|(heap_alloc_old J _ oM).trans G;have a7:Hid<|Below lb W O:=((H.mono<|K6 ab).alloc oM _).grown ao (by rw[ND];omega) (λg e=>by have:=(tK I g e).1;omega);have c7:Ce O lb 0 v:=AG ak rfl;have f7:O.frozen? (aD lb 0)=false:=Cr ak 0;obtain⟨bg,bi,rfl,_,_,bk⟩:=Jm ad;go_wp2;go_end0
 refine⟨rfl,⟨_,Lib.heap_setCell_same (i:=0) ak _,?_⟩,a7.setCell (rP _) _⟩;unfold NR;rw[Ow,N6];refine bS ad ?_ _;intro e;have:=(tK ad lb e).1;omega
theorem Nc{v:Value}{L:List Int}(h:NR base w v L):∃a cap,v=.slice a L.length cap/\AV w a L:=by
 obtain⟨a,cap,rfl,_,_,G⟩:=Jm h;refine⟨a,cap,rfl,?_⟩;rcases G with⟨_,_,e,_⟩|⟨g,J,rfl,hb,H,O,hx⟩
 .exact .inl (by simpa [Cp]using e)
 .refine .inr ⟨g,0,rfl,λi I=>?_⟩
  rw[RT];refine Iu H hx (i:=i) ?_;rw[Cp,R6,List.getD_eq_getElem?_getD,NA I];rfl
def QG(w:World)(k:Nat)(W:World):Prop:=Below w.heap.size w W/\w.heap.size<W.heap.size/\∃L v,L.length=2*k/\W.heap[w.heap.size]? =some (.cells #[v] 136 (0,0))/\NR (w.heap.size+1) W v L
theorem iU{Z:Nat}{H:Nat->Option Nat}{Q R:Nat->Pl}(ab:w.heap[hb]? =some (.cells (Cz db Z L H) 97 (0,0)))(ad:∀k,Et w (L k)<|Q k)(ak:∀k,Et w (H k)<|R k):
 Calls prog 73 #[pO hb 0] w λe w'=>(∃s,e=.returned (.string s)/\s.size=60)/\Below w.heap.size w w':=by
 have al:Below w.heap.size w<|w.alloc<|.cells #[nL] 136:=(NB _ _).alloc (rP _) _;have aw:(w.alloc<|.cells #[nL] 136).heap.size=w.heap.size+1:=ND _ _;have st (p:Pl) (k:Nat) (W:World) (I:k<10) (h:QG w k W):Calls prog 105 #[p.v,pO w.heap.size 0] W λe J=>e=.returned (.tuple #[])/\QG w (k+1) J:=by
  obtain⟨q1,q2,L,v,G,q4,q5⟩:=h;exact rQ (fP q4 q5 oM oM oM) λe J ⟨ao,⟨v',e2,e3⟩,e4⟩=>⟨ao,q1.trans e4,N1 q2 e4.size,_,v',by simp;omega,e2,e3⟩
 have ap:Hid (Calls prog 65 #[pO hb 0,.func (.func 105) #[] #[pO w.heap.size 0]] (w.alloc<|.cells #[nL] 136) λe w'=>e=.returned (.tuple #[])/\QG w 10 w'):=
  WB ab ad ak (.inl rfl) (QG w) ⟨al,by omega,[],_,rfl,tM w _,CZ _ _ _ _⟩ (λk W I h=>st _ k W oM h) (λk W I h=>st _ (5+k) W oM h) (λk W o ⟨q1,q2,L,v,G,q4,q5⟩=>⟨q1.alloc (K6 q2) _,by rw[ND];omega,L,v,G,(heap_alloc_old W _<|Cw q4).trans q4,tL q5 _⟩) (λk W h=>h.1)
 go_enter func73,ntmps73;go_wp2_with fail
 go_call ap as e w2 ⟨rfl,q1,q2,L,v,G,q4,q5⟩
 obtain⟨a,cap,rfl,ar⟩:=Nc q5;have c0:Ce w2 w.heap.size 0<|.slice a L.length cap:=AG q4 rfl;have O:=Vw (cap:=cap) ar oM oM;rw[G]at O c0;go_wp2_with fail
 go_call O as e w3 ⟨⟨s,rfl,hs⟩,hb3⟩
 go_wp2;go_ret;exact⟨⟨s,rfl,hs⟩,q1.trans<|hb3.mono q1.size⟩
theorem Et.below{o:Option Nat}{p:Pl}(h:Et w o p)(hb:Below w.heap.size w w'):Et w' o p:=by
 cases o with
 |none=>exact h
 |some b=>exact⟨Ai hb _ _ h.1,Ai hb _ _ h.2.1,Ai hb _ _ h.2.2⟩
theorem H6{sd:Nat}{G:Nat->Option Nat}(h:w.heap[b]? =some (.cells (Cz db sd L G) 97 (0,0))):(Ce w b 0 (pO db 0)/\Ce w b 1 (.bool false)/\Ce w b 2 (iN sd)/\Ce w b 3 (pV<|L 0)/\Ce w b 4 (pV<|L 1)/\Ce w b 5 (pV<|L 2)/\Ce w b 6 (pV<|L 3)/\Ce w b 7 (pV<|L 4)/\Ce w b 8 (pV<|G 0)/\Ce w b 9 (pV<|G 1)/\Ce w b 10 (pV<|G 2)/\Ce w b 11 (pV<|G 3)/\Ce w b 12 (pV<|G 4))/\w.frozen? (aD b 0)=false/\w.frozen? (aD b 1)=false/\w.frozen? (aD b 2)=false/\w.frozen? (aD b 3)=false/\w.frozen? (aD b 4)=false/\w.frozen? (aD b 5)=false/\w.frozen? (aD b 6)=false/\w.frozen? (aD b 7)=false/\w.frozen? (aD b 8)=false/\w.frozen? (aD b 9)=false/\w.frozen? (aD b 10)=false/\w.frozen? (aD b 11)=false/\w.frozen? (aD b 12)=false:=
 ⟨⟨AG h rfl,AG h rfl,AG h rfl,AG h rfl,AG h rfl,AG h rfl,AG h rfl,AG h rfl,AG h rfl,AG h rfl,AG h rfl,AG h rfl,AG h rfl⟩,Cr h 0,Cr h 1,Cr h 2,Cr h 3,Cr h 4,Cr h 5,Cr h 6,Cr h 7,Cr h 8,Cr h 9,Cr h 10,Cr h 11,Cr h 12⟩
abbrev am(w:World)(b db sd:Nat)(L G:Nat->Option Nat):World:=(((((((((((((w).setCell (aD b 0)<|pO db 0).setCell (aD b 1)<|.bool false).setCell (aD b 2)<|iN sd).setCell (aD b 3)<|pV<|L 0).setCell (aD b 4)<|pV<|L 1).setCell (aD b 5)<|pV<|L 2).setCell (aD b 6)<|pV<|L 3).setCell (aD b 7)<|pV<|L 4).setCell (aD b 8)<|pV<|G 0).setCell (aD b 9)<|pV<|G 1).setCell (aD b 10)<|pV<|G 2).setCell (aD b 11)<|pV<|G 3).setCell (aD b 12)<|pV<|G 4
theorem pN(w:World)(b db sd:Nat)(L G:Nat->Option Nat):Mv (λk=>k=b) w<|am w b db sd L G:=(((((((((((((Mv.refl (λk=>k=b) w).setCell (p:=(aD b 0)) rfl _).setCell (p:=(aD b 1)) rfl _).setCell (p:=(aD b 2)) rfl _).setCell (p:=(aD b 3)) rfl _).setCell (p:=(aD b 4)) rfl _).setCell (p:=(aD b 5)) rfl _).setCell (p:=(aD b 6)) rfl _).setCell (p:=(aD b 7)) rfl _).setCell (p:=(aD b 8)) rfl _).setCell (p:=(aD b 9)) rfl _).setCell (p:=(aD b 10)) rfl _).setCell (p:=(aD b 11)) rfl _).setCell (p:=(aD b 12)) rfl _
theorem mC{sd:Nat}{L' G' G:Nat->Option Nat}(h:w.heap[b]? =some (.cells (Cz db H L' G') 97 (0,0))):(am w b db sd L G).heap[b]? =some (.cells (Cz db sd L G) 97 (0,0)):=by
 have k {w:World} {c:Array Value} {i:Nat} {v:Value} (h:w.heap[b]? =some (.cells c 97 (0,0))):=Lib.heap_setCell_same (i:=i) h v;refine Eq.trans (k<|k<|k<|k<|k<|k<|k<|k<|k<|k<|k<|k<|k h) ?_;simp
theorem Ot{ap L' G':Nat->Option Nat}{Q R:Nat->Pl}(h:HK w hb db J cap n H m L ap)(b0:200<=n)(b1:m<=800000)(ar:∀k,Et w (L' k)<|Q k)(aw:∀k,Et w (G' k)<|R k):
 Calls prog 38 #[pO hb 0,.agg<|Cz db H L' G'] w λe w'=>e=.returned .nilIface/\HK w' hb db J cap n (1-H) (m+68) L' G'/\Mv (λb=>b=hb\/b=db\/b=J) w w':=by
 have bg:=hid h;have b2:=h.sd;obtain⟨sd,az,b4⟩:∃sd:Nat,sd=1-H/\(1:Int)-H=sd:=⟨1-H,rfl,by omega⟩;have Z:sd<2:=by omega
 rw[<-az];have ab:Below w.heap.size w<|w.alloc<|.cells (Cz db sd L' G') 97:=(NB _ _).alloc (rP _) _;have ad:Hid ((∀k,Et (w.alloc<|.cells (Cz db sd L' G') 97) (L' k)<|Q k)/\∀k,Et (w.alloc<|.cells (Cz db sd L' G') 97) (G' k)<|R k):=⟨λk=>(ar k).below ab,λk=>(aw k).below ab⟩;have c2:Ce w hb 2<|iN H:=AG h.box rfl;have b6:=h.lt;clear ar aw h az ab;go_enter func38,ntmps38;go_upto_region 2 with fail
 have O:(w.alloc<|.cells (Cz db sd L' G') 97).heap[w.heap.size]? =some (.cells (Cz db sd L' G') 97 (0,0)):=tM w _;have ak:Mv (λ_=>False) w<|w.alloc<|.cells (Cz db sd L' G') 97:=(Mv.refl _ _).alloc _;have aA:(w.alloc<|.cells (Cz db sd L' G') 97).heap.size=w.heap.size+1:=ND _ _;show Code.wp _ _ _ _ (w.alloc<|.cells (Cz db sd L' G') 97);generalize w.alloc (.cells (Cz db sd L' G') 97)=al at O ak aA ad⊢;have a1:=hid aA;have a6:=hid O;have bi:Hid<|HK al hb db J cap n H m L ap:=bg.mv ak id id id;have a7:Ce al w.heap.size 2<|iN sd:=AG O rfl;have bk:=cT sd Z al;have a8:=hid<|iU O ad.1 ad.2;obtain⟨G,ba⟩:∃G,w.heap.size=G:=⟨_,rfl⟩;have bl:=hid ba;rw[ba]at a7 a8 a6 a1⊢;go_wp2_with fail
 go_call bk as e w' ⟨rfl,rfl⟩
 go_wp2_with fail
 go_call a8 as e w2 ⟨⟨s,rfl,hs⟩,hb2⟩
 have bb:=MC (bi.below hb2) (64+sd*64) s oM oM oM;have bd:=hid<|(hb2.block G (by have:=a1.out;omega)).trans a6;have bn:((64+sd*64:Nat):Int)=64+(sd:Int)*64:=by omega
 rw[bn,hs]at bb;have bo:=hid hb2;go_wp2_with fail
 go_call bb as e w3 ⟨rfl,M3,K3⟩
 have b7:G≠hb/\G≠db/\G≠J:=by have:=bl.out;omega
 have ao:=hid<|(M3.block G (Cw bd) oM).trans bd;have a7:Ce w3 G 2<|iN sd:=AG ao rfl;have bp:(Jh sd).size=8:=by
  rcases(by omega:sd=0\/sd=1)with rfl|rfl<;>rfl
 have bq:=U1 sd Z w3;have be:=MC K3 0 (Jh sd) oM oM oM;rw[bp]at be;have bs:=hid M3;go_wp2_with fail
 go_call bq as e w' ⟨rfl,rfl⟩
 go_wp2_with fail
 go_call be as e w4 ⟨rfl,M4,K4⟩
 have bu:=hid<|(M4.block G (Cw ao) oM).trans ao;have bx:=hid M4;have I:=hid K4;obtain⟨⟨b9,q1,q2,ce,q4,q5,q6,q7,q8,q9,q10,q11,q12⟩,_⟩:=H6 bu;obtain⟨⟨cf,ch,cl,co,cr,cx,cD,cF,c3,c4,c5,c6,c8⟩,f0,f1,f2,f3,f4,f5,f6,f7,f8,f9,f10,c9,da⟩:=H6 I.box;go_wp2;go_ret;have bA:Mv (λb=>b=hb\/b=db\/b=J) w w4:=(((ak.mono λ_ e=>e.elim).trans<|Mv.of bo).trans<|bs.out.mono λ_ e=>.inr e).trans<|bx.out.mono λ_ e=>.inr e;obtain⟨c,bB,bC⟩:=I.disk;have bf:Mv (λb=>b=hb) w4 _:=pN w4 hb db sd L' G';refine⟨rfl,⟨mC I.box,⟨c,bB.mv bf (λe=>I.ne.1 e.symm) λe=>I.ne.2 e.symm,?_⟩,I.ne,Z,I.nn⟩,bA.trans<|bf.mono λ_ e=>.inl e⟩;obtain⟨bF,bG,bH,bY,dd⟩:=bC;exact⟨bF,bG,bH,bY,by omega⟩
def nH:Nat->Option Nat:=λ_=>none
theorem dW(O:200<=n)(a8:n<=500)(h:KB w db G cap ⟨Fo<|64*n,-1,0,false⟩):
 Calls prog 17 #[pO db 0] w λe w'=>(∃hb,e=.returned (.tuple #[pO hb 0,.nilIface])/\w.heap.size<=hb/\HK w' hb db G cap n 1 69 nH nH)/\Mv (λb=>b=db\/b=G) w w':=by
 have Z:(Fo<|64*n).size=64*n:=Rb _;have ao:=cO h Z rfl O;have ap:=dt h;have ar:=aS (64*n) oM oM w;have aw:Hid<|KB w db G cap ⟨Fo<|64*n,-1,0,false⟩:=h;have ba:=h.lt;go_enter func17,ntmps17;go_wp2_with fail
 go_call ao as e w' ⟨rfl,rfl⟩
 go_wp2_with fail
 go_call ap as e w' ⟨rfl,rfl⟩
 go_wp2_with fail
 go_call ar as e w' ⟨rfl,rfl⟩
 go_upto_region 6 with fail
 have I:Mv (λ_=>False) w<|w.alloc<|.cells (Cz db 0 nH nH) 97:=(Mv.refl _ _).alloc _
 have J:HK (w.alloc<|.cells (Cz db 0 nH nH) 97) w.heap.size db G cap n 0 0 nH nH:=
  ⟨tM w _,⟨_,aw.mv I id id,Z,rfl,rfl,Int.le_refl _,Int.le_refl _⟩,by omega,by decide,by omega⟩
 show Code.wp _ _ _ _ (w.alloc<|.cells (Cz db 0 nH nH) 97);generalize w.alloc (.cells (Cz db 0 nH nH) 97)=ab at I J⊢;obtain⟨hb,ad⟩:∃hb,w.heap.size=hb:=⟨_,rfl⟩;have ak:Hid<|w.heap.size=hb:=ad;rw[ad]at J⊢;have az:=MC J 7 ⟨#[0]⟩ oD (by show 7+1<=64*n;omega) oD;have aA:Hid<|Mv (λ_=>False) w ab:=I;go_wp2_with fail
 go_call az as e w2 ⟨rfl,M2,K2⟩
 have a1:=Ot (Q:=λ_=>EC) (R:=λ_=>EC) (L':=nH) (G':=nH) K2 O oD (λ_=>rfl) λ_=>rfl;obtain⟨⟨bb,q1,q2,bd,q4,q5,q6,q7,q8,q9,q10,q11,q12⟩,_⟩:=H6 K2.box;have a6:Hid<|Mv (λb=>b=db\/b=G) ab w2:=M2;go_wp2_with fail
 go_call a1 as e w3 ⟨rfl,K3,M3⟩
 go_wp2;go_ret2;refine⟨⟨hb,rfl,Nat.le_of_eq ak,K3⟩,?_⟩;have H:Mv (λb=>b=db\/b=G) w w2:=(aA.out.mono λ_ e=>e.elim).trans a6.out;refine⟨M3.os.trans H.os,M3.tape.trans H.tape,M3.output.trans H.output,Rz H.size M3.size,λk al a7=>?_⟩;exact(M3.block k (N1 al H.size) (by have:=ak.out;omega)).trans (H.block k al a7)
theorem iv(w:World)(n:Nat)(H:200<=n)(I:n<=500):
 Calls prog 6 #[iN n] w λe w'=>(∃hb db G,e=.returned (.tuple #[pO db 0,pO hb 0,.bool true])/\HK w' hb db G (64*n) n 1 69 nH nH/\w.heap.size<=hb/\w.heap.size<=db/\w.heap.size<=G)/\Below w.heap.size w w':=by
 have J:=lN n w oM;go_enter func6,ntmps6;go_wp2_with fail
 go_call J as e w2 ⟨db,G,rfl,K,hd,hr,hb⟩
 have O:=dW H I K;go_wp2_with fail
 go_call O as e w3 ⟨⟨hb',rfl,h1,K3⟩,M3⟩
 go_wp2;go_ret3
 exact⟨⟨_,_,_,rfl,K3,Rz hb.size h1,hd,hr⟩,hb.trans<|M3.below hb.size (λk e=>by omega)⟩
open Go.Maps
theorem Tz:Keyed prog 3:=int_keyed underlying3
theorem ZH(w:World):(zeroValue 150).run prog w=.ok (.agg #[]) w:=by kernel_rfl
def FI(D:DataW Unit)(zs:List Int):DataW Unit:=zs.foldl (λm x=>m.put (.int .i64 x)<|.agg []) D
theorem gV{k:Nat}(h:k<zs.length):FI D (zs.take<|k+1)=(FI D<|zs.take k).put (.int .i64<|zs.getD k 0) (.agg []):=by grind [FI,CO]
theorem Ue(h:w.ownsMap prog 3 unitElem b n D)(hb:w'.heap[b]? =w.heap[b]?):w'.ownsMap prog 3 unitElem b n D:=by
 obtain⟨G,H,q,r⟩:=h;exact⟨G,H,hb.trans q,r⟩
theorem UX(h:w.ownsMap prog 3 unitElem b n D):b<w.heap.size:=by
 obtain⟨G,H,q,r⟩:=h;exact Cw q
theorem eU{fr sz:Int}(hb:W.heap[lb]? =some (.cells #[.map<|some G] 98 (0,0)))(ap:W.ownsMap prog 3 unitElem G n D)(bd:AV W a zs)(bF:G<lb)(be:∀p,a=some p->zs≠[]->p.block<G)(bG:n<=1000)(ak:zs.length<=1000)(bf:∀z∈zs,0<=z/\z<=1000000):
 Calls prog 66 #[.agg #[.slice a zs.length cap,.int .i64 fr,.int .i64 sz],.pointer<|some ⟨lb,0,none⟩] W λe al=>e=.returned (.tuple #[])/\(al.heap[lb]? =some (.cells #[.map<|some G] 98 (0,0))/\al.ownsMap prog 3 unitElem G (n+zs.length) (FI D zs))/\Below G W al:=by
 obtain⟨N,ar⟩:∃N,zs.length=N:=⟨_,rfl⟩;have I:Hid<|zs.length=N:=ar;have bH:Hid<|W.heap[lb]? =some (.cells #[.map<|some G] 98 (0,0)):=hb;have bg:=Cw hb;have aw:=UX ap;have p0:(W.alloc<|.cells #[.slice a N cap,iN fr,iN sz] 72).cell? ⟨W.heap.size,0,none⟩=some (.slice a N cap):=rO _ _ _ _ rfl;have H:Below W.heap.size W<|W.alloc<|.cells #[.slice a N cap,iN fr,iN sz] 72:=(NB _ _).alloc (rP _) _;have az:Hid<|(W.alloc<|.cells #[.slice a N cap,iN fr,iN sz] 72).ownsMap prog 3 unitElem G n D:=Ue ap<|H.block G aw;have J:Hid<|(W.alloc<|.cells #[.slice a N cap,iN fr,iN sz] 72).heap[lb]? =some (.cells #[.map<|some G] 98 (0,0)):=(H.block lb bg).trans hb;have aA:Hid<|AV (W.alloc<|.cells #[.slice a N cap,iN fr,iN sz] 72) a zs:=bd.below H;have a1:Hid<|Below G W<|W.alloc<|.cells #[.slice a N cap,iN fr,iN sz] 72:=H.mono<|K6 aw;have bi:Hid (∀p,a=some p->zs≠[]->p.block<G):=be;have bk:Hid (∀z∈zs,0<=z/\z<=1000000):=bf;rw[ar]at ak⊢;go_enter func66,ntmps66;go_upto_region 1 with fail
 generalize W.alloc (.cells #[.slice a N cap,iN fr,iN sz] 72)=ab at p0 H az J aA a1⊢;go_wp2;go_loopw [4,8,9,10,11,12,13,14,15] (λ_ u8 _ _ _ _ _ _ _ wr=>∃k:Nat,k<=N/\u8=iN k/\Hid (wr.ownsMap prog 3 unitElem G (n+k)<|FI D<|zs.take k)/\Hid (Mv (λb=>b=G) ab wr)) (λ_ u8 _ _ _ _ _ _ _ _=>N-(intOf u8).toNat)
 case atStart=>exact⟨0,N7 _,rfl,az.out,Mv.refl _ _⟩
 case round=>
  obtain⟨k,bY,rfl,a6,O⟩:=hrel;by_cases ao:k<N
  .have bl:decide ((k:Int)<(N:Int))=true:=NY oM
   have b0:(k:Int)<(N:Int):=by omega
   have a7:zs≠[]:=λe=>by have:=I.out;rw[e]at this;simp at this;omega
   obtain⟨b,Z,a8,bn⟩:∃b Z,a=some ⟨b,Z,none⟩/\∀i,i<zs.length->ab.cell? ⟨b,Z+i,none⟩=some (iN<|zs.getD i 0):=by
    rcases aA.out with h|h
    .exact absurd h a7
    .exact h
   have bo:b≠G:=by have:=bi.out _ a8 a7;simp at this;omega
   subst a8;have ad:=bn k (by rw[I.out];exact ao);have ad:=(O.cell (p:=⟨b,Z+k,none⟩) (NF ab ⟨b,Z+k,none⟩ ad) bo).trans ad;have ba:Hid<|FI D (zs.take<|k+1)=(FI D<|zs.take k).put (.int .i64<|zs.getD k 0) (.agg []):=gV (by rw[I.out];exact ao)
   have bp:0<=zs.getD k 0/\zs.getD k 0<=1000000:=bk _ (by
    rw[List.getD_eq_getElem?_getD,NA (by rw[I.out];exact ao)];exact List.getElem_mem _)
   have bq:lb≠G:=by omega
   have bs:Hid<|wr.heap[lb]? =some (.cells #[.map<|some G] 98 (0,0)):=(O.block lb (Cw J) bq).trans J;have b1:wr.cell? ⟨lb,0,none⟩=some (.map<|some G):=AG bs rfl;obtain⟨z,ak⟩:∃z,zs.getD k 0=z:=⟨_,rfl⟩;rw[ak]at ad ba bp;go_wp2_with (at_mapUpdate;refine wpList_mapUpdate_in _ rfl _ _ _ 98 rfl 3 150 Tz underlying98 unitElem G (n+k) _ rfl a6.out (by unfold maxLen;omega) _ _ _ rfl rfl (keyOf_int_mk underlying3<|WalkArith.wf_i64 oM) _ [] unitElem_mk ?_)
   intro bb bu bx;have bA:Hid<|bb.ownsMap prog 3 unitElem G (n+(k+1))<|FI D<|zs.take<|k+1:=by
    show World.ownsMap ..;rw[ba.out];exact bu
   have bB:Hid<|Mv (λb=>b=G) ab bb:=O.grown bx.grown (λj e=>by cases e;rfl);go_wp2;go_roundw
   case rel=>exact⟨k+1,by omega,by go_num,bA.out,bB⟩
   case measure=>(simp[intOf];try omega)
  .have bl:decide ((k:Int)<(N:Int))=false:=NM oM
   go_wp2;go_end0
   have bC:k=N:=by omega
   subst bC;have q:=a6.out;rw[R3 (by rw[I.out];exact rP _)]at q;exact⟨rfl,⟨(O.block lb (Cw J) oM).trans J,q⟩,a1.trans<|O.below (by have:=H.size;omega) (λk e=>by omega)⟩
def DK(Q R:Nat->Pl):Nat->List Int
 |0=>[]
 |k+1=>DK Q R k++(if k<5 then(Q k).l else(R<|k-5).l)
def JN(w:World)(Q R:Nat->Pl)(k:Nat)(W:World):Prop:=Below w.heap.size w W/\W.heap[w.heap.size+1]? =some (.cells #[.map<|some w.heap.size] 98 (0,0))/\W.ownsMap prog 3 unitElem w.heap.size (DK Q R k).length (FI (.map [])<|DK Q R k)
theorem JN.start(w:World)(Q R:Nat->Pl):JN w Q R 0<|(w.alloc<|.map #[] 0).alloc<|.cells #[.map<|some w.heap.size] 98:=by
 have G:(w.alloc<|.map #[] 0).heap.size=w.heap.size+1:=ND _ _;refine⟨((NB _ _).alloc (rP _) _).alloc oM _,?_,(World.ownsMap_made w _ _ _).alloc _⟩;rw[<-G];exact tM _ _
theorem iD(D:DataW Unit)(a b:List Int):FI D (a++b)=FI (FI D a) b:=by unfold FI;rw[List.foldl_append]
structure Fp (w:World) (p:Pl):Prop where
 ints:AV w p.a p.l
 len:p.l.length<=400
 num:∀z∈p.l,200<=z/\z<2000
theorem Fp.zero(w:World):Fp w EC:=⟨.inl rfl,by decide,λz G=>by cases G⟩
theorem JN.step{Q R:Nat->Pl}{k:Nat}(p:Pl)(J:p=if k<5 then Q k else R (k-5))(G:Fp w p)(h:JN w Q R k W)(O:(DK Q R k).length<=1000):Calls prog 66 #[p.v,pO (w.heap.size+1) 0] W λe H=>e=.returned (.tuple #[])/\JN w Q R (k+1) H:=by
 obtain⟨q1,q2,q4⟩:=h
 have C:=eU (a:=p.a) (zs:=p.l) (cap:=p.c) (fr:=p.fr) (sz:=p.sz) q2 q4 (G.ints.below q1) oM (λal e I=>by
  rcases G.ints with h|⟨ao,ap,Z,ab⟩
  .exact absurd h I
  .rw[Z]at e;cases e;exact NF _ _<|ab 0<|CC.2 I) O (by have:=G.len;omega) (λz ad=>by have:=G.num z ad;omega)
 refine rQ C λe H ⟨ak,⟨e2,e3⟩,e4⟩=>⟨ak,q1.trans e4,e2,?_⟩;have e:DK Q R (k+1)=DK Q R k++p.l:=by rw[J,DK];split<;>rfl
 rw[e,iD,N6];exact e3
theorem jQ{G:Nat->Option Nat}{Q R:Nat->Pl}(O:w.heap[hb]? =some (.cells (Cz db J L G) 97 (0,0)))(Z:∀k,Et w (L k)<|Q k)(ab:∀k,Et w (G k)<|R k)(ad:∀k,Fp w<|Q k)(ak:∀k,Fp w<|R k)(H:∀k,k<=10->(DK Q R k).length<=1000):
 Calls prog 31 #[pO hb 0] w λe w'=>e=.returned (.map<|some w.heap.size)/\JN w Q R 10 w':=by
 have al:Hid (Calls prog 65 #[pO hb 0,.func (.func 66) #[] #[pO (w.heap.size+1) 0]] ((w.alloc<|.map #[] 0).alloc<|.cells #[.map<|some w.heap.size] 98) λe w'=>e=.returned (.tuple #[])/\JN w Q R 10 w'):=
  WB O Z ab (.inr rfl) (JN w Q R) (JN.start w Q R) (λk W I h=>h.step (Q k) (by rw[NS I]) (ad k)<|H k oM) (λk W I h=>h.step (R k) (by show R k=if 5+k<5 then Q (5+k)else R (5+k-5);rw[NO oM,Nat.add_sub_cancel_left]) (ak k)<|H (5+k) oM) (λk W o h=>⟨h.1.alloc h.1.size _,(heap_alloc_old W _<|Cw h.2.1).trans h.2.1,h.2.2.alloc _⟩) (λk W h=>h.1)
 have ao:=run_makeMap (P:=prog) 98 w;go_enter func31,ntmps31;go_wp2_with fail
 go_call al as e w2 ⟨rfl,q⟩
 have c0:Ce w2 (w.heap.size+1) 0<|.map<|some w.heap.size:=AG q.2.1 rfl;have Q:=hid q;go_wp2;go_ret;exact⟨rfl,Q⟩
theorem mG(w:World)(x:Int)(t:TypeId):∀j u,(Cp [x])[j]? =some u->(w.alloc<|.cells #[iN x] t).cell? (((aD w.heap.size 0):Addr).add j)=some u:=by grind [Ef,rO,Cp]
end Go.Proofs.YtchpdmjlicmdaaaGreatDoor
