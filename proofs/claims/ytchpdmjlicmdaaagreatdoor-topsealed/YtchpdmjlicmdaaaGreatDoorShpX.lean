/- Part: Shp Jd Je Xk Xl Xm Xn Xo He Pa We Wf Wg Wh Hg. -/
import Derived.Shelf.Strings.Split
import Derived.Test.YtchpdmjlicmdaaaGreatDoorUoX
set_option maxRecDepth 100000
set_option maxHeartbeats 16000000
namespace Go.Proofs.YtchpdmjlicmdaaaGreatDoor
open Go.Shelf Go.Proofs.Tryz
variable {m p:BA}{w w' w0:World}{G H b bc lc:Nat}{B:Bx}{ry:List BA}{L:List Fl}{e:Ending}{x x0 z:Nd}{rM xs:List Nd}{M:Df}{h hd:Hd}
def Tryz.lays146_ren:Go.Shelf.Ren:=⟨λ|146=>245|221=>267|268=>273|138=>274|143=>275|195=>281|197=>282|218=>283|219=>269|260=>286|217=>277|225=>278|224=>279|267=>280|266=>284|314=>285|n=>n,λ|9=>9|31=>50|3=>3|4=>4|0=>0|105=>348|21=>21|5=>5|46=>231|119=>352|139=>355|138=>354|146=>350|51=>291|n=>n,λ|1=>1|3=>4|4=>5|n=>n⟩
theorem Tryz.lays146:Go.Proofs.Lays.n146 prog Tryz.lays146_ren:={
 mixed:=by kernel_rfl
 f138:=func274.trans<|RX some<|by kernel_rfl
 f143:=func275.trans<|RX some<|by kernel_rfl
 f146:=func245.trans<|RX some<|by kernel_rfl
 f195:=func281.trans<|RX some<|by kernel_rfl
 f197:=func282.trans<|RX some<|by kernel_rfl
 f217:=func277.trans<|RX some<|by kernel_rfl
 f218:=func283.trans<|RX some<|by kernel_rfl
 f219:=func269.trans<|RX some<|by kernel_rfl
 f221:=func267.trans<|RX some<|by kernel_rfl
 f224:=func279.trans<|RX some<|by kernel_rfl
 f225:=func278.trans<|RX some<|by kernel_rfl
 f260:=func286.trans<|RX some<|by kernel_rfl
 f266:=func284.trans<|RX some<|by kernel_rfl
 f267:=func280.trans<|RX some<|by kernel_rfl
 f268:=func273.trans<|RX some<|by kernel_rfl
 f314:=func285.trans<|RX some<|by kernel_rfl
 t0:=underlying0
 a0:=Tryz.isAgg0
 z0:=Tryz.sizeOf0
 v0:=Tryz.zeroValue0
 t3:=underlying3
 a3:=Tryz.isAgg3
 z3:=Tryz.sizeOf3
 v3:=Tryz.zeroValue3
 t4:=underlying4
 a4:=Tryz.isAgg4
 z4:=Tryz.sizeOf4
 v4:=Tryz.zeroValue4
 t5:=underlying5
 a5:=Tryz.isAgg5
 z5:=Tryz.sizeOf5
 v5:=Tryz.zeroValue5
 t9:=underlying9
 a9:=Tryz.isAgg9
 z9:=Tryz.sizeOf9
 v9:=Tryz.zeroValue9
 t21:=underlying21
 a21:=Tryz.isAgg21
 z21:=Tryz.sizeOf21
 v21:=Tryz.zeroValue21
 t31:=underlying50
 a31:=Tryz.isAgg50
 z31:=Tryz.sizeOf50
 v31:=Tryz.zeroValue50
 t46:=underlying231
 a46:=Tryz.isAgg231
 z46:=Tryz.sizeOf231
 v46:=Tryz.zeroValue231
 t51:=underlying291
 a51:=Tryz.isAgg291
 z51:=Tryz.sizeOf291
 v51:=Tryz.zeroValue291
 t105:=underlying348
 a105:=Tryz.isAgg348
 z105:=Tryz.sizeOf348
 v105:=Tryz.zeroValue348
 t119:=underlying352
 a119:=Tryz.isAgg352
 z119:=Tryz.sizeOf352
 t138:=underlying354
 a138:=Tryz.isAgg354
 z138:=Tryz.sizeOf354
 v138:=Tryz.zeroValue354
 t139:=underlying355
 a139:=Tryz.isAgg355
 z139:=Tryz.sizeOf355
 v139:=Tryz.zeroValue355
 t146:=underlying350
 a146:=Tryz.isAgg350
 z146:=Tryz.sizeOf350
 v146:=Tryz.zeroValue350
 g1:=by kernel_rfl
 g3:=by kernel_rfl
 g4:=by kernel_rfl}
open Go.RowKit Go.Lib in
theorem Tryz.strings_Split(s G:BA)(m:Int)(w:World)(H:s.size<4294967281)(I:w.cell? ⟨1,0,none⟩=some (.int .i64 m))(J:1<=G.size):
 Calls prog 245 #[.string s,.string G] w λe w'=>
  e=.returned (.slice (some ⟨w.heap.size,0,none⟩) (Lib.countB s G+1)<|Lib.countB s G+1)/\w'=w.alloc (.cells ((Lib.splitB G 0 (Lib.countB s G) s).map Value.string).toArray 9):=Any.strings_Split Tryz.lays146 (by kernel_rfl) s G m w H I J
open Go.RowKit
def Hg:List UInt8->List (List UInt8)
 |[]=>[[]]
 |c::l=>if c=47 then []::Hg l else match Hg l with
  |x::xs=>(c::x)::xs
  |[]=>[[c]]
theorem fO:∀l,Hg l≠[]:=by intro l;induction l<;>grind [Hg]
theorem Um(l:List UInt8):Lib.index (47::l) [47]=0:=by rw[Lib.index];simp[List.isPrefixOf]
theorem ie(b:UInt8)(l:List UInt8)(h:b≠47):Lib.index (b::l) [47]=if Lib.index l [47]==-1 then-1 else Lib.index l [47]+1:=by
 have G:([47]:List UInt8).isPrefixOf (b::l)=false:=by simp[List.isPrefixOf,Ne.symm h]
 rw[Lib.index,G];simp
theorem Vz:∀l:List UInt8,Lib.splitK [47] 0 (Lib.count l [47]) l=Hg l
 |[]=>by rw[Lib.count_miss<|by simp[Lib.index]];rfl
 |b::l=>by
  have G:=Vz l;by_cases h:b=47
  .subst h
   rw[Lib.count_cons_eq,Nat.add_comm,Lib.splitK,NO (by rw[Um];decide),Um];simp[Hg,G]
  .rw[Lib.count_cons_ne b 47 l h]
   cases hn:Lib.count l [47]with
   |zero=>
    rw[hn]at G;have e:Hg l=[l]:=G.symm;simp[Lib.splitK,Hg,h,e]
   |succ k=>
    rw[hn]at G;have J:¬Lib.index l [47]=-1:=λe=>by rw[Lib.count_miss e]at hn;cases hn
    have O:=Lib.index_ge l [47];obtain⟨j,H⟩:∃j:Nat,Lib.index l [47]=j:=⟨(Lib.index l [47]).toNat,by omega⟩;have I:Lib.index (b::l) [47]=((j+1:Nat):Int):=by rw[ie b l h,NO λe=>J<|beq_iff_eq.1 e,H];omega
    rw[Lib.splitK,NO (by rw[H];intro e;have:=beq_iff_eq.1 e;omega),H]at G;rw[Lib.splitK,NO (by rw[I];intro e;have:=beq_iff_eq.1 e;omega),I];simp only[Hg,h,if_false,<-G];simp
def TQ(l:List UInt8):BA:=⟨l.toArray⟩
theorem kJ(s:BA):TQ s.data.toList=s:=by cases s;rfl
theorem me{xs:List BA}{L:List (List UInt8)}(h:xs.map (·.data.toList)=L):xs=L.map TQ:=by
 subst h;rw[tC];conv=>lhs;rw[<-List.map_id xs]
 apply List.map_congr_left;intro x _;exact(kJ x).symm
def GI(l:List UInt8):List BA:=(Hg l).map TQ
theorem VG(s:BA):Lib.splitB ⟨#[47]⟩ 0 (Lib.countB s ⟨#[47]⟩) s=GI s.data.toList:=by
 refine me ?_;rw[Lib.splitB_data];exact Vz s.data.toList
theorem bP(s:BA):(GI s.data.toList).length=Lib.countB s ⟨#[47]⟩+1:=by
 rw[<-VG];exact Lib.splitB_all _ oD 0 _ s rfl
def Dq(l:List UInt8):Int:=if l=[]\/79<l.length\/l.head?≠some 47 then 4 else if l=[47]then 0 else If (GI<|l.drop 1)
def Bo(l:List UInt8):List BA:=if Dq l=0/\l≠[47]then GI (l.drop 1)else []
theorem Ua:∀l:List UInt8,(Hg l).length<=l.length+1
 |[]=>by simp[Hg]
 |c::l=>by
  have G:=Ua l;unfold Hg;split
  .simp;omega
  .split
   .rename_i x xs e;rw[e]at G;simp at G⊢;omega
   .simp
theorem cd(w:World)(l:List BA):PZ (w.alloc<|.cells (l.map Value.string).toArray 9) (some<|aD w.heap.size 0) l:=by
 refine .inr ⟨_,_,rfl,λi x G=>?_⟩;rw[rO _ _ _ _<|by rfl];simp[G]
theorem VM(h:0<p.size):p.data.toList.head? =some p[0]:=by grind [List.head?_eq_getElem?,Wq]
theorem Uy(p:BA):p.toList.isEmpty=decide (p.size=0):=by rw[tz,<-JZ];cases p.data.toList<;>simp
theorem QO(p:BA)(w:World)(m:Int)(bb:w.cell? (aD 1 0)=some (iN m)):
 Calls prog 210 #[.string p] w λe w'=>(∃I cp,e=.returned (.tuple #[.slice I (Bo p.data.toList).length cp,Ao<|Dq p.data.toList])/\(Bo p.data.toList).length<=cp/\cp<=9223372036854775807/\PZ w' I (Bo p.data.toList))/\Below w.heap.size w w':=by
 have Z:Dq p.data.toList=4->∀w':World,Below w.heap.size w w'->(∃I cp,Ending.returned (.tuple #[nL,.iface 101<|iN 4])=.returned (.tuple #[.slice I (Bo p.data.toList).length cp,Ao<|Dq p.data.toList])/\(Bo p.data.toList).length<=cp/\cp<=9223372036854775807/\PZ w' I (Bo p.data.toList))/\Below w.heap.size w w':=by
  intro ap w' hb;have bd:Bo p.data.toList=[]:=by unfold Bo;rw[NO (by rw[ap];simp)]
  rw[bd,ap];exact⟨⟨none,0,by simp[Ao],by simp,by simp,.inl rfl⟩,hb⟩
 by_cases ab:p.size=0
 .have be:p.toList.isEmpty=true:=by rw[Uy];simpa using ab
  have G:Hid<|Dq p.data.toList=4:=by show _=_;unfold Dq;rw[NS<|.inl<|R0 (by rw[JZ];exact ab)]
  go_enter func210,ntmps210;go_wp2;go_ret2;exact Z G _<|NB _ _
 have be:p.toList.isEmpty=false:=by rw[Uy];simpa using ab
 by_cases ar:79<p.size
 .have bf:decide (79<(p.size:Int))=true:=NY oM
  have G:Hid<|Dq p.data.toList=4:=by show _=_;unfold Dq;rw[NS<|.inr<|.inl (by rw[JZ];exact ar)]
  go_enter func210,ntmps210;go_wp2;go_ret2;exact Z G _<|NB _ _
 have bf:=NM oM;have aw:0<p.size:=by omega
 obtain⟨t,az⟩:∃t,((p[0].toNat:Int)!=47)=t:=⟨_,rfl⟩;cases t;rotate_left
 .have G:Hid<|Dq p.data.toList=4:=by
   show _=_;unfold Dq
   refine NS<|.inr<|.inr ?_;rw[VM aw];intro e;have bg:p[0]=47:=by simpa using e
   have bi:(p[0].toNat:Int)=47:=by rw[bg];rfl
   have bk:=bne_iff_ne.1 az;exact bk bi
  go_enter func210,ntmps210;go_wp2;go_ret2;exact Z G _<|NB _ _
 have ad:p.data.toList.head? =some 47:=by
  rw[VM aw];have:(p[0].toNat:Int)=47:=by simpa using az
  have aA:p[0].toNat=(47:UInt8).toNat:=by have:p[0].toNat=47:=by omega
                                          rw[this];rfl
  rw[UInt8.toNat_inj.1 aA]
 have a1:¬(p.data.toList=[]\/79<p.data.toList.length\/p.data.toList.head?≠some 47):=by
  rw[JZ];rintro(e|e|e)
  .rw[e]at ad;cases ad
  .exact ar e
  .exact e ad
 obtain⟨t,a6⟩:∃t,(p.toList==[47])=t:=⟨_,rfl⟩;cases t;rotate_left
 .have a7:p.data.toList=[47]:=by rw[<-tz];simpa using a6
  have G:Hid<|Dq p.data.toList=0:=by show _=_;unfold Dq;rw[NO a1,NS a7]
  have J:Hid<|Bo p.data.toList=[]:=by show _=_;unfold Bo;rw[NO (by rw[a7];simp)]
  go_enter func210,ntmps210;go_wp2;go_ret2;rw[J.out,G.out];exact⟨⟨none,0,by simp[Ao],by simp,by simp,.inl rfl⟩,NB _ _⟩
 have a8:¬p.data.toList=[47]:=by rw[<-tz];simpa using a6
 have G:Hid<|Dq p.data.toList=If (GI<|p.data.toList.drop 1):=by show _=_;unfold Dq;rw[NO a1,NO a8]
 have bl:=hid<|Lib.extract_to_end p 1;have bn:(p.extract 1 p.size).size<4294967281:=by rw[ByteArray.size_extract];omega
 go_enter func210,ntmps210;go_wp2_with fail
 go_call Tryz.strings_Split _ ⟨#[47]⟩ m _ bn bb oD as e w1 ⟨rfl,rfl⟩
 rw[VG,<-bP,bl.out];have O:=cd w<|GI<|p.data.toList.drop 1;have ak:Below w.heap.size w<|w.alloc<|.cells ((GI<|p.data.toList.drop 1).map Value.string).toArray 9:=bN;have bo:(GI<|p.data.toList.drop 1).length<=80:=by
  have:=Ua<|p.data.toList.drop 1;have aA:=JZ p;simp[GI]at this⊢;omega
 have J:Hid<|If (GI<|p.data.toList.drop 1)=0->Bo p.data.toList=GI (p.data.toList.drop 1):=λh=>by unfold Bo;rw[NS ⟨by rw[G.out];exact h,a8⟩]
 have ba:Hid<|If (GI<|p.data.toList.drop 1)≠0->Bo p.data.toList=[]:=λh=>by unfold Bo;rw[NO (by rintro⟨e,_⟩;rw[G.out]at e;exact h e)]
 generalize w.alloc (.cells ((GI<|p.data.toList.drop 1).map Value.string).toArray 9)=W at O ak⊢;generalize GI (p.data.toList.drop 1)=al at G O bo J ba⊢;go_wp2_with fail
 go_call bD _ _ al _ oM O as e w' ⟨rfl,rfl⟩
 by_cases H:If al=0
 .have ao:Hid<|Bo p.data.toList=al:=J H
  have bp:=hid<|G.trans H;rw[DE H];go_wp2;go_ret2;rw[ao.out,bp.out];exact⟨⟨_,_,by simp[Ao],rP _,by omega,O⟩,ak⟩
 .have ao:Hid<|Bo p.data.toList=[]:=ba H
  have bq:=hid H;rw[AP rfl H];go_wp2;go_ret2;rw[ao.out,G.out,AP rfl bq.out];exact⟨⟨none,0,by simp,by simp,by simp,.inl rfl⟩,ak⟩
structure Kh (B:Bx):Prop where
 len:B.xs.length<=1000
 sm:EM<|A5 B.xs
 lim:GH<|A5 B.xs
 ne:AX B.xs []≠[]
 ids:∀ry q r,AX B.xs ry=q::r->FL q.1
 mode:∀ry q r,AX B.xs ry=q::r->0<=(B.th true q.1).m/\(B.th true q.1).m<=4095
structure Mm (B:Bx) (w:World) (ry:List BA) (L:List Fl):Prop where
 rL:∀(j:Nat) f,L[j]? =some f->∃q r,AX B.xs (ry.take j)=q::r/\f.x=q.1.with []/\f.ly=q.2
 len:L.length=ry.length+1\/L.length<=ry.length/\AX B.xs (ry.take L.length)=[]
 nd:∀f∈L,Am w.cell? f.x f.h
def ai(B:Bx)(w:World)(an:Option Addr)(rN:Nat)(ry:List BA)(e:Ending):Prop:=∃L f0,L[0]? =some f0/\Mm B w ry L/\e=.returned (Mn (B.wk (B.fd f0.x f0.h f0.ly) ry.length<|L.drop 1) an rN ry)
theorem Xi(h:A6 w b B)(G:Kh B){an:Option Addr}{rN:Nat}(H:Bi w.cell? an ry)(I:ry.length<=1000):
 Calls prog 211 #[pO b 0,.slice an ry.length rN] w λe w'=>ai B w' an rN ry e/\Bw w w':=by
 go_call fq h H G.len I G.sm G.lim G.ne (λj=>G.ids _) (λj=>G.mode _) as e w' ⟨⟨L,⟨f0,h1,h2⟩,h3,h4,h5⟩,hb⟩
 exact⟨⟨L,f0,h1,⟨h3,h4,h5⟩,h2⟩,hb⟩
theorem Mm.below(h:Mm B w ry L)(hb:AW w.cell? w'.cell?):Mm B w' ry L:=⟨h.rL,h.len,λf G=>(h.nd f G).on hb⟩
theorem jo(R:Except Int Fd)(an:Option Addr)(rN:Nat)(ry:List BA):∃cs E,Mn R an rN ry=.tuple #[Cg cs,Ao E]/\cs.length=21/\∀v∈cs,v.oneCell'=true:=by
 cases R with
 |ok f=>exact⟨_,0,rfl,FU _,FT _⟩
 |error E=>exact⟨_,E,rfl,FU _,FT _⟩
theorem PD{o:Nat}{s:BA}(h:([.bool false,iN 0,iN 0,iN 0,.bool false,.bool false,iN 0,iN 0,iN 0,.bool false,nL,.bool false,iN 0,iN 0,iN 0,iN 0,.bool false,nL,.string ⟨#[]⟩,nL,iN 0]:List Value)[o]? =some (.string s)):s=⟨#[]⟩:=
 match o,h with
 |0,h=>by simp at h
 |1,h=>by simp at h
 |2,h=>by simp at h
 |3,h=>by simp at h
 |4,h=>by simp at h
 |5,h=>by simp at h
 |6,h=>by simp at h
 |7,h=>by simp at h
 |8,h=>by simp at h
 |9,h=>by simp at h
 |10,h=>by simp at h
 |11,h=>by simp at h
 |12,h=>by simp at h
 |13,h=>by simp at h
 |14,h=>by simp at h
 |15,h=>by simp at h
 |16,h=>by simp at h
 |17,h=>by simp at h
 |18,h=>by
  have e:(⟨#[]⟩:BA)=s:=by simpa using h
  exact e.symm
 |19,h=>by simp at h
 |20,h=>by simp at h
 |n+21,h=>by simp at h
def Hu(B:Bx)(w:World)(p:BA)(e:Ending):Prop:=(Dq p.data.toList≠0/\e=.returned (.tuple #[FP.v,Ao<|Dq p.data.toList]))\/(Dq p.data.toList=0/\∃an rN,Bi w.cell? an (Bo p.data.toList)/\(Bo p.data.toList).length<=rN/\rN<=9223372036854775807/\ai B w an rN (Bo p.data.toList) e)
theorem Rk(h:A6 w b B)(bu:Kh B)(p:BA)(a7:(Bo p.data.toList).length<=1000)(a8:∀s∈Bo p.data.toList,s≠⟨#[]⟩)(ba:Int)(bx:Ce w (1) 0<|iN ba):
 Calls prog 155 #[pO b 0,.string p] w λe w'=>Hu B w' p e/\Bw w w':=by
 have bb:=Bj.new w _ rfl DB 216;have Z:Bw w<|w.alloc A2:=(NB _ _).alloc (rP _) _;have bA:∀q,(w.alloc A2).frozen? (aD w.heap.size q)=false:=λq=>RB _ _ _ _ rfl;have bB:∀o,(w.alloc A2).cell? (aD w.heap.size o)=DB[o]?:=λo=>by rw[rO _ _ _ _ rfl];simp
 have bC:=h.below Z;have bd:Hid _:=QO p (w.alloc A2) ba<|Aj Z bx;obtain⟨F,J⟩:=Aq<|Dq p.data.toList;obtain⟨N,G⟩:=Aq<|Bo p.data.toList;rw[J.out,G.out]at bd;rw[G.out]at a7 a8;have be:Hid _:=Z;have bF:Hid _:=bC;go_enter func155,ntmps155;go_upto_region 1 with fail
 generalize(w.alloc A2)=bG at*;go_wp2_with fail
 go_call bd as e w2 ⟨⟨ao,cp,rfl,hcp,hcp2,hst⟩,c2⟩
 have ab:w.heap.size<bG.heap.size:=NF _ _<|bb 0 _ rfl;have ad:Hid _:=be.trans<|c2.mono be.size;have ak:=bb.below c2;have bf:∀q,w2.frozen? (aD w.heap.size q)=false:=λq=>(c2.frozen (p:=(aD w.heap.size q)) ab).trans<|bA q;have bg:∀o,w2.cell? (aD w.heap.size o)=DB[o]?:=λo=>(c2.cell (p:=(aD w.heap.size o)) ab).trans<|bB o
 have bi:w.heap.size<w2.heap.size:=N1 ab c2.size;have bH:=bF.out.below c2;by_cases hF:F=0
 .subst hF
  have bY:Hid _:=Xi bH bu (an:=ao) (rN:=cp) (ry:=N) hst a7;rw[show Ao 0=Value.nilIface from rfl];go_wp2_with fail
  go_call bY as e w3 ⟨⟨L,f0,hf0,hal,rfl⟩,c3⟩
  obtain⟨cs,E,bk,al,ap⟩:=jo (B.wk (B.fd f0.x f0.h f0.ly) N.length<|L.drop 1) ao cp N;have bl:=ak.below c3;have b0:∀q,w3.frozen? (aD w.heap.size q)=false:=λq=>(c3.frozen (p:=(aD w.heap.size q)) bi).trans<|bf q;have b1:∀o,w3.cell? (aD w.heap.size o)=DB[o]?:=λo=>(c3.cell (p:=(aD w.heap.size o)) bi).trans<|bg o
  have ar:=En (P:=prog) bl b0 (by rw[al];rfl) ap;have H:Hid _:=FC cs bl (by rw[al];rfl);have I:Hid _:=Fc (b:=w.heap.size) (p:=0) cs (rP _)<|ad.trans<|c3.mono ad.size;have b2:Hid<|AW (Ag w3.cell? λk=>k==w.heap.size) (w3.setCells w.heap.size 0 cs).cell?:=LG<|NB _ _
  have bn:Hid<|Mm B (w3.setCells w.heap.size 0 cs) N L:=⟨hal.rL,hal.len,λf b4=>(Ie (λb6 b7=>by
   have e:b6=w.heap.size:=by simpa using b7
   subst e;exact O9 b1)<|hal.nd f b4).on b2.out⟩
  have bo:Hid<|Bi (w3.setCells w.heap.size 0 cs).cell? ao N:=by
   rcases hst with e|⟨bp,b9,ce,bq⟩
   .exact .inl e
   .refine .inr ⟨bp,b9,ce,λi s aw=>?_⟩
    have cf:=Aj c3<|bq i s aw;refine(Ck ?_).trans cf;intro e;have e:bp=w.heap.size:=e;subst e;exact a8 s (NW aw)<|PD<|(bg _).symm.trans<|bq i s aw
  generalize w3.setCells w.heap.size 0 cs=az at ar H I bn bo;have aA:=run_loadVar_mid (P:=prog) az w.heap.size 0 216 cs _ H rfl rfl (by rw[al];rfl);have a1:=Cn cs;unfold Value.cells at a1;have ch:Hid _:=bk;rw[bk];go_wp2;refine NZ (v:=.tuple #[.agg cs.toArray,Ao E]) ?_ rfl ⟨.inr ⟨J,ao,cp,?_,?_,hcp2,L,f0,hf0,?_,?_⟩,I⟩
  .simp[results,results155,asAddr,aA]
  .rw[G.out];exact bo
  .rw[G.out];exact hcp
  .rw[G.out];exact bn
  .rw[G.out,ch.out];rfl
 .have bs:=AP (n:=F) rfl hF
  rw[bs];obtain⟨c0,O⟩:∃cs:List Value,JH DB cs:=⟨_,rfl⟩;have a6:c0.length=21:=by rw[<-(show _=_ from O)];rfl
  have cl:=hid a6;have ap:∀v∈c0,v.oneCell'=true:=by
   rw[<-(show _=_ from O)];simp[Value.oneCell']
  have ar:=En (P:=prog) ak bf a6.symm ap;have H:Hid _:=FC c0 ak a6.symm;have I:Hid _:=Fc (b:=w.heap.size) (p:=0) c0 (rP _) ad;generalize w2.setCells w.heap.size 0 c0=az at ar H I;have aA:=run_loadVar_mid (P:=prog) az w.heap.size 0 216 c0 _ H rfl rfl (by rw[cl.out];rfl);have cx:Value.agg #[.bool false,iN 0,iN 0,iN 0,.bool false,.bool false,iN 0,iN 0,iN 0,.bool false,nL,.bool false,iN 0,iN 0,iN 0,iN 0,.bool false,nL,.string ⟨#[]⟩,nL,iN 0]=Cg c0:=by rw[<-(show _=_ from O)];rfl
  have a1:=Cn c0;unfold Value.cells at a1;have co:Hid<|FP.v=.agg c0.toArray:=RX (λl:List Value=>Value.agg l.toArray) (show DB=c0 from O);have cr:Hid _:=bs;go_wp2;refine NZ (v:=.tuple #[.agg c0.toArray,.iface 101<|iN F]) ?_ rfl ⟨.inl ⟨by rw[J.out];exact hF,?_⟩,I⟩
  .simp[results,results155,asAddr,aA]
  .rw[J.out,cr.out,co.out]
theorem Hu.form(h:Hu B w p e):∃cs E G,e=.returned (.tuple #[Cg cs,Ao E])/\cs.length=21/\(∀v∈cs,v.oneCell'=true)/\cs[11]? =some (.bool G):=by
 rcases h with⟨_,rfl⟩|⟨_,an,rN,_,_,_,L,f0,_,_,rfl⟩
 .exact⟨FP.l,_,false,rfl,FU _,FT _,rfl⟩
 .cases B.wk (B.fd f0.x f0.h f0.ly) (Bo p.data.toList).length (L.drop 1)with
  |ok f=>exact⟨Fd.l {f with na:=an,nc:=rN,ry:=Bo p.data.toList},0,f.there,rfl,FU _,FT _,rfl⟩
  |error E=>exact⟨FP.l,E,false,rfl,FU _,FT _,rfl⟩
theorem Hu.below(h:Hu B w p e)(hb:Bw w w'):Hu B w' p e:=by
 rcases h with h|⟨G,an,rN,H,I,J,L,f0,O,Z,ab⟩
 .exact .inl h
 .exact .inr ⟨G,an,rN,H.on<|Ai hb,I,J,L,f0,O,Z.below<|Ai hb,ab⟩
theorem Hu.set(h:Hu B w p e)(Z:∀s∈Bo p.data.toList,s≠⟨#[]⟩){n:Nat}(I:∀o,w.cell? (aD n o)=([.bool false,iN 0,iN 0,iN 0,.bool false,.bool false,iN 0,iN 0,iN 0,.bool false,nL,.bool false,iN 0,iN 0,iN 0,iN 0,.bool false,nL,.string ⟨#[]⟩,nL,iN 0]:List Value)[o]?)(cs:List Value):Hu B (w.setCells n 0 cs) p e:=by
 rcases h with h|⟨ab,an,rN,ad,ak,al,L,f0,ao,G,ap⟩
 .exact .inl h
 .refine .inr ⟨ab,an,rN,?_,ak,al,L,f0,ao,⟨G.rL,G.len,λf ar=>(Ie (λaw az=>by
   have e:aw=n:=by simpa using az
   subst e;exact O9 I)<|G.nd f ar).on<|LG<|NB _ _⟩,ap⟩
  rcases ad with e|⟨J,aA,a1,O⟩
  .exact .inl e
  .refine .inr ⟨J,aA,a1,λi s H=>(Ck ?_).trans<|O i s H⟩
   intro e;have e:J=n:=e;subst e;exact Z s (NW H)<|PD<|(I _).symm.trans<|O i s H
def ay(B:Bx)(w:World)(p:BA)(e:Ending):Prop:=∃cs E G,Hu B w p (.returned<|.tuple #[Cg cs,Ao E])/\cs.length=21/\cs[11]? =some (.bool G)/\e=.returned (if E=0/\G=false then .tuple #[FP.v,Ao 5]else .tuple #[Cg cs,Ao E])
theorem Ws(cs:List Value)(H:cs.length=21)(I:∀v∈cs,v.oneCell'=true)(E:Int)(J:Bool):∃G D,(if E=0/\J=false then(.tuple #[FP.v,Ao 5]:Value)else .tuple #[Cg cs,Ao E])=.tuple #[Cg G,Ao D]/\G.length=21/\∀v∈G,v.oneCell'=true:=by
 split
 .exact⟨FP.l,5,rfl,FU _,FT _⟩
 .exact⟨cs,E,rfl,H,I⟩
theorem LX(h:A6 w b B)(a7:Kh B)(p:BA)(a8:(Bo p.data.toList).length<=1000)(ab:∀s∈Bo p.data.toList,s≠⟨#[]⟩)(ad:Int)(ba:Ce w (1) 0<|iN ad):
 Calls prog 119 #[pO b 0,.string p] w λe w'=>ay B w' p e/\Bw w w':=by
 have ak:=Bj.new w _ rfl DB 216;have H:Bw w<|w.alloc A2:=(NB _ _).alloc (rP _) _;have bb:∀q,(w.alloc A2).frozen? (aD w.heap.size q)=false:=λq=>RB _ _ _ _ rfl;have bd:∀o,(w.alloc A2).cell? (aD w.heap.size o)=DB[o]?:=λo=>by rw[rO _ _ _ _ rfl];simp
 have be:Hid _:=Rk (h.below H) a7 p a8 ab ad<|Aj H ba;have al:Hid _:=H;go_enter func119,ntmps119;go_upto_region 1 with fail
 generalize(w.alloc A2)=bf at*;go_wp2_with fail
 go_call be as e w2 ⟨hrc,c2⟩
 obtain⟨cs,E,I,rfl,J,ao,ap⟩:=hrc.form;have O:w.heap.size<bf.heap.size:=NF _ _<|ak 0 _ rfl;have ar:w.heap.size<w2.heap.size:=N1 O c2.size;have bg:Hid _:=Uh w2 cs J ao I ap E;go_wp2_with fail
 go_call bg as e w3 ⟨rfl,c3⟩
 obtain⟨G,D,aw,Z,bi⟩:=Ws cs J ao E I;have az:=(ak.below c2).below c3;have bk:∀q,w3.frozen? (aD w.heap.size q)=false:=λq=>(c3.frozen (p:=(aD w.heap.size q)) ar).trans<|(c2.frozen (p:=(aD w.heap.size q)) O).trans<|bb q;have bl:∀o,w3.cell? (aD w.heap.size o)=DB[o]?:=λo=>(c3.cell (p:=(aD w.heap.size o)) ar).trans<|(c2.cell (p:=(aD w.heap.size o)) O).trans<|bd o
 have bn:=al.out.trans<|(c2.trans<|c3.mono c2.size).mono al.size;have bo:=En (P:=prog) az bk (by rw[Z];rfl) bi;have aA:Hid _:=FC G az (by rw[Z];rfl);have a1:Hid _:=Fc (b:=w.heap.size) (p:=0) G (rP _) bn;have a6:Hid _:=(hrc.below c3).set ab bl G;generalize w3.setCells w.heap.size 0 G=bp at bo aA a1 a6;have bq:=run_loadVar_mid (P:=prog) bp w.heap.size 0 216 G _ aA rfl rfl (by rw[Z];rfl);have bs:=Cn G;unfold Value.cells at bs;have bu:Hid _:=aw;have bx:Hid _:=J;rw[aw];go_wp2;refine NZ (v:=.tuple #[.agg G.toArray,Ao D]) ?_ rfl ⟨⟨cs,E,I,a6,bx,ap,?_⟩,a1⟩
 .simp[results,results119,asAddr,bq]
 .rw[bu.out];rfl
theorem IU{la:Option Addr}(ak:Ce w b 2<|.slice la (x::rM).length lc)(al:CP w.cell? la (x::rM)):
 Calls prog 85 #[pO b 0] w λe w'=>(∃h,e=.returned (At x h)/\Am w.cell? x h/\Am w'.cell? x h)/\Bw w w':=by
 obtain⟨H,a7,rfl,f,ao⟩:∃H J,la=some (aD H J)/\∃f:Nat->Hd,∀i y,(x::rM)[i]? =some y->A9 w.cell? H (J+i*8) y (f i)/\Am w.cell? y (f i):=by
  rcases al with e|e
  .cases e
  .exact e
 obtain⟨I,O⟩:=ao 0 x rfl;generalize f 0=hd at I O;rw[tB,tl]at I;obtain⟨k,m,u,g,o,rL,d,ks⟩:=x;have Z:=AC.zero w;have hb:Bw w<|w.alloc AO:=(NB _ _).alloc (rP _) _;have ap:=I.on<|Ai hb;obtain⟨n0,a8,ba,bb,bd,be,bf,bg⟩:=ap;have c2:=Aj hb ak;have ar:(0:Int)<(((.mk k m u g o rL d ks:Nd)::rM).length:Int):=by rw[R5];omega
 generalize((.mk k m u g o rL d ks:Nd)::rM).length=bi at c2 ar;go_enter func85,ntmps85;go_upto_region 1 with fail
 have aw:Hid _:=hb;have ab:Hid _:=O;obtain⟨z0,az,aA,z3,z4,z5,a1,a6⟩:=Z.1;have fz:=Z.2;obtain⟨bk,bl,bn,bo,bp,bq,bs,bu⟩:=f8 fz;generalize w.alloc AO=bx at*;have G:w.heap.size<=w.heap.size:=rP _;have ad:Hid _:=(((((((aw.setCell (p:=(aD w.heap.size 0)) G<|iN k).setCell (p:=(aD w.heap.size 1)) G<|iN m).setCell (p:=(aD w.heap.size 2)) G<|iN u).setCell (p:=(aD w.heap.size 3)) G<|iN g).setCell (p:=(aD w.heap.size 4)) G<|.bool o).setCell (p:=(aD w.heap.size 5)) G<|.slice hd.aa rL.length hd.ca).setCell (p:=(aD w.heap.size 6)) G<|.string d).setCell (p:=(aD w.heap.size 7)) G<|.slice hd.ak ks.length hd.ck;go_wp2;refine NZ (v:=At (.mk k m u g o rL d ks) hd) ?_ rfl ⟨⟨hd,rfl,ab,ab.on<|Ai ad⟩,ad⟩;simp[results,results85,go_sem,z0,az,aA,z3,z4,z5,a1,a6,At]
structure BQ (w0 w:World) (sb nb lc:Nat) (M:Df) (x0:Nd) (rM:List Nd):Prop where
 base:Bw w0 w
 gn:w0.heap.size<=nb
 gs:w0.heap.size<=sb
 ne:sb≠nb
 c0:Ce w sb 0<|.slice M.ua M.us.length M.uc
 c1:Ce w sb 1<|.slice M.ga M.gs.length M.gc
 c2:Ce w sb 2<|sL nb 0 (rM.length+1) lc
 lay:CP w.cell? (some<|aD nb 0) (x0::rM)
 cap:rM.length+1<=lc/\lc<=9223372036854775807
 nr:Dn w.cell? nb
 fz:∀o,w.frozen? (aD nb o)=false
 maps:EN w0 M
theorem BQ.ltn(h:BQ w0 w H G lc M x0 rM):G<w.heap.size:=by
 rcases h.lay with e|⟨b,O,e,f,I⟩
 .cases e
 .obtain⟨J,_⟩:=I 0 x0 rfl
  obtain⟨k,m,u,g,o,rL,d,ks⟩:=x0;injection e with e
  injection e with e1 e2
  subst e1;exact NF _ _ J.1
theorem BQ.lts(h:BQ w0 w G H lc M x0 rM):G<w.heap.size:=NF _ _ h.c0
theorem JW(h:Dn w.cell? b)(e:∀o,w'.cell? (aD b o)=w.cell? (aD b o)):Dn w'.cell? b:=λo s v G H=>h o s v ((e o).symm.trans G)<|(e<|o+1).symm.trans H
theorem BQ.below(h:BQ w0 w H G lc M x0 rM)(hb:Bw w w'):BQ w0 w' H G lc M x0 rM where
 base:=h.base.trans<|hb.mono h.base.size
 gn:=h.gn
 gs:=h.gs
 ne:=h.ne
 c0:=Aj hb h.c0
 c1:=Aj hb h.c1
 c2:=Aj hb h.c2
 lay:=h.lay.on<|Ai hb
 cap:=h.cap
 nr:=JW h.nr λo=>hb.cell (p:=(aD G o)) h.ltn
 fz:=λo=>(hb.frozen (p:=(aD G o)) h.ltn).trans<|h.fz o
 maps:=h.maps
theorem BQ.mapsW(h:BQ w0 w G H lc M x0 rM):EN w M:=h.maps.below h.base
theorem BQ.off(h:BQ w0 w H G lc M x0 rM)(I:Am w.cell? x hd):Am (Ag w.cell? λk=>k==G) x hd:=Ie (λb hb=>by
 have e:b=G:=by simpa using hb
 subst e;exact h.nr) I
theorem Sf{p:Nat}:AW (Ag w.cell? λk=>k==b) (BS w b p x hd).cell?:=λq v G=>by
 unfold Ag at G;split at G
 .cases G
 .rename_i H
  have H:q.block≠b:=by simpa using H
  rw[GQ (λj _ e=>H<|by rw[e])];exact G
theorem BQ.store{I:Nat}(h:BQ w0 w I G lc M x0 rM)(ao:Am w.cell? x hd):BQ w0 (BS w G 0 x hd) I G lc M x rM:=by
 have ap:Az G w<|BS w G 0 x hd:=Pm;have ab:∀q:Addr,q.block≠G->(BS w G 0 x hd).cell? q=w.cell? q:=λq ar=>GQ (λj _ e=>ar<|by rw[e]);obtain⟨f,O⟩:∃f:Nat->Hd,∀i y,(x0::rM)[i]? =some y->A9 w.cell? G (0+i*8) y (f i)/\Am w.cell? y (f i):=by
  rcases h.lay with e|⟨b,ba,e,f,O⟩
  .cases e
  .injection e with e
   injection e with e1 e2
   subst e1 e2;exact⟨f,O⟩
 have ad:A9 (BS w G 0 x hd).cell? G 0 x hd:=LV (y:=x0) (h':=f 0) (by
  have:=(O 0 x0 rfl).1;rwa [tB]at this)
 refine⟨h.base.trans<|ap.below h.gn h.base.size,h.gn,h.gs,h.ne,(ab (aD I 0) h.ne).trans h.c0,(ab (aD I 1) h.ne).trans h.c1,(ab (aD I 2) h.ne).trans h.c2,?_,h.cap,?_,λo=>(Oz _).trans<|h.fz o,h.maps⟩
 .refine .inr ⟨G,0,rfl,λi=>match i with|0=>hd|i+1=>f<|i+1,λi y ak=>?_⟩
  cases i with
  |zero=>
   have e:x=y:=by simpa using ak
   subst e;exact⟨ad,(h.off ao).on Sf⟩
  |succ i=>
   obtain⟨J,H⟩:=O (i+1) y (by simpa using ak);refine⟨?_,(h.off H).on Sf⟩;obtain⟨k,m,u,g,o,rL,d,ks⟩:=y;obtain⟨aw,J,H,az,aA,a1,a6,a7⟩:=J;have fr:∀o,8<=o->(BS w G 0 x hd).cell? (aD G o)=w.cell? (aD G o):=λo Z=>GQ (λj a8 e=>by injection e with _ e2;omega);exact⟨(fr _ oM).trans aw,(fr _ oM).trans J,(fr _ oM).trans H,(fr _ oM).trans az,(fr _ oM).trans aA,(fr _ oM).trans a1,(fr _ oM).trans a6,(fr _ oM).trans a7⟩
 .intro o s v J H al
  have fr:∀o,8<=o->(BS w G 0 x hd).cell? (aD G o)=w.cell? (aD G o):=λo Z=>GQ (λj a8 e=>by injection e with _ e2;omega);obtain⟨k,m,u,g,bb,rL,d,ks⟩:=x
  obtain⟨bd,q1,q2,be,q4,q5,q6,q7⟩:=ad;rcases Nat.lt_or_ge o 8 with Z|Z
  .rcases(by omega:o=0\/o=1\/o=2\/o=3\/o=4\/o=5\/o=6\/o=7)with q|q|q|q|q|q|q|q<;>subst q
   .grind
   .grind
   .grind
   .grind
   .grind
   .grind
   .rw[q7]at H
    injection H with H
    subst H;exact al
   all_goals grind
  .exact h.nr o s v ((fr o Z).symm.trans J) ((fr (o+1) oM).symm.trans H) al
theorem O5{I:Nat}(h:BQ w0 w I G lc M x0 rM)(ar:Am w.cell? x hd)(E:Int):
 Calls prog 222 #[pO I 0,At x hd,Ao E] w λe w'=>e=.returned (Ao E)/\BQ w0 w' I G lc M (if E=0 then x else x0) rM/\Az G w w':=by
 obtain⟨k,m,u,g,o,rL,d,ks⟩:=x;have aw:=Cm.new w k m u g o rL d ks hd;have J:Bw w<|w.alloc<|Aw k m u g o rL d ks hd:=(NB _ _).alloc (rP _) _;have H:=h.below J;have az:=ar.on<|Ai J;have ad:Hid _:=J;have ak:=H.store az;rw[<-KM]at ak;have al:Hid _:=ak;have c2:=H.c2;have O:=H.fz;obtain⟨f,aA⟩:∃f:Hd,A9 (w.alloc<|Aw k m u g o rL d ks hd).cell? G 0 x0 f:=by
  rcases H.lay with e|⟨b,ba,e,f,O⟩
  .cases e
  .injection e with e
   injection e with e1 e2
   subst e1 e2;have:=(O 0 x0 rfl).1;rw[tB]at this;exact⟨_,this⟩
 have a1:(0:Int)<((rM.length+1:Nat):Int):=by omega
 have a6:Hid _:=H;show Calls prog 222 #[pO I 0,(Ba k m u g o rL d ks hd),Ao E] w _;obtain⟨bb,bd,u0,be,bf,bg,bi,bk⟩:=x0;obtain⟨z0,bl,bn,z3,z4,z5,bo,bp⟩:=aA;obtain⟨bq,bs,bu,bx,bA,bB,bC,bF⟩:=aw;obtain⟨f0,f1,f2,f3,f4,f5,f6,f7⟩:=f8 O;generalize rM.length+1=bG at c2 a1;by_cases ao:E=0
 .subst ao
  rw[show Ao 0=Value.nilIface from rfl];go_enter func222,ntmps222;go_upto_region 2 with fail
  generalize(w.alloc<|Aw k m u g o rL d ks hd)=Z at*;have ap:Hid<|Az G Z<|As Z G (.mk k m u g o rL d ks) hd:=Cb;generalize ab:As Z G (.mk k m u g o rL d ks) hd=bH at al ap;simp only[As]at ab;have a7:Hid _:=ab;clear ab;go_region
  all_goals
   go_wp2;rw[a7.out];go_ret;exact⟨rfl,al.below<|(NB _ _).drew,((Az.of_below ad).trans ap).then<|(NB _ _).drew⟩
 .have a8:=AP (n:=E) rfl ao
  rw[a8];go_enter func222,ntmps222;go_wp2;go_ret;exact⟨rfl,a6,Az.of_below ad⟩
theorem eZ(h:Bf m=true):m.size<=12:=by simp_all [Bf,J3]
theorem lr(G:m.size<=255)(H:AI z):∀{ks:Ay},Co ks->Co (EA m z ks):=by intro ks;induction ks<;>grind [EA,Co]
theorem Sj{l:List BA}{n r:Nd}(h:A3 (some x) l n=.ok r)(hx:AI x):AI n->AI r:=by
 refine LQ (c:=some x) (λn r=>AI n->AI r) ?_ ?_ h
 .intro m n ks _ H G
  rw[<-IR n,Jp]at G;rw[Jp];refine⟨G.1,?_⟩;rcases Mx H with⟨ab,q,I,J⟩|⟨q,_⟩
  .injection q with q
   subst q;have:=eZ I;rcases J with⟨_,rfl⟩|⟨_,rfl⟩
   .exact lr oM hx G.2
   .exact RH hx G.2
  .cases q
 .intro m n y z _ O Z G
  rw[<-IR n,Jp]at G;rw[Jp];exact⟨G.1,RH (Z<|Sr G.2 O) G.2⟩
theorem pH{y:Nd}:∀{ks:Ay},CJ ks->fk m ks=some y->A0 y:=by intro ks;induction ks<;>grind [CJ,fk]
theorem X3(G:A0 z):∀{ks:Ay},CJ ks->CJ (C9 m z ks):=by intro ks;induction ks<;>grind [C9,CJ]
theorem lR(G:A0 z):∀{ks:Ay},CJ ks->CJ (EA m z ks):=by intro ks;induction ks<;>grind [EA,CJ]
theorem Pg{ks:Ay}:A0 (x.with ks)↔A0 (x.with [])/\CJ ks:=by
 obtain⟨k,m,u,g,o,rL,d,G⟩:=x;show A0 (.mk k m u g o rL d ks)↔A0 (.mk k m u g o rL d [])/\CJ ks;grind [A0,CJ]
theorem XZ{l:List BA}{n r:Nd}(h:A3 (some x) l n=.ok r)(hx:A0 x):A0 n->A0 r:=by
 refine LQ (c:=some x) (λn r=>A0 n->A0 r) ?_ ?_ h
 .intro m n ks _ H G
  rw[<-IR n,Pg]at G;rw[Pg];refine⟨G.1,?_⟩;rcases Mx H with⟨Z,q,ab,I⟩|⟨q,_⟩
  .injection q with q
   subst q;rcases I with⟨_,rfl⟩|⟨_,rfl⟩
   .exact lR hx G.2
   .exact X3 hx G.2
  .cases q
 .intro m n y z _ J O G
  rw[<-IR n,Pg]at G;rw[Pg];exact⟨G.1,X3 (O<|pH G.2 J) G.2⟩
theorem Zu{L:List Rg}{x y:Int}(h:Hc L x=some y):A4 y:=by
 unfold Hc at h;by_cases G:Eb L=0
 .rw[NS G]at h
  obtain⟨r,H,I,J,rfl⟩:=O2 h;have hb:=Po G r H;grind [Rg.bd,A4]
 all_goals grind
theorem qp{us gs:List Rg}{y:Nd}(h:BH true us gs (Dv x)=some y)(G:AI x):AI y/\A0 y:=by
 obtain⟨k,m,u,g,o,rL,d,ks⟩:=x;grind [Dv,BH,AI,Co,A0,CJ,Zu]
theorem VN(h:∀x∈xs,AI x):∀ry:List BA,∀q∈AX xs ry,AI q.1:=by
 intro ry;unfold AX;have H:∀q∈A8 (A5 xs),AI q.1:=λq G=>h _<|JX<|Jr _ _ G;generalize A8 (A5 xs)=l at H
 induction ry generalizing l with
 |nil=>exact H
 |cons nm ry I=>
  rw[Ko];refine I _ λq G=>?_;obtain⟨p,J,e⟩:=Nb (show q∈Ci l nm from G)
  grind [SD]
theorem YW{us gs:List Rg}{xs:List Nd}{ry:List BA}{U:Nd}(I:∀x∈xs,AI x)(J:AI U)(O:A0 U):∀{k:Nat} {V:Nd},GM us gs xs ry U k=.ok V->AI V/\A0 V/\cnt V<=cnt U+k
 |0,V,h=>by cases h;exact⟨J,O,rP _⟩
 |k+1,V,h=>by
  rw[GM]at h;cases hk:GM us gs xs ry U k with
  |error f=>rw[hk]at h;cases h
  |ok al=>
   rw[hk]at h;obtain⟨G,H,ao⟩:=YW I J O hk;dsimp only at h;cases hs:AX xs (ry.take<|k+1)with
   |nil=>rw[hs]at h;cases h;exact⟨G,H,by omega⟩
   |cons q r=>
    rw[hs]at h;dsimp only at h;by_cases Z:q.2=0
    .rw[NS Z]at h;cases h;exact⟨G,H,by omega⟩
    .rw[NO Z]at h
     cases hm:BH true us gs (Dv q.1)with
     |none=>rw[hm]at h;cases h
     |some y=>
      rw[hm]at h;dsimp only at h;have ab:AI q.1:=VN I _ q (by rw[hs];exact N4 ..);obtain⟨ad,ak⟩:=qp hm ab;have c:=Nk h;have e:Jz (some y)=1:=(pk hm).trans<|WL _;exact⟨Sj h ad G,XZ h ak H,by omega⟩
theorem pZ{us gs:List Rg}{U V:Nd}(G:∀x∈xs,AI x)(H:AI U)(I:A0 U)(h:Gb us gs xs ry U=.ok V):AI V/\A0 V/\cnt V<=cnt U+ry.length:=by
 unfold Gb at h;split at h
 .cases h
 .exact YW G H I h
theorem Hw(w:World)(o:Obj):Below w.heap.size w<|w.alloc o:=(NB _ _).alloc (rP _) _
theorem Se{S:Nat->Bool}(hb:Below w.heap.size w w')(G:∀k,k<w.heap.size->S k=false):AW w.cell?<|Ag w'.cell? S:=λq v h=>by
 have H:=bL h;rw[CV<|G _ H];exact Ai hb _ _ h
theorem ZC{c:AR}{a:Option Addr}(h:CP c a xs){j:Nat}(H:xs[j]? =some x):∃b G h,a=some (aD b G)/\A9 c b (G+j*8) x h/\Am c x h:=by cases h<;>grind
structure FO (w:World) (v:Value) (L:List Fl) (wr:World):Prop where
 low:Below w.heap.size w wr
 row:wr.ownsRow w.heap.size 31 8 v L.length<|BK L
 nd:∀f∈L,Am (Ag wr.cell? λk=>v.ownBlock==some k) f.x f.h
theorem FO.below{v:Value}{wr:World}(h:FO w v L wr)(hb:Below wr.heap.size wr w'):FO w v L w':=⟨h.low.trans<|hb.mono h.low.size,Fy h.row hb,λf G=>(h.nd f G).on<|Du hb⟩
theorem FO.app{v G:Value}{wr:World}(h:FO w v L wr){f:Fl}(O:Am (Ag wr.cell? λk=>v.ownBlock==some k) f.x f.h)(Z:w'.ownsRow w.heap.size 31 8 G (L++[f]).length<|BK<|L++[f])(H:wr.grownBy w' v.ownBlock)(al:G.ownBlock=v.ownBlock\/G.ownBlock=some wr.heap.size):FO w G (L++[f]) w':=by
 have I:AW (Ag wr.cell? λk=>v.ownBlock==some k)<|Ag w'.cell? λk=>G.ownBlock==some k:=Bv λk ab J=>by
  simp at J;refine⟨?_,H.block k ab λe=>J e.symm⟩;grind
 refine⟨h.low.grown H h.low.size λg e=>(h.row.lt g e).1,Z,λad ak=>?_⟩;rcases Cq.1 ak with e|e
 .exact(h.nd ad e).on I
 .rw[CD]at e;rw[e];exact O.on I
def Jl:Nd->Int
 |.mk k m u g _ rL d _=>if k<1\/3<k then 3 else if m<0\/4095<m\/DT u=false\/DT g=false then 1 else if Ea rL≠0 then Ea rL else if 200<d.size then 1 else 0
def J6(up G:Bool):Nd->Bool
 |.mk k m u g o rL d ks=>(((k==3&&((((!up||m !=0)||u !=0)||g !=0)||decide (0<rL.length)))||(k !=1&& !d.toList.isEmpty))||(k !=2&&(decide (0<ks.length)||o)))||(o&&(G|| !up))
theorem bj(d:BA):d.toList.isEmpty=decide (d.size=0):=by
 rw[tz,<-JZ];cases d.data.toList<;>simp
theorem gD(up O:Bool)(x:Nd):EQ up O x=if Jl x≠0 then Jl x else if J6 up O x=true then 3 else 0:=by
 obtain⟨k,m,u,g,o,rL,d,ks⟩:=x;rw[EQ,Jl];by_cases I:k<1\/3<k
 .rw[NS I,NS I];rfl
 rw[NO I,NO I];by_cases G:m<0\/4095<m\/DT u=false\/DT g=false
 .rw[NS G,NS G];rfl
 rw[NO G,NO G];by_cases H:Ea rL≠0
 .rw[NS H,NS H,NS H]
 rw[NO H,NO H];by_cases J:200<d.size
 .rw[NS J,Lh,NS J];rfl
 rw[NO J,NO oS];have ar:0<=m:=by omega
 have aw:0<=u:=by
  by_cases e:DT u=false
  .exact absurd (.inr<|.inr<|.inl e) G
  .simp[DT]at e;omega
 have az:0<=g:=by
  by_cases e:DT g=false
  .exact absurd (.inr<|.inr<|.inr e) G
  .simp[DT]at e;omega
 rw[Lh,NO J,J6,bj];have Z:(m !=0)=decide (0<m):=by rw[tA];simp;omega
 have ab:(u !=0)=decide (0<u):=by rw[tA];simp;omega
 have ad:(g !=0)=decide (0<g):=by rw[tA];simp;omega
 have ak:(!decide (d.size=0))=decide (0<d.size):=by rw[tA];simp only[Bool.not_eq_true',decide_eq_false_iff_not,tD];omega
 have al:(k==3)=decide (k=3):=by rw[tA];simp
 have ao:(k !=1)=decide (k≠1):=by rw[tA];simp
 have ap:(k !=2)=decide (k≠2):=by rw[tA];simp
 rw[Z,ab,ad,ak,al,ao,ap];simp only[Bool.or_eq_true,Bool.and_eq_true,tD,Bool.not_eq_true'];cases up<;>cases O<;>cases o<;>simp only[reduceCtorEq,false_or,or_false,true_or,or_true,and_true,true_and,and_false,false_and,↓reduceIte,Bool.false_eq_true]
 all_goals
  repeat' split
  all_goals first
   |rfl
   |(exfalso;omega)
theorem Rd(x G:Int)(w:World):Calls prog 190 #[iN x,iN G] w λe w'=>e=.returned (.bool (decide (x<0)||decide (G<x)))/\w=w':=by
 by_cases h:x<0
 .have d:decide (x<0)=true:=NY h
  go_enter func190,ntmps190;go_wp2;go_ret;exact⟨BI (by rw[d];rfl),rfl⟩
 .have d:decide (x<0)=false:=NM h
  clear h;go_enter func190,ntmps190;go_wp2;go_ret;exact⟨BI (by rw[d];rfl),rfl⟩
theorem aR(k m u g:Int)(o:Bool)(rL:List Kv)(d:BA)(ks:Ay)(h:Hd)(up G:Bool)(W:World)(bi:1<=k/\k<=3):
 Calls prog 141 #[At (.mk k m u g o rL d ks) h,.bool up,.bool G] W λe a8=>e=.returned (.bool<|J6 up G<|.mk k m u g o rL d ks)/\Below W.heap.size W a8:=by
 have H:=Cm.new W k m u g o rL d ks h;have bk:Below W.heap.size W<|W.alloc<|Aw k m u g o rL d ks h:=(NB _ _).alloc (rP _) _;obtain⟨R,aw⟩:=Aq<|J6 up G<|.mk k m u g o rL d ks;rw[aw.out];obtain⟨az,ba⟩:∃t,(m !=0)=t:=⟨_,rfl⟩;obtain⟨aA,bb⟩:∃t,(u !=0)=t:=⟨_,rfl⟩;obtain⟨a1,bd⟩:∃t,(g !=0)=t:=⟨_,rfl⟩;obtain⟨ap,a6⟩:∃t,decide (0<rL.length)=t:=⟨_,rfl⟩;obtain⟨tk,a7⟩:∃t,decide (0<ks.length)=t:=⟨_,rfl⟩;obtain⟨ar,hd⟩:∃t,d.toList.isEmpty=t:=⟨_,rfl⟩;have I:Hid<|R=((((k==3&&((((!up||az)||aA)||a1)||ap))||(k !=1&& !ar))||(k !=2&&(tk||o)))||(o&&(G|| !up))):=by show _=_;rw[<-aw.out,J6,ba,bb,bd,a6,a7,hd]
 have bl:decide (0<(rL.length:Int))=ap:=by rw[<-a6];congr 1;simp only[eq_iff_iff];omega
 have bn:decide (0<(ks.length:Int))=tk:=by rw[<-a7];congr 1;simp only[eq_iff_iff];omega
 show Calls prog 141 #[(Ba k m u g o rL d ks h),.bool up,.bool G] _ _;by_cases be:k=3
 .subst be
  cases up
  .cases tk<;>cases o<;>cases G
   all_goals
    obtain⟨J,O,Z,ab,ad,ak,al,ao⟩:=H;go_enter func141,ntmps141;go_wp2;go_ret;exact⟨BI I.symm,(NB _ _).alloc (rP _) _⟩
  .cases az
   .cases aA
    .cases a1
     .cases ap
      .cases ar<;>cases tk<;>cases o<;>cases G
       all_goals
        obtain⟨J,O,Z,ab,ad,ak,al,ao⟩:=H;go_enter func141,ntmps141;go_wp2;go_ret;exact⟨BI I.symm,(NB _ _).alloc (rP _) _⟩
      .cases tk<;>cases o<;>cases G
       all_goals
        obtain⟨J,O,Z,ab,ad,ak,al,ao⟩:=H;go_enter func141,ntmps141;go_wp2;go_ret;exact⟨BI I.symm,(NB _ _).alloc (rP _) _⟩
     .cases tk<;>cases o<;>cases G
      all_goals
       obtain⟨J,O,Z,ab,ad,ak,al,ao⟩:=H;go_enter func141,ntmps141;go_wp2;go_ret;exact⟨BI I.symm,(NB _ _).alloc (rP _) _⟩
    .cases tk<;>cases o<;>cases G
     all_goals
      obtain⟨J,O,Z,ab,ad,ak,al,ao⟩:=H;go_enter func141,ntmps141;go_wp2;go_ret;exact⟨BI I.symm,(NB _ _).alloc (rP _) _⟩
   .cases tk<;>cases o<;>cases G
    all_goals
     obtain⟨J,O,Z,ab,ad,ak,al,ao⟩:=H;go_enter func141,ntmps141;go_wp2;go_ret;exact⟨BI I.symm,(NB _ _).alloc (rP _) _⟩
 by_cases bf:k=2
 .subst bf
  cases ar<;>cases o<;>cases G<;>cases up
  all_goals
   obtain⟨J,O,Z,ab,ad,ak,al,ao⟩:=H;go_enter func141,ntmps141;go_wp2;go_ret;exact⟨BI I.symm,(NB _ _).alloc (rP _) _⟩
 have bg:k=1:=by omega
 subst bg;cases tk<;>cases o<;>cases G<;>cases up
 all_goals
  obtain⟨J,O,Z,ab,ad,ak,al,ao⟩:=H;go_enter func141,ntmps141;go_wp2;go_ret;exact⟨BI I.symm,(NB _ _).alloc (rP _) _⟩
theorem V8(u:Int):(decide (u<0)||decide (65535<u))= !DT u:=by grind [DT]
theorem dZ(k m u g:Int)(o:Bool)(rL:List Kv)(d:BA)(ks:Ay)(h:Hd)(W:World)(bq:rL.length<=1000)(bs:F8 rL)(bu:Bg W.cell? h.aa rL):
 Calls prog 140 #[At (.mk k m u g o rL d ks) h] W λe bx=>e=.returned (Ao<|Jl<|.mk k m u g o rL d ks)/\Below W.heap.size W bx:=by
 have Z:Hid (Jl (.mk k m u g o rL d ks)=if k<1\/3<k then 3 else if m<0\/4095<m\/DT u=false\/DT g=false then 1 else if Ea rL≠0 then Ea rL else if 200<d.size then 1 else 0):=rfl;obtain⟨R,aw⟩:=Aq<|Jl<|.mk k m u g o rL d ks;rw[aw.out];rw[aw.out]at Z;have ab:=Cm.new W k m u g o rL d ks h;have H:Below W.heap.size W<|W.alloc<|Aw k m u g o rL d ks h:=bN;have bA:=bu.below H;show cL 140 #[(Ba k m u g o rL d ks h)] _ _;by_cases az:k<1\/3<k
 .have J:(k !=1)=true:=bne_iff_ne.2 oM
  have ad:(k !=2)=true:=bne_iff_ne.2 oM;have b3:(k !=3)=true:=bne_iff_ne.2 oM;have G:Hid<|R=3:=by show _=_;rw[Z.out,NS az]
  obtain⟨aA,a1,a6,a7,a8,ba,bb,bd⟩:=ab;go_enter func140,ntmps140;go_wp2;go_ret;exact⟨CM (AP G oD).symm,H⟩
 have bB:Hid (R=if m<0\/4095<m\/DT u=false\/DT g=false then 1 else if Ea rL≠0 then Ea rL else if 200<d.size then 1 else 0):=by show _=_;rw[Z.out,NO az]
 obtain⟨ak,J⟩:∃t,(k !=1)=t:=⟨_,rfl⟩;obtain⟨be,ad⟩:∃t,(k !=2)=t:=⟨_,rfl⟩;obtain⟨t3,b3⟩:∃t,(k !=3)=t:=⟨_,rfl⟩;have bC:(ak=false)\/(ak=true/\be=false)\/(ak=true/\be=true/\t3=false):=by
  have:k=1\/k=2\/k=3:=by omega
  rcases this with rfl|rfl|rfl
  .left;rw[<-J];rfl
  .right;left;rw[<-J,<-ad];exact⟨rfl,rfl⟩
  .right;right;rw[<-J,<-ad,<-b3];exact⟨rfl,rfl,rfl⟩
 obtain⟨bf,bg⟩:∃t,(decide (m<0)||decide (4095<m))=t:=⟨_,rfl⟩;have bF:=hid bg;obtain⟨al,bi⟩:∃t,DT u=t:=⟨_,rfl⟩;obtain⟨ao,bk⟩:∃t,DT g=t:=⟨_,rfl⟩;have bG:Hid<|(decide (u<0)||decide (65535<u))= !al:=by show _=_;rw[V8,bi]
 have bH:Hid<|(decide (g<0)||decide (65535<g))= !ao:=by show _=_;rw[V8,bk]
 have I:Hid (R=if bf=true\/al=false\/ao=false then 1 else if Ea rL≠0 then Ea rL else if 200<d.size then 1 else 0):=by
  show _=_;rw[bB.out,bi,bk];congr 1;rw[<-bg];simp only[Bool.or_eq_true,tD,or_assoc]
 have bY:=Vn rL;obtain⟨c,bl⟩:∃c,Ea rL=c:=⟨_,rfl⟩;have b0:=hid bl;rw[bl]at I bY;have b9:∀(fr:Prop),fr->fr:=λ_ h=>h;rcases bC with ap|⟨ap,bn⟩|⟨ap,bn,b1⟩
 all_goals
  subst ap;try subst bn
  try subst b1
  have b2:=ab;obtain⟨aA,a1,a6,a7,a8,ba,bb,bd⟩:=b2;go_enter func140,ntmps140;go_wp2_with fail
  go_call Rd m 4095 _ as e w' ⟨rfl,rfl⟩
  rw[bF.out];cases bf;rotate_left
  .have G:Hid<|R=1:=by show _=_;rw[I.out,NS<|.inl rfl]
   go_wp2;go_ret;exact⟨CM (AP G oD).symm,H⟩
  go_wp2_with fail
  go_call Rd u 65535 _ as e w' ⟨rfl,rfl⟩
  rw[bG.out];cases al
  .have G:Hid<|R=1:=by show _=_;rw[I.out,NS<|.inr<|.inl rfl]
   go_wp2;go_ret;exact⟨CM (AP G oD).symm,H⟩
  go_wp2_with fail
  go_call Rd g 65535 _ as e w' ⟨rfl,rfl⟩
  rw[bH.out];cases ao
  .have G:Hid<|R=1:=by show _=_;rw[I.out,NS<|.inr<|.inr rfl]
   go_wp2;go_ret;exact⟨CM (AP G oD).symm,H⟩
  have bo:Hid (R=if c≠0 then c else if 200<d.size then 1 else 0):=by show _=_;rw[I.out,NO oS]
  go_wp2_with fail
  go_call OD h.aa h.ca rL _ bq bs bA as e w2 ⟨rfl,c2⟩
  rw[b0.out];have b4:=ab.below c2;have ar:=H.trans<|c2.mono H.size;obtain⟨aA,a1,a6,a7,a8,ba,bb,bd⟩:=b4;by_cases O:c=0;rotate_left
  .rw[AP rfl O]
   have G:Hid<|R=c:=by show _=_;rw[bo.out,NS O]
   have b6:=hid O;go_wp2;go_ret;exact⟨CM (AP G b6).symm,ar⟩
  subst O;rw[DE rfl];have bp:Hid (R=if 200<d.size then 1 else 0):=by show _=_;rw[bo.out,NO oS]
  by_cases hd:200<d.size
  .have b7:decide (200<(d.size:Int))=true:=NY oM
   have G:Hid<|R=1:=by show _=_;rw[bp.out,NS hd]
   go_wp2;go_ret;exact⟨CM (AP G oD).symm,ar⟩
  .have b7:decide (200<(d.size:Int))=false:=NM oM
   have G:Hid<|R=0:=by show _=_;rw[bp.out,NO hd]
   go_wp2;go_ret;exact⟨CM (DE G).symm,ar⟩
def Oa(w:World)(b:Nat)(n:BA):Nd->Hd->Prop
 |.mk k m u g o rL d ks,h=>w.cell? ⟨b,0,none⟩=some (.string n)/\w.cell? ⟨b,1,none⟩=some (iN k)/\w.cell? ⟨b,2,none⟩=some (iN m)/\w.cell? ⟨b,3,none⟩=some (iN u)/\w.cell? ⟨b,4,none⟩=some (iN g)/\
  w.cell? ⟨b,5,none⟩=some (.bool o)/\w.cell? ⟨b,6,none⟩=some (.slice h.aa rL.length h.ca)/\w.cell? ⟨b,7,none⟩=some (.string d)/\w.cell? ⟨b,8,none⟩=some (.slice h.ak ks.length h.ck)
theorem Oa.new(w:World)(n:BA)(k m u g:Int)(o:Bool)(rL:List Kv)(d:BA)(ks:Ay)(h:Hd)(t:TypeId):
 Oa (w.alloc<|.cells #[.string n,iN k,iN m,iN u,iN g,.bool o,.slice h.aa rL.length h.ca,.string d,.slice h.ak ks.length h.ck] t) w.heap.size n (.mk k m u g o rL d ks) h:=
 ⟨aC,aC,aC,aC,aC,aC,aC,aC,aC⟩
def Xn(up:Bool)(w:World)(bc:Nat)(x:Nd)(h:Hd):Prop:=∀(W:World) (G H:Nat),Az bc w W->Ed W bc (.bool up) (iN H)->G<=7->H<=60->
    Calls prog 96 #[pO bc 0,At x h,iN G] W λe I=>e=.returned (Ao (DA up x G H).1)/\Az bc W I/\Ed I bc (.bool up) (iN (DA up x G H).2)
theorem gJ(up:Bool)(b4:Option Addr)(cap b ba:Nat)(f:Nat->Hd)(ks:Ay)(cD:ks=[]\/b4=some (aD b ba))(dw:ks.length<=1000)(cF:∀(i:Nat) (n:BA) (x:Nd),ks[i]? =some (n,x)->n.size<=255)
 (c3:∀i n x,ks[i]? =some (n,x)->Ep (I9 w.cell? bc) b (ba+i*9) n x (f i)) (bH:∀i n x,ks[i]? =some (n,x)->Xn up w bc x (f i)) (W:World) (G ab:Nat) (c4:Az bc w W) (c5:Ed W bc (.bool up)<|iN ab) (c8:G<=7) (c9:ab<=60):
 Calls prog 142 #[pO bc 0,.slice b4 ks.length cap,iN G] W λe ad=>e=.returned (Ao (Dw up none ks G ab).1)/\Az bc W ad/\Ed ad bc (.bool up) (iN (Dw up none ks G ab).2):=by
 obtain⟨R,b6⟩:=Aq<|Dw up none ks G ab;rw[b6.out];have b7:=hid c3;have da:=hid bH;have dd:=hid cF;have de:=hid cD;go_enter func142,ntmps142;go_wp2;go_loopw [12] (λi wr=>∃(j s:Nat),j<=ks.length/\i=iN j/\s<=60/\Hid (R=Dw up (GT ks j) (ks.drop j) G s)/\Ed wr bc (.bool up) (iN s)/\Az bc W wr) (λi _=>ks.length-(intOf i).toNat)
 case atStart=>exact⟨0,ab,N7 _,rfl,c9,b6.symm,c5,Az.refl _ _⟩
 case round=>
  obtain⟨j,s,dx,rfl,b9,ce,cf,bY⟩:=hrel;by_cases b0:j<ks.length;rotate_left
  .have dg:decide ((j:Int)<(ks.length:Int))=false:=NM oM
   have ch:Hid<|R=(0,s):=by show _=_;rw[ce.out,R8 oM,Dw]
   go_wp2;go_ret;exact⟨CM (DE<|by rw[ch.out]).symm,bY,by rw[ch.out];exact cf⟩
  have dg:(j:Int)<(ks.length:Int):=by omega
  obtain⟨⟨n,x⟩,hx⟩:∃x,ks[j]? =some x:=⟨ks[j],by simp[b0]⟩;have cl:Az bc w wr:=c4.trans bY;have co:Ep wr.cell? b (ba+j*9) n x<|f j:=((b7 j n x hx).on cl.mle).on<|Sz _ _;have ak:=hid<|ce.trans<|gm hx;have cr:=hid<|da j n x hx;have bb:=Vm up x G s b9;have dy:n.size<=255:=dd j n x hx;have dz:=hid hx;rcases de.out with dj|rfl
  .rw[dj]at b0;simp at b0
  generalize f j=al at co cr;have bd:Hid (∀(W:World),Az bc w W->Ed W bc (.bool up) (iN s)->Calls prog 96 #[pO bc 0,At x al,iN G] W λe ad=>e=.returned (Ao (DA up x G s).1)/\Az bc W ad/\Ed ad bc (.bool up) (iN (DA up x G s).2)):=λW q1 q2=>cr W G s q1 q2 c8 b9;obtain⟨dk,dm⟩:=Aq<|DA up x G s
  rw[dm.out]at ak bd bb;obtain⟨O,I⟩:=dk;dsimp only at ak bd bb;obtain⟨t,ao⟩:∃t,Bf n=t:=⟨_,rfl⟩;have dn:=hid ao;rw[ao]at ak;obtain⟨be,bf,bg,bi,bk,bl,bn,bo⟩:=x;obtain⟨p0,p1,p2,p3,dT,d0,d1,d2,d3⟩:=co.nine;have KB:=Oa.new wr n be bf bg bi bk bl bn bo al 92;have b1:Below wr.heap.size wr<|wr.alloc<|DM n be bf bg bi bk al bl bn bo:=bN;go_wp2_with fail
  go_call Iw n _ as e w' ⟨rfl,rfl⟩
  rw[dn.out];have ap:=cf.below b1;have bp:=cl.then b1;have ar:=bY.then b1
  have cx:Hid (∀i J aw,ks[i]? =some (J,aw)->Ce (wr.alloc<|DM n be bf bg bi bk al bl bn bo) b (ba+i*9) (.string J)):=
   λi J aw bq=>(((b7 i J aw bq).on bp.mle).on<|Sz _ _).1
  generalize wr.alloc (DM n be bf bg bi bk al bl bn bo)=Z at KB ap bp ar cx⊢;generalize wr.heap.size=d4 at KB⊢;obtain⟨d5,bs,bu,bx,bA,bB,bC,bF,bG⟩:=KB;cases t
  .have H:Hid<|R=(4,s):=by show _=_;rw[ak.out,NS rfl]
   go_wp2;go_ret;exact⟨CM (AP (by rw[H.out]) oD).symm,ar,by rw[H.out];exact ap⟩
  have az:Hid (R=if Ll (GT ks j) n=false then(3,s)else if O≠0 then(O,I)else Dw up (GT ks<|j+1) (ks.drop<|j+1) G I):=by show _=_;rw[ak.out,NO oS]
  by_cases dp:j=0
  .subst dp
   have aA:Hid (R=if O≠0 then(O,I)else Dw up (GT ks<|0+1) (ks.drop<|0+1) G I):=by show _=_;rw[az.out,NO<|by simp[GT,Ll]]
   go_wp2;go_quiet (fail)
   have a1:Ed (Z.drewN nq) bc (.bool up)<|iN s:=ap;have a6:Az bc w<|Z.drewN nq:=bp.drewN nq;have a7:=ar.drewN nq;change(Z.drewN nq).cell? _=_ at bs bu bx bA bB bC bF bG;generalize Z.drewN nq=dr at a1 a6 a7 bs bu bx bA bB bC bF bG⊢;go_wp2_with fail
   go_call bd _ a6 a1 as e w6 ⟨rfl,c6,hT6⟩
   have a8:=a7.trans c6;by_cases e:O=0
   .rw[DE e]
    have H:Hid<|R=Dw up (GT ks<|0+1) (ks.drop<|0+1) G I:=by show _=_;rw[aA.out,NO<|by simp[e]]
    go_wp2;go_roundw
    case rel=>exact⟨0+1,I,by omega,by go_num,bb.2,H,hT6,a8⟩
    case measure=>simp[intOf];omega
   .rw[AP rfl e]
    have H:Hid<|R=(O,I):=by show _=_;rw[aA.out,NS e]
    have b2:=hid e;go_wp2;go_ret;exact⟨CM (AP (by rw[H.out]) b2).symm,a8,by rw[H.out];exact hT6⟩
  .obtain⟨i,bH⟩:∃i,j=i+1:=⟨j-1,by omega⟩
   obtain⟨⟨J,aw⟩,bq⟩:∃p,ks[i]? =some p:=⟨ks[i]' oM,NA _⟩;have d6:=cx.out i J aw bq;have ds:Hid<|GT ks j=some J:=by show _=_;rw[bH];simp[GT,bq]
   rw[ds.out]at az;have d7:decide (0<j)=true:=NY oM;have d8:IntKind.i64.wrap ((j:Int)-1)=(i:Int):=(DQ oM oM).trans oM;have d9:(j:Int)-1=(i:Int):=by omega
   have dl:(i:Int)<(ks.length:Int):=by omega
   obtain⟨t,ao⟩:∃t,Br J n=t:=⟨_,rfl⟩;have eb:(Op.bytesLess n.toList J.toList||n.toList==J.toList)= !t:=by rw[SP,ao]
   have du:Hid<|Ll (some J) n=t:=ao;rw[du.out]at az;have ed:0<j:=by omega
   cases t
   .have H:Hid<|R=(3,s):=by show _=_;rw[az.out,NS rfl]
    go_wp2;go_quiet (fail)
    go_wp2;go_ret;exact⟨CM (AP (by rw[H.out]) oD).symm,ar.drewN _,by rw[H.out];exact ap⟩
   have aA:Hid (R=if O≠0 then(O,I)else Dw up (GT ks<|j+1) (ks.drop<|j+1) G I):=by show _=_;rw[az.out,NO oS]
   go_wp2;go_quiet (fail)
   have a1:Ed (Z.drewN nq) bc (.bool up)<|iN s:=ap;have a6:Az bc w<|Z.drewN nq:=bp.drewN nq;have a7:=ar.drewN nq;change(Z.drewN nq).cell? _=_ at bs bu bx bA bB bC bF bG;generalize Z.drewN nq=dr at a1 a6 a7 bs bu bx bA bB bC bF bG⊢;go_wp2_with fail
   go_call bd _ a6 a1 as e w6 ⟨rfl,c6,hT6⟩
   have a8:=a7.trans c6;by_cases e:O=0
   .rw[DE e]
    have H:Hid<|R=Dw up (GT ks<|j+1) (ks.drop<|j+1) G I:=by show _=_;rw[aA.out,NO<|by simp[e]]
    go_wp2;go_roundw
    case rel=>exact⟨j+1,I,by omega,by go_num,bb.2,H,hT6,a8⟩
    case measure=>simp[intOf];omega
   .rw[AP rfl e]
    have H:Hid<|R=(O,I):=by show _=_;rw[aA.out,NS e]
    have b2:=hid e;go_wp2;go_ret;exact⟨CM (AP (by rw[H.out]) b2).symm,a8,by rw[H.out];exact hT6⟩
def NU(w:World)(G bc:Nat)(up:Bool):Nd->Hd->Prop
 |.mk k m u g o rL d ks,h=>w.cell? ⟨G,0,none⟩=some (iN k)/\w.cell? ⟨G,1,none⟩=some (iN m)/\w.cell? ⟨G,2,none⟩=some (iN u)/\w.cell? ⟨G,3,none⟩=some (iN g)/\
  w.cell? ⟨G,4,none⟩=some (.bool o)/\w.cell? ⟨G,5,none⟩=some (.slice h.aa rL.length h.ca)/\w.cell? ⟨G,6,none⟩=some (.string d)/\w.cell? ⟨G,7,none⟩=some (.slice h.ak ks.length h.ck)/\w.cell? ⟨bc,0,none⟩=some (.bool up)
theorem NU.of{up:Bool}{s:Value}(H:Cm w G x h)(I:Ed w bc (.bool up) s):NU w G bc up x h:=by
 obtain⟨k,m,u,g,o,rL,d,ks⟩:=x;obtain⟨J,O,Z,ab,ad,ak,al,ao⟩:=H;exact⟨J,O,Z,ab,ad,ak,al,ao,I.1⟩
theorem jp(up:Bool)(_hbc:bc<w.heap.size)(bo:Am (I9 w.cell? bc) x h):AI x->cnt x<=1000->Xn up w bc x h:=by
 induction bo with
 |@mk k m u g o rL d ks h b bp f bq cF c3 bs bu c4 bx=>
  intro ba bA W H G bb ab c5 c8;rw[AI]at ba;rw[cnt]at bA;have⟨hla,hld,hlk⟩:=ba;have⟨hl8,hlow⟩:=hla;have bB:ks.length<=1000:=by have:=JV ks;omega
  have c9:=ab.lt;have az:Hid (DA up (.mk k m u g o rL d ks) H G=if 60<=G\/6<H then(2,G)else if EQ up (decide (H=0)) (.mk k m u g o rL d ks)≠0 then(EQ up (decide (H=0))<|.mk k m u g o rL d ks,G+1)else Dw up none ks (H+1) (G+1)):=by show _=_;rw[DA]
  have⟨R,HR⟩:=Aq<|DA up (.mk k m u g o rL d ks) H G;rw[HR.out]at az;rw[HR.out]
  have bC:Hid (∀(W:World) (H G:Nat),Az bc w W->Ed W bc (.bool up) (iN G)->H<=7->G<=60->cL 142 #[pO bc 0,.slice h.ak ks.length h.ck,iN H] W λe bd=>e=.returned (Ao (Dw up none ks H G).1)/\Az bc W bd/\Ed bd bc (.bool up) (iN (Dw up none ks H G).2)):=
   λW H G q1 q2 bF q4=>gJ up h.ak h.ck b bp f ks bs bB (λi n x ad=>(MV hlk ad).1) bu (λi n x ad=>bx i n x ad (MV hlk ad).2 (by have:=MS ad;omega)) W H G q1 q2 bF q4
  show cL 96 #[pO bc 0,(Ba k m u g o rL d ks h),iN H] _ _;by_cases aA:60<=G\/6<H
  .have I:Hid<|R=(2,G):=by show _=_;rw[az.out,NS aA]
   have bG:=hid aA;have ak:Az bc W<|W.alloc<|Aw k m u g o rL d ks h:=(Az.refl _ _).alloc _;have al:=ab.below<|(NB _ _).alloc (rP _)<|Aw k m u g o rL d ks h;have bH:=al;have⟨t0,t1,t2,t3⟩:=bH;by_cases bY:G=60
   .subst bY
    go_enter func96,ntmps96;go_wp2;go_ret;exact⟨CM (AP (by rw[I.out]) oD).symm,ak,by rw[I.out];exact al⟩
   .have b0:((G:Int)==60)=false:=by simp;omega
    have da:decide (6<(H:Int))=true:=NY (by rcases bG.out with e|e<;>omega);go_enter func96,ntmps96;go_wp2;go_ret;exact⟨CM (AP (by rw[I.out]) oD).symm,ak,by rw[I.out];exact al⟩
  have dd:G<60:=by omega
  have de:H<=6:=by omega
  have b0:((G:Int)==60)=false:=by simp;omega
  have dg:=NM oM;have⟨J,hrt⟩:∃J,((H:Int)==0)=J:=⟨_,rfl⟩;have b1:Hid<|decide (H=0)=J:=by
   show _=_;rw[<-hrt];by_cases e:H=0
   .subst e;rfl
   .rw[NM e];symm;simpa using e
  have a1:Hid (R=if EQ up J (.mk k m u g o rL d ks)≠0 then(EQ up J<|.mk k m u g o rL d ks,G+1)else Dw up none ks (H+1) (G+1)):=by
   show _=_;rw[az.out,NO aA,b1.out]
  have ap:Hid (EQ up J (.mk k m u g o rL d ks)=if Jl (.mk k m u g o rL d ks)≠0 then Jl (.mk k m u g o rL d ks)else if J6 up J (.mk k m u g o rL d ks)=true then 3 else 0):=gD up J _;have⟨c,HC0⟩:=Aq<|Jl<|.mk k m u g o rL d ks;rw[HC0.out]at ap;have be:Hid<|c=0->1<=k/\k<=3:=by
   intro e;have:=HC0.out;rw[e,Jl]at this;by_cases q:k<1\/3<k
   .rw[NS q]at this;cases this
   .omega
  have b2:=ab.set1<|iN<|(G:Int)+1;have b4:Az bc W<|W.setCell (aD bc 1)<|iN<|(G:Int)+1:=(Az.refl _ _).setCell 1 none _;have a6:=Cm.new (W.setCell (aD bc 1)<|iN<|(G:Int)+1) k m u g o rL d ks h;rw[tJ]at a6;have ak:Below (W.setCell (aD bc 1)<|iN<|(G:Int)+1).heap.size (W.setCell (aD bc 1)<|iN<|(G:Int)+1)<|(W.setCell (aD bc 1)<|iN<|(G:Int)+1).alloc<|Aw k m u g o rL d ks h:=bN;have al:=b2.below ak;have bf:=b4.then ak;have b6:=(bq.on (bb.trans bf).mle).on<|Sz _ _;have b7:=ab.below<|(NB _ _).alloc (rP _)<|Aw k m u g o rL d ks h;have⟨s0,s1,s2,s3⟩:=ab;have⟨t0,t1,t2,t3⟩:=b7;have b9:=a6;have⟨y0,y1,y2,y3,y4,y5,y6,y7⟩:=b9;go_enter func96,ntmps96;go_wp2_with fail
  go_call dZ k m u g o rL d ks h _ oM hlow b6 as e w2 ⟨rfl,c2⟩
  rw[HC0.out];have ar:=a6.below c2;have bg:=al.below c2;have bi:=bf.then c2;generalize dj:W.heap.size=O at ar⊢;have aw:Ed w2 bc (.bool up)<|iN ((G+1:Nat):Int):=by
   have e:((G+1:Nat):Int)=(G:Int)+1:=by omega
   rw[e];exact bg
  by_cases Z:c=0;rotate_left
  .have I:Hid<|R=(c,G+1):=by show _=_;rw[a1.out,ap.out,NS Z,NS Z]
   have ce:=hid Z;rw[AP rfl Z];go_wp2;go_ret;exact⟨CM (AP (by rw[I.out]) ce).symm,bi,by rw[I.out];exact aw⟩
  have cf:=be.out Z;subst Z;rw[DE rfl];have a7:Hid (EQ up J (.mk k m u g o rL d ks)=if J6 up J (.mk k m u g o rL d ks)=true then 3 else 0):=by show _=_;rw[ap.out,NO oS]
  have⟨tm,htm⟩:∃t,J6 up J (.mk k m u g o rL d ks)=t:=⟨_,rfl⟩;have ch:=hid htm;rw[htm]at a7;clear htm ap HC0 be bg;have cl:=NU.of ar aw;have ao:Below w2.heap.size w2 w2.drew:=CS (NB _ _) 1;have dk:=NU.of (ar.below ao)<|aw.below ao;have bk:=ar.below ao;have bl:=aw.below ao;have co:=bi.then ao;have⟨y0,y1,y2,y3,y4,y5,y6,y7,y8⟩:=cl;go_wp2;go_region_held3 (λw'=>Ce w' O 0 (iN k)/\Ce w' O 1 (iN m)/\Ce w' O 2 (iN u)/\Ce w' O 3 (iN g)/\Ce w' O 4 (.bool o)/\Ce w' O 5 (.slice h.aa rL.length h.ca)/\Ce w' O 6 (.string d)/\Ce w' O 7 (.slice h.ak ks.length h.ck)/\Ce w' bc 0 (.bool up)) (assumption) (first|(go_at_call 141;go_call aR k m u g o rL d ks h up J _ cf as e w6 ⟨rfl,c6⟩;have dm:=NU.of (bk.below c6)<|bl.below c6))
  all_goals
   have cr:=bk.below c6;have bn:=bl.below c6;have a8:=co.then c6;have cx:Az bc w w6:=bb.trans a8;rw[ch.out];cases tm
   .have I:Hid<|R=Dw up none ks (H+1) (G+1):=by show _=_;rw[a1.out,a7.out];rfl
    have⟨y0,y1,y2,y3,y4,y5,y6,y7⟩:=cr;go_wp2_with fail
    go_call bC _ (H+1) (G+1) cx bn oM oM as e w7 ⟨rfl,c7,hT7⟩
    have cD:=a8.trans c7;rw[<-I.out]at hT7⊢;go_wp2;go_ret;exact⟨rfl,cD,hT7⟩
   .have I:Hid<|R=(3,G+1):=by show _=_;rw[a1.out,a7.out];rfl
    go_wp2;go_ret;exact⟨CM (AP (by rw[I.out]) oD).symm,a8,by rw[I.out];exact bn⟩
theorem Oq(up:Bool)(al:Am w.cell? x h)(ao:AI x)(ap:cnt x<=1000):
 Calls prog 57 #[At x h,.bool up] w λe G=>e=.returned (Ao<|Dj up x)/\Below w.heap.size w G:=by
 obtain⟨R,ab⟩:=Aq<|Dj up x;rw[ab.out];obtain⟨k,m,u,g,o,rL,d,ks⟩:=x;have ad:Hid (R=if k≠2 then 7 else(DA up (.mk k m u g o rL d ks) 0 0).1):=by show _=_;rw[<-ab.out,Dj]
 have H:=Cm.new w k m u g o rL d ks h;have I:Below w.heap.size w<|w.alloc<|Aw k m u g o rL d ks h:=bN;by_cases J:k=2;rotate_left
 .have be:(k !=2)=true:=bne_iff_ne.2 J
  have O:Hid<|R=7:=by show _=_;rw[ad.out,NS J]
  show cL 57 #[(Ba k m u g o rL d ks h),.bool up] _ _;obtain⟨ar,aw,az,aA,a1,a6,a7,a8⟩:=H;go_enter func57,ntmps57;go_wp2;go_ret;exact⟨CM (AP O oD).symm,I⟩
 subst J;have O:Hid<|R=(DA up (.mk 2 m u g o rL d ks) 0 0).1:=by show _=_;rw[ad.out,NO oD]
 have ak:Below w.heap.size w<|(w.alloc<|Aw 2 m u g o rL d ks h).alloc<|.cells #[.bool up,iN 0] 188:=I.alloc I.size _;have Z:=Ed.new (w.alloc<|Aw 2 m u g o rL d ks h) (.bool up) (iN 0) 188;rw[ND]at Z;have ba:=H.below<|(NB _ _).alloc (rP _)<|.cells #[.bool up,iN 0] 188
 have bb:Hid (∀G,Az (w.heap.size+1) ((w.alloc<|Aw 2 m u g o rL d ks h).alloc<|.cells #[.bool up,iN 0] 188) G->Ed G (w.heap.size+1) (.bool up) (iN 0)->cL 96 #[pO (w.heap.size+1) 0,At (.mk 2 m u g o rL d ks) h,iN 0] G λe W2=>e=.returned (Ao (DA up (.mk 2 m u g o rL d ks) 0 0).1)/\Az (w.heap.size+1) G W2/\Ed W2 (w.heap.size+1) (.bool up) (iN (DA up (.mk 2 m u g o rL d ks) 0 0).2)):=
  λG q1 q2=>jp up (w:=((w.alloc<|Aw 2 m u g o rL d ks h).alloc<|.cells #[.bool up,iN 0] 188)) (bc:=w.heap.size+1) Z.lt (al.on<|mt ak oM) ao ap G 0 0 q1 q2 oM oM
 show cL 57 #[Ba 2 m u g o rL d ks h,.bool up] _ _;obtain⟨ar,aw,az,aA,a1,a6,a7,a8⟩:=H;obtain⟨z0,bf,bg,z3,z4,z5,bi,bk⟩:=ba;go_enter func57,ntmps57;go_wp2_with fail
 go_call bb _ (Az.refl _ _) Z as e w2 ⟨rfl,c2,_⟩
 have bd:=ak.trans<|c2.below (B:=w.heap.size) oM (by simp;omega);rw[<-O.out];go_wp2;go_ret;exact⟨rfl,bd⟩
theorem Y6{c:AR}{b:Nat}:∀(I:List Nd) (G:Nat) (f:Nat->Hd),(∀i x,I[i]? =some x->A9 c b (G+i*8) x (f i)/\Am c x (f i))->
 ∃L:List Fl,L.map Fl.x=I/\(∀j u,(BK L)[j]? =some u->c (aD b<|G+j)=some u)/\∀z∈L,Am c z.x z.h
 |[],G,f,_=>⟨[],rfl,λj u h=>by simp[BK]at h,λz J=>by cases J⟩
 |x::I,G,f,h=>by
  obtain⟨L,O,Z,ab⟩:=Y6 I (G+8) (λi=>f<|i+1) λi y ad=>by
   have:=h (i+1) y (by simpa using ad);rw[show G+(i+1)*8=G+8+i*8 by omega]at this;exact this
  obtain⟨g1,ak⟩:=h 0 x rfl;refine⟨⟨x,f 0,0⟩::L,by rw[CB,O],λj u H=>?_,λz J=>?_⟩
  .rw[BK]at H
   by_cases al:j<8
   .rw[C5 (by simp[Fb];omega)]at H
    have:=GR.1 g1 j u H;rwa [tB,tl]at this
   .rw[CG (by simp[Fb];omega),Fb]at H
    have:=Z (j-8) u H;rwa [show G+8+(j-8)=G+j by omega]at this
  .rcases R1.1 J with e|e
   .rw[e];exact ak
   .exact ab z e
theorem mI:∀(A:List Fl),∀u∈BK A,u.oneCell'=true:=by intro A;induction A<;>grind [BK,LL]
end Go.Proofs.YtchpdmjlicmdaaaGreatDoor
