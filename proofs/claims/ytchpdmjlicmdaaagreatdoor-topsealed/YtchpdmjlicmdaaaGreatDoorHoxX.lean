/- Part: Hox Hpa Hpb Fax Fox Flx Fmx Fcx Fnx Fdx Fpx. -/
import Derived.Test.YtchpdmjlicmdaaaGreatDoorHokX
set_option maxRecDepth 100000
set_option maxHeartbeats 16000000
namespace Go.Proofs.YtchpdmjlicmdaaaGreatDoor
open Go.RowKit Go.Proofs.Tryz
variable {W W0 w:World}{N O b db hb k m:Nat}{G H S:Nat->Bool}{L:Nat->Option Nat}{x:Nd}{Q R:Nat->Pl}{u:Int}{o:Bool}{rL:List Kv}{d:BA}{c:AR}{q:Addr}
def Jd(w:World)(b:Nat)(x:Nd):Prop:=∃h,Am w.cell? x h/\∀i v,(Bq x h)[i]? =some v->w.cell? (aD b<|3+i)=some v
theorem Sc{cs:Array Value}{t:TypeId}(h:w.heap[b]? =some (.cells cs t (0,0)))(G:∀v∈cs.toList,∀s,v≠.string s):L9 w.cell? b:=λo s e=>by
 simp[World.cell?,h]at e;exact G _ (Array.mem_toList_iff.2<|Array.mem_of_getElem? e) s rfl
theorem HK.nostr{H:Nat}{Z:Nat->Option Nat}(h:HK w hb db H (64*N) N O m L Z):∀k,k=hb\/k=db\/k=H->L9 w.cell? k:=by
 obtain⟨c,I,ab,_⟩:=h.disk;have ad:∀o s,pV o≠.string s:=λo s=>by cases o<;>nofun
 rintro k (rfl|rfl|rfl)
 .refine Sc h.box λv G s=>?_
  simp only[R1,List.not_mem_nil,or_false]at G;rcases G with rfl|rfl|rfl|rfl|rfl|rfl|rfl|rfl|rfl|rfl|rfl|rfl|rfl<;>first|exact ad _ _|nofun
 .refine Sc I.box λv G s=>?_
  simp only[R1,List.not_mem_nil,or_false]at G;rcases G with rfl|rfl|rfl|rfl<;>nofun
 .obtain⟨ao,ak,al,J⟩:=I.row
  refine Sc ak λv G s=>?_;rw[R3 (by rw[Array.length_toList,al,ab];exact rP _)]at J
  rw[J]at G;obtain⟨x,_,rfl⟩:=CQ.1 G;nofun
theorem Jd.host{w':World}{H G:Nat}{Z:Nat->Option Nat}(t:Jd w G x)(k:HK w hb db H (64*N) N O m L Z)(I:Mv (λb=>b=hb\/b=db\/b=H) w w')(ab:G<w.heap.size)(ad:¬(G=hb\/G=db\/G=H)):Jd w' G x:=by
 obtain⟨h,ak,al⟩:=t;refine⟨h,(Ie (S:=λb=>decide (b=hb\/b=db\/b=H)) (λb e=>(k.nostr b (by simpa using e)).row) ak).on λq v e=>?_,λi v e=>(I.cell (p:=(aD G<|3+i)) ab ad).trans<|al i v e⟩;have J:=BW _ _ _ _ e;exact(I.cell (NF _ _ J) (by simpa using Gg e)).trans J
theorem pC(U:List Int)(n:Nat):∀k,(DI U n k).Nodup:=by intro k;induction k<;>grind [DI,LZ]
theorem VP{G:World}{I n i:Nat}{O:Nat->Option Nat}(l:Cc G hb db I N L O Q R)(_al:i<10){p:Pl}(Z:p.l=DI (DK Q R 10) n (N-200))(ab:AV G p.a p.l)(ad:∀a,p.a=some a->w.heap.size<=a.block)(ao:hb<w.heap.size/\db<w.heap.size/\I<w.heap.size)(ak:Et G (some b) p)(ap:w.heap.size<=b):(i<5->Cc G hb db I N (AK L i<|some b) O (AK Q i p) R)/\(∀j,j<5->i=5+j->Cc G hb db I N L (AK O j<|some b) Q (AK R j p)):=by
 have ar:=l.nn;have f:=LZ (DK Q R 10) n<|N-200;rw[<-Z]at f;refine l.put ak ⟨ab,by omega,λz H=>by have:=(f.2.2 z H).1;omega⟩ (λz H=>by have:=(f.2.2 z H).1;omega) (by rw[Z];exact pC _ _ _) (λj aw z H J=>?_) (λc e=>by cases e;omega) (λa e=>by have:=ad a e;omega);rcases Nat.lt_or_ge j 10 with h|h
 .exact(f.2.2 z H).2 (nW h J)
 .unfold pq at J
  rw[NO oM,(l.h5 (j-5) oM).2.2]at J;cases J
theorem TZ{J ao:Nat}{I:Nat->Option Nat}{hx:Hd}(h:HK w hb db J (64*N) N ao m L I)(l:Cc w hb db J N L I Q R)(fp:m<=600000)(d3:Am w.cell? x hx)(co:AI x)(cr:cnt x<=1000)(d4:(Cy x).length<=60000000):
 Calls prog 23 #[pO hb 0,At x hx] w λe w'=>((∃k G:Nat,∃p,k<5/\L k=none/\e=.returned (.tuple #[iN k,.nilIface])/\Dj false x=0/\(∃ar,ar<=m+22000/\HK w' hb db J (64*N) N (1-ao) ar (AK L k<|some G) I)/\Cc w' hb db J N (AK L k<|some G) I (AK Q k p) R/\(p.l.length:Int)=EP x/\Jd w' G x/\w.heap.size<=G/\∀a,p.a=some a->w.heap.size<=a.block)\/(∃E,E≠0/\e=.returned (.tuple #[iN 0,Ao E]))/\HK w' hb db J (64*N) N ao m L I/\Cc w' hb db J N L I Q R)/\Mv (λb=>b=hb\/b=db\/b=J) w w':=by
 obtain⟨k,H,u,g,o,rL,d,ks⟩:=x;have bk:Below w.heap.size w<|w.alloc<|Aw k H u g o rL d ks hx:=(NB _ _).alloc (rP _) _;have bB:=hid bk;have bC:=hid<|h.below bk;have cx:=hid (l.mv (Mv.of bk) (S:=λ_=>False) λ_ e=>e.elim);have bl:=hid<|d3.on<|Ai bk;have ap:Hid<|AI (.mk k H u g o rL d ks)/\cnt (.mk k H u g o rL d ks)<=1000/\(Cy<|.mk k H u g o rL d ks).length<=60000000:=⟨co,cr,d4⟩;obtain⟨t0,bb,bd,t3,t4,t5,be,bf⟩:(w.alloc<|Aw k H u g o rL d ks hx).cell? ⟨w.heap.size,0,none⟩=some (.int .i64 k)/\(w.alloc<|Aw k H u g o rL d ks hx).cell? ⟨w.heap.size,1,none⟩=some (.int .i64 H)/\(w.alloc<|Aw k H u g o rL d ks hx).cell? ⟨w.heap.size,2,none⟩=some (.int .i64 u)/\(w.alloc<|Aw k H u g o rL d ks hx).cell? ⟨w.heap.size,3,none⟩=some (.int .i64 g)/\(w.alloc<|Aw k H u g o rL d ks hx).cell? ⟨w.heap.size,4,none⟩=some (.bool o)/\(w.alloc<|Aw k H u g o rL d ks hx).cell? ⟨w.heap.size,5,none⟩=some (.slice hx.aa rL.length hx.ca)/\(w.alloc<|Aw k H u g o rL d ks hx).cell? ⟨w.heap.size,6,none⟩=some (.string d)/\(w.alloc<|Aw k H u g o rL d ks hx).cell? ⟨w.heap.size,7,none⟩=some (.slice hx.ak ks.length hx.ck):=⟨rO _ _ _ _ rfl,rO _ _ _ _ rfl,rO _ _ _ _ rfl,rO _ _ _ _ rfl,rO _ _ _ _ rfl,rO _ _ _ _ rfl,rO _ _ _ _ rfl,rO _ _ _ _ rfl⟩;have bn:Hid (∀W,Below (w.alloc<|Aw k H u g o rL d ks hx).heap.size (w.alloc<|Aw k H u g o rL d ks hx) W->W.cell? ⟨w.heap.size,0,none⟩=some (.int .i64 k)/\W.cell? ⟨w.heap.size,1,none⟩=some (.int .i64 H)/\W.cell? ⟨w.heap.size,2,none⟩=some (.int .i64 u)/\W.cell? ⟨w.heap.size,3,none⟩=some (.int .i64 g)/\W.cell? ⟨w.heap.size,4,none⟩=some (.bool o)/\W.cell? ⟨w.heap.size,5,none⟩=some (.slice hx.aa rL.length hx.ca)/\W.cell? ⟨w.heap.size,6,none⟩=some (.string d)/\W.cell? ⟨w.heap.size,7,none⟩=some (.slice hx.ak ks.length hx.ck)):=λW Z=>⟨Ai Z _ _ t0,Ai Z _ _ bb,Ai Z _ _ bd,Ai Z _ _ t3,Ai Z _ _ t4,Ai Z _ _ t5,Ai Z _ _ be,Ai Z _ _ bf⟩;have d5:=RZ bC
 have cD:=hid<|Oq false bl co cr;obtain⟨E,bo⟩:∃E,Hid<|Dj false (.mk k H u g o rL d ks)=E:=⟨_,rfl⟩;rw[bo.out]at cD;show Calls prog 23 #[.pointer<|some ⟨hb,0,none⟩,Ba k H u g o rL d ks hx] _ _;go_enter func23,ntmps23;go_upto_region 1 with fail
 generalize w.alloc (Aw k H u g o rL d ks hx)=cF at*;obtain⟨c3,d6⟩:∃c3,Hid<|w.heap.size=c3:=⟨_,rfl⟩;rw[d6.out]at t0 bb bd t3 t4 t5 be bf bn⊢;go_wp2_with fail
 refine rQ d5 ?_;rintro e w' ⟨rfl,rfl⟩;go_wp2_with fail
 refine rQ cD ?_;rintro e bF ⟨rfl,q2⟩;have aA:=hid q2;have c4:=hid<|bC.below q2;have d7:=hid (cx.mv (Mv.of q2) (S:=λ_=>False) λ_ e=>e.elim);have bG:Hid (∀W E,Below cF.heap.size cF W->E≠0->((∃c5,c5≠0/\Ending.returned (.tuple #[.int .i64 0,Ao E])=.returned (.tuple #[.int .i64 0,Ao c5]))/\HK W hb db J (64*N) N ao m L I/\Cc W hb db J N L I Q R)/\Mv (λb=>b=hb\/b=db\/b=J) w W):=λW E Z bg=>⟨⟨⟨E,bg,rfl⟩,bC.below Z,cx.mv (Mv.of Z) (S:=λ_=>False) λ_ e=>e.elim⟩,(Mv.of bB).trans<|Mv.of Z⟩;by_cases bg:E=0
 .subst bg
  rw[show Ao 0=Value.nilIface from rfl];have d8:=(VO λj a1=>Tw c4.box a1).2;go_wp2_with fail
  refine rQ d8 ?_;rintro e w' ⟨⟨j,a1,d9,_,rfl⟩|⟨_,rfl⟩,rfl⟩
  .have fs:decide ((j:Int)<0)=false:=NM oM
   obtain⟨t0,bb,bd,t3,t4,t5,be,bf⟩:=bn bF aA;have c6:=hid<|Oh (bl.on<|Ai aA) ap.1 ap.2.1 ap.2.2;obtain⟨n,bp⟩:∃n:Nat,Hid<|EP (.mk k H u g o rL d ks)=n:=⟨(EP<|.mk k H u g o rL d ks).toNat,by show _=_;unfold EP;omega⟩;rw[bp.out]at c6;go_wp2_with fail
   refine rQ c6 ?_;rintro e bq ⟨rfl,bH⟩;have a6:=hid<|aA.trans<|bH.mono aA.size;have c8:=c4.out.below bH;have az:=d7.out.mv (Mv.of bH) (S:=λ_=>False) λ_ e=>e.elim;have eb:n<=1000000:=by have:=bp.out;have:=Rv ap.2.2;unfold EP at*;omega
   have bY:=hid<|UI c8 az.q az.r az.oks.1 az.oks.2 (λk _=>by have:=az.usl k;have:=az.nn;omega) az.nn n eb;have ed:=hid az;have b0:=hid c8;go_wp2_with fail
   refine rQ bY ?_;rintro e bi ⟨⟨_,rfl⟩|⟨a,cp,rfl,ee,ef,eg,ej⟩,q4⟩
   .have O:=hid (bG bi 13 (a6.trans<|q4.mono a6.size) oD)
    rw[show Ao 13=Value.iface 101 (.int .i64 13)from rfl]at O⊢;go_wp2;go_ret2;exact⟨.inr O.1,O.2⟩
   have bs:=hid<|a6.trans<|q4.mono a6.size;obtain⟨t0,bb,bd,t3,t4,t5,be,bf⟩:=bn bi bs;have b1:=hid<|Rf (bl.on<|Ai bs) ap.1 ap.2.1 ap.2.2;have c9:=pt bo;have ek:=Zq bo;rw[ek]at b1;obtain⟨s,da⟩:∃s,Hid<|FM (.mk k H u g o rL d ks)=s:=⟨_,rfl⟩;rw[da.out]at b1 c9;have bu:Hid<|0<s.size/\((s.size:Int)+63) / 64=n:=⟨c9,by rw[<-da.out];exact bp⟩;have aw:=hid ee;have dd:=hid eg;have de:=hid ej;have dg:=hid ef;have b2:=hid q4;go_wp2_with fail
   refine rQ b1 ?_;rintro e em ⟨rfl,q5⟩;have bx:=hid<|bs.trans<|q5.mono bs.size;obtain⟨t0,bb,bd,t3,t4,t5,be,bf⟩:=bn em bx;have en:=hid<|J0 (S:=λ_=>false) (λ_ e=>by cases e) (by rw[Fe];exact bl.on<|Ai bx) (Id _ ap.2.1 ap.1) ap.2.1;go_wp2_with fail
   refine rQ en ?_;rintro e a7 ⟨⟨h',rfl,dj⟩,q6⟩;rw[Fe]at dj;have ft:=hid<|bx.trans<|q6.mono bx.size;have eo:=hid dj;rw[show At (.mk k H u g o rL d ks) h'=Ba k H u g o rL d ks h' from rfl];have dk:=hid q5;have ep:=hid q6;go_upto_region 14 with fail
   obtain⟨zs,b4⟩:∃zs,Hid<|DI (DK Q R 10) n (N-200)=zs:=⟨_,rfl⟩;rw[b4.out]at aw dd;obtain⟨zb,zo,rfl,b6⟩:∃zb zo,a=some ⟨zb,zo,none⟩/\∀i,i<zs.length->bi.cell? ⟨zb,zo+i,none⟩=some (.int .i64<|zs.getD i 0):=by
    rcases dd.out with e|e
    .have q:=aw.out;rw[e]at q;have:=bu.out;simp at q;omega
    .exact e
   have b7:Below bi.heap.size bi a7:=dk.trans<|ep.mono dk.size;obtain⟨ab,eq,b9,ad⟩:∃ab,Hid (a7.alloc (.cells #[.slice (some ⟨zb,zo,none⟩) n cp,.int .i64 0,.int .i64 s.size,.int .i64 k,.int .i64 H,.int .i64 u,.int .i64 g,.bool o,.slice h'.aa rL.length h'.ca,.string d,.slice h'.ak ks.length h'.ck] 90)=ab)/\Below a7.heap.size a7 ab/\ab.heap[a7.heap.size]? =some (.cells #[.slice (some ⟨zb,zo,none⟩) n cp,.int .i64 0,.int .i64 s.size,.int .i64 k,.int .i64 H,.int .i64 u,.int .i64 g,.bool o,.slice h'.aa rL.length h'.ca,.string d,.slice h'.ak ks.length h'.ck] 90 (0,0)):=⟨_,rfl,(NB _ _).alloc (rP _) _,tM _ _⟩;rw[eq.out];obtain⟨G,dm⟩:∃G,Hid<|a7.heap.size=G:=⟨_,rfl⟩;rw[dm.out]at ad⊢;have fx:=hid ad;have dn:=b7.trans<|b9.mono b7.size;have ce:=b2.out.trans<|dn.mono b2.size;have cf:=hid<|b0.below ce;have a8:=ed.out.mv (Mv.of ce) (S:=λ_=>False) λ_ e=>e.elim;have dp:∀i,i<zs.length->ab.cell? ⟨zb,zo+i,none⟩=some (.int .i64<|zs.getD i 0):=λi bA=>Ai dn _ _<|b6 i bA
   have er:=hid dp;have es:bq.heap.size<=G:=by rw[<-dm.out];exact Rz b2.size b7.size
   have eu:Et ab (some G) ⟨some ⟨zb,zo,none⟩,zs,cp,0,s.size⟩:=⟨by rw[aw.out];exact AG ad rfl,AG ad rfl,AG ad rfl⟩;have ev:=hid<|(VP (w:=bq) (p:=⟨some ⟨zb,zo,none⟩,zs,cp,0,s.size⟩) (b:=G) (n:=n) (i:=j) a8 oM b4.symm (.inr ⟨zb,zo,rfl,dp⟩) de b0.lt eu es).1 a1;have dr:=de.out _ rfl;have ds:Hid<|w.heap.size<=G/\w.heap.size<=zb:=by have gb:=bB.out.size;have gg:=a6.out.size;have gl:bq.heap.size<=zb:=dr;show _/\_;omega
   have ba:=LZ (DK Q R 10) n<|N-200;rw[b4.out]at ba;have ew:∀z∈zs,0<=z/\z<N:=λz b6=>by have:=(ba.2.2 z b6).1;have:=a8.nn;omega
   have go:=b0.out.lt;obtain⟨⟨gq,gr,gu,gv,gw,gx,gy,gz,g0,g2,g5,g6,g7⟩,_⟩:=H6 cf.box;obtain⟨g8,ak,ey,ez,g9,f8,eB,al⟩:=pI ab (db:=db) (sd:=ao) L I a1 G;have eD:=ev.out.mv (Mv.of al) (S:=λ_=>False) λ_ e=>e.elim;have du:=Vr (rec:=192+j*1216) (aa:=none) (LA:=[]) (ca:=0) (s:=s) (zs:=zs) (cp:=cp) (w:=ak.drew) ((cf.below al).mv (S:=λ_=>False) (Mv.refl _ _).drew id id id) (eD.mv (S:=λ_=>False) (Mv.refl _ _).drew λ_ e=>e.elim) (λi bA=>Ai al _ _<|er i bA) ew (by have:bq.heap.size<=zb:=dr;omega) ⟨by have:=dg.out.1;have:=aw.out;omega,dg.2⟩ (by have:=aw.out;have:=bu.out;omega) oM (by have:=bu.out;have:=aw.out;have:=ba.2.1;have:=a8.nn;omega) (.inl rfl) (by have:=ba.2.1;have:=a8.nn;simp;omega) (by have:=ba.2.1;have:=a8.nn;simp;omega)
   have dw:=λW=>(UO j a1 W).1;obtain⟨ch,dx⟩:∃ch:Int,((192+j*1216:Nat):Int)=ch:=⟨_,rfl⟩
   rw[aw.out,dx]at du;rw[dx]at dw;have bY:=hid dw;have eE:Hid (Calls prog 54 #[.pointer<|some ⟨hb,0,none⟩,.int .i64 ch,.slice none 0 0,.agg #[.slice (some ⟨zb,zo,none⟩) n cp,.int .i64 0,.int .i64 s.size],.string s,.agg<|Cz db ao (AK L j<|some G) I] ak.drew λe w'=>e=.returned .nilIface/\(∃ar,ar<=m+2000+s.size/\HK w' hb db J (64*N) N (1-ao) ar (AK L j<|some G) I/\Cc w' hb db J N (AK L j<|some G) I (AK Q j ⟨some ⟨zb,zo,none⟩,zs,cp,0,s.size⟩) R)/\Mv (λb=>b=hb\/b=db\/b=J) ak.drew w'):=du;have eF:Mv (λb=>b=hb\/b=db\/b=J) w ak:=(Mv.of bB).trans<|(Mv.of a6).trans<|(Mv.of ce).trans<|Mv.of al;have eL:Jd ak G<|.mk k H u g o rL d ks:=by
    refine⟨h',eo.on<|Ai<|b9.trans<|al.mono b9.size,λi v e=>Ai al _ _ ?_⟩;have bA:i<8:=(NE.1 e).1;rcases(by omega:i=0\/i=1\/i=2\/i=3\/i=4\/i=5\/i=6\/i=7)with rfl|rfl|rfl|rfl|rfl|rfl|rfl|rfl<;>(cases e;exact AG ad rfl)
   have eX:G<ak.heap.size:=N1 (Cw ad) al.size;have e0:=(cf.below al).mv (S:=λ_=>False) (Mv.refl _ _).drew id id id;have e1:¬(G=hb\/G=db\/G=J):=by omega
   have dy:Hid (Mv (λb=>b=hb\/b=db\/b=J) w ak/\∀W,Mv (λb=>b=hb\/b=db\/b=J) ak.drew W->Jd W G (.mk k H u g o rL d ks)):=⟨eF,λW Z=>(show Jd ak.drew G _ from eL).host e0 Z eX e1⟩;have e2:Hid<|n<=300:=by show n<=300;have:=ba.2.1;have:=aw.out;have:=a8.nn;omega
   have ha:(0:Int)<=j:=by omega
   have hc:(j:Int)<5:=by omega
   obtain⟨⟨x0,e3,e4,e5,e6,e7,e8,e9,fa,fb,fc,fd,fe⟩,_⟩:=H6 eB;have dz:Ke G ab.heap.size (.slice (some ⟨zb,zo,none⟩) n cp) (.pointer<|some ⟨db,0,none⟩) (.bool false) (.int .i64 ao) (pV<|AK L j (some G) 0) (pV<|AK L j (some G) 1) (pV<|AK L j (some G) 2) (pV<|AK L j (some G) 3) (pV<|AK L j (some G) 4) (pV<|I 0) (pV<|I 1) (pV<|I 2) (pV<|I 3) (pV<|I 4) 0 s.size ak.drew:=⟨⟨Ai al _ _<|AG ad rfl,Ai al _ _<|AG ad rfl,Ai al _ _<|AG ad rfl⟩,x0,e3,e4,e5,e6,e7,e8,e9,fa,fb,fc,fd,fe⟩;have dT:Hid<|(¬(G=hb\/G=db\/G=J))/\¬(ab.heap.size=hb\/ab.heap.size=db\/ab.heap.size=J):=⟨by omega,by have:=Cw ad;omega⟩;go_upto_region 15 with fail
   rw[ey.out];go_upto_region 16 with fail
   rw[ez.out];go_region_held3 (Ke G ab.heap.size (.slice (some ⟨zb,zo,none⟩) n cp) (.pointer<|some ⟨db,0,none⟩) (.bool false) (.int .i64 ao) (pV<|AK L j (some G) 0) (pV<|AK L j (some G) 1) (pV<|AK L j (some G) 2) (pV<|AK L j (some G) 3) (pV<|AK L j (some G) 4) (pV<|I 0) (pV<|I 1) (pV<|I 2) (pV<|I 3) (pV<|I 4) 0 s.size) (first|with_reducible exact dz|with_reducible exact ff) (first|(go_at_call 60;(with_reducible refine rQ (bY.out _) ?_);rintro e he ⟨rfl,rfl⟩)|(go_at_call 54;(with_reducible refine rQ eE.out ?_);rintro e cl ⟨rfl,⟨ar,fg,fh,fo⟩,d0⟩;have ff:=dz.mv d0 dT.out.1 dT.out.2;have O:Hid<|ar<=m+2000+s.size/\HK cl hb db J (64*N) N (1-ao) ar (AK L j<|some G) I/\Cc cl hb db J N (AK L j<|some G) I (AK Q j ⟨some ⟨zb,zo,none⟩,zs,cp,0,s.size⟩) R/\Mv (λb=>b=hb\/b=db\/b=J) ak.drew cl:=⟨fg,fh,fo,d0⟩))
   all_goals
    go_wp2;go_ret2;refine⟨.inl ⟨j,G,_,a1,d9,rfl,bo,⟨ar,by have:=O.out.1;have:=bu.out;have:=e2.out;omega,O.2.1⟩,O.2.2.1,by rw[bp.out];show(zs.length:Int)=n;have:=aw.out;omega,dy.2 _ O.2.2.2,ds.1,λa e=>by cases e;exact ds.2⟩,dy.1.trans<|(Mv.refl _ _).drew.trans O.2.2.2⟩
  .have O:=hid (bG bF 2 aA oD)
   go_wp2;go_ret2;exact⟨.inr O.1,O.2⟩
 .have d1:=AP (n:=E) rfl bg
  rw[d1];have d2:=bG.out bF E aA bg;rw[d1]at d2;have O:=hid d2;go_wp2;go_ret2;exact⟨.inr O.1,O.2⟩
theorem iR{zs:List Int}{x:Int}(G:k<zs.length)(H:¬x∈zs.take k)(I:¬zs[k]=x):¬x∈zs.take (k+1):=by grind [List.take_succ_eq_append_getElem]
theorem iK(x:Int)(a:Option Addr)(cap:Nat)(zs:List Int)(w:World)(ab:zs.length<=100)(h:AV w a zs):
 Calls prog 98 #[.slice a zs.length cap,iN x] w λe w'=>(∃j:Int,e=.returned (iN j)/\decide (0<=j)=zs.contains x)/\w=w':=by
 go_enter func98,ntmps98;go_wp2;go_loopw [5,8] (λ_ i wr=>(∃k:Nat,i=iN k/\k<=zs.length/\¬x∈zs.take k)/\wr=w) (λ_ i _=>zs.length-(intOf i).toNat)
 case atStart=>exact⟨⟨0,rfl,N7 _,by simp⟩,rfl⟩
 case round=>
  obtain⟨⟨k,rfl,ad,I⟩,rfl⟩:=hrel;by_cases G:k<zs.length
  .have J:decide ((k:Int)<zs.length)=true:=NY oM
   have ak:(k:Int)<zs.length:=by omega
   rcases h with rfl|⟨b,al,rfl,O⟩
   .simp at G
   have c:=O k G;by_cases H:zs[k]=x
   .have Z:(x==zs[k])=true:=by simp[H]
    go_wp2;go_ret;exact⟨⟨_,rfl,by rw[NY oM,List.contains_iff_mem.2 (by rw[<-H];exact List.getElem_mem G)]⟩,rfl⟩
   .have Z:(x==zs[k])=false:=by simpa using λe=>H e.symm
    go_wp2;go_roundw
    case rel=>exact⟨⟨k+1,by go_num,by omega,iR G I H⟩,trivial⟩
    case measure=>(simp[intOf];omega)
  .have J:decide ((k:Int)<zs.length)=false:=NM oM
   rw[R3 oM]at I;go_wp2;go_ret;exact⟨⟨-1,rfl,by rw[show decide ((0:Int)<=-1)=false from rfl];simpa using I⟩,rfl⟩
theorem iM(x:Int)(a:Option Addr)(cap:Nat)(zs:List Int)(w:World)(G:zs.length<=100)(h:AV w a zs):
 Calls prog 61 #[.slice a zs.length cap,iN x] w λe w'=>e=.returned (.bool<|zs.contains x)/\w=w':=by
 have C:=iK x a cap zs w G h;go_enter func61,ntmps61;go_wp2_with fail
 go_call C as e w' ⟨⟨j,rfl,hj⟩,rfl⟩
 go_wp2;go_ret;exact⟨by show Ending.returned (.bool<|decide (x∈zs))=_;simp,rfl⟩
def Z9(w:World)(H:Nat->Option Nat)(G:Nat->List Int):Prop:=∀k b,H k=some b->∃la lc,w.cell? (aD b 3)=some (.slice la (G k).length lc)/\AV w la (G k)/\(G k).length<=100
theorem aJ{H cap:Nat}{G:Nat->Option Nat}{I:Nat->List Int}(h:HK w hb db H cap N O m L G)(az:m<=800000)(l:Cc w hb db H N L G Q R)(aA:Z9 w G I)(id:Int):
 Calls prog 25 #[pO hb 0,iN id] w λe w'=>((∃k b:Nat,k<5/\id=k/\L k=some b/\(∀j,j<5->∀c,G j=some c->¬id∈I j)/\e=.returned .nilIface/\HK w' hb db H cap N (1-O) (m+68) (AK L k none) G/\Cc w' hb db H N (AK L k none) G (AK Q k EC) R)\/(∃E,E≠0/\e=.returned (Ao E))/\HK w' hb db H cap N O m L G/\Cc w' hb db H N L G Q R)/\Mv (λb=>b=hb\/b=db\/b=H) w w':=by
 have a1:=(Kw h id).2;have Z:=λ(k:Nat) (J:k<5)=>hid<|Vg h az<|(l.drop (k:=k)).1 J;have ao:=hid h
 have ap:=hid l;have a6:=hid aA;obtain⟨⟨bf,bg,bi,bk,bl,bn,bo,bp,bq,bs,bu,bx,bA⟩,_⟩:=H6 h.box;go_enter func25,ntmps25;go_wp2_with fail
 go_call a1 as e w' ⟨⟨k,b,J,rfl,hg,rfl⟩|⟨hg,rfl⟩,rfl⟩
 .replace Z:=Z k J
  have a7:=hid hg;go_wp2;go_loopw [8,23] (λ_ i wr=>(∃j:Nat,i=iN j/\j<=5/\Hid (∀i,i<j->∀c,G i=some c->¬(k:Int)∈I i))/\wr=w) (λ_ i _=>5-(intOf i).toNat)
  case atStart=>exact⟨⟨0,rfl,by omega,λj a8=>by omega⟩,rfl⟩
  case round=>
   obtain⟨⟨j,rfl,a8,ab⟩,rfl⟩:=hrel;by_cases ba:j<5
   .have bb:decide ((j:Int)<5)=true:=NY oM
    have hx:=Z2 wr G j ba;cases hg:G j with
    |none=>
     rw[hg]at hx;replace hx:(Instr.index 95 (.agg #[pV<|G 0,pV<|G 1,pV<|G 2,pV<|G 3,pV<|G 4])<|iN j).run prog wr=.ok (.pointer none) wr:=hx;go_wp2;go_roundw
     case rel=>exact⟨⟨j+1,by go_num,by omega,λi ad c e=>by
      by_cases ak:i=j
      .rw[ak,hg]at e;cases e
      .exact ab i oM c e⟩,trivial⟩
     case measure=>(simp[intOf];omega)
    |some c=>
     rw[hg]at hx;replace hx:(Instr.index 95 (.agg #[pV<|G 0,pV<|G 1,pV<|G 2,pV<|G 3,pV<|G 4])<|iN j).run prog wr=.ok (pO c 0) wr:=hx;obtain⟨la,lc,bd,ad,be⟩:=a6 j c hg;have ar:=iM k la lc (I j) wr be ad;obtain⟨zs,aw⟩:∃zs,Hid<|I j=zs:=⟨_,rfl⟩;rw[aw.out]at bd ar;go_wp2_with fail
     go_call ar as e w' ⟨rfl,rfl⟩
     cases hb:zs.contains (k:Int)with
     |true=>
      go_wp2;go_ret;exact⟨.inr ⟨⟨15,by decide,rfl⟩,ao,ap⟩,Mv.refl _ _⟩
     |false=>
      go_wp2;go_roundw
      case rel=>exact⟨⟨j+1,by go_num,by omega,λi ad c e=>by
       by_cases ak:i=j
       .rw[ak,aw.out];simpa using hb
       .exact ab i oM c e⟩,trivial⟩
      case measure=>(simp[intOf];omega)
   .have bb:decide ((j:Int)<5)=false:=NM oM
    obtain rfl:j=5:=by omega
    rcases(by omega:k=0\/k=1\/k=2\/k=3\/k=4)with rfl|rfl|rfl|rfl|rfl
    all_goals
     go_wp2_with fail
     go_call Z _ as e w2 ⟨rfl,⟨hk2,hl2⟩,hm2⟩
     have al:Hid<|_/\_/\_:=⟨hk2,hl2,hm2⟩;go_wp2;go_ret;exact⟨.inl ⟨_,_,J,rfl,a7,ab,rfl,al.1,al.2.1⟩,al.2.2⟩
 .rw[show Ao 5=.iface 101 (iN 5)from rfl]
  go_wp2;go_ret;exact⟨.inr ⟨⟨5,by decide,rfl⟩,ao,ap⟩,Mv.refl _ _⟩
def KP(w:World)(L:Nat->Option Nat)(X:Nat->Nd):Prop:=∀k b,L k=some b->Jd w b (X k)/\AI (X k)/\cnt (X k)<=1000/\A0 (X k)
theorem cR{bn cap bo:Nat}{bp:Nat->Option Nat}{X:Nat->Nd}(h:HK w hb db bn cap N bo m L bp)(bq:KP w L X)(id:Int):
 Calls prog 9 #[pO hb 0,iN id] w λe w'=>((∃k b:Nat,k<5/\id=k/\L k=some b/\∃h',e=.returned (.tuple #[At (X k) h',.nilIface])/\Am w'.cell? (X k) h')\/((∀k:Nat,k<5->id=k->L k=none)/\e=.returned (.tuple #[GK,Ao 5])))/\Below w.heap.size w w':=by
 have bd:Below w.heap.size w<|w.alloc AO:=(NB _ _).alloc (rP _) _;have bs:=(Kw (h.below bd) id).2;have G:=hid bd;have bu:=hid bq;have be:=hid<|AC.zero w;obtain⟨⟨z0,bx,bA,z3,z4,z5,bB,bC⟩,a6⟩:=AC.zero w;obtain⟨bF,g1,bG,g3,g4,bH,bY,b0⟩:=f8 a6;have b1:Hid<|(w.alloc AO).heap.size=w.heap.size+1:=ND _ _;go_enter func9,ntmps9;go_upto_region 1 with fail
 generalize w.alloc AO=a7 at*;go_wp2_with fail
 go_call bs as e w' ⟨⟨k,b,hk,rfl,hg,rfl⟩|⟨hg,rfl⟩,rfl⟩
 .obtain⟨⟨a1,bf,H⟩,bg,a8,_⟩:=bu k b hg
  have ba:=hid hg;obtain⟨x,hx⟩:∃x,Hid<|X k=x:=⟨_,rfl⟩;rw[hx.out]at bf H bg a8;obtain⟨I,J,u,g,o,rL,d,ks⟩:=x;have b2:=hid<|J0 (W:=a7) (S:=λj=>j==w.heap.size) (λj e=>by rw[b1.out];simp at e;omega) (bf.on (MO G λj e=>by simp;omega)) (Id _ a8 bg) a8;have O:Ce w b 3<|iN I:=H 0 _ rfl;have Z:Ce w b 4<|iN J:=H 1 _ rfl;have ab:Ce w b 5<|iN u:=H 2 _ rfl;have ad:Ce w b 6<|iN g:=H 3 _ rfl;have ak:Ce w b 7<|.bool o:=H 4 _ rfl;have al:Ce w b 8<|.slice a1.aa rL.length a1.ca:=H 5 _ rfl;have ao:Ce w b 9<|.string d:=H 6 _ rfl;have ap:Ce w b 10<|.slice a1.ak ks.length a1.ck:=H 7 _ rfl;replace O:=Ai G _ _ O;replace Z:=Ai G _ _ Z;replace ab:=Ai G _ _ ab;replace ad:=Ai G _ _ ad;replace ak:=Ai G _ _ ak;replace al:=Ai G _ _ al;replace ao:=Ai G _ _ ao;replace ap:=Ai G _ _ ap;go_wp2_with fail
  go_call b2 as e w2 ⟨⟨h',rfl,hN'⟩,q⟩
  have bi:=be.out.below q;have bb:Hid<|_/\_:=⟨hN',G.trans<|q.mono G.size⟩;have aw:=bi.store (.mk I J u g o rL d ks) h';have az:Below w.heap.size w<|As w2 w.heap.size (.mk I J u g o rL d ks) h':=bb.2.trans<|Cb.below (rP _) bb.2.size;have bk:Hid<|Am (As w2 w.heap.size (.mk I J u g o rL d ks) h').cell? (.mk I J u g o rL d ks) h':=bb.1.on λq v e=>by
   have bl:=BW _ _ _ _ e;have b4:=Gg e;exact(Cb.cell (NF _ _ bl) (by simpa using b4)).trans bl
  obtain⟨⟨z0,bx,bA,z3,z4,z5,bB,bC⟩,a6⟩:=bi;obtain⟨bF,g1,bG,g3,g4,bH,bY,b0⟩:=f8 a6;rw[show At (.mk I J u g o rL d ks) h'=Ba I J u g o rL d ks h' from rfl];go_wp2;obtain⟨b6,aA⟩:=Aq<|As w2 w.heap.size (.mk I J u g o rL d ks) h';rw[aA.out]at aw az bk;have ar:=aA.out;simp only[As]at ar;rw[ar];obtain⟨O,Z,ab,ad,ak,al,ao,ap⟩:=aw.1;refine NZ (v:=.tuple #[At (.mk I J u g o rL d ks) h',.nilIface]) (by simp[results,results9,go_sem,At,O,Z,ab,ad,ak,al,ao,ap]) rfl ⟨.inl ⟨k,b,hk,rfl,ba,h',by rw[hx.out],by rw[hx.out];exact bk⟩,az⟩
 .rw[show Ao 5=.iface 101 (iN 5)from rfl]
  have ba:=hid hg;have aw:=be.out.store zN zH;have az:Below w.heap.size w<|As a7 w.heap.size zN zH:=G.trans<|Cb.below (rP _) G.size;go_wp2;obtain⟨b6,aA⟩:=Aq<|As a7 w.heap.size zN zH;rw[aA.out]at aw az;have ar:=aA.out;simp only[As,zN,zH]at ar;simp only[RC]at ar;rw[ar];obtain⟨O,Z,ab,ad,ak,al,ao,ap⟩:=aw.1;refine NZ (v:=.tuple #[GK,.iface 101<|iN 5]) (by simp[results,results9,go_sem,zH,O,Z,ab,ad,ak,al,ao,ap]) rfl ⟨.inr ⟨ba,rfl⟩,az⟩
def Gk:Nd->Nd
 |.mk k m u g _ rL d _=>.mk k m u g false rL d []
def KV(f:Nd->Nat->Nd):Nat->Bc->Nd
 |0,_=>zN
 |_+1,[]=>zN
 |n+1,q::r=>(f (Gk q.1) q.2).with ((f (Gk q.1) q.2).kids++(C7 (q::r)).map λnm=>(nm,KV f n<|Ci (q::r) nm))
theorem QW(f:Nd->Nat->Nd):∀(n m:Nat) (l:Bc),tot l<=n->tot l<=m->KV f n l=KV f m l
 |0,m,[],_,_=>by cases m<;>rfl
 |0,m,q::r,h,_=>by have:=MU q.1;simp[tot]at h;omega
 |n+1,0,[],_,_=>rfl
 |n+1,0,q::r,_,h=>by have:=MU q.1;simp[tot]at h;omega
 |n+1,m+1,[],_,_=>rfl
 |n+1,m+1,q::r,h1,h2=>by
  rw[KV,KV];congr 2;refine List.map_congr_left λnm _=>?_;have G:=MQ (q::r) nm
  rw[R5]at G;rw[QW f n m _ oM oM]
def Dx(f:Nd->Nat->Nd)(l:Bc):Nd:=KV f (tot l) l
theorem Re(f:Nd->Nat->Nd)(q:Nd×Nat)(r:Bc):Dx f (q::r)=(f (Gk q.1) q.2).with ((f (Gk q.1) q.2).kids++(C7 (q::r)).map λnm=>(nm,Dx f<|Ci (q::r) nm)):=by
 unfold Dx;rw[QW f (tot (q::r)) (tot (q::r)+1) _ (rP _) oM,KV];congr 2;refine List.map_congr_left λnm _=>?_;have G:=MQ (q::r) nm
 grind [QW]
open Go.Shelf
attribute [local go_sem] Oper.semAt_some
theorem iI(w:World)(a:Option Addr)(n cap:Nat):
 Calls prog 78 #[.slice a n cap] w λe w'=>e=.returned (.func (.func 116) #[] #[pO w.heap.size 0])/\w'=w.alloc (.cells #[.slice a n cap] 165):=by
 go_enter func78,ntmps78;go_wp2;go_ret;exact⟨rfl,rfl⟩
theorem gM(Z:Nat)(va:Option Addr)(cap:Nat)(G:List Pe)(al:G.length<=1000)(l:Nat)(H:Nat->World->Prop)(W:World)
 (ab:∀i A,H i A->A.cell? ⟨Z,0,none⟩=some (.slice va G.length cap)/\(G=[]\/∃b,va=some ⟨b,0,none⟩/\∀(i:Nat) e,G[i]? =some e->A.cell? ⟨b,i*2,none⟩=some (.string e.n)/\A.cell? ⟨b,i*2+1,none⟩=some (.slice e.a e.L.length e.c)))
 (ao:∀(i:Nat) e A,G[i]? =some e->H (i+1) A->YieldAt Fence.wide 0 prog l #[iN i,.agg #[.string e.n,.slice e.a e.L.length e.c]] A λe B=>e=.returned (.bool true)/\H i B)
 (J:H G.length W):
 CallsIn Fence.wide 0 prog 116 #[.func (.yield l) #[] #[],pO Z 0] W λe B=>(∃v,e=.returned v)/\H 0 B:=by
 refine callsIn_of_wp func116 rfl trivial ?_ rfl;simp only[ntmps116,List.size_toArray,R5,RC,Nat.reduceAdd,Nat.reduceSub,tH,tG,List.push_toArray,List.append_toArray,CN,Cd];have ap:=(ab _ _ J).1;have ad:Hid _:=ab;have ar:Hid _:=ao;obtain⟨N,ak⟩:∃N,Hid<|G.length=N:=⟨_,rfl⟩;rw[ak.out]at ap al J ad;have aw:IntKind.i64.wrap ((N:Int)-1)=(N:Int)-1:=DQ oM oM;gi_wp2
 gi_loopw [3] (λi wr=>∃j:Nat,j<=N/\i=iN ((j:Int)-1)/\H j wr) (λi _=>(intOf i+1).toNat)
 case atStart=>exact⟨N,rP _,rfl,J⟩
 case round=>
  obtain⟨j,ba,rfl,O⟩:=hrel;cases j with
  |zero=>
   have hb:decide ((0:Int)<=-1)=false:=by decide
   gi_wp2
   go_end0
   exact⟨⟨_,rfl⟩,O⟩
  |succ j=>
   obtain⟨e,I⟩:∃e,G[j]? =some e:=⟨_,NA (by rw[ak.out];omega)⟩;obtain⟨c0,az⟩:=ad _ _ O;obtain⟨b,rfl,aA⟩:∃b,va=some (aD b 0)/\∀(i:Nat) e,G[i]? =some e->Ce wr b (i*2) (.string e.n)/\Ce wr b (i*2+1) (.slice e.a e.L.length e.c):=by
    rcases az with q|q
    .rw[q]at I;simp at I
    .exact q
   obtain⟨bb,bd⟩:=aA j e I;have a1:((j+1:Nat):Int)-1=(j:Int):=by omega
   have be:(j:Int)<(N:Int):=by omega
   have bf:decide ((0:Int)<=(j:Int))=true:=NY oM;obtain⟨fn,tmps,assign,body,bg,a6⟩:=ar j e wr I O;have a7:Hid _:=a6;rw[a1];gi_wp2
   refine⟨rfl,RoundIn.mono a7 ?_⟩;rintro x bi ⟨rfl,a8⟩;have aw:IntKind.i64.wrap ((j:Int)-1)=(j:Int)-1:=DQ oM oM;gi_wp2
   go_roundw
   case rel=>exact⟨j,by omega,rfl,a8⟩
   case measure=>(simp[intOf];try omega)
theorem dG(w:World):Calls prog 100 #[nL] w λe w'=>e=.returned (nL)/\w=w':=by
 have G:=λ(W:World) (n c:Nat)=>tt (P:=prog) W 29 92 none n c 0 0 underlying29;go_enter func100,ntmps100
 go_wp2;go_ret;exact⟨rfl,rfl⟩
theorem cW(bd:∀k,S k=true->k<W.heap.size){k m g:Int}{aa:Option Addr}{ca:Nat}(be:Bg (Ag W.cell? S) aa rL)(bf:rL.length<=1000):
 Calls prog 64 #[.agg #[iN k,iN m,iN u,iN g,.bool o,.slice aa rL.length ca,.string d,nL]] W λe ad=>∃a2 c2,e=.returned (.agg #[iN k,iN m,iN u,iN g,.bool o,.slice a2 rL.length c2,.string d,nL])/\rL.length<=c2/\c2<=9223372036854775807/\Bg (Ag ad.cell? S) a2 rL/\Below W.heap.size W ad:=by
 have ak:=AC.new W k m u g o rL d [] ⟨aa,ca,none,0⟩;simp only[Aw,RC]at ak;have al:Below W.heap.size W<|W.alloc<|.cells #[iN k,iN m,iN u,iN g,.bool o,.slice aa rL.length ca,.string d,nL] 31:=(NB _ _).alloc (rP _) _;have ao:=AC.zero<|W.alloc<|.cells #[iN k,iN m,iN u,iN g,.bool o,.slice aa rL.length ca,.string d,nL] 31;simp only[AO,ND]at ao;have ap:=ak.below<|(NB _ _).alloc (rP _)<|.cells #[iN 0,iN 0,iN 0,iN 0,.bool false,nL,.string ⟨#[]⟩,nL] 31;have I:Below W.heap.size W<|(W.alloc<|.cells #[iN k,iN m,iN u,iN g,.bool o,.slice aa rL.length ca,.string d,nL] 31).alloc<|.cells #[iN 0,iN 0,iN 0,iN 0,.bool false,nL,.string ⟨#[]⟩,nL] 31:=al.alloc al.size _;have bg:=(be.on<|BW _ _).below I;have J:W.heap.size+2<=((W.alloc<|.cells #[iN k,iN m,iN u,iN g,.bool o,.slice aa rL.length ca,.string d,nL] 31).alloc<|.cells #[iN 0,iN 0,iN 0,iN 0,.bool false,nL,.string ⟨#[]⟩,nL] 31).heap.size:=by simp
 obtain⟨⟨bi,bk,bl,bn,bo,bp,bq,O⟩,bs⟩:=id ap;simp only[RC]at O;go_enter func64,ntmps64;go_wp2_with fail
 go_call Va aa ca rL _ bf bg as e w2 ⟨⟨vA,rfl,hA2⟩,b2⟩
 have Z:=ap.below b2;have ar:=ao.below b2;have bu:=I.trans<|b2.mono I.size;have bx:=Rz J b2.size;generalize((W.alloc<|.cells #[iN k,iN m,iN u,iN g,.bool o,.slice aa rL.length ca,.string d,nL] 31).alloc<|.cells #[iN 0,iN 0,iN 0,iN 0,.bool false,nL,.string ⟨#[]⟩,nL] 31).heap.size=base at J hA2;generalize cx:W.heap.size=G at Z ar J bx⊢;obtain⟨a2,c2,bA,cD,cF,c3⟩:=Oj hA2;rw[bA]at hA2⊢;have aw:=Z.set5 a2 c2;have bB:=ar.other (p:=(aD G 5)) oS<|.slice a2 rL.length c2;have bC:=LC hA2 (p:=(aD G 5)) (show G<base by omega)<|.slice a2 rL.length c2;have bF:=bu.setCell (p:=(aD G 5)) (by show W.heap.size<=G;omega)<|.slice a2 rL.length c2;obtain⟨⟨bi,bk,bl,bn,bo,bp,bq,O⟩,bs⟩:=Z;have bG:=aw.1.2.2.2.2.2.2.2;simp only[RC]at bG O;go_wp2_with fail
 go_call dG _ as e w4 ⟨rfl,rfl⟩
 have az:=aw.set7 [] none 0;have aA:=bB.other (p:=(aD G 7)) oS<|nL;have bH:=LC bC (p:=(aD G 7)) (show G<base by omega)<|nL;have a1:=bF.setCell (p:=(aD G 7)) (by show W.heap.size<=G;omega)<|nL;simp only[RC]at az;obtain⟨⟨x0,c4,c5,c6,c8,c9,da,dd⟩,de⟩:=id az;obtain⟨⟨z0,dg,dj,z3,z4,z5,dk,dm⟩,dn⟩:=id aA;have a6:=aA.store (.mk k m u g o rL d []) ⟨a2,c2,none,0⟩;have ab:Az (G+1) ((w2.setCell (aD G 5)<|.slice a2 rL.length c2).setCell (aD G 7)<|nL)<|As ((w2.setCell (aD G 5)<|.slice a2 rL.length c2).setCell (aD G 7)<|nL) (G+1) (.mk k m u g o rL d []) ⟨a2,c2,none,0⟩:=Cb;have a7:=RI bH ab oM;have a8:=a1.trans<|ab.below (B:=W.heap.size) oM (by have:=a1.size;omega);generalize H:As ((w2.setCell (aD G 5)<|.slice a2 rL.length c2).setCell (aD G 7)<|nL) (G+1) (.mk k m u g o rL d []) ⟨a2,c2,none,0⟩=bY at a6 ab a7 a8;have b0:Hid<|As ((w2.setCell (aD G 5)<|.slice a2 rL.length c2).setCell (aD G 7)<|nL) (G+1) (.mk k m u g o rL d []) ⟨a2,c2,none,0⟩=bY:=H;go_wp2;have H:=b0.out;simp only[As,RC]at H;rw[H];obtain⟨dp,c7,ba,b1,b4,b6⟩:=Uj (S:=S) (λk b7=>by have:=bd k b7;omega) a7;simp only[CH,true_and]at ba;obtain⟨rfl,rfl⟩:=ba;obtain⟨b9,ce,cf,ch,cl,co,cr,bb⟩:=a6.1;simp only[RC]at bb;refine NZ (v:=.agg #[iN k,iN m,iN u,iN g,.bool o,.slice a2 rL.length c2,.string d,nL]) (by simp[results,results64,go_sem,b9,ce,cf,ch,cl,co,cr,bb]) rfl ⟨a2,c2,rfl,b1,b4,b6,a8⟩
def Zz:Value->Nat
 |.slice _ n _=>n
 |_=>0
theorem Rx(a8:∀k,S k=true->k<W.heap.size){k m g:Int}{aa:Option Addr}{ca:Nat}(b7:Bg (Ag W.cell? S) aa rL)(b9:rL.length<=1000):
 Calls prog 28 #[.agg #[iN k,iN m,iN u,iN g,.bool o,.slice aa rL.length ca,.string d,nL]] W λe ba=>∃a2 c2,e=.returned (.agg #[iN k,iN m,iN u,iN g,.bool o,.slice a2 rL.length c2,.string d,nL])/\rL.length<=c2/\c2<=9223372036854775807/\Bg (Ag ba.cell? S) a2 rL/\Below W.heap.size W ba:=by
 have bb:=AC.new W k m u g o rL d [] ⟨aa,ca,none,0⟩;simp only[Aw,RC]at bb;have bd:Below W.heap.size W<|W.alloc<|.cells #[iN k,iN m,iN u,iN g,.bool o,.slice aa rL.length ca,.string d,nL] 31:=(NB _ _).alloc (rP _) _;have be:=AC.zero<|W.alloc<|.cells #[iN k,iN m,iN u,iN g,.bool o,.slice aa rL.length ca,.string d,nL] 31;simp only[AO,ND]at be;have bf:=bb.below<|(NB _ _).alloc (rP _)<|.cells #[iN 0,iN 0,iN 0,iN 0,.bool false,nL,.string ⟨#[]⟩,nL] 31;have ak:Below W.heap.size W<|(W.alloc<|.cells #[iN k,iN m,iN u,iN g,.bool o,.slice aa rL.length ca,.string d,nL] 31).alloc<|.cells #[iN 0,iN 0,iN 0,iN 0,.bool false,nL,.string ⟨#[]⟩,nL] 31:=bd.alloc bd.size _
 have ce:Hid<|Calls prog 64 #[.agg #[iN k,iN m,iN u,iN g,.bool o,.slice aa rL.length ca,.string d,nL]] ((W.alloc<|.cells #[iN k,iN m,iN u,iN g,.bool o,.slice aa rL.length ca,.string d,nL] 31).alloc<|.cells #[iN 0,iN 0,iN 0,iN 0,.bool false,nL,.string ⟨#[]⟩,nL] 31) _:=cW (S:=λk=>(k==W.heap.size||k==W.heap.size+1)||S k) (λk Z=>by
  simp at Z;rcases Z with(q|q)|q
  .simp;omega
  .simp;omega
  .have:=a8 k q;simp;omega) (b7.on (Bv λk Z H=>⟨by simp[H];omega,ak.block k Z⟩)) b9
 have c8:Hid (∀k,S k=true->k<W.heap.size):=a8;obtain⟨⟨bg,bi,bk,bl,bn,bo,bp,O⟩,bq⟩:=id bf;simp only[RC]at O;go_enter func28,ntmps28;go_wp2_with fail
 go_call ce as e w2 ⟨a2,c2,rfl,hc1,hc2,hk2,b2⟩
 have al:=bf.below b2;have ao:=be.below b2;have bs:=ak.trans<|b2.mono ak.size;have cf:W.heap.size+1<w2.heap.size:=ao.1.lt;generalize ch:W.heap.size=G at al ao hk2 cf⊢;have ap:=al.store (.mk k m u g o rL d []) ⟨a2,c2,none,0⟩;have b3:Az G w2<|As w2 G (.mk k m u g o rL d []) ⟨a2,c2,none,0⟩:=Cb;have bu:=ao.but b3 oM;have ar:=bs.trans<|b3.below (B:=W.heap.size) oM bs.size;have bx:=hk2.on (Bv (w:=w2) (w':=As w2 G (.mk k m u g o rL d []) ⟨a2,c2,none,0⟩) (S':=λk=>(k==G||k==G+1)||S k) λq aw H=>⟨H,b3.block q aw (by simp at H;exact H.1.1)⟩);obtain⟨⟨bg,bi,bk,bl,bn,bo,bp,O⟩,bq⟩:=id al;obtain⟨⟨z0,bA,bB,z3,z4,z5,bC,az⟩,bF⟩:=id ap;simp only[RC]at O az;generalize cl:As w2 G (.mk k m u g o rL d []) ⟨a2,c2,none,0⟩=I at ap bu ar bx z0 bA bB z3 z4 z5 bC az bF;simp only[As,RC]at cl;go_wp2;have ab:Below I.heap.size I<|I.alloc<|.cells #[nL] 29:=(NB _ _).alloc (rP _) _;have bG:=ap.below ab;have aA:=bu.below ab;have a1:=ar.trans<|ab.mono ar.size;have bH:=bx.on<|Du ab;have a6:=cell_one_new I (nL) 29 0 (nL) rfl;have a6:Ce (I.alloc<|.cells #[nL] 29) I.heap.size 0<|nL:=rO _ _ _ _ rfl;generalize I.alloc (.cells #[nL] 29)=J at bG aA a1 bH a6⊢;generalize I.heap.size=a7 at a6⊢;go_loopw [3] (λv wr=>(v=sL a7 0 1 1\/v=sL a7 0 0 1)/\J=wr) (λv _=>Zz v)
 case atStart=>exact⟨.inl rfl,rfl⟩
 case round=>
  obtain⟨(rfl|rfl),rfl⟩:=hrel
  .go_wp2
   go_loopw [27,3] (λi v w'=>i=iN 0/\v=sL a7 0 0 1/\J=w') (λ_ _ _=>0)
   case atStart=>exact⟨rfl,rfl,rfl⟩
   case round=>
    obtain⟨rfl,rfl,rfl⟩:=hrel;go_wp2;go_roundw
    case rel=>exact⟨.inr rfl,by trivial⟩
    case measure=>simp[Zz]
  .obtain⟨⟨bg,bi,bk,bl,bn,bo,bp,O⟩,bq⟩:=id bG
   obtain⟨⟨z0,bA,bB,z3,z4,z5,bC,az⟩,bF⟩:=id aA;simp only[RC]at O;have bY:=aA.store (.mk k m u g o rL d []) ⟨a2,c2,none,0⟩;have b0:Az (G+1) J<|As J (G+1) (.mk k m u g o rL d []) ⟨a2,c2,none,0⟩:=Cb;have b1:=a1.trans<|b0.below (B:=W.heap.size) oM a1.size;have b4:=bH.on (Bv (w:=J) (w':=As J (G+1) (.mk k m u g o rL d []) ⟨a2,c2,none,0⟩) (S':=S) λq aw H=>⟨by simp at H;exact H.2,b0.block q aw (by simp at H;exact H.1.2)⟩);generalize ad:As J (G+1) (.mk k m u g o rL d []) ⟨a2,c2,none,0⟩=co at bY b1 b4;have cr:Hid<|As J (G+1) (.mk k m u g o rL d []) ⟨a2,c2,none,0⟩=co:=ad;go_wp2;have ad:=cr.out;simp only[As,RC]at ad;rw[ad];obtain⟨cx,cD,cF,c3,c4,c5,c6,b6⟩:=bY.1;simp only[RC]at b6;refine NZ (v:=.agg #[iN k,iN m,iN u,iN g,.bool o,.slice a2 rL.length c2,.string d,nL]) (by simp[results,results28,go_sem,cx,cD,cF,c3,c4,c5,c6,b6]) rfl ⟨a2,c2,rfl,hc1,hc2,b4,by rw[<-ch];exact b1⟩
def rv:Nd->Nat->Nd:=λx _=>x
abbrev bv(k m u g:Int)(o:Bool)(rL:List Kv)(d:BA)(aa:Option Addr)(ca:Nat):Value:=.agg #[iN k,iN m,iN u,iN g,.bool o,.slice aa rL.length ca,.string d,nL]
def Mb(x:Nd)(S:Nat->Bool)(W:World)(e:Ending)(G:World):Prop:=∃(k m u g:Int) (o:Bool) (rL:List Kv) (d:BA) (aa:Option Addr) (ca:Nat),x=.mk k m u g o rL d []/\e=.returned (bv k m u g o rL d aa ca)/\rL.length<=ca/\ca<=9223372036854775807/\rL.length<=1000/\Bg (Ag G.cell? S) aa rL/\Below W.heap.size W G
def Qf(w0:World)(fv:Value)(F:Nd->Nat->Nd):Prop:=(fv=.nilFunc/\F=rv)\/∃gf lb,fv=.func (.func gf) #[] lb/\(∀args w,(callFunc gf args).run prog w=.ok (.enter gf args) w)/\
 ∀(W:World) (S:Nat->Bool) (k m u g:Int) (o:Bool) (rL:List Kv) (d:BA) (aa:Option Addr) (ca ly:Nat),A4 u->A4 g->Below w0.heap.size w0 W->(∀k,S k=true->k<W.heap.size)->rL.length<=ca->ca<=9223372036854775807->rL.length<=1000->Bg (Ag W.cell? S) aa rL->
  Calls prog gf (#[bv k m u g o rL d aa ca,iN ly]++lb) W (Mb (F (.mk k m u g o rL d []) ly) S W)
theorem eJ(w:World)(fv:Value)(G:fv.oneCell'=true):
 Calls prog 75 #[fv] w λe w'=>e=.returned (.func (.func 107) #[] #[pO w.heap.size 0])/\w'=w.alloc (.cells #[fv] 121):=by
 go_enter func75,ntmps75;go_wp2;go_ret;exact⟨rfl,rfl⟩
theorem dX{P:Program}(w:World)(d:Nat)(t:TypeId)(G rs:Array TypeId)(v:Bool)(h:P.underlying t=some (.func G rs v)):(Op.equalIn (d+1) t .nilFunc .nilFunc).run P w=.ok true w:=by simp[Op.equalIn,run_underlying h]
theorem cI{P:Program}(w:World)(d:Nat)(t:TypeId)(G rs:Array TypeId)(v:Bool)(gf:Nat)(lb:Array Value)(h:P.underlying t=some (.func G rs v)):(Op.equalIn (d+1) t (.func (.func gf) #[] lb) .nilFunc).run P w=.ok false w:=by simp[Op.equalIn,run_underlying h]
theorem lC(w:World):(binOp .eql 121 .nilFunc .nilFunc).run prog w=.ok (.bool true) w:=by
 simp only[binOp];simp[Op.equal,Op.maxDepth,dX w 9999 _ _ _ _ underlying121]
theorem jC(w:World)(gf:Nat)(lb:Array Value):(binOp .eql 121 (.func (.func gf) #[] lb) .nilFunc).run prog w=.ok (.bool false) w:=by
 simp only[binOp];simp[Op.equal,Op.maxDepth,cI w 9999 _ _ _ _ gf lb underlying121]
theorem Qh{w':World}(hb:Az b w w')(q:Addr)(G:q.block<w.heap.size)(H:q.block≠b):w'.cell? q=w.cell? q:=RE (w:=w)<|hb.block _ G H
theorem qG{x y z:Obj}(I:∀k,S k=true->k<W.heap.size):(∀k,((k==W.heap.size||(k==W.heap.size+1||k==W.heap.size+1+1))||S k)=true->k<(((W.alloc x).alloc y).alloc z).heap.size)/\AW (Ag W.cell? S) (Ag (((W.alloc x).alloc y).alloc z).cell? (λk=>(k==W.heap.size||(k==W.heap.size+1||k==W.heap.size+1+1))||S k)):=by
 have G:(((W.alloc x).alloc y).alloc z).heap.size=W.heap.size+1+1+1:=by rw[ND,ND,ND]
 refine⟨λk H=>?_,Bv λk H G=>⟨by simp[G];omega,?_⟩⟩
 .grind
 .rw[ti _ _ _ (by rw[ND,ND];omega),ti _ _ _ (by rw[ND];omega),ti _ _ _ H]
theorem jy{w0:World}(bo:∀k,S k=true->k<W.heap.size)(bp:Below w0.heap.size w0 W){ab:Nat}{fv:Value}{F:Nd->Nat->Nd}(bq:Ce W ab 0 fv)(hF:Qf w0 fv F){s:Sp}(H:C8 (Ag W.cell? S) s)(bb:A7 s.x)(hid:A0 s.x):
 Calls prog 107 #[.agg #[pO s.b s.p,iN s.ly],pO ab 0] W (Mb (F (Gk s.x) s.ly) S W):=by
 have⟨sb,sp,ly,⟨k,m,u,g,o,rL,d,ks⟩,h⟩:=s;have⟨bd,q1,q2,be,q4,q5,q6,q7⟩:=H.1.on<|BW _ _;have⟨hka,hca,_,_⟩:=Cs.1 H.2;dsimp only at bd q1 q2 be q4 q5 q6 q7 hka hca bb hid;rw[A7]at bb;have bf:=bb.1;rw[A0]at hid;have bs:Hid<|A4 u/\A4 g:=⟨hid.1,hid.2.1⟩;have bu:Below W.heap.size W<|W.alloc<|.cells #[pO sb sp,iN ly] 164:=(NB _ _).alloc (rP _) _;have O:=bu.alloc bu.size<|.cells #[iN 0,iN 0,iN 0,iN 0,.bool false,nL,.string ⟨#[]⟩,nL] 31;have bd:=Ai O _ _ bd;have q1:=Ai O _ _ q1;have q2:=Ai O _ _ q2;have be:=Ai O _ _ be;have q4:=Ai O _ _ q4;have q5:=Ai O _ _ q5;have q6:=Ai O _ _ q6;have q7:=Ai O _ _ q7;have⟨I,J⟩:=GS W (pO sb sp) (iN ly) 164;have I:=Ai ((NB _ _).alloc (rP _)<|.cells #[iN 0,iN 0,iN 0,iN 0,.bool false,nL,.string ⟨#[]⟩,nL] 31) _ _ I;have J:=Ai ((NB _ _).alloc (rP _)<|.cells #[iN 0,iN 0,iN 0,iN 0,.bool false,nL,.string ⟨#[]⟩,nL] 31) _ _ J;show Calls prog 107 #[.agg #[pO sb sp,iN ly],pO ab 0] W (Mb (F (.mk k m u g false rL d []) ly) S W);go_enter func107,ntmps107;go_wp2_with fail
 have⟨hS3,hm3⟩:=qG (x:=.cells #[pO sb sp,iN ly] 164) (y:=.cells #[iN 0,iN 0,iN 0,iN 0,.bool false,nL,.string ⟨#[]⟩,nL] 31) (z:=.cells #[iN k,iN m,iN u,iN g,.bool false,.slice h.aa rL.length h.ca,.string d,nL] 31) bo;have bx:=hka.on hm3;have ar:=O.alloc O.size<|.cells #[iN k,iN m,iN u,iN g,.bool false,.slice h.aa rL.length h.ca,.string d,nL] 31;have bg:=(NB _<|(W.alloc<|.cells #[pO sb sp,iN ly] 164).alloc<|.cells #[iN 0,iN 0,iN 0,iN 0,.bool false,nL,.string ⟨#[]⟩,nL] 31).alloc (rP _)<|.cells #[iN k,iN m,iN u,iN g,.bool false,.slice h.aa rL.length h.ca,.string d,nL] 31;have bi:=(AC.zero<|W.alloc<|.cells #[pO sb sp,iN ly] 164).below bg;have aw:=AC.new ((W.alloc<|.cells #[pO sb sp,iN ly] 164).alloc<|.cells #[iN 0,iN 0,iN 0,iN 0,.bool false,nL,.string ⟨#[]⟩,nL] 31) k m u g false rL d [] ⟨h.aa,h.ca,none,0⟩;simp only[Aw,RC]at aw;rw[ND,ND]at aw;simp only[ND]at bi;have I:=Ai bg _ _ I;have J:=Ai bg _ _ J;have f3:=Ai ar _ _ bq;have b2:ab<W.heap.size:=NF _ _ bq;have c4:Hid (∀k,S k=true->k<W.heap.size):=bo;have b6:=bp.size;generalize(((W.alloc<|.cells #[pO sb sp,iN ly] 164).alloc<|.cells #[iN 0,iN 0,iN 0,iN 0,.bool false,nL,.string ⟨#[]⟩,nL] 31).alloc<|.cells #[iN k,iN m,iN u,iN g,.bool false,.slice h.aa rL.length h.ca,.string d,nL] 31)=c5 at hS3 bx ar bi aw I J f3⊢;go_call Rx (k:=k) (m:=m) (u:=u) (g:=g) (o:=false) (d:=d) (ca:=h.ca) hS3 bx bf as e w4 ⟨a2,c2,rfl,hc1,hc2,hk4,b4⟩
 have az:=aw.below b4;have bA:=bi.below b4;have bB:=ar.trans<|b4.mono ar.size;have I:=Ai b4 _ _ I;have J:=Ai b4 _ _ J;have f4:=Ai b4 _ _ f3;have bC:∀k,((k==W.heap.size||(k==W.heap.size+1||k==W.heap.size+1+1))||S k)=true->k<w4.heap.size:=λk b9=>N1 (hS3 k b9) b4.size;have ce:W.heap.size+1+1<w4.heap.size:=az.1.lt
 generalize c8:W.heap.size=G at az bA I J b2 hk4 bC ce⊢;have bF:=az.store (.mk k m u g false rL d []) ⟨a2,c2,none,0⟩;have b5:Az (G+1+1) w4<|As w4 (G+1+1) (.mk k m u g false rL d []) ⟨a2,c2,none,0⟩:=Cb;have aA:=bA.but b5 oM;have ak:=bB.trans<|b5.below (B:=W.heap.size) oM bB.size;have bk:=hk4.on (Bv (w:=w4) (w':=As w4 (G+1+1) (.mk k m u g false rL d []) ⟨a2,c2,none,0⟩) (S':=λk=>(k==G||(k==G+1||k==G+1+1))||S k) λq Z H=>⟨H,b5.block q Z (by simp at H;exact H.1.2.2)⟩);have bl:∀q,((q==G||(q==G+1||q==G+1+1))||S q)=true->q<(As w4 (G+1+1) (.mk k m u g false rL d []) ⟨a2,c2,none,0⟩).heap.size:=λq Z=>N1 (bC q Z) b5.size;have f5:Ce (As w4 (G+1+1) (.mk k m u g false rL d []) ⟨a2,c2,none,0⟩) ab 0 fv:=(Qh b5 (aD ab 0) (by show ab<_;omega) (by show ab≠_;omega)).trans f4
 have I:Ce (As w4 (G+1+1) (.mk k m u g false rL d []) ⟨a2,c2,none,0⟩) G 0<|pO sb sp:=(Qh b5 (aD G 0) (by show G<_;omega) (by show G≠_;omega)).trans I;have J:Ce (As w4 (G+1+1) (.mk k m u g false rL d []) ⟨a2,c2,none,0⟩) G 1<|iN ly:=(Qh b5 (aD G 1) (by show G<_;omega) (by show G≠_;omega)).trans J;have⟨⟨y0,y1,y2,y3,y4,y5,y6,y7⟩,y8⟩:=id az;have⟨⟨x0,x1,x2,x3,x4,x5,x6,x7⟩,x8⟩:=id bF;have⟨⟨z0,z1,z2,z3,z4,z5,z6,z7⟩,z8⟩:=id aA;simp only[RC]at y7 x7;generalize cf:As w4 (G+1+1) (.mk k m u g false rL d []) ⟨a2,c2,none,0⟩=ad at bF aA ak bk bl f5 I J x0 x1 x2 x3 x4 x5 x6 x7 x8 z0 z1 z2 z3 z4 z5 z6 z7 z8;have ch:=cf;simp only[As,RC]at ch;have c9:=lC;have da:=jC;rcases hF with⟨rfl,rfl⟩|⟨gf,lb,rfl,dd,cl⟩
 .have ao:=aA.store (.mk k m u g false rL d []) ⟨a2,c2,none,0⟩
  have al:Az (G+1) ad<|As ad (G+1) (.mk k m u g false rL d []) ⟨a2,c2,none,0⟩:=Cb;have ap:=ak.trans<|al.below (B:=W.heap.size) oM ak.size;have a1:=bk.on (Bv (w:=ad) (w':=As ad (G+1) (.mk k m u g false rL d []) ⟨a2,c2,none,0⟩) (S':=S) λq Z H=>⟨by simp at H;exact H.2,al.block q Z (by simp at H;exact H.1.2.1)⟩);generalize a8:As ad (G+1) (.mk k m u g false rL d []) ⟨a2,c2,none,0⟩=bn at ao ap a1;have co:Hid<|As ad (G+1) (.mk k m u g false rL d []) ⟨a2,c2,none,0⟩=bn:=a8;go_wp2;have a8:=co.out;simp only[As,RC]at a8;rw[a8];have⟨r0,r1,r2,r3,r4,r5,r6,r7⟩:=ao.1;simp only[RC]at r7;exact NZ (v:=bv k m u g false rL d a2 c2) (by simp[results,results107,go_sem,r0,r1,r2,r3,r4,r5,r6,r7]) rfl ⟨k,m,u,g,false,rL,d,a2,c2,rfl,rfl,hc1,hc2,bf,a1,ap⟩
 .have cr:Hid<|Calls prog gf (#[bv k m u g false rL d a2 c2,iN ly]++lb) ad _:=cl ad (λk=>(k==G||(k==G+1||k==G+1+1))||S k) k m u g false rL d a2 c2 ly bs.1 bs.2 (bp.trans<|ak.mono b6) bl hc1 hc2 bf bk
  go_wp2_with fail
  go_call cr as e bn ⟨k6,m6,u6,g6,o6,at6,d6,a6,c6,hF6,rfl,hd1,hd2,hd3,a1,al⟩
  have ao:=aA.below al;have ap:=ak.trans<|al.mono ak.size;have cx:Hid _:=Rx (k:=k6) (m:=m6) (u:=u6) (g:=g6) (o:=o6) (d:=d6) (ca:=c6) (λq Z=>N1 (bl q Z) al.size) a1 hd3;have de:G+1<bn.heap.size:=ao.1.lt;have cD:Hid _:=hF6;go_wp2_with fail
  go_call cx as e w7 ⟨a7,c7,rfl,he1,he2,hk7,b7⟩
  have bG:=ao.below b7;have bH:=ap.trans<|b7.mono ap.size;have bY:=bG.store (.mk k6 m6 u6 g6 o6 at6 d6 []) ⟨a7,c7,none,0⟩;have b8:Az (G+1) w7<|As w7 (G+1) (.mk k6 m6 u6 g6 o6 at6 d6 []) ⟨a7,c7,none,0⟩:=Cb;have b0:=bH.trans<|b8.below (B:=W.heap.size) oM bH.size;have b1:=hk7.on (Bv (w:=w7) (w':=As w7 (G+1) (.mk k6 m6 u6 g6 o6 at6 d6 []) ⟨a7,c7,none,0⟩) (S':=S) λq Z H=>⟨by simp at H;exact H.2,b8.block q Z (by simp at H;exact H.1.2.1)⟩);have⟨⟨z0,z1,z2,z3,z4,z5,z6,z7⟩,z8⟩:=id bG;generalize ba:As w7 (G+1) (.mk k6 m6 u6 g6 o6 at6 d6 []) ⟨a7,c7,none,0⟩=cF at bY b0 b1;have c3:Hid<|As w7 (G+1) (.mk k6 m6 u6 g6 o6 at6 d6 []) ⟨a7,c7,none,0⟩=cF:=ba;go_wp2;have ba:=c3.out;simp only[As,RC]at ba;rw[ba];have⟨r0,r1,r2,r3,r4,r5,r6,r7⟩:=bY.1;simp only[RC]at r7;exact NZ (v:=bv k6 m6 u6 g6 o6 at6 d6 a7 c7) (by simp[results,results107,go_sem,r0,r1,r2,r3,r4,r5,r6,r7]) rfl ⟨k6,m6,u6,g6,o6,at6,d6,a7,c7,cD,rfl,he1,he2,hd3,b1,b0⟩
structure Tk where
 b:Nat
 p:Nat
 x:Nd
def Tk.has(t:Tk)(q:Addr):Bool:=q.block==t.b&&(decide (t.p<=q.off)&&decide (q.off<t.p+8))
def Gz(T:List Tk)(q:Addr):Bool:=T.any λt=>t.has q
def Gj(c:AR)(S:Nat->Bool)(T:List Tk):AR:=λq=>if(S q.block||Gz T q)=true then none else c q
theorem Pa{T:List Tk}(G:S q.block=false)(H:Gz T q=false):Gj c S T q=c q:=by unfold Gj;rw[G,H];rfl
theorem MT{T:List Tk}{v:Value}(h:Gj c S T q=some v):S q.block=false/\Gz T q=false/\c q=some v:=by grind [Gj]
theorem oH(c:AR)(S:Nat->Bool)(T:List Tk):AW (Gj c S T) c:=λ_ _ h=>(MT h).2.2
theorem lq(c:AR)(S:Nat->Bool):AW (Gj c S [])<|Ag c S:=λq v h=>by
 obtain⟨G,_,H⟩:=MT h;rw[CV G];exact H
def FK(S:Nat->Bool)(T:List Tk):Nat->Bool:=λk=>S k||T.any λt=>k==t.b
theorem LM{T:List Tk}:FK S T k=false↔S k=false/\∀t∈T,k≠t.b:=by simp[FK]
theorem Sy{T:List Tk}(h:∀t∈T,q.block≠t.b):Gz T q=false:=by grind [Gz,Tk.has]
theorem VJ(c:AR)(S:Nat->Bool)(T:List Tk):AW (Ag c<|FK S T)<|Gj c S T:=λq v h=>by
 have G:=Gg h;rw[CV G]at h;obtain⟨H,I⟩:=LM.1 G;rw[Pa H<|Sy I];exact h
inductive Ii (c:AR) (T:List Tk):Nd->Nat->Nat->Prop
 |hole {x:Nd} {b p:Nat} (h:(⟨b,p,x⟩:Tk)∈T):Ii c T x b p
 |node {k m u g:Int} {o:Bool} {rL:List Kv} {d:BA} {ks:Ay} {h:Hd} {b p:Nat} (kb ko:Nat) (hn:A9 c b p (.mk k m u g o rL d ks) h) (ha:Bg c h.aa rL) (hca:rL.length<=h.ca/\h.ca<=9223372036854775807) (hck:ks.length<=h.ck/\h.ck<=9223372036854775807)
  (hak:ks=[]\/h.ak=some ⟨kb,ko,none⟩) (hc:∀i n y,ks[i]? =some (n,y)->c ⟨kb,ko+i*9,none⟩=some (.string n)) (hr:∀i n y,ks[i]? =some (n,y)->Ii c T y kb (ko+i*9+1)):Ii c T (.mk k m u g o rL d ks) b p
theorem Ii.step{G:AR}{T H:List Tk}(I:AW c G)(J:∀t∈T,t∈H\/Ii G H t.x t.b t.p){p:Nat}(h:Ii c T x b p):Ii G H x b p:=by
 induction h with
 |hole h=>
  rcases J _ h with e|e
  .exact .hole e
  .exact e
 |node O Z ab ad ak al ao ap _ ar=>exact .node O Z (ab.on I) (ad.on I) ak al ao (λi n y aw=>I _ _<|ap i n y aw) ar
theorem Ii.done{p:Nat}(h:Ii c [] x b p):∃hd,A9 c b p x hd/\Am c x hd:=by
 induction h with
 |hole h=>cases h
 |@node k m u g o rL d ks h b p H I J O Z ab ad ak _ al=>
  obtain⟨F,hF⟩:∃F:Nat->Hd,∀i n y,ks[i]? =some (n,y)->A9 c H (I+i*9+1) y (F i)/\Am c y (F i):=by
   refine⟨λi=>if G:i<ks.length then Classical.choose (al i ks[i].1 ks[i].2<|NA G)else h,λi n y G=>?_⟩;grind
  exact⟨h,J,.mk H I F O Z ab ad (λi n y G=>⟨ak i n y G,(hF i n y G).1⟩) λi n y G=>(hF i n y G).2⟩
def Lk(T:List Tk):Prop:=T.Pairwise λa b=>a.b≠b.b\/a.p+8<=b.p\/b.p+8<=a.p
theorem mq{T:List Tk}{t:Tk}(h:Lk<|T++[t])(j:Nat)(H:j<8):Gz T (aD t.b<|t.p+j)=false:=by
 unfold Gz;rw[List.any_eq_false];intro s G;have I:=(List.pairwise_append.1 h).2.2 s G t<|CD.2 rfl;grind [Tk.has]
theorem Pk{A B:List Tk}:Gz (A++B) q=(Gz A q||Gz B q):=by unfold Gz;rw[List.any_append]
theorem oN{t:Tk}:Gz [t] q=t.has q:=by unfold Gz;simp
theorem fN{G:AR}{S':Nat->Bool}{T N:List Tk}{t:Tk}{n0 g:Nat}{k m J:Int}{ks:Ay}{h:Hd}
 (ab:t.x=.mk k m u J o rL d ks) (bs:Lk<|T++[t]) (ad:∀q v,c q=some v->q.block<n0) (ak:∀s∈T++[t],s.b<n0/\S s.b=false) (bu:n0<=g) (al:∀s∈N,s.b=g)
 (ao:∀k,k<n0->S k=false->S' k=false) (ap:AW (Gj c S<|T++[t]) G)
 (ar:A9 G t.b t.p (.mk k m u J o rL d ks) h) (aw:Bg (Gj G S'<|T++N) h.aa rL) (az:rL.length<=h.ca/\h.ca<=9223372036854775807) (aA:ks.length<=h.ck/\h.ck<=9223372036854775807) (a1:ks=[]\/(h.ak=some (aD g 0)/\S' g=false))
 (bx:∀i nm y,ks[i]? =some (nm,y)->G (aD g<|i*9)=some (.string nm)/\(⟨g,i*9+1,y⟩:Tk)∈N) (bA:∀s∈N,∃i,s.p=i*9+1)
 {x:Nd} {b p:Nat} (a6:Ii (Gj c S<|T++[t]) (T++[t]) x b p):Ii (Gj G S'<|T++N) (T++N) x b p:=by
 have a7:AW (Gj c S<|T++[t])<|Gj G S'<|T++N:=λq v O=>by
  obtain⟨a8,Z,ba⟩:=MT O;have bb:=ad q v ba;rw[Pk]at Z;have bd:Gz T q=false:=(Bool.or_eq_false_iff.1 Z).1;rw[Pa (ao _ bb a8) (by rw[Pk,bd,Sy λs I e=>by rw[al s I]at e;omega];rfl)];exact ap q v O
 refine a6.step a7 λs I=>?_;rcases Cq.1 I with e|e
 .grind
 rw[CD]at e;subst e;right
 rw[ab];have hb:=ak s<|Cq.2<|.inr<|CD.2 rfl;have bB:∀j,j<8->Gz (T++N) (aD s.b<|s.p+j)=false:=λj be=>by
  grind [Pk,mq,Sy]
 have H:∀j v,j<8->G (aD s.b<|s.p+j)=some v->Gj G S' (T++N) (aD s.b<|s.p+j)=some v:=λj v be bC=>by
  grind [Pa]
 refine .node g 0 (h:=h) ?_ aw az aA (a1.imp id λe=>e.1) (λi nm y bf=>?_) λi nm y bf=>.hole ?_
 .obtain⟨bg,bi,bk,bl,bn,bo,bp,bq⟩:=ar
  exact⟨H 0 _ oM bg,H 1 _ oM bi,H 2 _ oM bk,H 3 _ oM bl,H 4 _ oM bn,H 5 _ oM bo,H 6 _ oM bp,H 7 _ oM bq⟩
 all_goals grind [Pa,Gz,Tk.has]
structure Ft where
 b:Nat
 p:Nat
 a:Option Addr
 c:Nat
 l:Bc
def Ft.tk(F:Nd->Nat->Nd)(t:Ft):Tk:=⟨t.b,t.p,Dx F t.l⟩
abbrev DL(F:Nd->Nat->Nd)(T:List Ft):List Tk:=T.map<|Ft.tk F
def EB:List Ft->List Value
 |[]=>[]
 |t::r=>pO t.b t.p::.slice t.a t.l.length t.c::EB r
theorem Pp:∀A B:List Ft,EB (A++B)=EB A++EB B
 |[],_=>rfl
 |e::r,B=>by simp[EB,Pp r B]
theorem Nj:∀A:List Ft,(EB A).length=A.length*2
 |[]=>rfl
 |e::r=>by simp[EB,Nj r];omega
theorem Xe(T:List Ft)(t:Ft):(EB<|T++[t])[T.length*2]? =some (pO t.b t.p)/\(EB<|T++[t])[T.length*2+1]? =some (.slice t.a t.l.length t.c):=by
 rw[Pp,CG (by rw[Nj];omega),CG (by rw[Nj];omega),Nj,Nat.sub_self,Nat.add_sub_cancel_left];exact⟨rfl,rfl⟩
def Dy(G wb:Nat)(vw:Value)(S:Nat->Bool):Nat->Bool:=λk=>((k==G||k==wb)||some k==vw.ownBlock)||S k
theorem I0{G wb:Nat}{vw:Value}:Dy G wb vw S k=false↔k≠G/\k≠wb/\some k≠vw.ownBlock/\S k=false:=by simp[Dy,and_assoc]
structure qD (w W:World) (nb:Nat) (t:Ft):Prop where
 lo:w.heap.size<=t.b
 ne:t.b≠nb
 typ:∃cs ty,W.heap[t.b]? =some (.cells cs ty (0,0))/\(ty=31\/ty=92)
 cell:A9 W.cell? t.b t.p zN zH
structure FJ (F:Nd->Nat->Nd) (S:Nat->Bool) (w W:World) (fb ab wb:Nat) (fv vw:Value) (T:List Ft) (top:Bc):Prop where
 low:Below w.heap.size w W
 res:AC W w.heap.size zN zH
 rty:∃cs,W.heap[w.heap.size]? =some (.cells cs 31 (0,0))
 fbx:W.heap[fb]? =some (.cells #[fv] 121 (0,0))
 fbl:w.heap.size<=fb
 wbx:Boxed W wb 162 vw
 wbl:w.heap.size<=wb
 row:W.ownsRow w.heap.size 161 2 vw T.length<|EB T
 plc:∀t∈T,qD w W w.heap.size t
 apt:Lk<|DL F T
 see:∀t∈T,Ic t.l/\ES (Ag W.cell?<|FK (Dy w.heap.size wb vw S)<|DL F T) (.slice t.a t.l.length t.c) t.l
 prt:Ii (Gj W.cell? (Dy w.heap.size wb vw S)<|DL F T) (DL F T) (Dx F top) ab 0
structure RR (w W0 W:World) (H:Nat->Bool) (t:Tk):Prop where
 low:Below w.heap.size w W
 siz:W0.heap.size<=W.heap.size
 res:W.heap[w.heap.size]? =W0.heap[w.heap.size]?
 blk:∀k,k<W0.heap.size->H k=false->k≠t.b->W.heap[k]? =W0.heap[k]?
 cel:∀q:Addr,q.block=t.b->t.has q=false->W.cell? q=W0.cell? q
 typ:∃cs ty,W.heap[t.b]? =some (.cells cs ty (0,0))/\(ty=31\/ty=92)
theorem IX{cs:Array Value}{G:TypeId}(h:W.heap[b]? =some (.cells cs G (0,0)))(j:Nat):W.frozen? (aD b j)=false:=by simp[World.frozen?,h]
theorem RR.start{t:Tk}(I:Below w.heap.size w W0)(J:∃cs G,W0.heap[t.b]? =some (.cells cs G (0,0))/\(G=31\/G=92)):RR w W0 W0 H t:=
 ⟨I,rP _,rfl,λ_ _ _ _=>rfl,λ_ _ _=>rfl,J⟩
theorem RR.mv{G:World}{t:Tk}(h:RR w W0 W H t)(I:t.b<W0.heap.size/\H t.b=false)(ad:w.heap.size<W0.heap.size)(ak:W.heap.size<=G.heap.size)(al:Below w.heap.size W G)(hb:∀k,k<W0.heap.size->(H k=false\/k=w.heap.size)->G.heap[k]? =W.heap[k]?):RR w W0 G H t:=by
 have J:=hb t.b I.1<|.inl I.2;refine⟨h.low.trans al,Rz h.siz ak,(hb _ ad<|.inr rfl).trans h.res,λk O Z ao=>(hb k O<|.inl Z).trans<|h.blk k O Z ao,λq ab ap=>?_,?_⟩
 .exact(RE (w:=W) (by rw[ab];exact J)).trans (h.cel q ab ap)
 .rw[J];exact h.typ
theorem RR.below{H:World}{t:Tk}(h:RR w W0 W G t)(I:t.b<W0.heap.size/\G t.b=false)(J:w.heap.size<W0.heap.size)(hb:Below W.heap.size W H):RR w W0 H G t:=
 h.mv I J hb.size (hb.mono h.low.size) λk O _=>hb.block k<|N1 O h.siz
theorem RR.set{t:Tk}(h:RR w W0 W G t)(H:t.b<W0.heap.size/\G t.b=false)(I:w.heap.size<W0.heap.size){p:Addr}(J:w.heap.size<p.block)(O:W0.heap.size<=p.block\/G p.block=true)(v:Value):RR w W0 (W.setCell p v) G t:=by
 refine h.mv H I (by rw[tJ];exact rP _) ((NB _ W).setCell (p:=p) oM v) λk Z ab=>Cv _ _ _ _ λe=>?_;grind
theorem oF{j:Nat}{v:Value}(h:∃cs G,W.heap[b]? =some (.cells cs G (0,0))/\(G=31\/G=92)):∃cs G,(W.setCell (aD b j) v).heap[b]? =some (.cells cs G (0,0))/\(G=31\/G=92):=by
 obtain⟨cs,G,H,I⟩:=h;refine⟨cs.setIfInBounds j v,G,?_,I⟩;obtain⟨J,O⟩:=N3.1 H;show(W.heap.modify b _)[b]? =_;grind
theorem RR.own{t:Tk}(h:RR w W0 W G t)(I:w.heap.size<t.b)(j:Nat)(ad:j<8)(v:Value):RR w W0 (W.setCell (aD t.b<|t.p+j) v) G t:=by
 refine⟨h.low.setCell (p:=(aD t.b<|t.p+j)) (K6 I) v,by rw[tJ];exact h.siz,?_,λk J O H=>?_,λq Z ab=>?_,oF h.typ⟩
 .rw[Cv _ _ _ _ (by show w.heap.size≠t.b;omega)];exact h.res
 .rw[Cv _ _ _ _ (by exact H)];exact h.blk k J O H
 .rw[NG _ _ _ _ λe=>?_]
  .exact h.cel q Z ab
  all_goals grind [Tk.has]
theorem RR.st8{t:Tk}(h:RR w W0 W H t)(G:w.heap.size<t.b)(x:Nd)(hd:Hd):RR w W0 (Go.Proofs.YtchpdmjlicmdaaaGreatDoor.BS W t.b t.p x hd) H t:=by
 obtain⟨k,m,u,g,o,rL,d,ks⟩:=x;exact((((((((h.own G 0 oM _).own G 1 oM _).own G 2 oM _).own G 3 oM _).own G 4 oM _).own G 5 oM _).own G 6 oM _).own G 7 oM _)
theorem RR.mle{t:Tk}{T:List Tk}(h:RR w W0 W H t):AW (Gj W0.cell? H<|T++[t]) W.cell?:=λq v J=>by
 obtain⟨O,I,G⟩:=MT J;have Z:=NF _ _ G;by_cases e:q.block=t.b
 .rw[Pk,oN]at I
  exact(h.cel q e (Bool.or_eq_false_iff.1 I).2).trans G
 .exact(RE (w:=W0)<|h.blk _ Z O e).trans G
end Go.Proofs.YtchpdmjlicmdaaaGreatDoor
