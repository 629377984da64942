/- Part: Ch Yd Ye Yf Yj Ya. -/
import Derived.Test.YtchpdmjlicmdaaaGreatDoorXvX
set_option maxRecDepth 100000
set_option maxHeartbeats 16000000
namespace Go.Proofs.YtchpdmjlicmdaaaGreatDoor
open Go.RowKit Go.Proofs.Tryz
variable {G H I c cA cB g k m u:Int}{zs:List Int}{w w':World}{J b:Nat}{B:Bx}{rM:List Nd}{o:Bool}{rL:List Kv}{cdata d:BA}{ks:Ay}{x0:Nd}
theorem WP(G:0<=c)(I:c<=15):(bits .and .i64 c 8==8)=K5 c 8:=by
 obtain⟨n,rfl⟩:=Int.eq_ofNat_of_zero_le G;have J:n<=15:=by omega
 have H:∀m:Fin 16,(bits .and .i64 ((m:Nat):Int) 8==8)=K5 ((m:Nat):Int) 8:=by decide+kernel
 exact H ⟨n,by omega⟩
def Py(m:Int):Int:=if K5 m 1024=true then m-1024 else m
theorem bz(G:0<=m)(I:m<=4095):bits .andNot .i64 m 1024=Py m:=by
 obtain⟨n,rfl⟩:=Int.eq_ofNat_of_zero_le G;have J:n<=4095:=by omega
 have H:∀a b:Fin 64,bits .andNot .i64 ((64*(a:Nat)+(b:Nat):Nat):Int) 1024=Py ((64*(a:Nat)+(b:Nat):Nat):Int):=by decide+kernel
 have:=H ⟨n / 64,by omega⟩ ⟨n%64,by omega⟩;grind
def FW(g:Int)(zs:List Int)(c G H:Int):Int:=if Gm g zs H=true\/K5 c 8=true then G else Py G
theorem V9(u g c G H:Int)(a:Option Addr)(cap:Nat)(zs:List Int)(w:World)(ad:zs.length<=8)(h:AV w a zs)(ak:0<=c)(al:c<=15)(ao:0<=G)(ap:G<=4095):
 Calls prog 180 #[.agg #[iN u,iN g,.slice a zs.length cap,iN c],iN G,iN H] w λe w'=>
  e=.returned (iN<|FW g zs c G H)/\Below w.heap.size w w':=by
 have ar:=hid<|WP ak al;have aw:=hid<|bz ao ap;go_enter func180,ntmps180;go_wp2_with fail
 go_call RK u g H c a cap zs _ ad (h.below bN) as e w1 ⟨rfl,hb⟩
 have az:=(Dp.new w u g (.slice a zs.length cap) c).below hb;have I:Below w.heap.size w w1:=bN.trans<|hb.mono oS;obtain⟨a1,a6,a7,a8,ba⟩:=id az;obtain⟨t,J⟩:∃t,Gm g zs H=t:=⟨_,rfl⟩;rw[J];have O:=hid J;cases t
 .go_wp2_with fail
  go_call O1 u g c 8 _ _ as e w2 ⟨rfl,hb2⟩
  rw[ar.out];obtain⟨aA,Z⟩:∃t,K5 c 8=t:=⟨_,rfl⟩;rw[Z];have ab:=hid Z;cases aA
  .have HK:Hid<|FW g zs c G H=Py G:=NO (by rw[O.out,ab.out];decide)
   go_wp2;go_ret;exact⟨Kz<|aw.trans HK.symm,I.trans<|hb2.mono I.size⟩
  .have HK:Hid<|FW g zs c G H=G:=NS (.inr ab)
   go_wp2;go_ret;exact⟨Kz HK.symm,I.trans<|hb2.mono I.size⟩
 .have HK:Hid<|FW g zs c G H=G:=NS (.inl O)
  go_wp2;go_ret;exact⟨Kz HK.symm,I⟩
theorem Ky(h:DZ u g zs c=0):(0<=c/\c<=15/\zs.length<=8)/\A4 u/\A4 g:=by
 unfold DZ at h;split at h
 .cases h
 .rename_i hq
  split at h
  .cases h
  .rename_i h4
   have G:CX u=true:=by
    grind
   have H:CX g=true:=by
    grind
   have I:¬(c<0\/15<c):=λe=>hq<|.inr<|.inr e;unfold CX at G H
   simp at G H;exact⟨⟨by omega,by omega,by omega⟩,⟨by omega,by omega⟩,⟨by omega,by omega⟩⟩
theorem De.up{H:World}{V:Nd}{C:Int×Int×List Int×Int}(h:De H w' b B rM V C)(hb:Bw w H):De w w' b B rM V C:=by
 obtain⟨J,O,Z,ab,ad,ak,I⟩:=h.2;exact⟨(Az.of_below hb).trans h.1,J,O,Z,ab,ad,ak,I.1.imp_right λq p G=>Rz hb.size<|q p G,I.2.imp_right λq p G=>Rz hb.size<|q p G⟩
theorem VR(h:AI<|.mk k m u g o rL d ks):AI<|.mk k G H I o rL d ks:=by rw[AI]at h⊢;exact h
theorem Rl{H:List Kv}{I:BA}(h:A0<|.mk k m u g o rL d ks):A0<|.mk k G u g o H I ks:=by rw[A0]at h⊢;exact h
theorem OC{J:List Kv}{O:BA}:cnt (.mk k G H I o J O ks)<=cnt (.mk k m u g o rL d ks):=by rw[cnt,cnt];omega
abbrev Ql:=λG b (B:Bx) tc cA tf gr (X:World)=>(Ce X G 0 (pO b 0)/\Ce X b 3 (iN B.u)/\Ce X b 4 (iN B.g)/\Ce X b 5 (.slice B.ca B.cs.length B.cc)/\Ce X b 6 (iN B.k)/\Ce X tc 5 (iN cA)/\Ce X tf 3 (iN gr):Prop)
theorem fL(h:A6 w b B)(ba:BN B x0 rM){I O:Nat}{Z:Int}(ar:0<=cA/\cA<=4095)(c0:Ce w I 0<|pO b 0)(c1:Ce w J 5<|iN cA)(c2:Ce w O 3<|iN Z):
 LU w (Nd.otM<|FW B.g B.cs B.k cA Z) (.func (.func 179) #[] #[pO I 0,pO J 0,pO O 0]):=by
 refine⟨_,_,rfl,λargs w=>by kernel_rfl,λW G x ak al bq aw bb bd be bf=>?_⟩;have ao:=(Ky ba.cred.1).1;have az:=h.below al;obtain⟨_,_,_,a3,a4,a5,bg,_⟩:=az.cells;have bs:I<w.heap.size:=NF w (aD I 0) c0;have bu:J<w.heap.size:=NF w (aD J 5) c1;have bx:O<w.heap.size:=NF w (aD O 3) c2;have bA:=h.lt;have ab:(Ql I b B J cA O Z W.drew):=⟨Aj al c0,a3,a4,a5,bg,Aj al c1,Aj al c2⟩;obtain⟨H,aA⟩:=Aq<|FW B.g B.cs B.k cA Z;have bi:Hid (Calls prog 180 #[Fj B.u B.g B.ca B.cs.length B.cc B.k,iN cA,iN Z] W.drew λe w'=>e=.returned (iN H)/\Bw W.drew w'):=by
  have e:=V9 B.u B.g B.k cA Z B.ca B.cc B.cs W.drew ao.2.2 (az.grp.below (NB _ _).drew) ao.1 ao.2.1 ar.1 ar.2;rw[aA.out]at e;exact e
 obtain⟨k,m,u,g,o,rL,d,ks⟩:=x;have a1:Hid<|AC W G (.mk k m u g o rL d ks) ak:=aw;have bk:Hid (∀a6,8<=a6->W.cell? (aD G a6)=none):=bb;have bl:Hid<|Am W.cell? (.mk k m u g o rL d ks) ak:=bd;have bn:Hid<|AI<|.mk k m u g o rL d ks:=be;have bo:Hid<|A0<|.mk k m u g o rL d ks:=bf;have bB:G<W.heap.size:=aw.1.lt;show Calls prog 179 #[pO G 0,pO I 0,pO J 0,pO O 0] W _;go_enter func179,ntmps179;go_upto_region 0 with fail
 go_region_held3 (Ql I b B J cA O Z) (assumption) (first|(go_at_call 180;go_call bi.out as e w6 ⟨rfl,q6⟩;have ad:(Ql I b B J cA O Z w6):=⟨Aj q6 ab.1,Aj q6 ab.2.1,Aj q6 ab.2.2.1,Aj q6 ab.2.2.2.1,Aj q6 ab.2.2.2.2.1,Aj q6 ab.2.2.2.2.2.1,Aj q6 ab.2.2.2.2.2.2⟩;have ap:Hid<|AC w6 G (.mk k m u g o rL d ks) ak:=(a1.out.below (NB _ _).drew).below q6;have bC:Ce w6 G 1<|iN m:=ap.out.1.2.1;have bF:w6.frozen? (aD G 1)=false:=ap.out.2 1;have bp:Hid<|Bw W w6:=(NB _ W).drew.trans q6;have bG:(Ql I b B J cA O Z<|w6.setCell (aD G 1)<|iN H):=⟨(BO (by show I≠G;omega)).trans ad.1,(BO (by show b≠G;omega)).trans ad.2.1,(BO (by show b≠G;omega)).trans ad.2.2.1,(BO (by show b≠G;omega)).trans ad.2.2.2.1,(BO (by show b≠G;omega)).trans ad.2.2.2.2.1,(BO (by show J≠G;omega)).trans ad.2.2.2.2.2.1,(BO (by show O≠G;omega)).trans ad.2.2.2.2.2.2⟩))
 all_goals
  have a7:Az G W<|w6.setCell (aD G 1)<|iN H:=(Az.of_below bp).trans<|(Az.refl G w6).setCell 1 none _;have a8:Hid (∃h',AC (w6.setCell (aD G 1)<|iN H) G (.mk k H u g o rL d ks) h'/\Am (w6.setCell (aD G 1)<|iN H).cell? (.mk k H u g o rL d ks) h'/\(AI (.mk k H u g o rL d ks)/\A0 (.mk k H u g o rL d ks)/\cnt (.mk k H u g o rL d ks)<=cnt (.mk k m u g o rL d ks))/\Az G W (w6.setCell (aD G 1)<|iN H)):=⟨ak,ap.set1 H,Ns a7 a1.1 bk<|OT bl,⟨VR bn,Rl bo,OC⟩,a7⟩;generalize w6.setCell (aD G 1) (iN H)=bH at a8;go_wp2;go_end0
  exact⟨⟨_,rfl⟩,by have e:=a8.out;rw[<-aA.out]at e;exact e⟩
noncomputable def Bk.modeS (c:Bk) (x0:Nd) (rM:List Nd) (cA:Int) (p:BA):Int×Nd:=if 0<=cA/\cA<=4095 then(match c.atP true p with
 |.error E=>(E,x0)
 |.ok f=>if c.bx.ownE f.1=0 then Hm c.us c.gs x0 rM (Bo p.data.toList) (Nd.otM<|FW c.g c.cs c.k cA f.1.g)else(c.bx.ownE f.1,x0))else(1,x0)
theorem ic(h:A6 w b B)(a7:BN B x0 rM){cop:Int}{cpath coth cname:BA}(bn:Int)(bG:Ce w (1) 0<|iN bn):
 Calls prog 128 #[pO b 0,Fr cop cpath coth cname cdata cA cB] w λe w'=>e=.returned (Ao (fin B.q x0<|B.cor.modeS x0 rM cA cpath).1)/\De w w' b B rM (fin B.q x0<|B.cor.modeS x0 rM cA cpath).2 B.crd:=by
 obtain⟨S,G⟩:=Aq<|B.cor.modeS x0 rM cA cpath;rw[G.out];obtain⟨⟨bH,bY⟩,a8⟩:∃R,Hid<|fin B.q x0 S=R:=⟨_,rfl⟩;rw[a8.out];have ba:Bw w<|(w.alloc<|EE b).alloc<|AY cop cpath coth cname cdata cA cB:=((NB _ _).alloc (rP _) _).alloc ((NB _ _).alloc (rP _) _:Bw w _).size _;have az:=hid ba;have p0:Ce ((w.alloc<|EE b).alloc<|AY cop cpath coth cname cdata cA cB) w.heap.size 0<|pO b 0:=Bz<|rO _ _ _ _ rfl;have p1:Ce ((w.alloc<|EE b).alloc<|AY cop cpath coth cname cdata cA cB) (w.heap.size+1) 1<|.string cpath:=rO _ _ _ _ (by rw[ND]);have bo:Ce ((w.alloc<|EE b).alloc<|AY cop cpath coth cname cdata cA cB) (w.heap.size+1) 5<|iN cA:=rO _ _ _ _ (by rw[ND]);have b0:Hid (Calls prog 119 #[pO b 0,.string cpath] ((w.alloc<|EE b).alloc<|AY cop cpath coth cname cdata cA cB) λe w'=>Dr B w' cpath true (B.cor.atP true cpath) e/\Bw ((w.alloc<|EE b).alloc<|AY cop cpath coth cname cdata cA cB) w'):=by
  go_call LX (h.below ba) a7.good cpath (Eg _).1 (Eg _).2 bn (Aj ba bG) as e w' ⟨h1,h2⟩
  exact⟨KH a7.good h1,h2⟩
 have bb:=hid h;have bd:=hid a7;have be:=hid<|De.stay bb bd;have bf:Hid (∀E,E≠0->S=(E,x0)->bH=E/\bY=x0):=λE J e=>Jw J<|e▸a8;have b1:Hid (∀ab,Calls prog 160 #[iN cA] ab λe w'=>e=.returned (.bool<|decide (0<=cA/\cA<=4095))/\ab=w'):=λab=>Q0 ab cA
 go_enter func128,ntmps128;go_wp2_with fail
 go_call b1 _ as e wq ⟨rfl,rfl⟩
 by_cases ad:0<=cA/\cA<=4095
 .rw[NY ad]
  have b2:=hid ad;unfold Bk.modeS at G;rw[NS ad]at G;go_wp2_with fail
  generalize((w.alloc<|EE b).alloc<|AY cop cpath coth cname cdata cA cB)=ab at*;go_call b0 as e w2 ⟨hA,q2⟩
  obtain⟨cs,E,rfl,bp,b4,b6,b7⟩:=hA;obtain⟨O,c9,H,bq,b9⟩:=JP w2 cs bp b4;have ce:=Cn cs;unfold Value.cells at ce;have da:=hid bp;have bg:=hid<|q2.trans<|bq.out.mono q2.size;have aA:=hid<|az.trans<|bg.mono az.size;have cf:Hid _:=b6;have ch:Hid _:=b7;have dd:=hid<|Rz az.size q2.size;by_cases J:E=0
  .subst J
   obtain⟨f,I,bs,a1,bi,bk,bu,bx,bA⟩:=cf rfl;rw[bA]at G;have ak:=I1 bs;rw[<-a1]at ak;obtain⟨⟨al,ao,ap,Z,ar⟩,⟨de,dg,dj,dk,dm⟩,na,nc,ry,dn,⟨dp,dr,ds,du,dw,dx,dy,xs⟩,dz,ly⟩:=f;dsimp only[Fd.pur]at a1 bi bk bu bx ak G;have dT:Ce O w2.heap.size 0<|.bool al:=H 0 _ (by rw[I];rfl);have d0:Ce O w2.heap.size 1<|iN ao:=H 1 _ (by rw[I];rfl);have d1:Ce O w2.heap.size 2<|iN ap:=H 2 _ (by rw[I];rfl);have cl:Ce O w2.heap.size 3<|iN Z:=H 3 _ (by rw[I];rfl);have d2:Ce O w2.heap.size 4<|.bool ar:=H 4 _ (by rw[I];rfl);have co:Ce O w2.heap.size 10<|.slice na ry.length nc:=H 10 _ (by rw[I];rfl);have cr:=Aj bg p0;have cx:=Aj bg bo;have cD:=hid<|Wv (bb.below aA) ⟨al,ao,ap,Z,ar⟩;rw[show B.cor.bx.ownE ⟨al,ao,ap,Z,ar⟩=B.ownE ⟨al,ao,ap,Z,ar⟩from rfl,<-a1]at G;generalize B.ownE ⟨al,ao,ap,Z,ar⟩=R at*;have cF:=hid<|bi.on<|Ai bq.out;have bB:Hid<|(∀s∈ry,Bf s=true)/\ry.length<=6:=⟨ak.1,ak.2.1⟩;have c3:=hid bk;rw[show Ao 0=Value.nilIface from rfl];clear I bs a1 bi bk bu bx bA ak H p0 p1 bo b9;go_wp2_with fail
   go_call cD as e w9 ⟨rfl,q9⟩
   have bl:=hid<|aA.trans<|q9.mono aA.size;by_cases a6:R=0
   .subst a6
    rw[NS rfl]at G;rw[show Ao 0=Value.nilIface from rfl];have c4:=Aj q9 cr;have c5:=Aj q9 cx;have c6:=Aj q9 cl;have d3:=Aj q9 co;have bC:=bb.out.below bl;have bF:=hid<|OE bC bd (cF.on<|Ai q9) bB.1 (by have:=bB.out.2;omega) c3 rfl (fL bC bd b2.out c4 c5 c6);rw[show Hm B.M.us B.M.gs x0 rM ry (Nd.otM<|FW B.g B.cs B.k cA Z)=S from G.out,a8.out]at bF;go_wp2_with fail
    go_call bF as e wH ⟨rfl,hT⟩
    have c8:=hid<|hT.up bl;go_wp2;go_ret;exact⟨rfl,c8⟩
   .have aw:=AP (n:=R) rfl a6
    rw[aw];go_wp2;go_ret;obtain⟨rfl,rfl⟩:=bf R a6 (by rw[<-G.out,NO a6]);exact⟨by rw[aw];rfl,be _ bl⟩
  .have aw:=AP (n:=E) rfl J
   rw[aw];go_wp2;go_ret;obtain⟨rfl,rfl⟩:=bf E J (by rw[<-G.out,ch.out J]);exact⟨by rw[aw];rfl,be _ aA⟩
 .rw[NM ad]
  go_wp2;go_ret;obtain⟨rfl,rfl⟩:=bf 1 oD (by rw[<-G.out];unfold Bk.modeS;exact NO ad);exact⟨rfl,be _ az⟩
def IA(c G:Int):Int:=if K5 c 8=true then G else bits .andNot .i64 G 3072
theorem WI(u g c H:Int)(v:Value)(w:World)(J:0<=c)(O:c<=15):
 Calls prog 164 #[.agg #[iN u,iN g,v,iN c],iN H] w λe w'=>e=.returned (iN<|IA c H)/\Bw w w':=by
 have Z:=hid<|WP J O;obtain⟨ad,G⟩:=Aq<|IA c H;rw[G.out];unfold IA at G;go_enter func164,ntmps164;go_wp2_with fail
 go_call O1 u g c 8 _ _ as e w2 ⟨rfl,hb2⟩
 have I:Bw w w2:=((NB _ _).alloc (rP _) _).trans<|hb2.mono oS;rw[Z.out];generalize K5 c 8=ab at G⊢;cases ab
 .obtain rfl:=(NO oD).symm.trans G.out
  go_wp2;go_ret;exact⟨rfl,I⟩
 .obtain rfl:=(NS oD).symm.trans G.out
  go_wp2;go_ret;exact⟨rfl,I⟩
theorem AC.set6{h:Hd}(H:AC w b (.mk k m u g o rL d ks) h)(G:BA):AC (w.setCell (aD b 6)<|.string G) b (.mk k m u g o rL G ks) h:=by
 obtain⟨⟨I,J,O,Z,ab,ad,ak,al⟩,ao⟩:=H;exact⟨⟨(Bt oM).trans I,(Bt oM).trans J,(Bt oM).trans O,(Bt oM).trans Z,(Bt oM).trans ab,(Bt oM).trans ad,N2 _ _ _ ak,(Bt oM).trans al⟩,λj=>by simp[ao j]⟩
theorem kM{J:Int}{G:BA}(h:AI<|.mk k m u g o rL d ks)(hd:G.size<=300):AI<|.mk k H I J o rL G ks:=by grind [AI]
theorem lE{J:List Kv}{O:BA}(h:A0<|.mk k m u g o rL d ks)(Z:A4 G/\A4 H):A0<|.mk k I G H o J O ks:=by grind [A0]
theorem ei(h:A6 w b B)(a8:BN B x0 rM){ab:Nat}(ba:cdata.size<=300)(c0:Ce w J 0<|pO b 0)(c1:Ce w ab 4<|.string cdata):
 LU w (Nd.otW (IA B.k) cdata) (.func (.func 163) #[] #[pO ab 0,pO J 0]):=by
 refine⟨_,_,rfl,λargs w=>by kernel_rfl,λW G x O al bB ad bb bd be bf=>?_⟩;have bg:=(Ky a8.cred.1).1;have ar:Hid<|0<=B.k/\B.k<=15/\B.cs.length<=8:=bg;have bi:=h.below al;obtain⟨_,_,_,a3,a4,a5,bk,_⟩:=bi.cells;have bC:J<w.heap.size:=NF w (aD J 0) c0;have bF:ab<w.heap.size:=NF w (aD ab 4) c1;have bG:=h.lt;have ak:Hid<|w.heap.size<=W.heap.size:=al.size;have bl:=Aj al c0;have ac:=Aj al c1;obtain⟨k,m,u,g,o,rL,d,ks⟩:=x;have bn:Hid<|AC W G (.mk k m u g o rL d ks) O:=ad;have bo:Hid (∀aw,8<=aw->W.cell? (aD G aw)=none):=bb;have bp:Hid<|Am W.cell? (.mk k m u g o rL d ks) O:=bd;have bq:Hid<|AI<|.mk k m u g o rL d ks:=be;have bs:Hid<|A0<|.mk k m u g o rL d ks:=bf;have bH:G<W.heap.size:=ad.1.lt;have f6:=ad.2 6;have bY:Ce W G 6<|.string d:=ad.1.2.2.2.2.2.2.1;have az:Hid<|AC (W.setCell (aD G 6)<|.string cdata) G (.mk k m u g o rL cdata ks) O:=ad.set6 cdata;have aA:Hid<|Az G W<|W.setCell (aD G 6)<|.string cdata:=(Az.refl G W).setCell 6 none _;show Calls prog 163 #[pO G 0,pO ab 0,pO J 0] W _;go_enter func163,ntmps163;go_upto_region 1 with fail
 generalize W.setCell (aD G 6) (.string cdata)=H at az aA;have ao:Hid<|AC H G (.mk k m u g o rL cdata ks) O:=az.out;have Z:Hid<|Az G W H:=aA.out;have b0:G<H.heap.size:=ao.1.lt;obtain⟨⟨n0,bu,b1,b2,b4,b6,b7,b9⟩,ce⟩:=id ao;have cf:Ce H.drew G 1<|iN m:=bu;have ch:Ce H.drew J 0<|pO b 0:=(Z.cell (p:=(aD J 0)) (by show J<W.heap.size;have:=ak.out;omega) (by show J≠G;omega)).trans bl;have cl:Ce H.drew b 3<|iN B.u:=(Z.cell (p:=(aD b 3)) (by show b<W.heap.size;have:=ak.out;omega) (by show b≠G;omega)).trans a3;have co:Ce H.drew b 4<|iN B.g:=(Z.cell (p:=(aD b 4)) (by show b<W.heap.size;have:=ak.out;omega) (by show b≠G;omega)).trans a4;have cr:Ce H.drew b 5<|.slice B.ca B.cs.length B.cc:=(Z.cell (p:=(aD b 5)) (by show b<W.heap.size;have:=ak.out;omega) (by show b≠G;omega)).trans a5;have cx:Ce H.drew b 6<|iN B.k:=(Z.cell (p:=(aD b 6)) (by show b<W.heap.size;have:=ak.out;omega) (by show b≠G;omega)).trans bk;obtain⟨I,a1⟩:=Aq<|IA B.k m;have bx:Hid (Calls prog 164 #[Fj B.u B.g B.ca B.cs.length B.cc B.k,iN m] H.drew λe w'=>e=.returned (iN I)/\Bw H.drew w'):=by
  rw[<-a1.out];exact WI B.u B.g B.k m (.slice B.ca B.cs.length B.cc) H.drew ar.1 ar.2.1
 go_region_with (go_at_call 164;go_call bx.out as e w6 ⟨rfl,q6⟩;have ap:Hid<|AC w6 G (.mk k m u g o rL cdata ks) O:=(ao.out.below (NB _ _).drew).below q6;have cD:Ce w6 G 1<|iN m:=ap.out.1.2.1;have cF:w6.frozen? (aD G 1)=false:=ap.out.2 1;have bA:Hid<|Az G W w6:=Z.out.trans<|Az.of_below<|(NB _ H).drew.trans q6)
 all_goals
  have a6:Az G W<|w6.setCell (aD G 1)<|iN I:=bA.trans<|(Az.refl G w6).setCell 1 none _;have a7:Hid (∃h',AC (w6.setCell (aD G 1)<|iN I) G (.mk k I u g o rL cdata ks) h'/\Am (w6.setCell (aD G 1)<|iN I).cell? (.mk k I u g o rL cdata ks) h'/\(AI (.mk k I u g o rL cdata ks)/\A0 (.mk k I u g o rL cdata ks)/\cnt (.mk k I u g o rL cdata ks)<=cnt (.mk k m u g o rL d ks))/\Az G W (w6.setCell (aD G 1)<|iN I)):=⟨O,ap.set1 I,Ns a6 bn.1 bo<|OT bp,⟨kM bq ba,Rl bs,OC⟩,a6⟩;generalize w6.setCell (aD G 1) (iN I)=c3 at a7;go_wp2;go_end0
  exact⟨⟨_,rfl⟩,by have e:=a7.out;rw[<-a1.out]at e;exact e⟩
abbrev Qq:=λG H I (X:World)=>(Ce X G 2 (iN H)/\Ce X G 3 (iN I):Prop)
theorem eO(h:A6 w b B)(aA:BN B x0 rM){ab:Nat}(a1:A4 H/\A4 I)(c0:Ce w ab 0<|pO b 0)(c1:Ce w J 2<|iN H)(c2:Ce w J 3<|iN I):
 LU w (Nd.otG (IA B.k) H I) (.func (.func 184) #[] #[pO J 0,pO ab 0]):=by
 refine⟨_,_,rfl,λargs w=>by kernel_rfl,λW G x ak ao b1 ad a6 a7 a8 ba=>?_⟩;have bb:=(Ky aA.cred.1).1;have bd:Hid<|0<=B.k/\B.k<=15/\B.cs.length<=8:=bb;have be:=h.below ao;obtain⟨_,_,_,a3,a4,a5,bs,_⟩:=be.cells;have b2:ab<w.heap.size:=NF w (aD ab 0) c0;have b4:J<w.heap.size:=NF w (aD J 2) c1;have b6:=h.lt;have ap:Hid<|w.heap.size<=W.heap.size:=ao.size;have bu:=Aj ao c0;have ac:=Aj ao c1;obtain⟨k,m,u,g,o,rL,d,ks⟩:=x;have bx:Hid<|AC W G (.mk k m u g o rL d ks) ak:=ad;have bA:Hid (∀bf,8<=bf->W.cell? (aD G bf)=none):=a6;have bB:Hid<|Am W.cell? (.mk k m u g o rL d ks) ak:=a7;have bC:Hid<|AI<|.mk k m u g o rL d ks:=a8;have bF:Hid<|A0<|.mk k m u g o rL d ks:=ba;have b7:G<W.heap.size:=ad.1.lt;have bg:=Aj ao c2;have f2:=ad.2 2;have f3:=ad.2 3;have bi:Ce W G 2<|iN u:=ad.1.2.2.1;have ar:Ce W G 3<|iN g:=ad.1.2.2.2.1;have b9:(Qq J H I W.drew):=⟨ac,bg⟩;have bk:(Qq J H I (W.setCell (aD G 2)<|iN H).drew):=⟨(BO (w:=W) (by show J≠G;omega)).trans ac,(BO (w:=W) (by show J≠G;omega)).trans bg⟩;have ce:(Qq J H I ((W.setCell (aD G 2)<|iN H).setCell (aD G 3)<|iN I).drew):=⟨(BO (w:=W.setCell (aD G 2)<|iN H) (by show J≠G;omega)).trans bk.1,(BO (w:=W.setCell (aD G 2)<|iN H) (by show J≠G;omega)).trans bk.2⟩;have cf:Ce W.drew G 2<|iN u:=bi;have ch:Ce W.drew G 3<|iN g:=ar;have cl:W.drew.frozen? (aD G 2)=false:=f2;have g3:W.drew.frozen? (aD G 3)=false:=f3;have co:Ce (W.setCell (aD G 2)<|iN H).drew G 3<|iN g:=(Bt (w:=W) oM).trans ar;have cr:(W.setCell (aD G 2)<|iN H).drew.frozen? (aD G 3)=false:=by simpa using f3
 have bl:Hid<|AC ((W.setCell (aD G 2)<|iN H).setCell (aD G 3)<|iN I).drew G (.mk k m H I o rL d ks) ak:=((ad.set2 H).set3 I).below (NB _ _).drew;have bn:Hid<|Az G W ((W.setCell (aD G 2)<|iN H).setCell (aD G 3)<|iN I).drew:=(((Az.refl G W).setCell 2 none _).setCell 3 none _).then<|(NB _ _).drew;have bG:Hid<|A4 H/\A4 I:=a1;clear ad a6 a7 a8 ba be c0 c1 c2 h aA bb a1;show Calls prog 184 #[pO G 0,pO J 0,pO ab 0] W _;go_enter func184,ntmps184;go_upto_region 0 with fail
 go_region_held3 (Qq J H I) (assumption) (fail)
 all_goals
  generalize((W.setCell (aD G 2)<|iN H).setCell (aD G 3)<|iN I).drew=O at bl bn⊢;have aw:Hid<|AC O G (.mk k m H I o rL d ks) ak:=bl.out;have al:Hid<|Az G W O:=bn.out;go_upto_region 1 with fail
  have cx:G<O.heap.size:=aw.1.lt;obtain⟨⟨n0,bH,bi,ar,cD,cF,c3,c4⟩,c5⟩:=id aw;have c6:Ce O.drew G 1<|iN m:=bH;have c8:Ce O.drew ab 0<|pO b 0:=(al.cell (p:=(aD ab 0)) (by show ab<W.heap.size;have:=ap.out;omega) (by show ab≠G;omega)).trans bu;have c9:Ce O.drew b 3<|iN B.u:=(al.cell (p:=(aD b 3)) (by show b<W.heap.size;have:=ap.out;omega) (by show b≠G;omega)).trans a3;have da:Ce O.drew b 4<|iN B.g:=(al.cell (p:=(aD b 4)) (by show b<W.heap.size;have:=ap.out;omega) (by show b≠G;omega)).trans a4;have dd:Ce O.drew b 5<|.slice B.ca B.cs.length B.cc:=(al.cell (p:=(aD b 5)) (by show b<W.heap.size;have:=ap.out;omega) (by show b≠G;omega)).trans a5;have de:Ce O.drew b 6<|iN B.k:=(al.cell (p:=(aD b 6)) (by show b<W.heap.size;have:=ap.out;omega) (by show b≠G;omega)).trans bs;obtain⟨Z,bo⟩:=Aq<|IA B.k m;have bY:Hid (Calls prog 164 #[Fj B.u B.g B.ca B.cs.length B.cc B.k,iN m] O.drew λe w'=>e=.returned (iN Z)/\Bw O.drew w'):=by
   rw[<-bo.out];exact WI B.u B.g B.k m (.slice B.ca B.cs.length B.cc) O.drew bd.1 bd.2.1
  go_region_with (go_at_call 164;go_call bY.out as e w6 ⟨rfl,q6⟩;have az:Hid<|AC w6 G (.mk k m H I o rL d ks) ak:=(aw.out.below (NB _ _).drew).below q6;have dg:Ce w6 G 1<|iN m:=az.out.1.2.1;have dj:w6.frozen? (aD G 1)=false:=az.out.2 1;have b0:Hid<|Az G W w6:=al.out.trans<|Az.of_below<|(NB _ O).drew.trans q6)
  all_goals
   have bp:Az G W<|w6.setCell (aD G 1)<|iN Z:=b0.trans<|(Az.refl G w6).setCell 1 none _;have bq:Hid (∃h',AC (w6.setCell (aD G 1)<|iN Z) G (.mk k Z H I o rL d ks) h'/\Am (w6.setCell (aD G 1)<|iN Z).cell? (.mk k Z H I o rL d ks) h'/\(AI (.mk k Z H I o rL d ks)/\A0 (.mk k Z H I o rL d ks)/\cnt (.mk k Z H I o rL d ks)<=cnt (.mk k m u g o rL d ks))/\Az G W (w6.setCell (aD G 1)<|iN Z)):=⟨ak,az.set1 Z,Ns bp bx.1 bA<|OT bB,⟨VR bC,lE bF bG,OC⟩,bp⟩;generalize w6.setCell (aD G 1) (iN Z)=dk at bq;go_wp2;go_end0
   exact⟨⟨_,rfl⟩,by have e:=bq.out;rw[<-bo.out]at e;exact e⟩
abbrev qT:Oper:=Bp "own.go:38" (some 10) (.fieldAddr 214 (Bb 5) 2) 0 #[] none
abbrev qU:Oper:=Bp "own.go:38" (some 11) (.load 3<|Bb 10) 3 #[Bs 0] none
abbrev qV:Oper:=Bp "own.go:38" (some 12) (.move<|Bb 0) 73 #[] none
abbrev rl:Oper:=Bp "own.go:38" (some 13) (.nilCheck<|Bb 12) 0 #[Bs 2] none
abbrev rd:Oper:=Bp "own.go:38" (some 14) (.fieldAddr 119 (Bb 13) 1) 0 #[Bs 3] none
abbrev qS:Oper:=Bp "own.go:38" (some 15) (.fieldAddr 41 (Bb 14) 0) 0 #[Bs 4] none
abbrev rh:Oper:=Bp "own.go:38" (some 16) (.load 3<|Bb 15) 3 #[Bs 5] none
abbrev ZX:Oper:=Bp "own.go:38" (some 17) (.binOp BinOp.eql 3 (Bb 11) (Bb 16) 3) 4 #[Bs 1,Bs 6] none
abbrev Z1:Oper:=Bp "own.go:38" (some 18) (.move<|Bb 17) 4 #[Bs 7] none
abbrev Z8:Oper:=Bp "own.go:38" (some 19) (.move<|Bb 2) 3 #[Da 8] (some (8,true))
abbrev ZF:Oper:=Bp "own.go:38" (some 20) (.fieldAddr 214 (Bb 5) 2) 0 #[Da 8] (some (8,true))
abbrev Zn:Oper:=Bp "own.go:38" (some 21) (.load 3<|Bb 20) 3 #[Bs 10,Da 8] (some (8,true))
abbrev Tj:Oper:=Bp "own.go:38" (some 22) (.binOp BinOp.eql 3 (Bb 19) (Bb 21) 3) 4 #[Bs 9,Bs 11,Da 8] (some (8,true))
abbrev To:Oper:=Bp "own.go:38" (some 23) (.pick (Bb 18) (Bb 22)<|.const<|Value.bool false) 4 #[Bs 8,Bs 12] none
abbrev Tq:Oper:=Bp "own.go:38" (some 24) (.move<|Bb 23) 4 #[Bs 13,JK 8] none
abbrev Td:Oper:=Bp "own.go:38" (some 25) (.move<|Bb 3) 3 #[Da 14] (some (14,true))
abbrev Tb:Oper:=Bp "own.go:38" (some 26) (.fieldAddr 214 (Bb 5) 3) 0 #[Da 14] (some (14,true))
abbrev SY:Oper:=Bp "own.go:38" (some 27) (.load 3<|Bb 26) 3 #[Bs 16,Da 14] (some (14,true))
abbrev PU:Oper:=Bp "own.go:38" (some 28) (.binOp BinOp.eql 3 (Bb 25) (Bb 27) 3) 4 #[Bs 15,Bs 17,Da 14] (some (14,true))
abbrev PV:Oper:=Bp "own.go:38" (some 29) (.move<|Bb 28) 4 #[Bs 18,JK 14,Da 14] (some (14,true))
abbrev P3:Oper:=Bp "own.go:38" (some 30) (.move<|Bb 0) 73 #[Da 19] (some (19,false))
abbrev PQ:Oper:=Bp "own.go:38" (some 31) (.nilCheck<|Bb 30) 0 #[Bs 20,Da 19] (some (19,false))
abbrev PW:Oper:=Bp "own.go:38" (some 32) (.fieldAddr 119 (Bb 31) 1) 0 #[Bs 21,Da 19] (some (19,false))
abbrev P5:Oper:=Bp "own.go:38" (some 33) (.load 41<|Bb 32) 41 #[Bs 22,Da 19] (some (19,false))
abbrev PX:Oper:=Bp "own.go:38" (some 34) (.move<|Bb 3) 3 #[Da 19] (some (19,false))
abbrev P1:Oper:=Bp "own.go:38" (some 35) (.call {callee:=Callee.value<|Operand.func 230,args:=#[Bb 33,Bb 34],argTypes:=#[41,3]}) 4 #[Bs 23,Bs 24,JK 19,Da 19] (some (19,false))
abbrev PR:Oper:=Bp "own.go:38" (some 36) (.pick (Bb 29) (.const<|Value.bool true)<|Bb 35) 4 #[Bs 19,Bs 25,Da 14] (some (14,true))
abbrev P6:Oper:=Bp "own.go:38" (some 37) (.pick (Bb 24) (Bb 36)<|.const<|Value.bool false) 4 #[Bs 14,Bs 26] none
abbrev PT:Oper:=Bp "own.go:38" (some 9) (.assign<|Bb 37) 4 #[Bs 27,JK 25,Bh 0,Bh 1,Bh 2,Bh 3,Bh 4,Bh 5,Bh 6,Bh 7,Bh 8,Bh 9,Bh 10,Bh 11,Bh 12,Bh 13,Bh 14,Bh 15,Bh 16,Bh 17,Bh 18,Bh 19,Bh 20,Bh 21,Bh 22,Bh 23,Bh 24,Bh 25,Bh 26,Bh 27] none
def Bx.mgF(B:Bx)(I:Bool)(G J O H:Int):Bool:=I&&((decide (G=B.u)&&decide (O=G)&&(decide (H=J)||Gm B.g B.cs H))||(bits .and .i64 B.k 1==1))
abbrev TI:=λG H I J O Z b (B:Bx) (X:World)=>(Ce X G 0 (.bool H)/\Ce X G 1 (iN I)/\Ce X G 2 (iN J)/\Ce X G 3 (iN O)/\Ce X G 4 (.bool Z)/\Ce X b 3 (iN B.u)/\Ce X b 4 (iN B.g)/\Ce X b 5 (.slice B.ca B.cs.length B.cc)/\Ce X b 6 (iN B.k):Prop)
theorem cq(h:A6 w b B)(b0:BN B x0 rM)(ao I:Bool)(ap J O bd ar:Int):
 Calls prog 183 #[pO b 0,Gc ao ap J O I,iN bd,iN ar] w λe w'=>e=.returned (.bool<|B.mgF I J O bd ar)/\Bw w w':=by
 obtain⟨R,Z⟩:=Aq<|B.mgF I J O bd ar;rw[Z.out];unfold Bx.mgF at Z;have b1:=(Ky b0.cred.1).1;have bC:Bw w<|w.alloc<|E6 ao ap J O I:=(NB _ _).alloc (rP _) _;have bF:=h.below bC;obtain⟨_,_,_,a3,a4,a5,b2,_⟩:=bF.cells;have b4:=FG.new w _ rfl ao ap J O I;obtain⟨b6,b7,b9,ce,cf⟩:=b4;have ab:(TI w.heap.size ao ap J O I b B (w.alloc<|E6 ao ap J O I).drew):=⟨b6,b7,b9,ce,cf,a3,a4,a5,b2⟩;have bG:=hid<|RK B.u B.g ar B.k B.ca B.cc B.cs (w.alloc<|E6 ao ap J O I).drew b1.2.2<|bF.grp.below (NB _ _).drew;have bg:Hid (∀w',Calls prog 219 #[Fj B.u B.g B.ca B.cs.length B.cc B.k,iN 1] w' λe ch=>e=.returned (.bool<|bits .and .i64 B.k 1==1)/\Bw w' ch):=λw'=>O1 B.u B.g B.k 1 (.slice B.ca B.cs.length B.cc) w';have ak:=hid bC.drew
 generalize Gm B.g B.cs ar=bi at bG Z;generalize(bits .and .i64 B.k 1==1)=cn at bg Z;go_enter func183,ntmps183;go_upto_region 1 with fail
 generalize(w.alloc<|E6 ao ap J O I)=cr at*;refine wp_region_held_drew (S:=λw'=>(TI w.heap.size ao ap J O I b B w')) oK ab λG=>?_;refine tI 0 qT (pO w.heap.size 2) G ?_;simp only[tk];refine tI 1 qU (iN J) G ?_;simp only[tk];refine tI 2 qV (pO b 0) G ?_;simp only[tk];refine tI 3 rl (pO b 0) G ?_;simp only[tk];refine tI 4 rd (pO b 3) G ?_;simp only[tk];refine tI 5 qS (pO b 3) G ?_;simp only[tk];refine tI 6 rh (iN B.u) G ?_;simp only[tk];by_cases al:J=B.u
 .refine RF (i:=7) (oi:=ZX) (v:=.bool true) rfl oK oK oK (λ_ _ _ h=>h) (Or.inl ⟨by rfl,λw H=>by obtain⟨aw,az,aA,a1,a6,a7,a8,ba,bb⟩:=H;first|(go_simp;done)|(go_simp;simp[al];done)⟩) G ?_
  simp only[tk];refine tI 8 Z1 (.bool true) G ?_;simp only[tk];refine tI 9 Z8 (iN bd) G ?_;simp only[tk];refine tI 10 ZF (pO w.heap.size 2) G ?_;simp only[tk];refine tI 11 Zn (iN J) G ?_;simp only[tk];by_cases ad:bd=J
  .refine RF (i:=12) (oi:=Tj) (v:=.bool true) rfl oK oK oK (λ_ _ _ h=>h) (Or.inl ⟨by rfl,λw H=>by obtain⟨aw,az,aA,a1,a6,a7,a8,ba,bb⟩:=H;first|(go_simp;done)|(go_simp;simp[ad];done)|(rw[al]at ad;go_simp;done)|(rw[al]at ad;go_simp;simp[ad])⟩) G ?_
   simp only[tk];refine tI 13 To (.bool true) G ?_;simp only[tk];refine tI 14 Tq (.bool true) G ?_;simp only[tk];refine tI 15 Td (iN ar) G ?_;simp only[tk];refine tI 16 Tb (pO w.heap.size 3) G ?_;simp only[tk];refine tI 17 SY (iN O) G ?_;simp only[tk];by_cases be:ar=O
   .refine RF (i:=18) (oi:=PU) (v:=.bool true) rfl oK oK oK (λ_ _ _ h=>h) (Or.inl ⟨by rfl,λw H=>by obtain⟨aw,az,aA,a1,a6,a7,a8,ba,bb⟩:=H;first|(go_simp;done)|(go_simp;simp[be];done)⟩) G ?_
    simp only[tk];refine tI 19 PV (.bool true) G ?_;simp only[tk];refine tO 20 P3 G ?_;simp only[tk];refine tO 21 PQ G ?_;simp only[tk];refine tO 22 PW G ?_;simp only[tk];refine tO 23 P5 G ?_;simp only[tk];refine tO 24 PX G ?_;simp only[tk];refine tO 25 P1 G ?_;simp only[tk];refine tI 26 PR (.bool true) G ?_;simp only[tk];refine tI 27 P6 (.bool true) G ?_;simp only[tk];refine tI 28 PT (.bool true) G ?_;simp only[tk];refine KL oK ?_ _;obtain⟨bl,bn,bo,bp,bq,bs,bu,bx,bA⟩:=ab;cases I with
    |false=>
     go_wp2;go_ret;exact⟨RX (λx=>Ending.returned<|.bool x) (show false=R by rw[<-Z.out];simp),ak⟩
    |true=>
     go_wp2;go_ret;exact⟨RX (λx=>Ending.returned<|.bool x) (show true=R by rw[<-Z.out];simp[al,ad,be]),ak⟩
   .refine RF (i:=18) (oi:=PU) (v:=.bool false) rfl oK oK oK (λ_ _ _ h=>h) (Or.inl ⟨by rfl,λw H=>by obtain⟨aw,az,aA,a1,a6,a7,a8,ba,bb⟩:=H;first|(go_simp;done)|(go_simp;simp[be];done)⟩) G ?_
    simp only[tk];refine tI 19 PV (.bool false) G ?_;simp only[tk];refine tI 20 P3 (pO b 0) G ?_;simp only[tk];refine tI 21 PQ (pO b 0) G ?_;simp only[tk];refine tI 22 PW (pO b 3) G ?_;simp only[tk];refine tI 23 P5 (Fj B.u B.g B.ca B.cs.length B.cc B.k) G ?_;simp only[tk];refine tI 24 PX (iN ar) G ?_;simp only[tk];refine wpAnyH_ready (rs:=[25]) oK oS ?_;refine AllReadyH.cons (o:=P1) rfl (λK cl=>?_) AllReadyH.nil;rw[NS (by rfl)];go_simp;refine rQ bG ?_;rintro e co ⟨rfl,q6⟩;have bH:(TI w.heap.size ao ap J O I b B co):=⟨Aj q6 ab.1,Aj q6 ab.2.1,Aj q6 ab.2.2.1,Aj q6 ab.2.2.2.1,Aj q6 ab.2.2.2.2.1,Aj q6 ab.2.2.2.2.2.1,Aj q6 ab.2.2.2.2.2.2.1,Aj q6 ab.2.2.2.2.2.2.2.1,Aj q6 ab.2.2.2.2.2.2.2.2⟩;have bk:=hid<|ak.trans<|q6.mono ak.size;go_wp2_with fail
    refine cl _ _ bH λbB=>?_;refine RF (i:=26) (oi:=PR) (v:=.bool bi) rfl oK oK oK (λ_ _ _ h=>h) (Or.inl ⟨by rfl,λw H=>by obtain⟨aw,az,aA,a1,a6,a7,a8,ba,bb⟩:=H;go_simp⟩) bB ?_;simp only[tk];refine RF (i:=27) (oi:=P6) (v:=.bool bi) rfl oK oK oK (λ_ _ _ h=>h) (Or.inl ⟨by rfl,λw H=>by obtain⟨aw,az,aA,a1,a6,a7,a8,ba,bb⟩:=H;go_simp⟩) bB ?_;simp only[tk];refine RF (i:=28) (oi:=PT) (v:=.bool bi) rfl oK oK oK (λ_ _ _ h=>h) (Or.inl ⟨by rfl,λw H=>by obtain⟨aw,az,aA,a1,a6,a7,a8,ba,bb⟩:=H;go_simp⟩) bB ?_;simp only[tk];refine KL oK ?_ _;obtain⟨bl,bn,bo,bp,bq,bs,bu,bx,bA⟩:=bH;cases I with
    |false=>
     go_wp2;go_ret;exact⟨RX (λx=>Ending.returned<|.bool x) (show false=R by rw[<-Z.out];simp),bk⟩
    |true=>
     cases bi with
     |true=>
      go_wp2;go_ret;exact⟨RX (λx=>Ending.returned<|.bool x) (show true=R by rw[<-Z.out];simp[al,ad,be]),bk⟩
     |false=>
      go_wp2_with fail
      refine rQ (bg _) ?_;rintro e bY ⟨rfl,q7⟩;have bf:=hid<|bk.trans<|q7.mono bk.size;go_wp2;go_ret;exact⟨RX (λx=>Ending.returned<|.bool x) (show cn=R by rw[<-Z.out];simp[al,ad,be]),bf⟩
  .refine RF (i:=12) (oi:=Tj) (v:=.bool false) rfl oK oK oK (λ_ _ _ h=>h) (Or.inl ⟨by rfl,λw H=>by obtain⟨aw,az,aA,a1,a6,a7,a8,ba,bb⟩:=H;first|(go_simp;done)|(go_simp;simp[ad];done)|(rw[al]at ad;go_simp;done)|(rw[al]at ad;go_simp;simp[ad])⟩) G ?_
   simp only[tk];refine tI 13 To (.bool false) G ?_;simp only[tk];refine tI 14 Tq (.bool false) G ?_;simp only[tk];refine tO 15 Td G ?_;simp only[tk];refine tO 16 Tb G ?_;simp only[tk];refine tO 17 SY G ?_;simp only[tk];refine tO 18 PU G ?_;simp only[tk];refine tO 19 PV G ?_;simp only[tk];refine tO 20 P3 G ?_;simp only[tk];refine tO 21 PQ G ?_;simp only[tk];refine tO 22 PW G ?_;simp only[tk];refine tO 23 P5 G ?_;simp only[tk];refine tO 24 PX G ?_;simp only[tk];refine tO 25 P1 G ?_;simp only[tk];refine tO 26 PR G ?_;simp only[tk];refine tI 27 P6 (.bool false) G ?_;simp only[tk];refine tI 28 PT (.bool false) G ?_;simp only[tk];refine KL oK ?_ _;obtain⟨bl,bn,bo,bp,bq,bs,bu,bx,bA⟩:=ab;cases I with
   |false=>
    go_wp2;go_ret;exact⟨RX (λx=>Ending.returned<|.bool x) (show false=R by rw[<-Z.out];simp),ak⟩
   |true=>
    go_wp2_with fail
    refine rQ (bg _) ?_;rintro e bY ⟨rfl,q7⟩;have bf:=hid<|ak.trans<|q7.mono ak.size;go_wp2;go_ret;exact⟨RX (λx=>Ending.returned<|.bool x) (show cn=R by rw[<-Z.out];simp[ad]),bf⟩
 .refine RF (i:=7) (oi:=ZX) (v:=.bool false) rfl oK oK oK (λ_ _ _ h=>h) (Or.inl ⟨by rfl,λw H=>by obtain⟨aw,az,aA,a1,a6,a7,a8,ba,bb⟩:=H;first|(go_simp;done)|(go_simp;simp[al];done)⟩) G ?_
  simp only[tk];refine tI 8 Z1 (.bool false) G ?_;simp only[tk];refine tO 9 Z8 G ?_;simp only[tk];refine tO 10 ZF G ?_;simp only[tk];refine tO 11 Zn G ?_;simp only[tk];refine tO 12 Tj G ?_;simp only[tk];refine tI 13 To (.bool false) G ?_;simp only[tk];refine tI 14 Tq (.bool false) G ?_;simp only[tk];refine tO 15 Td G ?_;simp only[tk];refine tO 16 Tb G ?_;simp only[tk];refine tO 17 SY G ?_;simp only[tk];refine tO 18 PU G ?_;simp only[tk];refine tO 19 PV G ?_;simp only[tk];refine tO 20 P3 G ?_;simp only[tk];refine tO 21 PQ G ?_;simp only[tk];refine tO 22 PW G ?_;simp only[tk];refine tO 23 P5 G ?_;simp only[tk];refine tO 24 PX G ?_;simp only[tk];refine tO 25 P1 G ?_;simp only[tk];refine tO 26 PR G ?_;simp only[tk];refine tI 27 P6 (.bool false) G ?_;simp only[tk];refine tI 28 PT (.bool false) G ?_;simp only[tk];refine KL oK ?_ _;obtain⟨bl,bn,bo,bp,bq,bs,bu,bx,bA⟩:=ab;cases I with
  |false=>
   go_wp2;go_ret;exact⟨RX (λx=>Ending.returned<|.bool x) (show false=R by rw[<-Z.out];simp),ak⟩
  |true=>
   go_wp2_with fail
   refine rQ (bg _) ?_;rintro e bY ⟨rfl,q7⟩;have bf:=hid<|ak.trans<|q7.mono ak.size;go_wp2;go_ret;exact⟨RX (λx=>Ending.returned<|.bool x) (show cn=R by rw[<-Z.out];simp[al]),bf⟩
def Bk.beS(c:Bk)(cA cB:Int):Int×Int×Int×List Int×Int:=match JF c.u c.g c.k cA cB c.cs with
 |.error E=>(E,c.u,c.g,c.cs,c.k)
 |.ok G=>match BH true c.us c.gs (.mk 0 0 cA cB false [] ⟨#[]⟩ [])with
  |none=>(11,c.u,c.g,c.cs,c.k)
  |some _=>(0,cA,cB,c.cs,G)
theorem Zo(c:AR)(k m u g:Int)(o:Bool)(d:BA):Am c (.mk k m u g o [] d []) zH:=Cs.2 ⟨.inl rfl,⟨rP _,by decide⟩,⟨rP _,by decide⟩,.inl rfl⟩
theorem A6.put4(h:A6 w b B)(u g c:Int){ca:Option Addr}{cc:Nat}{cs:List Int}(H:AV w ca cs)(I:cs=[]\/Ix ca b)(J:cs.length<=cc/\cc<=9223372036854775807):
 A6 ((((w.setCell (aD b 3)<|iN u).setCell (aD b 4)<|iN g).setCell (aD b 5)<|.slice ca cs.length cc).setCell (aD b 6)<|iN c) b {B with u:=u,g:=g,ca:=ca,cc:=cc,cs:=cs,k:=c}:=by
 obtain⟨c0,c1,c2,ao,ap,ar,aw,c7⟩:=h.cells;have O:Az b w<|(((w.setCell (aD b 3)<|iN u).setCell (aD b 4)<|iN g).setCell (aD b 5)<|.slice ca cs.length cc).setCell (aD b 6)<|iN c:=((((Az.refl b w).setCell 3 none _).setCell 4 none _).setCell 5 none _).setCell 6 none _;have G:∀o,o≠3->o≠4->o≠5->o≠6->((((w.setCell (aD b 3)<|iN u).setCell (aD b 4)<|iN g).setCell (aD b 5)<|.slice ca cs.length cc).setCell (aD b 6)<|iN c).cell? (aD b o)=w.cell? (aD b o):=λo Z ab ad ak=>by rw[Bt ak,Bt ad,Bt ab,Bt Z]
 refine h.turn O ⟨(G 0 oM oM oM oM).trans c0,(G 1 oM oM oM oM).trans c1,(G 2 oM oM oM oM).trans c2,?_,?_,?_,?_,(G 7 oM oM oM oM).trans c7⟩ (λo al=>(G o oM oM oM oM).trans<|h.end8 o al) (λo=>by simp[h.fz o]) rfl h.hid h.lcap H I J;all_goals grind [Bt,N2]
abbrev Qs:=λb (B:Bx) zw cA cB (X:World)=>(Ce X b 3 (iN B.u)/\Ce X b 4 (iN B.g)/\Ce X b 5 (.slice B.ca B.cs.length B.cc)/\Ce X b 6 (iN B.k)/\Ce X zw 5 (iN cA)/\Ce X zw 6 (iN cB):Prop)
abbrev Qb:=λb (B:Bx) tb cA cB (X:World)=>(Ce X b 0 (.slice B.M.ua B.M.us.length B.M.uc)/\Ce X b 1 (.slice B.M.ga B.M.gs.length B.M.gc)/\Ce X tb 0 (iN cA)/\Ce X tb 1 (iN cB):Prop)
theorem p9{E:Int}(h:JF u g c G H zs=.error E):E≠0:=by
 unfold JF at h;grind
theorem pG(J:DZ u g zs c=0)(h:JF u g c G H zs=.ok I):DZ G H zs I=0:=by
 unfold JF at h;split at h
 .rename_i hh
  refine jH J hh.1 hh.2 ?_;have:=(Ky J).1;grind
 .cases h
theorem Mg{G:Nat}(q:Bw w w')(T:Qs b B G cA cB w):Qs b B G cA cB w':=by grind [Aj]
theorem P9{G:Nat}(q:Bw w w')(T:Qb b B G cA cB w):Qb b B G cA cB w':=by grind [Aj]
theorem bK(h:A6 w b B)(a6:BN B x0 rM){cop:Int}{cpath coth cname:BA}:
 Calls prog 135 #[pO b 0,Fr cop cpath coth cname cdata cA cB] w λe w'=>e=.returned (Ao (B.cor.beS cA cB).1)/\De w w' b B rM x0 (B.cor.beS cA cB).2:=by
 obtain⟨⟨co,cr⟩,I⟩:∃S,Hid<|B.cor.beS cA cB=S:=⟨_,rfl⟩;rw[I.out];unfold Bk.beS at I;obtain⟨R,a7⟩:=Aq<|JF B.cor.u B.cor.g B.cor.k cA cB B.cor.cs;rw[a7.out]at I;have bs:Hid (∀W,AV W B.ca B.cs->Calls prog 187 #[Fj B.u B.g B.ca B.cs.length B.cc B.k,iN cA,iN cB] W λe w'=>Below W.heap.size W w'/\P8 W.heap.size w' cA cB B.cs e R):=λW ao=>by rw[<-a7.out];exact kw _ _ _ _ _ _ _ _ W a6.cred.2 a6.cred.1 ao
 have cx:Hid (∀bd,R=.ok bd->DZ cA cB B.cs bd=0):=λbd e=>pG a6.cred.1<|a7.out.trans e;have be:Hid (∀E,R=.error E->E≠0):=λE e=>p9<|a7.out.trans e
 have bu:Bw w<|w.alloc<|AY cop cpath coth cname cdata cA cB:=bN;have ap:=hid bu;have bx:=h.below bu;obtain⟨_,_,_,a3,a4,a5,cD,_⟩:=bx.cells;have bf:=hid h;have J:=hid a6;have bA:=hid<|De.stay bf J;have d2:=h.lt;have bB:Hid<|AV (w.alloc<|AY cop cpath coth cname cdata cA cB) B.ca B.cs:=bx.grp;have bg:Qs b B w.heap.size cA cB<|w.alloc<|AY cop cpath coth cname cdata cA cB:=⟨a3,a4,a5,cD,aC,aC⟩;have bC:=Mg (NB _ _).drew bg;have bF:=Mg (bN (o:=EG)).drew bg;have d3:w.heap.size<(w.alloc<|AY cop cpath coth cname cdata cA cB).heap.size:=by simp
 go_enter func135,ntmps135;go_upto_region 1 with fail
 generalize w.alloc (AY cop cpath coth cname cdata cA cB)=bi at*;go_cut [5,6]from 9 (λcF c3 ar=>∃O U G A n C,cF=pO O 0/\w.heap.size<=O/\Dp ar O U G (.slice A n n) C/\Bw w ar/\Ny w.heap.size ar cA cB B.cs U G A n C c3 R)
 case first=>
  go_region_held3 (λw'=>Qs b B w.heap.size cA cB w') (first|with_reducible exact bC|with_reducible exact bF|with_reducible exact bk|with_reducible exact Mg bN bk|with_reducible exact Mg ((((bG.out.setCell (rP _) _).setCell (rP _) _).setCell (rP _) _).setCell (rP _) _) bg) (first|(go_at_call 187;(first|((with_reducible refine rQ (bs.out _<|bB.out.below bN.drew) ?_);rintro e a8 ⟨q6,bH⟩;obtain⟨ba,bl,bY,b0,b1⟩:=(Dp.new bi 0 0 nL 0).below<|(NB _ _).drew.trans q6;have bG:=hid<|(bN (o:=EG)).drew.trans<|q6.mono (by simp);have bk:=Mg q6 bF)|(refine rQ (bs.out _ bB) ?_;rintro e a8 ⟨q6,bH⟩;have bk:=Mg q6 bC));obtain⟨U,G,A,n,C,b2,rfl,c4⟩:=bH.un;have b4:=hid c4;have ab:=hid q6))
  all_goals
   go_wp2_with fail
   go_meet
   have ad:=ap.out.size;first
   |have aw:=ap.out.drew.trans (ab.out.mono ad)
    exact⟨_,U,G,A,n,C,rfl,aw.size,Dp.new a8 U G (.slice A n n) C,aw.alloc aw.size _,b4.out.to ad λ_ _ ao=>ao.below bN⟩
   |have aw:=(ap.out.alloc ad EG).drew.trans (ab.out.mono (ap.out.alloc ad EG).size)
    refine⟨_,U,G,A,n,C,rfl,ad,((Dp.new bi 0 0 nL 0).below<|(NB _ _).drew.trans ab.out).set U G (.slice A n n) C,?_,b4.out.to (ap.out.alloc ad EG).size λaz c5 ao=>?_⟩
    .iterate 4 refine Below.setCell ?_ ad _
     exact aw
    .have c6:bi.heap.size≠az:=by simp at c5;omega
     iterate 4 refine AV.other ?_ c6 _
     exact ao
 case rest=>
  generalize wc=Z at*;obtain⟨O,U,G,A,n,C,rfl,d4,b6,c8,c9,da⟩:=hcut;have bb:=hid c8;cases R with
  |error E=>
   obtain rfl:=c9 E rfl;have be:=be.out E rfl;go_wp2;go_ret;obtain⟨rfl,rfl⟩:=Prod.mk.inj I;exact⟨by rw[AP rfl be];rfl,bA _ bb⟩
  |ok c2=>
  have bn:=hid<|cx.out c2 rfl;obtain⟨rfl,rfl,rfl,rfl,rfl,az,rfl,d5,dd⟩:=da c2 rfl;have de:=hid dd;have dg:=hid b6;have b7:=bf.out.below bb;obtain⟨a0,dj,_⟩:=b7.cells;obtain⟨ba,bl,bY,b0,b1⟩:=id b6;have b9:Qb b B O U G Z:=⟨a0,dj,ba,bl⟩;have ce:=P9 (NB _ _).drew b9;have cf:=P9 (bN (o:=AO)).drew b9;obtain⟨aA,ch⟩:=Aq<|BH true B.M.us B.M.gs<|.mk 0 0 U G false [] ⟨#[]⟩ [];have cl:Hid (∀w',Bw Z w'->Calls prog 139 #[G7 B.M.ua B.M.us.length B.M.uc B.M.ga B.M.gs.length B.M.gc,.agg #[iN 0,iN 0,iN U,iN G,.bool false,nL,.string ⟨#[]⟩,nL]] w' λe dk=>Kk w' dk (λ_=>false) e aA):=λw' hb=>by rw[<-ch.out];exact Mz (W:=w') (S:=λ_=>false) (x:=.mk 0 0 U G false [] ⟨#[]⟩ []) (h:=zH) (M:=B.M) (λ_ dm=>(by cases dm)) (Zo _ _ _ _ _ _ _) (by rw[A7,EO];exact⟨oD,oD,trivial⟩) (by rw[cnt,cntL];omega) ⟨(Ky bn).2.1,(Ky bn).2.2⟩<|b7.maps.below hb
  replace I:Hid ((match BH true B.M.us B.M.gs (.mk 0 0 U G false [] ⟨#[]⟩ [])with|none=>(11,B.crd)|some _=>((0:Int),U,G,B.cs,C))=(co,cr)):=I.out;rw[ch.out]at I;have d6:=NF Z ⟨O,0,none⟩ ba;have d7:=NF Z ⟨b,0,none⟩ a0;go_upto_region 4 with fail
  go_cut [8]from 24 (λdn ar=>dn=JL aA/\Bw Z ar)
  case first=>
   go_region_held3 (λw'=>Qb b B O U G w') (first|with_reducible exact ce|with_reducible exact cf|with_reducible exact H|with_reducible exact⟨Bz H.1,Bz H.2.1,Bz H.2.2.1,Bz H.2.2.2⟩|(with_reducible refine⟨Jq ?_ H.1,Jq ?_ H.2.1,Jq ?_ H.2.2.1,Jq ?_ H.2.2.2⟩<;>(first|(show b≠Z.heap.size;omega)|(show O≠Z.heap.size;omega)))) (first|(go_at_call 139;(first|((with_reducible refine rQ (cl.out _ bN.drew) ?_);rintro e a8 bo;obtain⟨dp,dr,ds,du,dw,dx,dy,dz,hx,rfl,q6⟩:=bo.un;obtain⟨b2,a1⟩:=Aq<|JL aA;rw[a1.out];obtain⟨⟨⟨z0,d8,d9,z3,z4,z5,eb,ed⟩,dT⟩,_⟩:=((Dg.new Z).below (NB _ _).drew).below q6;obtain⟨ee,ef,eg,ej,ek,em,en,eo⟩:=f8 dT;have bG:=hid<|(bN (o:=AO)).drew.trans<|q6.mono (by simp);have H:=P9 q6 cf)|(refine rQ (cl.out _ (NB _ _).drew) ?_;rintro e a8 bo;obtain⟨dp,dr,ds,du,dw,dx,dy,dz,hx,rfl,q6⟩:=bo.un;obtain⟨b2,a1⟩:=Aq<|JL aA;rw[a1.out];have H:=P9 q6 ce));have ab:=hid q6))
   all_goals
    go_wp2_with fail
    go_meet
    first
    |exact⟨a1.out.symm,((NB _ _).drew.trans ab).alloc (ab.out.size) _⟩
    |refine⟨a1.out.symm,?_⟩
     iterate 8 refine Below.setCell ?_ (by exact rP _) _
     exact(bN (o:=AO)).drew.trans (ab.out.mono (by simp))
  case rest=>
   obtain⟨rfl,bp⟩:=hcut;have bq:=hid<|bb.out.trans<|bp.mono bb.out.size;cases aA with
   |none=>
    unfold JL;go_wp2;go_ret;obtain⟨rfl,rfl⟩:=Prod.mk.inj I;exact⟨rfl,bA _ bq⟩
   |some y=>
    unfold JL;have al:=bf.out.below bq;obtain⟨c0,c1,c2,ep,eq,er,es,c7⟩:=al.cells;obtain⟨ba,bl,bY,b0,b1⟩:=dg.below bp;have f3:=al.fz 3;have f4:=al.fz 4;have f5:=al.fz 5;have f6:=al.fz 6;have d0:=al.put4 U G C (cc:=B.cs.length) (de.below bp) (.inr (by intro p ak;injection ak with ak;rw[<-ak];show az≠b;omega)) ⟨rP _,by have:=J.out.cred.2;omega⟩;have d1:Hid<|De w ((((wc.setCell ⟨b,3,none⟩<|iN U).setCell ⟨b,4,none⟩<|iN G).setCell ⟨b,5,none⟩<|sL az 0 B.cs.length B.cs.length).setCell ⟨b,6,none⟩<|iN C) b B rM x0 (U,G,B.cs,C):=⟨(Az.of_below bq).trans<|((((Az.refl b wc).setCell 3 none _).setCell 4 none _).setCell 5 none _).setCell 6 none _,_,d0,⟨J.xs,J.fine,J.ok,J.low,J.len,J.quo,⟨bn,J.cred.2⟩⟩,rfl,rfl,rfl,.inr (λp ak=>by injection ak with ak;rw[<-ak];show w.heap.size<=az;omega),.inl rfl⟩;go_wp2;go_ret;obtain⟨rfl,rfl⟩:=Prod.mk.inj I;exact⟨rfl,d1⟩
theorem BQ.other{w0:World}{H G lc k:Nat}{M:Df}(h:BQ w0 w H G lc M x0 rM)(hb:Az k w w')(O:w0.heap.size<=k)(I:k≠H)(J:k≠G)(Z:Dn w.cell? k):BQ w0 w' H G lc M x0 rM where
 base:=h.base.trans<|hb.below O h.base.size
 gn:=h.gn
 gs:=h.gs
 ne:=h.ne
 c0:=(hb.cell (p:=(aD H 0)) h.lts λe=>I e.symm).trans h.c0
 c1:=(hb.cell (p:=(aD H 1)) h.lts λe=>I e.symm).trans h.c1
 c2:=(hb.cell (p:=(aD H 2)) h.lts λe=>I e.symm).trans h.c2
 lay:=by
  have ab:=h.ltn;rcases h.lay with e|⟨az,aA,e,f,ad⟩
  .cases e
  .injection e with e
   injection e with e1 e2
   subst e1 e2;refine .inr ⟨G,0,rfl,f,λi x ak=>?_⟩;obtain⟨al,ao⟩:=ad i x ak
   refine⟨?_,(Ie (λj ap=>by
    have e:j=k:=by simpa using ap
    subst e;exact Z) ao).on<|Pj hb⟩
   obtain⟨a1,m,u,g,o,rL,d,ks⟩:=x;have fr:∀o,w'.cell? (aD G o)=w.cell? (aD G o):=λo=>hb.cell (p:=(aD G o)) ab λe=>J e.symm;obtain⟨ar,q1,q2,aw,q4,q5,q6,q7⟩:=al
   exact⟨(fr _).trans ar,(fr _).trans q1,(fr _).trans q2,(fr _).trans aw,(fr _).trans q4,(fr _).trans q5,(fr _).trans q6,(fr _).trans q7⟩
 cap:=h.cap
 nr:=JW h.nr (λo=>hb.cell (p:=(aD G o)) h.ltn λe=>J e.symm)
 fz:=λo=>(hb.frozen (p:=(aD G o)) h.ltn λe=>J e.symm).trans<|h.fz o
 maps:=h.maps
theorem Yo(c:AR)(k m u g:Int)(o:Bool)(d:BA):Am c (.mk k m u g o [] d []) zH:=Cs.2 ⟨.inl rfl,⟨rP _,by decide⟩,⟨rP _,by decide⟩,.inl rfl⟩
theorem XC{c G:AR}{J O:Int}{Z:Bool}{ab:BA}{hx:Hd}(h:Am c (.mk k m u g o [] d []) hx):Am G (.mk H I J O Z [] ab []) hx:=by
 obtain⟨_,ad,ak,_⟩:=Cs.1 h;exact Cs.2 ⟨.inl rfl,ad,ak,.inl rfl⟩
theorem VK{c:AR}{an:Option Addr}{ry:List BA}(H:Bi c an ry)(I:ry≠[]):Bi c an ry.dropLast:=by
 rcases H with e|⟨b,J,O,Z⟩
 .exact absurd e I
 .refine .inr ⟨b,J,O,λi s G=>Z i s ?_⟩
  rw[List.getElem?_dropLast]at G;split at G
  .exact G
  .cases G
def Qt(us gs:List Rg)(x0:Nd)(rM:List Nd)(ry:List BA)(kd md G H:Int)(dat:BA):Int×Nd:=JB (Cx us gs x0 rM ry.dropLast) λV=>DJ (.mk kd md G H (kd==2&&((Ct ry V).getD zN).kind==3) [] dat []) ry V
theorem bM{w0:World}{M:Df}(dr:Bw w0 w)(ds:DF 60 x0)(bd:G9 60 x0 rM){an:Option Addr}{rN:Nat}{ry:List BA}(aA:Bi w0.cell? an ry)(du:∀s∈ry,Bf s=true)(bB:ry≠[])(dw:ry.length<=100)(bC:ry.length<=rN/\rN<=9223372036854775807)
 {J nbx:Nat} {kd md G H:Int} {dat:BA} (dx:kd=1\/kd=2) (dy:A4 G/\A4 H) (dz:dat.size<=300) (bF:Ce w J 10<|.slice an ry.length rN) {hx:Hd} (dT:Am w.cell? (.mk kd md G H false [] dat []) hx) (bG:AC w nbx (.mk kd md G H false [] dat []) hx) (d0:Dn w.cell? nbx) (d1:w0.heap.size<=nbx):
 Nt w0 w M x0 rM (Qt M.us M.gs x0 rM ry kd md G H dat) (.func (.func 217) #[] #[pO J 0,pO nbx 0]):=by
 refine⟨_,_,rfl,λargs w=>by kernel_rfl,λW ab ak lc a1 e6 d2 d3=>?_⟩;have c0:=Aj a1 bF;have d4:J<w.heap.size:=NF _ _ bF;have bH:nbx<w.heap.size:=bG.1.lt;have be:Hid<|AC W nbx (.mk kd md G H false [] dat []) hx/\Dn W.cell? nbx:=⟨bG.below a1,JW d0 λo=>a1.cell (p:=⟨nbx,o,none⟩) bH⟩;obtain⟨dl,bY⟩:=Aq<|ry.dropLast.length;have d5:ry.dropLast.length<=ry.length:=by rw[tF];omega
 have d6:∀s∈ry.dropLast,Bf s=true:=λs aA=>du s<|List.dropLast_subset _ aA;have d7:Hid (∀O,Calls prog 175 #[.slice an ry.length rN] O λe w'=>e=.returned (.slice an dl rN)/\Bw O w'):=λO=>by
  have e:=Ra O an rN ry bB bC;rw[bY.out]at e;exact e
 have b0:Hid (∀O,Bw W O->Calls prog 174 #[pO ab 0,.slice an dl rN] O λe w'=>e=.returned (Ao (Cx M.us M.gs x0 rM ry.dropLast).1)/\BQ w0 w' ab ak lc M (Cx M.us M.gs x0 rM ry.dropLast).2 rM/\Az ak O w'):=λO hb=>by
  have e:=Nf (d3.below hb) bd oM (VK aA bB) (rN:=rN) oM oM;rw[bY.out]at e;exact e
 have b1:Hid<|(Cx M.us M.gs x0 rM ry.dropLast).1=0->DF (60+ry.dropLast.length) (Cx M.us M.gs x0 rM ry.dropLast).2:=λap=>ds.up d6 (λx hx=>(bd.low x hx).1) ap;have d8:Hid<|G9 60 x0 rM:=bd
 have a6:Hid<|Bi w0.cell? an ry:=aA;have d9:Hid<|w0.heap.size<=w.heap.size:=dr.size;have eb:Hid<|ry.length<=rN/\rN<=9223372036854775807:=bC;have b2:Hid<|Bw w W:=a1;have aw:Hid<|ry.length<=100:=dw;have bf:Hid<|ry.dropLast.length<=ry.length:=d5;have b4:Hid<|A4 G/\A4 H:=dy;have ed:Hid<|dat.size<=300:=dz;have ee:Hid<|Am w.cell? (.mk kd md G H false [] dat []) hx:=dT;unfold Qt;generalize Cx M.us M.gs x0 rM ry.dropLast=P at*;obtain⟨E,V⟩:=P;dsimp only at b0 b1;obtain⟨R,bg⟩:=Aq (JB (E,V) λV=>DJ (.mk kd md G H (kd==2&&((Ct ry V).getD zN).kind==3) [] dat []) ry V);rw[bg.out];show Calls prog 217 #[pO ab 0,pO J 0,pO nbx 0] W _;go_enter func217,ntmps217;go_wp2_with fail
 refine rQ (d7 _) ?_;rintro e O ⟨rfl,q1⟩;have ef:Hid (Calls prog 174 #[pO ab 0,.slice an dl rN] O λe w'=>e=.returned (Ao E)/\BQ w0 w' ab ak lc M V rM/\Az ak O w'):=b0 O q1;go_wp2_with fail
 refine rQ ef ?_;rintro e I ⟨rfl,b6,b7⟩;have b9:=b2.out.trans<|q1.mono b2.size;have bi:=b7.below (B:=w.heap.size) d2 b9.size;have ar:Ce I J 10<|.slice an ry.length rN:=(bi.cell (p:=⟨J,10,none⟩) d4).trans<|Aj q1 c0;have bk:Hid<|AC I nbx (.mk kd md G H false [] dat []) hx/\Dn I.cell? nbx:=⟨((be.1).below q1).but b7 oM,JW (JW be.2 λo=>q1.cell (p:=⟨nbx,o,none⟩) be.1.1.lt) λo=>bi.cell (p:=⟨nbx,o,none⟩) bH⟩;have eg:Hid<|Bw w I:=b9.trans bi;have bl:Hid<|BQ w0 I ab ak lc M V rM:=b6;by_cases ap:E=0
 .subst ap
  have bn:=b1.out (by first|rfl|trivial);have ce:Hid (∀w',Bw I w'->Calls prog 85 #[pO ab 0] w' λe bo=>(∃h',e=.returned (At V h')/\Am bo.cell? V h')/\Bw w' bo):=λw' hb=>by
   have cf:=bl.out.below hb;refine rQ (IU cf.c2 cf.lay) ?_;rintro e bo ⟨⟨h',ch,_,cl⟩,ej⟩;exact⟨⟨h',ch,cl⟩,ej⟩
  have ek:Hid<|Bi w0.cell? an ry:=a6.out;have em:Hid<|Bi I.cell? an ry:=a6.on<|Ai b6.base;obtain⟨Y,co⟩:=Aq<|(Ct ry V).getD zN;have cr:Hid<|cnt V<=800/\A7 V:=by
   have:=bn.cnt;have:=aw.out;have:=bf.out;exact⟨by omega,Id V oM bn.lil⟩
  have cx:Hid<|DF (60+ry.dropLast.length) V:=bn;have en:Hid<|ry.length<=1000:=by have:=aw.out;show _<=_;omega
  rw[show Ao 0=Value.nilIface from rfl];have a6:Hid<|Bi I.cell? an ry:=em.out;obtain⟨eo,ep⟩:∃b,Hid<|(Ct ry V).isSome=b:=⟨_,rfl⟩;obtain⟨k,m,u,g,o,rL,d,ks⟩:=Y;have cD:Ce I.drew J 10<|.slice an ry.length rN:=ar;have bp:Hid<|Bw I I.drew:=(NB _ _).drew;have a7:Hid<|Bw I (I.alloc AO).drew:=((NB _ _).alloc (rP _) _).drew;have cF:Hid (∀(ad:World) (ao:Hd),Bw I ad->Am ad.cell? V ao->Calls prog 176 #[At V ao,.slice an ry.length rN] ad λe c3=>(∃h',e=.returned (.tuple #[(Ba k m u g o rL d ks h'),.bool eo])/\Am c3.cell? (.mk k m u g o rL d ks) h')/\Bw ad c3):=λad ao eq a8=>by
   have e:=OJ a8 an rN ry (a6.on<|Ai eq) en cr.1 cr.2;rw[co.out,ep.out]at e;exact e
  have er:J<I.heap.size:=NF I ⟨J,10,none⟩ ar;go_upto_region 4 with fail
  go_cut [6]from 24 (λs bq=>Gw I bq (.mk k m u g o rL d ks) s)
  case first=>
   have es:Ce (I.alloc AO).drew J 10<|.slice an ry.length rN:=Aj a7 ar;go_region_held3 (λw'=>Ce w' J 10<|.slice an ry.length rN) (first|with_reducible exact cD|with_reducible exact es|with_reducible exact c4|with_reducible exact bs|(with_reducible refine Bz ?_;first|with_reducible exact cD|with_reducible exact c4|with_reducible exact bs)|(with_reducible refine Jq ?_ bs;show J≠_;first|omega|(have g4:=c5.out;omega))) (first|(go_at_call 85;(first|((with_reducible refine rQ (ce.out _ a7.out) ?_);rintro e ad ⟨⟨ao,rfl,a8⟩,q6⟩;have Z:=hid<|a7.out.trans<|q6.mono a7.out.size;have eu:=hid<|((Dg.new I).below (NB _ _).drew).below q6)|((with_reducible refine rQ (ce.out _ bp.out) ?_);rintro e ad ⟨⟨ao,rfl,a8⟩,q6⟩;have Z:=hid<|bp.out.trans<|q6.mono bp.out.size));have c4:Ce ad J 10<|.slice an ry.length rN:=Aj Z ar;have c6:=hid a8)|(go_at_call 176;(first|((with_reducible refine rQ (cF.out _ ao Z.out c6.out) ?_);rintro e c8 ⟨⟨c9,rfl,da⟩,q7⟩;have az:=hid<|Z.out.trans<|q7.mono Z.out.size;try have ba:=hid<|eu.out.below q7)|((with_reducible refine rQ (cF.out _ ao (Z.out.alloc Z.out.size AO)<|c6.out.on<|Ai bN) ?_);rintro e c8 ⟨⟨c9,rfl,da⟩,q7⟩;have az:=hid<|(Z.out.alloc Z.out.size AO).trans<|q7.mono (Z.out.alloc Z.out.size AO).size;have c5:=hid Z.out.size;have ba:=hid<|(Dg.new ad).below q7));have bs:Ce c8 J 10<|.slice an ry.length rN:=Aj az ar;have bu:=hid da;try(obtain⟨⟨⟨z0,e7,e8,z3,z4,z5,e9,fa⟩,ev⟩,_⟩:=id ba.out;obtain⟨fb,fc,fd,fe,ew,ff,fg,fh⟩:=f8 ev)))
   all_goals
    go_wp2_with fail
    go_meet
    first
    |have q:=Gw.st ba bu c5 az.out
     simp only[As]at q;exact q
    |have q:=Gw.st ba bu (rP _) az.out
     simp only[As]at q;exact q
    |exact Gw.al bu az
  case' rest=>
   obtain⟨fo,c9,rfl,fp,bb,ey,fs,ft⟩:=hcut;generalize wc=al at*
  have ez:Ce al J 10<|.slice an ry.length rN:=(bb.cell (p:=⟨J,10,none⟩) er).trans ar;have dd:=hid<|bl.out.below bb;have eB:=hid (JW bk.2 λo=>bb.cell (p:=⟨nbx,o,none⟩) bk.1.1.lt);obtain⟨⟨fx,gb,gg,gl,eD,eE,go,eF⟩,eL⟩:=(bk.1).below bb;obtain⟨⟨f0,_⟩,_⟩:=ey;have ew:=eL 4;have gq:=d9.out;have gr:=eg.out.size;have gu:=dd.out.gn;obtain⟨bv,de⟩:=Aq<|kd==2&&k==3;simp only[RC]at eE eF;go_upto_region 5 with fail
  go_cut []from 24 (λbq=>bq=al.setCell ⟨nbx,4,none⟩ (.bool bv))
  case first=>
   rcases dx with rfl|rfl
   case' inr=>
    by_cases dg:k=3;case' pos=>subst dg
    case' neg=>have eX:(k==3)=false:=by simpa using dg
   all_goals
    go_wp2_with fail
    go_meet
    rw[<-de.out];first|rfl|rw[eX];rfl
  case rest=>
   subst hcut;have e0:Hid<|BQ w0 (al.setCell ⟨nbx,4,none⟩<|.bool bv) ab ak lc M V rM:=dd.other ((Az.refl nbx al).setCell 4 none<|.bool bv) d1 oM oM eB;have X:Ce (al.setCell ⟨nbx,4,none⟩<|.bool bv) nbx 4<|.bool bv:=N2 _ _ _ eD;have gv:Ce (al.setCell ⟨nbx,4,none⟩<|.bool bv) J 10<|.slice an ry.length rN:=(NG _ _ _ _ (by intro e;injection e with ch cl;omega)).trans ez;have dj:Hid<|AI<|.mk kd md G H bv [] dat []:=by show AI _;rw[AI,Co];exact⟨⟨by decide,λr e1=>(by cases e1)⟩,ed,trivial⟩
   have dk:Hid (Calls prog 178 #[pO ab 0,.slice an ry.length rN,.agg #[iN kd,iN md,iN G,iN H,.bool bv,.slice hx.aa 0 hx.ca,.string dat,.slice hx.ak 0 hx.ck]] (al.setCell ⟨nbx,4,none⟩<|.bool bv) λe w'=>e=.returned (Ao (DJ (.mk kd md G H bv [] dat []) ry V).1)/\BQ w0 w' ab ak lc M (DJ (.mk kd md G H bv [] dat []) ry V).2 rM/\Az ak (al.setCell ⟨nbx,4,none⟩<|.bool bv) w'):=OS e0 (cx.sz d8) (by have:=aw.out;have:=bf.out;omega) (x:=(.mk kd md G H bv [] dat [])) (hd:=hx) (XC ee) dj (by rw[cnt,cntL];omega) ek (by have:=aw.out;omega) eb;have dm:Hid<|(DJ (.mk kd md G H bv [] dat []) ry V).1=0->DF 400 (DJ (.mk kd md G H bv [] dat []) ry V).2:=λe2=>by
    have gw:=aw.out;have gx:=bf.out;have e:=cx.out.put (z:=(.mk kd md G H bv [] dat [])) (k:=1) dj (by rw[A0,CJ];exact⟨b4.1,b4.2,trivial⟩) (by rw[cnt,cntL];omega) e2;exact⟨e.lil,e.ids,by have:=e.cnt;omega⟩
   obtain⟨bA,dn⟩:=Aq<|DJ (.mk kd md G H bv [] dat []) ry V;have e3:Hid<|R=bA:=by show R=bA;rw[<-bg.out,<-dn.out,<-de.out];show DJ (.mk kd md G H (kd==2&&(((Ct ry V).getD zN).kind==3)) [] dat []) ry V=_;rw[co.out];rfl
   rw[dn.out]at dk dm;go_wp2_with fail
   refine rQ dk ?_;rintro e gy ⟨rfl,e4,gz⟩;have e5:=hid e4;go_wp2;go_ret;rw[e3.out];exact⟨bA.2,rfl,e5,λe=>⟨rfl,dm e⟩⟩
 .have dp:=AP (n:=E) rfl ap
  rw[dp];go_wp2;go_ret;obtain rfl:(E,V)=R:=by rw[<-bg.out];exact(NO ap).symm
  exact⟨V,by rw[dp];rfl,bl,λe=>absurd e ap⟩
end Go.Proofs.YtchpdmjlicmdaaaGreatDoor
