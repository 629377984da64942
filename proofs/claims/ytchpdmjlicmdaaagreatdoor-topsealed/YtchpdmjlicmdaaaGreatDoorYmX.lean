/- Part: Ym Al Am Yn Yx Yy. -/
import Derived.Test.YtchpdmjlicmdaaaGreatDoorYwX
set_option maxRecDepth 100000
set_option maxHeartbeats 16000000
namespace Go.Proofs.YtchpdmjlicmdaaaGreatDoor
open Go.RowKit Go.Proofs.Tryz
variable {B:Bx}{b n r:Nat}{w w':World}{x0:Nd}{rM:List Nd}{cA cB cop:Int}{cdata cname coth cpath m v:BA}{L l:List Kv}{G a:Option Addr}{us:List Rg}
abbrev JM(B:Bx)(b n:Nat)(na:Option Addr)(nc k:Nat)(w:World):Prop:=Ce w b 2 (.slice B.la B.xs.length B.lc)/\Ce w n 10 (.slice na k nc)
theorem JM.set{na:Option Addr}{nc k:Nat}{v0 G H v3 v4 v5 I:Value}(h:JM B b n na nc k w)(J:b≠r)(O:n≠r):JM B b n na nc k<|((((((w.setCell (aD r 0) v0).setCell (aD r 1) G).setCell (aD r 2) H).setCell (aD r 3) v3).setCell (aD r 4) v4).setCell (aD r 5) v5).setCell (aD r 6) I:=by grind [BO]
theorem Y5{na:Option Addr}{nc:Nat}{ry:List BA}(h:A6 w b B)(G:BN B x0 rM)(H:Bi w.cell? na ry/\ry.length<=6):Calls prog 120 #[.slice B.la B.xs.length B.lc,.slice na ry.length nc] w.drew λe w'=>(∃a l c,e=.returned (.slice a l c))/\Bw w w':=by
 go_call Vu (w:=w.drew) (S:=λ_=>false) (λ_ I=>(by cases I)) (by rw[Fe];exact h.lay) (by rw[Fe];exact H.1) (by rw[G.xs];exact G.sz.ok oM) oM as e w' ⟨⟨a1,c1,e1,_⟩,e2⟩
 exact⟨⟨a1,_,c1,e1⟩,(NB _ _).drew.trans e2⟩
theorem fw(h:A6 w b B)(ap:BN B x0 rM)(ar:Int)(a1:Ce w (1) 0<|iN ar):
 Calls prog 83 #[pO b 0,Fr cop cpath coth cname cdata cA cB] w λe w'=>Ja (Hr<|B.cor.opP cpath false) e/\Bw w w':=by
 obtain⟨bA,a6,H,a7,p0,p1,p2,p3,bB,bC,bF⟩:=Mh w cop cpath coth cname cdata cA cB;have a8:=hid<|V5 (h.below H) ap cpath false ar<|Aj H a1;have ba:=hid ap;have bG:=hid h;generalize B.cor.opP cpath false=P at*;go_enter func83,ntmps83;go_upto_region 1 with fail
 rw[a6.out];go_wp2_with fail
 go_call a8 as e w2 ⟨hA,q2⟩
 obtain⟨cs,E,bH,rfl,bY,b0,aw,b1,az,b2,b4,bb,bd⟩:=hA.ope ba H q2 a7;have be:=Cn cs;unfold Value.cells at be;by_cases G:E=0
 .subst G
  obtain⟨b6,b7,b9,ce,cf,ch,na,nc,ry,cl,co,cr,cx,cD,cF,c3,aA,xs,c4,ly,bf,⟨c5,c6,c8,c9,da,dd,de,dg⟩,dj,dk⟩:=bd rfl;rw[show Ao 0=Value.nilIface from rfl];obtain⟨bg,I,J,⟨t0,bi,bk,t3,t4,t5,bl⟩,⟨bn,bo,bp,bq,bs,bu,bx⟩,O,Z,ab,ad,ak,al,ao⟩:=GV az aw (tN _) (iN 0) (iN 0) (iN 0) (iN 0) (iN 0) (nL)<|.string aA;go_wp2;rw[I.out];exact NZ (v:=.tuple #[.agg #[iN 0,iN 0,iN 0,iN 0,iN 0,nL,.string aA],.nilIface]) (by simp[results,results83,go_sem,O,Z,ab,ad,ak,al,ao]) rfl ⟨Gs _ _ _ _ _ _ _ _ _ (RX Hr bf) rfl,J⟩
 .rw[AP rfl G]
  obtain⟨bg,I,J,⟨t0,bi,bk,t3,t4,t5,bl⟩,⟨bn,bo,bp,bq,bs,bu,bx⟩,O,Z,ab,ad,ak,al,ao⟩:=GV az aw (tN _) (iN 0) (iN 0) (iN 0) (iN 0) (iN 0) (nL)<|.string ⟨#[]⟩;go_wp2;rw[I.out];exact NZ (v:=.tuple #[.agg #[iN 0,iN 0,iN 0,iN 0,iN 0,nL,.string ⟨#[]⟩],.iface 101<|iN E]) (by simp[results,results83,go_sem,O,Z,ab,ad,ak,al,ao]) rfl ⟨Gs _ _ _ _ _ _ _ _ _ (RX Hr<|bb G)<|AP rfl G,J⟩
theorem fu(h:A6 w b B)(aw:BN B x0 rM)(az:Int)(ba:Ce w (1) 0<|iN az):
 Calls prog 82 #[pO b 0,Fr cop cpath coth cname cdata cA cB] w λe w'=>Ja (Hr<|B.cor.opP cpath true) e/\Bw w w':=by
 obtain⟨b6,bb,I,bd,p0,p1,p2,p3,b7,b9,ce⟩:=Mh w cop cpath coth cname cdata cA cB;have be:=hid<|V5 (h.below I) aw cpath true az<|Aj I ba;have aA:=hid aw;have a1:=hid h;generalize B.cor.opP cpath true=P at*;go_enter func82,ntmps82;go_upto_region 1 with fail
 rw[bb.out];go_wp2_with fail
 go_call be as e w2 ⟨hA,q2⟩
 obtain⟨cs,E,bf,rfl,cf,ch,G,cl,a6,co,bg,bi,bk⟩:=hA.ope aA I q2 bd;have bl:=Cn cs;unfold Value.cells at bl;by_cases H:E=0
 .subst H
  obtain⟨cr,cx,cD,cF,c3,c4,na,nc,ry,c5,c6,c8,c9,da,dd,de,dg,xs,dj,ly,bn,⟨dk,dm,dn,dp,bo,dr,ds,du⟩,bp,dw⟩:=bk rfl;rw[show Ao 0=Value.nilIface from rfl];have a7:=a1.out.below G;have bq:Hid<|b<w.heap.size:=a1.lt;have bs:=hid<|Y5 (nc:=nc) a7 aA bp;have J:JM B b w2.heap.size na nc ry.length bf.drew:=⟨a7.cells.2.2.1,bo⟩;have bu:Hid<|b≠w.heap.size+1:=by have:=bq.out;exact(by omega:b≠w.heap.size+1)
  have bx:Hid<|w2.heap.size≠w.heap.size+1:=by have:=bg.out;exact(by omega:w2.heap.size≠w.heap.size+1)
  go_upto_region 4 with fail
  go_region_held3 (JM B b w2.heap.size na nc ry.length) (first|with_reducible exact J|with_reducible exact a8|exact a8.set bu.out bx.out) (first|(go_at_call 120;go_call bs.out as e wL ⟨⟨la,ln,lcp,rfl⟩,qL⟩;have a8:JM B b w2.heap.size na nc ry.length wL:=⟨Aj qL J.1,Aj qL J.2⟩;obtain⟨bA,O,Z,⟨t0,bB,bC,t3,t4,t5,bF⟩,⟨bG,bH,bY,b0,b1,b2,b4⟩,ab,ad,ak,al,ao,ap,ar⟩:=GV (a6.out.below qL) (G.out.trans<|qL.mono G.out.size) (tN _) (iN 0) (iN 0) (iN 0) (iN 0) (iN 0) (.slice la ln lcp)<|.string ⟨#[]⟩))
  all_goals
   rw[O.out];go_wp2;exact NZ (v:=.tuple #[.agg #[iN 0,iN 0,iN 0,iN 0,iN 0,.slice la ln lcp,.string ⟨#[]⟩],.nilIface]) (by simp[results,results82,go_sem,ab,ad,ak,al,ao,ap,ar]) rfl ⟨Gs _ _ _ _ _ _ _ _ _ (RX Hr bn) rfl,Z⟩
 .rw[AP rfl H]
  obtain⟨bA,O,Z,⟨t0,bB,bC,t3,t4,t5,bF⟩,⟨bG,bH,bY,b0,b1,b2,b4⟩,ab,ad,ak,al,ao,ap,ar⟩:=GV a6 G (tN _) (iN 0) (iN 0) (iN 0) (iN 0) (iN 0) (nL)<|.string ⟨#[]⟩;go_wp2;rw[O.out];exact NZ (v:=.tuple #[.agg #[iN 0,iN 0,iN 0,iN 0,iN 0,nL,.string ⟨#[]⟩],.iface 101<|iN E]) (by simp[results,results82,go_sem,ab,ad,ak,al,ao,ap,ar]) rfl ⟨Gs _ _ _ _ _ _ _ _ _ (RX Hr<|bi H)<|AP rfl H,Z⟩
theorem fi(h:A6 w b B)(a1:BN B x0 rM)(a8:Int)(bF:Ce w (1) 0<|iN a8):
 Calls prog 81 #[pO b 0,Fr cop cpath coth cname cdata cA cB] w λe w'=>Ja (Hr<|B.cor.atP true cpath) e/\Bw w w':=by
 obtain⟨cr,bG,a6,bH,p0,p1,p2,p3,cx,cD,cF⟩:=Mh w cop cpath coth cname cdata cA cB;have bY:=hid (rQ (LX (h.below a6) a1.good cpath (Eg _).1 (Eg _).2 a8<|Aj a6 bF) λe w' ⟨b0,h2⟩=>(⟨KH a1.good b0,h2⟩:Dr B w' cpath true (B.cor.atP true cpath) e/\_));have ba:=hid a1;have bb:=hid h;generalize B.cor.atP true cpath=P at*;go_enter func81,ntmps81;go_upto_region 1 with fail
 rw[bG.out];go_wp2_with fail
 go_call bY as e w2 ⟨hA,q2⟩
 obtain⟨cs,E,b1,rfl,c3,c4,H,c5,a7,c6,c8,b2,b4⟩:=hA.ope ba a6 q2 bH;have b6:=Cn cs;unfold Value.cells at b6;by_cases ap:E=0
 .subst ap
  obtain⟨b7,ar,aw,az,c9,da,na,nc,ry,dd,aA,de,dg,dj,dk,dm,bd,xs,dn,ly,be,⟨dp,b9,ce,cf,ch,cl,dr,ds⟩,co,du⟩:=b4 rfl;rw[show Ao 0=Value.nilIface from rfl];cases b7 with
  |false=>
   obtain⟨bf,I,J,⟨t0,bg,bi,t3,t4,t5,bk⟩,⟨bl,bn,bo,bp,bq,bs,bu⟩,O,Z,ab,ad,ak,al,ao⟩:=GV a7 H (tN _) (iN aA) (iN ar) (iN aw) (iN az) (iN (bd.size:Int)) (nL)<|.string ⟨#[]⟩;go_wp2;rw[I.out];exact NZ (v:=.tuple #[.agg #[iN aA,iN ar,iN aw,iN az,iN (bd.size:Int),nL,.string ⟨#[]⟩],.nilIface]) (by simp[results,results81,go_sem,O,Z,ab,ad,ak,al,ao]) rfl ⟨Gs _ _ _ _ _ _ _ _ _ (RX Hr be) rfl,J⟩
  |true=>
   have bx:=bb.out.below H;have dw:Hid<|b<w.heap.size:=bb.lt;have bA:=hid<|Y5 (nc:=nc) bx ba co;have bB:JM B b w2.heap.size na nc ry.length b1.drew:=⟨bx.cells.2.2.1,ch⟩;go_upto_region 6 with fail
   go_region_held3 (JM B b w2.heap.size na nc ry.length) (assumption) (first|(go_at_call 120;go_call bA.out as e wL ⟨⟨la,bC,lcp,rfl⟩,qL⟩;have dx:JM B b w2.heap.size na nc ry.length wL:=⟨Aj qL bB.1,Aj qL bB.2⟩;have G:=hid qL;clear bA))
   all_goals
    have g1:=Aj G b9;have dy:=Aj G ce;have g3:=Aj G cf;have dz:=Aj G cl;obtain⟨bf,I,J,⟨t0,bg,bi,t3,t4,t5,bk⟩,⟨bl,bn,bo,bp,bq,bs,bu⟩,O,Z,ab,ad,ak,al,ao⟩:=GV (a7.below G) (H.trans<|G.mono H.size) (tN _) (iN aA) (iN ar) (iN aw) (iN az) (iN (bC:Int)) (nL)<|.string ⟨#[]⟩;go_wp2;rw[I.out];exact NZ (v:=.tuple #[.agg #[iN aA,iN ar,iN aw,iN az,iN (bC:Int),nL,.string ⟨#[]⟩],.nilIface]) (by simp[results,results81,go_sem,O,Z,ab,ad,ak,al,ao]) rfl ⟨Gs _ _ _ _ _ _ _ _ _ (RX Hr be) rfl,J⟩
 .rw[AP rfl ap]
  obtain⟨bf,I,J,⟨t0,bg,bi,t3,t4,t5,bk⟩,⟨bl,bn,bo,bp,bq,bs,bu⟩,O,Z,ab,ad,ak,al,ao⟩:=GV a7 H (tN _) (iN 0) (iN 0) (iN 0) (iN 0) (iN 0) (nL)<|.string ⟨#[]⟩;go_wp2;rw[I.out];exact NZ (v:=.tuple #[.agg #[iN 0,iN 0,iN 0,iN 0,iN 0,nL,.string ⟨#[]⟩],.iface 101<|iN E]) (by simp[results,results81,go_sem,O,Z,ab,ad,ak,al,ao]) rfl ⟨Gs _ _ _ _ _ _ _ _ _ (RX Hr<|b2 ap)<|AP rfl ap,J⟩
def NI(P:Except Int Gv)(G:BA):Int:=match P with
 |.error E=>E
 |.ok f=>IE f.2.2.2.1.atl G
theorem iS(h:A6 w b B)(a6:BN B x0 rM)(a7:Int)(bg:Ce w (1) 0<|iN a7)(a8:cname.size<=1000):
 Calls prog 84 #[pO b 0,Fr cop cpath coth cname cdata cA cB] w λe w'=>Ja (NI (B.cor.deP cop cpath cname cdata 4) cname) e/\Bw w w':=by
 obtain⟨b2,bi,ap,bk,p0,p1,p2,p3,b4,b6,b7⟩:=Mh w cop cpath coth cname cdata cA cB;have bl:=hid<|Ud (cop:=cop) (cA:=cA) (cB:=cB) (cpath:=cpath) (coth:=coth) (cname:=cname) (cdata:=cdata) (h.below ap) a6 4 a7 (Aj ap bg) a8;have bn:=hid a6;have b9:=hid h;generalize B.cor.deP cop cpath cname cdata 4=P at*;go_enter func84,ntmps84;go_upto_region 1 with fail
 rw[bi.out];go_wp2_with fail
 go_call bl as e w2 ⟨hA,q2⟩
 obtain⟨cs,E,ba,rfl,ce,cf,ar,bo,bb,ch,cl,bp,bq⟩:=hA.ope bn ap q2 bk;have bs:=Cn cs;unfold Value.cells at bs;by_cases H:E=0
 .subst H
  obtain⟨co,cr,cx,cD,cF,c3,na,nc,ry,c4,c5,c6,c8,c9,da,G,dd,xs,bd,ly,be,⟨de,dg,dj,dk,dm,dn,dp,dr⟩,ds,aw⟩:=bq rfl;rw[show Ao 0=Value.nilIface from rfl];have g3:=Aj bo p3;have az:Hid (Calls prog 123 #[.slice bd.aa G.length bd.ca,.string cname] ba λe w'=>e=.returned (.tuple #[.string<|Jy G cname,Ao<|IE G cname])/\Bw ba w'):=lO _ _ _ _ _ (by have:=aw.out.1;omega) aw.2.1 a8 aw.2.2;generalize Jy G cname=V at az;obtain⟨bf,aA⟩:=Aq<|IE G cname;rw[aA.out]at az;go_wp2_with fail
  go_call az as e w9 ⟨rfl,q9⟩
  obtain⟨bu,I,J,⟨t0,bx,bA,t3,t4,t5,bB⟩,⟨bC,bF,bG,bH,bY,b0,b1⟩,O,Z,ab,ad,ak,al,ao⟩:=GV (bb.below q9) (ar.trans<|q9.mono ar.size) (tN _) (iN 0) (iN 0) (iN 0) (iN 0) (iN 0) (nL)<|.string V;by_cases a1:bf=0
  .subst a1
   rw[show Ao 0=Value.nilIface from rfl];go_wp2;rw[I.out];exact NZ (v:=.tuple #[.agg #[iN 0,iN 0,iN 0,iN 0,iN 0,nL,.string V],.nilIface]) (by simp[results,results84,go_sem,O,Z,ab,ad,ak,al,ao]) rfl ⟨Gs _ _ _ _ _ _ _ _ _ ((RX (NI · cname) be).trans aA) rfl,J⟩
  .rw[AP rfl a1]
   go_wp2;rw[I.out];exact NZ (v:=.tuple #[.agg #[iN 0,iN 0,iN 0,iN 0,iN 0,nL,.string V],.iface 101<|iN bf]) (by simp[results,results84,go_sem,O,Z,ab,ad,ak,al,ao]) rfl ⟨Gs _ _ _ _ _ _ _ _ _ ((RX (NI · cname) be).trans aA)<|AP rfl a1,J⟩
 .rw[AP rfl H]
  obtain⟨bu,I,J,⟨t0,bx,bA,t3,t4,t5,bB⟩,⟨bC,bF,bG,bH,bY,b0,b1⟩,O,Z,ab,ad,ak,al,ao⟩:=GV bb ar (tN _) (iN 0) (iN 0) (iN 0) (iN 0) (iN 0) (nL)<|.string ⟨#[]⟩;go_wp2;rw[I.out];exact NZ (v:=.tuple #[.agg #[iN 0,iN 0,iN 0,iN 0,iN 0,nL,.string ⟨#[]⟩],.iface 101<|iN E]) (by simp[results,results84,go_sem,O,Z,ab,ad,ak,al,ao]) rfl ⟨Gs _ _ _ _ _ _ _ _ _ (RX (NI · cname)<|bp H)<|AP rfl H,J⟩
open Go.Sort Go.Shelf
theorem Sm(G:World)(X:Obj)(us:Array Value)(t:TypeId)(i:Nat)(u:Value)(h:us[i]? =some u):((G.alloc X).alloc<|.cells us t).cell? (aD (G.heap.size+1) i)=some u:=by simp_all
def Hj(w w':World)(e:Ending)(L:List Kv)(f:Int):Prop:=
 (∃G cp,e=.returned (.tuple #[.slice G L.length cp,Ao f])/\L.length<=cp/\cp<=9223372036854775807/\Bg w'.cell? G L)/\Below w.heap.size w w'
theorem Hj.bad{f n:Int}(G:f=n)(H:n≠0)(I:L=[])(J:Below w.heap.size w w'):Hj w w' (.returned<|.tuple #[nL,.iface 101<|iN n]) L f:=by
 subst I G;exact⟨⟨none,0,by rw[AP rfl H];rfl,by simp,by simp,.inl rfl⟩,J⟩
theorem Hj.good{M:List Kv}{f:Int}{cp:Nat}(H:f=0)(I:M=L)(J:L.length<=cp)(O:cp<=9223372036854775807)(Z:Bg w'.cell? G L)(ab:Below w.heap.size w w'):Hj w w' (.returned<|.tuple #[.slice G L.length cp,.nilIface]) M f:=by
 subst I H;exact⟨⟨G,cp,rfl,J,O,Z⟩,ab⟩
theorem qJ{G:World}{cap p q H J:Nat}{x:Option Addr}{S:List Kv}(al:S=l.take p++([⟨m,v⟩]++l.drop q))(ar:p<=l.length)(_aw:q<=l.length)(_az:l.length<=cap)(ao:S.length<=1000)(h:Bg G.cell? a l)(hx:l.drop q=[]\/x=a.map (·.add (q*2)))(ap:H=l.length-q):
 Calls prog 186 #[sL (G.heap.size+1) 0 3 3] ((G.alloc<|Ip m v).alloc<|.cells #[.slice a p cap,sL G.heap.size 0 1 1,.slice x H J] 28) λe w'=>(∃ab cp,e=.returned (.slice ab S.length cp)/\S.length<=cp/\cp<=9223372036854775807/\Bg w'.cell? ab S)/\Below G.heap.size G w':=by
 generalize O:Obj.cells #[.slice a p cap,sL G.heap.size 0 1 1,.slice x H J] 28=X;have I:Below G.heap.size G<|(G.alloc<|Ip m v).alloc X:=bN.alloc oS _;have ad:=KW.new G ⟨m,v⟩;have hb:Below _ (G.alloc<|Ip m v)<|(G.alloc<|Ip m v).alloc X:=bN;refine(kX _ ⟨a,cap,l.take p⟩ ⟨some<|aD G.heap.size 0,1,[⟨m,v⟩]⟩ ⟨x,J,l.drop q⟩ S _ al ao ?_ ?_ ?_ ((h.below I).take p) (.inr ⟨G.heap.size,0,rfl,λk x Z=>?_⟩) ?_).mono λe w' ak=>⟨ak.1,I.trans<|ak.2.mono I.size⟩
 .rw[show(l.take p).length=p by simp;omega,<-O];exact Sm _ _ _ _ _ _ rfl
 .rw[<-O];exact Sm _ _ _ _ _ _ rfl
 .rw[show(l.drop q).length=H by simp[ap],<-O];exact Sm _ _ _ _ _ _ rfl
 .match k with
  |0=>simp at Z;subst Z;exact⟨(hb.cell (p:=(aD G.heap.size 0)) oS).trans ad.1,(hb.cell (p:=(aD G.heap.size 1)) oS).trans ad.2⟩
  |j+1=>simp at Z
 .rcases hx with e|rfl
  .exact .inl e
  .exact(h.below I).drop q
theorem kS(a:Option Addr)(cap:Nat)(l:List Kv)(m v:BA)(w:World)(ab:l.length<=1000)(bq:l.length<=cap)(bs:cap<=9223372036854775807)(ad:F8 l)(ak:m.size<=1000)(Z:Bg w.cell? a l):
 Calls prog 132 #[.slice a l.length cap,.string m,.string v] w λe w'=>Hj w w' e (Ij l m v)<|JA l m v:=by
 obtain⟨P,a7⟩:=Aq<|GX l m;obtain⟨T,a8⟩:=Aq<|Ej l m;obtain⟨V,ar⟩:=Aq<|Ij l m v;obtain⟨ba,al⟩:=Aq<|JA l m v;rw[ar.out,al.out];have aw:Hid<|ba≠0->V=[]:=λaz=>by rw[<-ar.out];unfold Ij;rw[NS (by rw[al.out];exact az)]
 have bf:Hid<|ba=0->V=I8 l m v:=λaz=>by rw[<-ar.out];unfold Ij;rw[NO (by rw[al.out];simpa using az)]
 have G:=al.out.symm;unfold JA at G;by_cases J:DR l m=0;rotate_left
 .have I:Hid<|DR l m≠0:=J
  rw[NS J]at G;have H:=hid G;go_enter func132,ntmps132;go_wp2_with fail
  go_call IW a cap l m _ ab ad ak Z as e w1 ⟨rfl,hB⟩
  rw[a7.out,a8.out,AP rfl I.out];go_wp2;go_ret2;exact Hj.bad H I (aw (by rw[H.out];exact I)) hB
 rw[NO (by simpa using J)]at G;have I:=hid J;have ap:Fw l:=(LB.1 J).1.2.2;have bu:l.length<=4:=(LB.1 J).1.1;by_cases bb:20<v.size
 .rw[NS bb]at G
  have H:=hid G;have bg:decide (20<(v.size:Int))=true:=NY oM;go_enter func132,ntmps132;go_wp2_with fail
  go_call IW a cap l m _ ab ad ak Z as e w1 ⟨rfl,hB⟩
  rw[a7.out,a8.out,DE I.out];go_wp2;go_ret2;exact Hj.bad H oD (aw (by rw[H.out];decide)) hB
 have bg:decide (20<(v.size:Int))=false:=NM oM;rw[NO bb]at G;have aA:Hid<|GX l m=plc l m:=by show _=_;unfold GX;rw[NS I.out]
 have a1:=Y9 l m;by_cases O:DG l m=none/\l.length=4
 .rw[NS O]at G
  have H:=hid G;have a6:Hid<|Ej l m=false:=by show _=_;unfold Ej;rw[O.1];simp
  have bi:((l.length:Int)==4)=true:=by rw[O.2];rfl
  generalize plc l m=p at aA a1;have p1:(0:Int)<=(p:Int):=by omega
  have p2:(p:Int)<=(l.length:Int):=by omega
  have p3:(p:Int)<=(cap:Int):=by omega
  clear G O;go_enter func132,ntmps132;go_wp2_with fail
  go_call IW a cap l m _ ab ad ak Z as e w1 ⟨rfl,hB⟩
  rw[aA.out,a6.out,DE I.out];go_wp2
  all_goals
   go_ret2;exact Hj.bad H oD (aw (by rw[H.out];decide)) hB
 rw[NO O]at G;have H:=hid G;obtain⟨q,bk,bl,bd⟩:∃q,(Ej l m=false/\((l.length:Int)==4)=false/\q=plc l m\/Ej l m=true/\q=plc l m+1)/\q<=l.length/\Hid (I8 l m v=l.take (plc l m)++([⟨m,v⟩]++l.drop q)):=by
  cases hfd:DG l m with
  |none=>exact⟨_,.inl ⟨by unfold Ej;rw[hfd];simp,by have:¬l.length=4:=λe=>O ⟨hfd,e⟩;simp;omega,rfl⟩,a1,by show _=_;rw[OZ m ap,(Un m ap hfd).1];rfl⟩
  |some x=>
   obtain⟨hx,bn⟩:=PG m ap hfd;exact⟨_,.inr ⟨by unfold Ej;rw[hfd,NY I.out];rfl,rfl⟩,(NE.1 hx).1,by show _=_;rw[OZ m ap,bn];rfl⟩
 have bo:Hid<|(I8 l m v).length<=1000:=by show _<=_;rw[bd.out];simp;omega
 generalize plc l m=p at*;have p1:(0:Int)<=(p:Int):=by omega
 have p2:(p:Int)<=(l.length:Int):=by omega
 have p3:(p:Int)<=(cap:Int):=by omega
 rcases bk with⟨be,bi,rfl⟩|⟨be,rfl⟩
 case' inr=>
  have bx:(p:Int)+1<=(l.length:Int):=by omega
  have bA:¬cap=p:=by omega
 all_goals
  have a6:=hid be;go_enter func132,ntmps132;go_wp2_with fail
  go_call IW a cap l m _ ab ad ak Z as e w1 ⟨rfl,hB⟩
  rw[aA.out,a6.out,DE I.out];go_wp2_with fail
  all_goals
  go_call qJ bd.out a1 bl (by omega) bo.out (Z.below hB) (by first|exact .inr rfl|exact .inl (R8 (by omega))) (by omega) as e w2 ⟨⟨ao,cp,rfl,g1,g2,g3⟩,hB4⟩
  have bp:=hB.trans<|hB4.mono hB.size;go_wp2;go_ret2;exact Hj.good H (bf H) g1 g2 g3 bp
theorem gP(a:Option Addr)(cap:Nat)(l:List Kv)(m:BA)(w:World)(ak:l.length<=1000)(bq:l.length<=cap)(bs:cap<=9223372036854775807)(al:F8 l)(ao:m.size<=1000)(h:Bg w.cell? a l):
 Calls prog 134 #[.slice a l.length cap,.string m] w λe w'=>Hj w w' e (Io l m)<|IF l m:=by
 obtain⟨P,bb⟩:=Aq<|GX l m;obtain⟨T,bd⟩:=Aq<|Ej l m;obtain⟨V,ap⟩:=Aq<|Io l m;obtain⟨J,I⟩:=Aq<|IF l m;rw[ap.out,I.out];have a7:Hid<|J≠0->V=[]:=λar=>by rw[<-ap.out];unfold Io;rw[NS (by rw[I.out];exact ar)]
 have be:Hid<|J=0->V=Gq l m:=λar=>by rw[<-ap.out];unfold Io;rw[NO (by rw[I.out];simpa using ar)]
 by_cases aw:DR l m=0;rotate_left
 .have G:Hid<|DR l m≠0:=aw
  have H:Hid<|J=DR l m:=by show _=_;rw[<-I.out];unfold IF;rw[NS G.out]
  go_enter func134,ntmps134;go_wp2_with fail
  go_call IW a cap l m _ ak al ao h as e w1 ⟨rfl,hB⟩
  rw[bb.out,bd.out,AP rfl G.out];go_wp2;go_ret2;exact Hj.bad H G (a7 (by rw[H.out];exact G)) hB
 have G:=hid aw;have a8:Fw l:=(LB.1 aw).1.2.2;have Z:Hid<|GX l m=plc l m:=by show _=_;unfold GX;rw[NS G.out]
 have az:=hid<|OZ m a8;cases hfd:DG l m with
 |none=>
  have aA:Hid<|Ej l m=false:=by show _=_;unfold Ej;rw[hfd];simp
  have H:Hid<|J=5:=by show _=_;rw[<-I.out];unfold IF;rw[NO (by simpa using G.out),NS hfd]
  generalize plc l m=p at Z;go_enter func134,ntmps134;go_wp2_with fail
  go_call IW a cap l m _ ak al ao h as e w1 ⟨rfl,hB⟩
  rw[Z.out,aA.out,DE G.out];go_wp2;go_ret2;exact Hj.bad H oD (a7 (by rw[H.out];decide)) hB
 |some x=>
  have aA:Hid<|Ej l m=true:=by show _=_;unfold Ej;rw[hfd,NY G.out];rfl
  obtain⟨hx,bf⟩:=PG m a8 hfd;have a1:=hid bf;have bg:=(NE.1 hx).1;have H:Hid<|J=0:=by show _=_;rw[<-I.out];unfold IF;rw[NO (by simpa using G.out),NO (by rw[hfd];simp)]
  generalize plc l m=p at Z az a1 bg;have p1:(0:Int)<=(p:Int):=by omega
  have p2:(p:Int)<=(l.length:Int):=by omega
  have p3:(p:Int)<=(cap:Int):=by omega
  have bu:(p:Int)+1<=(l.length:Int):=by omega
  have bx:(0:Int)<=(p:Int)+1:=by omega
  have bA:IntKind.i64.wrap ((p:Int)+1)=(p:Int)+1:=DQ oM oM;have bi:Hid<|(Gq l m).length<=1000:=by
   show _<=_;unfold Gq;have:=RX List.length az;have:=RX List.length a1;simp at*;omega
  have bk:(l.take p).length=p:=by simp;omega
  have bl:Hid (∀(W:World) (O:Nat),Bg W.cell? a l->Ce W O 0 (.slice a p cap)->Ce W O 1 (.slice (if cap=p+1 then a else a.map (·.add ((p+1)*2))) (l.length-(p+1))<|cap-(p+1))->cL 186 #[sL O 0 2 2] W λe w'=>(∃a6 cp,e=.returned (.slice a6 (Gq l m).length cp)/\(Gq l m).length<=cp/\cp<=9223372036854775807/\Bg w'.cell? a6 (Gq l m))/\Below W.heap.size W w'):=by
   intro W O ba bn bo;have ab:Bg W.cell? (if cap=p+1 then a else a.map (·.add ((p+1)*2)))<|l.drop<|p+1:=by
    split
    .exact Bg.none (by simp;omega)
    .exact ba.drop<|p+1
   exact jR O ⟨a,cap,l.take p⟩ ⟨if cap=p+1 then a else a.map (·.add ((p+1)*2)),cap-(p+1),l.drop<|p+1⟩ (Gq l m) W (by show Gq l m=l.take p++l.drop (p+1);rw[az.out,a1.out];rfl) bi (by rw[bk];exact bn) (by rw[show(l.drop<|p+1).length=l.length-(p+1) by simp];exact bo) (ba.take p) ab
  go_enter func134,ntmps134;go_wp2_with fail
  go_call IW a cap l m _ ak al ao h as e w1 ⟨rfl,hB⟩
  rw[Z.out,aA.out,DE G.out];have bB:=h.below hB;have c0:Ce (w1.drew.alloc<|.cells #[.slice a p cap,.slice (if cap=p+1 then a else a.map (·.add ((p+1)*2))) (l.length-(p+1))<|cap-(p+1)] 28) w1.heap.size 0<|.slice a p cap:=aC;have c1:Ce (w1.drew.alloc<|.cells #[.slice a p cap,.slice (if cap=p+1 then a else a.map (·.add ((p+1)*2))) (l.length-(p+1))<|cap-(p+1)] 28) w1.heap.size 1<|.slice (if cap=p+1 then a else a.map (·.add ((p+1)*2))) (l.length-(p+1))<|cap-(p+1):=aC;have ad:Below w.heap.size w<|w1.drew.alloc<|.cells #[.slice a p cap,.slice (if cap=p+1 then a else a.map (·.add ((p+1)*2))) (l.length-(p+1))<|cap-(p+1)] 28:=(CS hB 1).alloc hB.size _;have ab:=h.below ad;go_wp2_with fail
  go_region_held3 (λ_=>True) (trivial) (first|(go_at_call 186;go_call bl.out _ _ ab c0 c1 as e w2 ⟨⟨a6,cp,rfl,g1,g2,g3⟩,hB4⟩;generalize(if cap=p+1 then a else a.map (·.add ((p+1)*2)))=bC at ab c0 c1 ad hB4⊢))
  all_goals
   have bp:=ad.trans<|hB4.mono ad.size
   go_wp2;go_ret2;exact Hj.good H (be H) g1 g2 g3 bp
theorem et{s:BA}(h:DX s≠0):s.size<=255:=by
 have G:J3 (s.data.toList.drop 2)=true:=by
  grind [DX,L8]
 unfold J3 at G;simp only[Bool.and_eq_true,tD]at G;have:=G.1.1.1.2;rw[List.length_drop]at this;show s.data.size<=255;rw[<-Array.length_toList];omega
theorem JC.low(h:JC l):l.length<=255/\F8 l:=⟨by have:=h.1;omega,λx hx=>⟨et (h.2.1 x hx).1,by have:=(h.2.1 x hx).2;omega⟩⟩
theorem XF:([]:List Kv).length<=255/\F8 []:=⟨N7 _,λ_ hx=>by cases hx⟩
theorem jd:(Ij l m v).length<=255/\F8 (Ij l m v):=by
 unfold Ij;split
 .exact XF
 .exact(jI<|Decidable.not_not.1 ‹_›).2.2.low
theorem kl:(Io l m).length<=255/\F8 (Io l m):=by
 unfold Io;split
 .exact XF
 .exact(lL<|Decidable.not_not.1 ‹_›).2.2.low
def Tt(w:World)(G:List Kv->List Kv)(J:List Kv->Int)(fv:Value):Prop:=∃gf lb,fv=.func (.func gf) #[] lb/\(∀args w,(callFunc gf args).run prog w=.ok (.enter gf args) w)/\
 ∀(W:World) (a:Option Addr) (l:List Kv) (cap:Nat),Bw w W->l.length<=255->F8 l->(l.length<=cap/\cap<=9223372036854775807)->Bg W.cell? a l->
  Calls prog gf (#[.slice a l.length cap]++lb) W λe H=>(∃I cp,e=.returned (.tuple #[.slice I (G l).length cp,Ao<|J l])/\((G l).length<=cp/\cp<=9223372036854775807)/\Bg H.cell? I (G l)/\(G l).length<=255/\F8 (G l))/\Bw W H
theorem kK{G:Nat}(Z:m.size<=1000)(ab:Ce w G 3<|.string m)(ad:Ce w G 4<|.string v):Tt w (λl=>Ij l m v) (λl=>JA l m v)<|.func (.func 131) #[] #[pO G 0]:=by
 refine⟨_,_,rfl,λargs w=>by kernel_rfl,λW a l cap I az ak J al=>?_⟩;dsimp only;have aA:=Aj I ab;have a1:=Aj I ad;have H:=hid<|kS a cap l m v W oM J.1 J.2 ak Z al;have O:Hid<|(Ij l m v).length<=255/\F8 (Ij l m v):=jd;generalize Ij l m v=V at H O⊢;generalize JA l m v=F at H⊢;show Calls prog 131 #[.slice a l.length cap,pO G 0] W _;go_enter func131,ntmps131;go_wp2_with fail
 go_call H as e w2 ⟨⟨ao,cp,rfl,h1,h2,h3⟩,h4⟩
 have ap:Hid<|V.length<=cp/\cp<=9223372036854775807:=⟨h1,h2⟩;have ar:=hid h3;have aw:=hid h4;go_wp2;go_ret2;exact⟨⟨ao,cp,rfl,ap,ar,O⟩,aw⟩
theorem lh{G:Nat}(O:m.size<=1000)(Z:Ce w G 3<|.string m):Tt w (λl=>Io l m) (λl=>IF l m)<|.func (.func 133) #[] #[pO G 0]:=by
 refine⟨_,_,rfl,λargs w=>by kernel_rfl,λW a l cap ab aw ad I ak=>?_⟩;dsimp only;have az:=Aj ab Z;have H:=hid<|gP a cap l m W oM I.1 I.2 ad O ak;have J:Hid<|(Io l m).length<=255/\F8 (Io l m):=kl;generalize Io l m=V at H J⊢;generalize IF l m=F at H⊢;show Calls prog 133 #[.slice a l.length cap,pO G 0] W _;go_enter func133,ntmps133;go_wp2_with fail
 go_call H as e w2 ⟨⟨ao,cp,rfl,h1,h2,h3⟩,h4⟩
 have al:Hid<|V.length<=cp/\cp<=9223372036854775807:=⟨h1,h2⟩;have ap:=hid h3;have ar:=hid h4;go_wp2;go_ret2;exact⟨⟨ao,cp,rfl,al,ap,J⟩,ar⟩
theorem AC.set5b{k m u g:Int}{o:Bool}{rL:List Kv}{d:BA}{ks:Ay}{h:Hd}(G:AC w b (.mk k m u g o rL d ks) h)(aa:Option Addr)(l:List Kv)(ca:Nat):AC (w.setCell (aD b 5)<|.slice aa l.length ca) b (.mk k m u g o l d ks) ⟨aa,ca,h.ak,h.ck⟩:=by
 obtain⟨⟨H,I,J,O,Z,ab,ad,ak⟩,al⟩:=G;exact⟨⟨(Bt oM).trans H,(Bt oM).trans I,(Bt oM).trans J,(Bt oM).trans O,(Bt oM).trans Z,N2 _ _ _ ab,(Bt oM).trans ad,(Bt oM).trans ak⟩,λj=>by rw[Kn];exact al j⟩
theorem i6{c:AR}{k m u g:Int}{o:Bool}{rL:List Kv}{d:BA}{ks:Ay}{h:Hd}{cap:Nat}(G:Am c (.mk k m u g o rL d ks) h)(H:Bg c a l)(I:l.length<=cap/\cap<=9223372036854775807):Am c (.mk k m u g o l d ks) ⟨a,cap,h.ak,h.ck⟩:=Cs.2 ⟨H,I,(Cs.1 G).2.2⟩
theorem aQ{I:Nat}{H:Option Addr}{cp:Nat}(c0:Ce w I 0<|.slice H L.length cp)(al:Bg w.cell? H L)(ao:L.length<=cp/\cp<=9223372036854775807)(O:L.length<=255/\F8 L):
 LU w (Nd.otA L) (.func (.func 185) #[] #[pO I 0]):=by
 refine⟨_,_,rfl,λargs w=>by kernel_rfl,λW G x Z ab a1 J ap ar ad aw=>?_⟩;have a6:=Aj ab c0;obtain⟨k,m,u,g,o,rL,d,ks⟩:=x;obtain⟨⟨n0,a7,a8,ba,bb,bd,be,bf⟩,az⟩:=id J;have bg:=az 5;have ak:Az G W<|W.setCell (aD G 5)<|.slice H L.length cp:=(Az.refl G W).setCell 5 none _;have aA:Hid (∃h',AC (W.setCell (aD G 5)<|.slice H L.length cp) G (.mk k m u g o L d ks) h'/\Am (W.setCell (aD G 5)<|.slice H L.length cp).cell? (.mk k m u g o L d ks) h'/\(AI (.mk k m u g o L d ks)/\A0 (.mk k m u g o L d ks)/\cnt (.mk k m u g o L d ks)<=cnt (.mk k m u g o rL d ks))/\Az G W (W.setCell (aD G 5)<|.slice H L.length cp)):=⟨⟨H,cp,Z.ak,Z.ck⟩,J.set5b H L cp,Ns ak J.1 ap<|i6 ar (al.on<|Ai ab) ao,⟨by rw[AI]at ad⊢;exact⟨⟨O.1,O.2⟩,ad.2⟩,Rl aw,OC⟩,ak⟩;show Calls prog 185 #[pO G 0,pO I 0] W _;go_enter func185,ntmps185;go_wp2;go_end0
 exact⟨⟨_,rfl⟩,aA⟩
noncomputable def Bk.desS (c:Bk) (x0:Nd) (rM:List Nd) (cop:Int) (p H dat:BA) (I:List Kv->List Kv) (G:List Kv->Int):Int×Nd:=match c.deP cop p H dat 2 with
 |.error E=>(E,x0)
 |.ok f=>if G f.2.2.2.1.atl=0 then Hm c.us c.gs x0 rM (Bo p.data.toList) (Nd.otA<|I f.2.2.2.1.atl)else(G f.2.2.2.1.atl,x0)
theorem Uc(h:A6 w b B)(bl:BN B x0 rM)(bn:Int)(bF:Ce w (1) 0<|iN bn)(bG:cname.size<=1000){J:List Kv->List Kv}{H:List Kv->Int}{fv:Value}(bH:Tt w J H fv):
 Calls prog 130 #[pO b 0,Fr cop cpath coth cname cdata cA cB,fv] w λe w'=>e=.returned (Ao (fin B.q x0<|B.cor.desS x0 rM cop cpath cname cdata J H).1)/\De w w' b B rM (fin B.q x0<|B.cor.desS x0 rM cop cpath cname cdata J H).2 B.crd:=by
 obtain⟨S,G⟩:=Aq<|B.cor.desS x0 rM cop cpath cname cdata J H;rw[G.out];obtain⟨⟨bY,b0⟩,ar⟩:∃R,Hid<|fin B.q x0 S=R:=⟨_,rfl⟩;rw[ar.out];unfold Bk.desS at G;obtain⟨gf,lb,rfl,c3,b1⟩:=bH;have bo:Hid _:=b1;have aw:Bw w<|w.alloc<|AY cop cpath coth cname cdata cA cB:=(NB _ _).alloc (rP _) _;have az:=hid aw;have p0:Ce (w.alloc<|AY cop cpath coth cname cdata cA cB) w.heap.size 0<|iN cop:=rO _ _ _ _ rfl;have p1:Ce (w.alloc<|AY cop cpath coth cname cdata cA cB) w.heap.size 1<|.string cpath:=rO _ _ _ _ rfl;have p2:Ce (w.alloc<|AY cop cpath coth cname cdata cA cB) w.heap.size 2<|.string coth:=rO _ _ _ _ rfl;have p3:Ce (w.alloc<|AY cop cpath coth cname cdata cA cB) w.heap.size 3<|.string cname:=rO _ _ _ _ rfl;have c4:Ce (w.alloc<|AY cop cpath coth cname cdata cA cB) w.heap.size 4<|.string cdata:=rO _ _ _ _ rfl;have c5:Ce (w.alloc<|AY cop cpath coth cname cdata cA cB) w.heap.size 5<|iN cA:=rO _ _ _ _ rfl;have c6:Ce (w.alloc<|AY cop cpath coth cname cdata cA cB) w.heap.size 6<|iN cB:=rO _ _ _ _ rfl;have b2:Hid (Calls prog 122 #[pO b 0,Fr cop cpath coth cname cdata cA cB,iN 2] (w.alloc<|AY cop cpath coth cname cdata cA cB) λe w'=>Dr B w' cpath true (B.cor.deP cop cpath cname cdata 2) e/\Bw (w.alloc<|AY cop cpath coth cname cdata cA cB) w'):=Ud (h.below aw) bl 2 bn (Aj aw bF) bG;have bp:=hid h;have aA:=hid bl;have bq:=hid<|De.stay bp aA;have bs:Hid (∀E,E≠0->S=(E,x0)->bY=E/\b0=x0):=λE O e=>Jw O<|e▸ar;go_enter func130,ntmps130
 go_wp2_with fail
 generalize(w.alloc<|AY cop cpath coth cname cdata cA cB)=c8 at*;go_call b2 as e w2 ⟨hA,q2⟩
 obtain⟨cs,E,rfl,bu,b4,b6,b7⟩:=hA;obtain⟨a1,c9,a6,a7,b9⟩:=JP w2 cs bu b4;have ce:=Cn cs;unfold Value.cells at ce;have da:=hid bu;have cf:=hid<|q2.trans<|a7.out.mono q2.size;have ad:=hid<|az.trans<|cf.mono az.size;have ch:Hid _:=b6;have cl:Hid _:=b7;have dd:=hid<|Rz az.size q2.size;by_cases O:E=0
 .subst O
  obtain⟨f,a8,bx,ak,ba,bb,al,bd,bA⟩:=ch rfl;rw[bA]at G;have Z:=I1 bx;rw[<-ak]at Z;obtain⟨t,dir,na,nc,ry,de,⟨dg,dj,dk,dm,dn,I,dp,xs⟩,ap,ly⟩:=f;dsimp only at ak ba bb al bd Z;rw[<-ak]at G;replace G:Hid<|(if H I=0 then Hm B.M.us B.M.gs x0 rM ry (Nd.otA<|J I)else(H I,x0))=S:=G.out;have co:Ce a1 w2.heap.size 10<|.slice na ry.length nc:=a6 10 _ (by rw[a8];rfl);have dr:Ce a1 w2.heap.size 17<|.slice ap.aa I.length ap.ca:=a6 17 _ (by rw[a8];rfl);have cr:=hid<|ba.on<|Ai a7.out;have bB:Hid<|(∀s∈ry,Bf s=true)/\ry.length<=6:=⟨Z.1,Z.2.1⟩;have cx:=hid bb;have be:=Y1 aA al<|bd rfl;have bf:=al.nd.on<|Ai a7.out;have bg:=hid<|bo a1 ap.aa I ap.ca ad be.1 be.2 (Cs.1 bf).2.1 (Cs.1 bf).1;generalize J I=L at bg G;generalize H I=F at bg G;rw[show Ao 0=Value.nilIface from rfl];clear a8 bx ak ba bb al bd bA Z b9 a6 bo be bf;go_wp2_with fail
  go_call bg as e w9 ⟨⟨ao,cp,rfl,hcp,hkv,hlo⟩,q9⟩
  have ds:Ce (w9.alloc<|.cells #[.slice ao L.length cp] 28) w2.heap.size 10<|.slice na ry.length nc:=Bz<|Aj q9 co;have bi:Bw w9<|w9.alloc<|.cells #[.slice ao L.length cp] 28:=(NB _ _).alloc (rP _) _;have bk:=hid<|ad.trans<|(q9.trans<|bi.mono q9.size).mono ad.size;have cD:=hid<|(cr.on<|Ai q9).on<|Ai bi;have bC:=hid<|OE (bp.below bk) aA cD bB.1 (by have:=bB.out.2;omega) cx rfl (aQ (rO _ _ _ _ rfl) (hkv.on<|Ai bi) hcp hlo);by_cases hF:F=0
  .subst hF
   rw[NS rfl]at G;rw[G.out,ar.out]at bC;rw[show Ao 0=Value.nilIface from rfl];go_wp2_with fail
   go_call bC as e wH ⟨rfl,hT⟩
   have cF:=hid<|hT.up bk;go_wp2;go_ret;exact⟨rfl,cF⟩
  .have ab:=AP (n:=F) rfl hF
   rw[ab];go_wp2;go_ret;obtain⟨rfl,rfl⟩:=bs F hF (by rw[<-G.out,NO hF]);exact⟨by rw[ab];rfl,bq _ bk⟩
 .have ab:=AP (n:=E) rfl O
  rw[ab];go_wp2;go_ret;obtain⟨rfl,rfl⟩:=bs E O (by rw[<-G.out,cl.out O]);exact⟨by rw[ab];rfl,bq _ ad⟩
noncomputable def Bk.actE (c:Bk) (q:Int) (x0:Nd) (rM:List Nd) (cop cA cB:Int) (p o n d:BA):Int:=if cop=4 then(fin q x0<|c.wriS x0 rM cA p d).1 else if cop=5 then(fin q x0<|c.makS x0 rM cA p).1 else if cop=6 then(fin q x0<|c.gonS x0 rM p).1 else if cop=7 then(fin q x0<|c.mvS x0 rM p o).1 else if cop=8 then(fin q x0<|c.modeS x0 rM cA p).1 else if cop=9 then(fin q x0<|c.givS x0 rM cA cB p).1 else if cop=10 then(fin q x0<|c.desS x0 rM 10 p n d (λl=>Ij l n d) λl=>JA l n d).1 else if cop=11 then(fin q x0<|c.desS x0 rM 11 p n d (λl=>Io l n) λl=>IF l n).1 else if cop=13 then(c.beS cA cB).1 else 3
theorem lB(h:A6 w b B)(ad:BN B x0 rM)(G:Int)(al:Ce w (1) 0<|iN G)(O:cname.size<=1000):
 Calls prog 86 #[pO b 0,Fr cop cpath coth cname cdata cA cB] w λe w'=>e=.returned (Ao<|B.cor.actE B.q x0 rM cop cA cB cpath coth cname cdata)/\∃V C,De w w' b B rM V C:=by
 have Z:Bw w<|w.alloc<|AY cop cpath coth cname cdata cA cB:=(NB _ _).alloc (rP _) _;have ak:=hid Z;have H:=hid<|h.below Z;have J:=hid<|Aj Z al;have ab:Hid<|Ce (w.alloc<|AY cop cpath coth cname cdata cA cB) w.heap.size 3 (.string cname)/\Ce (w.alloc<|AY cop cpath coth cname cdata cA cB) w.heap.size 4 (.string cdata):=⟨rO _ _ _ _ rfl,rO _ _ _ _ rfl⟩;have I:=hid ad;have ao:=hid<|De.stay h ad;go_enter func86,ntmps86;by_cases ap:cop=4\/cop=5\/cop=6\/cop=7\/cop=8\/cop=9\/cop=10\/cop=11\/cop=13
 .rcases ap with rfl|rfl|rfl|rfl|rfl|rfl|rfl|rfl|rfl
  all_goals
   go_wp2_with fail
   first|(refine rQ (dY H.out I.out G J.out) ?_)|(refine rQ (aY H.out I.out G J.out) ?_)|(refine rQ (br H.out I.out G J.out) ?_)|(refine rQ (eS H.out I.out G J.out) ?_)|(refine rQ (ic H.out I.out G J.out) ?_)|(refine rQ (fC H.out I.out G J.out) ?_)|(refine rQ (Uc H.out I.out G J.out O<|kK O ab.out.1 ab.out.2) ?_)|(refine rQ (Uc H.out I.out G J.out O<|lh O ab.out.1) ?_)|(refine rQ (bK H.out I.out) ?_)
   rintro e aA ⟨rfl,ar⟩;have aw:=hid<|ar.up ak;go_wp2;go_ret;exact⟨rfl,_,_,aw⟩
 .obtain⟨a1,a6,a7,a8,ba,bb,bd,be,bf⟩:(cop==4)=false/\(cop==5)=false/\(cop==6)=false/\(cop==7)=false/\(cop==8)=false/\(cop==9)=false/\(cop==10)=false/\(cop==11)=false/\(cop==13)=false:=by simp only[beq_eq_false_iff_ne,ne_eq];omega
  have az:Hid<|B.cor.actE B.q x0 rM cop cA cB cpath coth cname cdata=3:=by
   show _=_;unfold Bk.actE;rw[NO oM,NO oM,NO oM,NO oM,NO oM,NO oM,NO oM,NO oM,NO oM]
  go_wp2;go_ret;exact⟨by rw[az.out];rfl,_,_,ao _ ak⟩
theorem bE{i:Nat}{v:Value}(h:w.cell? ⟨b,i,none⟩=some v):w.setCell ⟨b,i,none⟩ v=w:=by
 have e:w.heap.modify b (λ
  |.cells c G H=>.cells (if((aD b i):Addr).spot.isSome then c else c.setIfInBounds i v) G H
  |o=>o)=w.heap:=by
  apply Array.ext
  .simp
  .intro j ak J
   rw[Array.getElem_modify];by_cases I:b=j
   .subst I
    rw[NS rfl];unfold World.cell? at h;have O:=Array.getElem?_eq_getElem J;simp only[O]at h;cases hx:w.heap[b]with
    |cells c G H=>
     rw[hx]at h;have h:c[i]? =some v:=h;have Z:c.setIfInBounds i v=c:=by
      apply Array.ext
      .simp
      .intro k ab ad
       rw[Array.getElem_setIfInBounds (by simpa using ab)];split
       .rename_i hk
        subst hk;rw[Array.getElem?_eq_getElem ad]at h;exact(Option.some.inj h).symm
       .rfl
     show Obj.cells (c.setIfInBounds i v) G H=_;rw[Z]
    |_=>rfl
   .rw[NO I]
 unfold World.setCell;obtain⟨heap,al,ao,os,ap⟩:=w;grind
theorem kA(h:F6 w r):((((((w.setCell (aD r 0)<|iN 0).setCell (aD r 1)<|iN 0).setCell (aD r 2)<|iN 0).setCell (aD r 3)<|iN 0).setCell (aD r 4)<|iN 0).setCell (aD r 5)<|nL).setCell (aD r 6) (.string ⟨#[]⟩)=w:=by
 obtain⟨⟨G,H,I,J,O,Z,ab⟩,_⟩:=h;grind [bE]
theorem F6.but(h:F6 w r)(hb:Az b w w')(G:r≠b):F6 w' r:=by
 obtain⟨⟨H,I,J,O,Z,ab,ad⟩,ak⟩:=id h;exact⟨⟨(hb.cell (p:=(aD r 0)) h.lt G).trans H,(hb.cell (p:=(aD r 1)) h.lt G).trans I,(hb.cell (p:=(aD r 2)) h.lt G).trans J,(hb.cell (p:=(aD r 3)) h.lt G).trans O,(hb.cell (p:=(aD r 4)) h.lt G).trans Z,(hb.cell (p:=(aD r 5)) h.lt G).trans ab,(hb.cell (p:=(aD r 6)) h.lt G).trans ad⟩,λj=>(hb.frozen (p:=(aD r j)) h.lt G).trans<|ak j⟩
noncomputable def Bk.doE (c:Bk) (q:Int) (x0:Nd) (rM:List Nd) (cop cA cB:Int) (p o n d:BA):Int:=if cop=1 then Hr (c.atP true p)else if cop=2 then Hr (c.opP p true)else if cop=3 then Hr (c.opP p false)else if cop=12 then NI (c.deP cop p n d 4) n else if cop=14 then 0 else c.actE q x0 rM cop cA cB p o n d
theorem nA(h:A6 w b B)(ak:BN B x0 rM)(O:Int)(b0:Ce w (1) 0<|iN O)(be:cname.size<=1000):
 Calls prog 44 #[pO b 0,Fr cop cpath coth cname cdata cA cB] w λe w'=>Ja (B.cor.doE B.q x0 rM cop cA cB cpath coth cname cdata) e/\∃V C,De w w' b B rM V C:=by
 obtain⟨E,ab⟩:=Aq<|B.cor.doE B.q x0 rM cop cA cB cpath coth cname cdata;rw[ab.out];obtain⟨bf,b1,H,al,p0,p1,p2,p3,ce,cf,ch⟩:=Mh w cop cpath coth cname cdata cA cB;have I:=hid<|h.below H;have Z:=hid<|Aj H b0;have bg:Hid (Calls prog 85 #[pO b 0] bf λe w'=>(∃h',e=.returned (At x0 h')/\Am w'.cell? x0 h')/\Bw bf w'):=by
  have bi:=I.out.cells.2.2.1;have bk:=I.out.lay;rw[ak.xs]at bi bk;go_call IU bi bk as e w'' ⟨⟨h',e1,_,e2⟩,e3⟩
  exact⟨⟨h',e1,e2⟩,e3⟩
 have G:=hid ak;have bl:=hid<|De.stay h ak;have cl:=h.lt;go_enter func44,ntmps44;go_upto_region 1 with fail
 rw[b1.out];by_cases b2:cop=1\/cop=2\/cop=3\/cop=12
 .clear bg
  rcases b2 with rfl|rfl|rfl|rfl
  all_goals
   go_wp2_with fail
   first|(refine rQ (fi I.out G.out O Z.out) ?_)|(refine rQ (fu I.out G.out O Z.out) ?_)|(refine rQ (fw I.out G.out O Z.out) ?_)|(refine rQ (iS I.out G.out O Z.out be) ?_)
   rintro e bn ⟨ad,q2⟩;obtain⟨k,m,u,g,n,a,l,c,d,rfl⟩:=ad.cast ab;obtain⟨b4,ao,ap,⟨t0,ar,aw,t3,t4,t5,az⟩,⟨bo,bp,bq,bs,bu,bx,bA⟩,aA,a1,a6,a7,a8,ba,bb⟩:=GV (al.below q2) (H.trans<|q2.mono H.size) (tN _) (iN k) (iN m) (iN u) (iN g) (iN n) (.slice a l c)<|.string d;go_wp2;rw[ao.out];exact NZ (v:=.tuple #[.agg #[iN k,iN m,iN u,iN g,iN n,.slice a l c,.string d],Ao E]) (by simp[results,results44,go_sem,aA,a1,a6,a7,a8,ba,bb]) rfl ⟨Gs _ _ _ _ _ _ _ _ _ rfl rfl,_,_,bl _ ap⟩
 .obtain⟨co,cr,cx,cD⟩:(cop==1)=false/\(cop==2)=false/\(cop==3)=false/\(cop==12)=false:=by simp only[beq_eq_false_iff_ne,ne_eq];omega
  by_cases bB:cop=14
  .subst bB
   obtain rfl:0=E:=ab.out;obtain⟨bC,b6⟩:∃n,Hid<|EP x0=n:=⟨_,rfl⟩;go_wp2_with fail
   go_call bg as e w3 ⟨⟨h3,rfl,n3⟩,q3⟩
   have bF:=hid<|Oh n3 G.fine.lil (by have:=G.out.fine.cnt;omega) (by have:=LI x0 G.fine.lil;have:=G.out.fine.cnt;omega);rw[b6.out]at bF;go_wp2_with fail
   go_call bF as e bn ⟨rfl,q2⟩
   have bG:=H.out.trans<|q3.mono H.size;obtain⟨b4,ao,ap,⟨t0,ar,aw,t3,t4,t5,az⟩,⟨bo,bp,bq,bs,bu,bx,bA⟩,aA,a1,a6,a7,a8,ba,bb⟩:=GV ((al.below q3).below q2) (bG.trans<|q2.mono bG.size) (tN _) (iN 0) (iN 0) (iN 0) (iN 0) (iN bC) (nL)<|.string ⟨#[]⟩;go_wp2;rw[ao.out];exact NZ (v:=.tuple #[.agg #[iN 0,iN 0,iN 0,iN 0,iN bC,nL,.string ⟨#[]⟩],.nilIface]) (by simp[results,results44,go_sem,aA,a1,a6,a7,a8,ba,bb]) rfl ⟨Gs _ _ _ _ _ _ _ _ _ rfl rfl,_,_,bl _ ap⟩
  .have cF:(cop==14)=false:=by simpa using bB
   have bd:=ab.out;unfold Bk.doE at bd;rw[NO oM,NO oM,NO oM,NO oM,NO oM]at bd;have bH:=hid<|lB (cop:=cop) (cA:=cA) (cB:=cB) (cpath:=cpath) (coth:=coth) (cname:=cname) (cdata:=cdata) I G O Z.out be;rw[bd]at bH;go_wp2_with fail
   go_call bH as e bn ⟨rfl,V,C,ad⟩
   have bY:=hid<|al.but ad.1 oM;have b7:=hid<|ad.up H;have b9:=hid<|kA bY;obtain⟨⟨t0,ar,aw,t3,t4,t5,az⟩,J⟩:=id bY;have bo:=J 0;have bp:=J 1;have bq:=J 2;have bs:=J 3;have bu:=J 4;have bx:=J 5;have bA:=J 6;go_wp2;rw[b9.out];exact NZ (v:=.tuple #[.agg #[iN 0,iN 0,iN 0,iN 0,iN 0,nL,.string ⟨#[]⟩],Ao E]) (by simp[results,results44,go_sem,t0,ar,aw,t3,t4,t5,az]) rfl ⟨Gs _ _ _ _ _ _ _ _ _ rfl rfl,_,_,b7⟩
def QD(w w':World)(n:Nat)(I:List Value)(e:Ending):Prop:=(∃G H,e=.returned (.slice G n H)/\(n<=H/\H<=9223372036854775807)/\(n=0\/∃g,G=some (aD g 0)/\w.heap.size<=g/\∀j u,I[j]? =some u->w'.cell? (aD g j)=some u)/\∀p,G=some p->p.block<w'.heap.size)/\Bw w w'
theorem Tryz.infoRg:(prog.info? 181).map (λi=>(i.zero,i.size,i.bytes))=some (some<|.agg #[iN 0,iN 0,iN 0],3,24):=by kernel_rfl
theorem dI(a:Option Addr)(n cap:Nat)(G:List Value)(az:G.length=n*3)(bs:n<=1000)(aA:(a=none/\n=0)\/∃H,a=some H/\∀j u,G[j]? =some u->w.cell? (H.add j)=some u)(a1:∀u∈G,u.oneCell'=true):
 Calls prog 90 #[.slice a n cap] w λe w'=>QD w w' n G e:=by
 obtain⟨a6,a7,a8,ba,bb⟩:=EL Tryz.infoRg;have ad:Bw w<|w.alloc<|.cells #[] 181:=(NB _ _).alloc (rP _) _;have bd:(w.alloc<|.cells #[] 181).ownsRow w.heap.size 181 3 (sL w.heap.size 0 0 0) 0 []:=⟨rfl,.inr ⟨w.heap.size,0,#[],rfl,rP _,by unfold World.alloc;simp,rP _,N7 _,rfl,rfl⟩⟩;rcases aA with⟨rfl,rfl⟩|⟨H,rfl,be⟩
 .have bf:=λ(W:World) (n c:Nat)=>tt (P:=prog) W 36 181 none n c 0 0 underlying36
  go_enter func90,ntmps90;go_wp2;go_ret;exact⟨⟨none,0,rfl,⟨rP _,by omega⟩,.inl rfl,λp I=>by cases I⟩,NB _ _⟩
 .have bf:=λ(W:World) (n c:Nat)=>tt (P:=prog) W 36 181 (some H) n c 0 0 underlying36
  have bg:∀j u,G[j]? =some u->(w.alloc<|.cells #[] 181).cell? (H.add j)=some u:=λj u J=>Aj ad<|be j u J;have O:=hid ad
  go_enter func90,ntmps90;go_wp2_with (at_builtin;refine DP (w.alloc<|.cells #[] 181) rfl (.tmp 5) (.tmp 6) 36 rfl w.heap.size 181 a6 (.agg #[iN 0,iN 0,iN 0]) 3 24 underlying36 a7 a8 ba bb rfl oD (sL w.heap.size 0 0 0) 0 [] rfl bd (some H) n cap G rfl az (.inr ⟨H,rfl,bg⟩) a1 (by unfold maxLen;omega) oM (by have:=O.out.size;omega) ?_)
  intro bu w' bi bk bx;obtain⟨ak,al,rfl,bl,ao,ap⟩:=Jm bi;have bn:Hid<|QD w w' n G<|.returned<|.slice ak n al:=by
   unfold maxLen at ao;have bo:Bw w w':=O.grown bk O.size (λk e=>by cases e;exact rP _);refine⟨⟨ak,al,rfl,⟨bl,ao⟩,?_,λp I=>?_⟩,bo⟩
   .rcases ap with⟨_,Z,_,_⟩|⟨g,bp,rfl,ar,ab,bq,aw⟩
    .exact .inl Z
    .exact .inr ⟨g,rfl,ar,λj u J=>Iu ab aw (by simpa using J)⟩
   .rcases ap with⟨Z,_⟩|⟨g,bp,rfl,ar,ab,bq,aw⟩
    .rw[Z]at I;cases I
    .cases I
     exact(N3.1 ab).1
  go_wp2;go_ret;exact bn
theorem Tryz.infoI:(prog.info? 3).map (λi=>(i.zero,i.size,i.bytes))=some (some<|iN 0,1,8):=by kernel_rfl
theorem dq(a:Option Addr)(n cap:Nat)(G:List Value)(az:G.length=n*1)(bs:n<=1000)(aA:(a=none/\n=0)\/∃H,a=some H/\∀j u,G[j]? =some u->w.cell? (H.add j)=some u)(a1:∀u∈G,u.oneCell'=true):
 Calls prog 53 #[.slice a n cap] w λe w'=>QD w w' n G e:=by
 obtain⟨a6,a7,a8,ba,bb⟩:=EL Tryz.infoI;have ad:Bw w<|w.alloc<|.cells #[] 3:=(NB _ _).alloc (rP _) _;have bd:(w.alloc<|.cells #[] 3).ownsRow w.heap.size 3 1 (sL w.heap.size 0 0 0) 0 []:=⟨rfl,.inr ⟨w.heap.size,0,#[],rfl,rP _,by unfold World.alloc;simp,rP _,N7 _,rfl,rfl⟩⟩;rcases aA with⟨rfl,rfl⟩|⟨H,rfl,be⟩
 .have bf:=λ(W:World) (n c:Nat)=>tt (P:=prog) W 39 3 none n c 0 0 underlying39
  go_enter func53,ntmps53;go_wp2;go_ret;exact⟨⟨none,0,rfl,⟨rP _,by omega⟩,.inl rfl,λp I=>by cases I⟩,NB _ _⟩
 .have bf:=λ(W:World) (n c:Nat)=>tt (P:=prog) W 39 3 (some H) n c 0 0 underlying39
  have bg:∀j u,G[j]? =some u->(w.alloc<|.cells #[] 3).cell? (H.add j)=some u:=λj u J=>Aj ad<|be j u J;have O:=hid ad
  go_enter func53,ntmps53;go_wp2_with (at_builtin;refine DP (w.alloc<|.cells #[] 3) rfl (.tmp 5) (.tmp 6) 39 rfl w.heap.size 3 a6 (iN 0) 1 8 underlying39 a7 a8 ba bb rfl oD (sL w.heap.size 0 0 0) 0 [] rfl bd (some H) n cap G rfl az (.inr ⟨H,rfl,bg⟩) a1 (by unfold maxLen;omega) oM (by have:=O.out.size;omega) ?_)
  intro bu w' bi bk bx;obtain⟨ak,al,rfl,bl,ao,ap⟩:=Jm bi;have bn:Hid<|QD w w' n G<|.returned<|.slice ak n al:=by
   unfold maxLen at ao;have bo:Bw w w':=O.grown bk O.size (λk e=>by cases e;exact rP _);refine⟨⟨ak,al,rfl,⟨bl,ao⟩,?_,λp I=>?_⟩,bo⟩
   .rcases ap with⟨_,Z,_,_⟩|⟨g,bp,rfl,ar,ab,bq,aw⟩
    .exact .inl Z
    .exact .inr ⟨g,rfl,ar,λj u J=>Iu ab aw (by simpa using J)⟩
   .rcases ap with⟨Z,_⟩|⟨g,bp,rfl,ar,ab,bq,aw⟩
    .rw[Z]at I;cases I
    .cases I
     exact(N3.1 ab).1
  go_wp2;go_ret;exact bn
def Fh:List Rg->List Value
 |[]=>[]
 |r::l=>iN r.i::iN r.o::iN r.n::Fh l
theorem XJ:∀rs:List Rg,(Fh rs).length=rs.length*3
 |[]=>rfl
 |r::l=>by rw[Fh,R5,R5,R5,R5,XJ l];omega
theorem Yy:∀rs:List Rg,∀u∈Fh rs,u.oneCell'=true
 |[],u,h=>by cases h
 |r::l,u,h=>by
  rw[Fh]at h;simp only[R1]at h;rcases h with rfl|rfl|rfl|h
  .rfl
  .rfl
  .rfl
  .exact Yy l u h
theorem YL:∀{rs:List Rg} {j:Nat} {u:Value},(Fh rs)[j]? =some u->∃k r,rs[k]? =some r/\((j=k*3/\u=iN r.i)\/(j=k*3+1/\u=iN r.o)\/(j=k*3+2/\u=iN r.n))
 |[],j,u,h=>by simp[Fh]at h
 |r::l,0,u,h=>⟨0,r,rfl,.inl ⟨rfl,by simp[Fh]at h;exact h.symm⟩⟩
 |r::l,1,u,h=>⟨0,r,rfl,.inr<|.inl ⟨rfl,by simp[Fh]at h;exact h.symm⟩⟩
 |r::l,2,u,h=>⟨0,r,rfl,.inr<|.inr ⟨rfl,by simp[Fh]at h;exact h.symm⟩⟩
 |r::l,j+3,u,h=>by
  have h:(Fh l)[j]? =some u:=by simpa [Fh]using h
  obtain⟨k,I,J,O⟩:=YL h;refine⟨k+1,I,by simpa using J,?_⟩;rcases O with⟨H,G⟩|⟨H,G⟩|⟨H,G⟩
  .exact .inl ⟨by omega,G⟩
  .exact .inr<|.inl ⟨by omega,G⟩
  .exact .inr<|.inr ⟨by omega,G⟩
theorem YI:∀{rs:List Rg} {k:Nat} {r:Rg},rs[k]? =some r->(Fh rs)[k*3]? =some (iN r.i)/\(Fh rs)[k*3+1]? =some (iN r.o)/\(Fh rs)[k*3+2]? =some (iN r.n)
 |[],k,r,h=>by simp at h
 |q::l,0,r,h=>by
  have:q=r:=by simpa using h
  subst this;exact⟨rfl,rfl,rfl⟩
 |q::l,k+1,r,h=>by
  obtain⟨a,b,c⟩:=YI (rs:=l) (k:=k) (r:=r) (by simpa using h);rw[show(k+1)*3=k*3+3 by omega];exact⟨by simpa [Fh]using a,by simpa [Fh]using b,by simpa [Fh]using c⟩
def Fs(n:Nat)(G:Option Addr)(us:List Rg)(c:Nat)(w:World):Prop:=(us.length<=c/\c<=9223372036854775807)/\Rgs w G us/\(∀p,G=some p->p.block<w.heap.size)/\∀p,G=some p->us≠[]->n<=p.block
theorem Fs.below{c:Nat}(h:Fs n G us c w)(hb:Bw w w'):Fs n G us c w':=⟨h.1,h.2.1.below hb,λp H=>N1 (h.2.2.1 p H) hb.size,h.2.2.2⟩
theorem Fs.le{m:Nat}{c:Nat}(h:Fs n G us c w)(H:m<=n):Fs m G us c w:=⟨h.1,h.2.1,h.2.2.1,λp I J=>Rz H<|h.2.2.2 p I J⟩
theorem Uk(cap:Nat){rs:List Rg}(h:Rgs w a rs)(a6:rs.length<=100):
 Calls prog 90 #[.slice a rs.length cap] w λe w'=>(∃G H,e=.returned (.slice G rs.length H)/\(rs.length<=H/\H<=9223372036854775807)/\Rgs w' G rs/\(∀p,G=some p->p.block<w'.heap.size)/\∀p,G=some p->rs≠[]->w.heap.size<=p.block)/\Bw w w':=by
 refine rQ (dI a rs.length cap (Fh rs) (XJ rs) oM ?_<|Yy rs) ?_
 .rcases h with rfl|⟨b,a7,rfl,I⟩
  .cases a with
   |none=>exact .inl ⟨rfl,rfl⟩
   |some ad=>exact .inr ⟨ad,rfl,λj u J=>by simp[Fh]at J⟩
  .refine .inr ⟨_,rfl,λj u J=>?_⟩
   rw[Ef];obtain⟨k,r,O,ak⟩:=YL J;obtain⟨al,g1,ao⟩:=I k r O;rcases ak with⟨rfl,rfl⟩|⟨rfl,rfl⟩|⟨rfl,rfl⟩
   .exact al
   .exact g1
   .exact ao
 .rintro e w' ⟨⟨G,H,rfl,ap,ab,ar⟩,hb⟩
  refine⟨⟨G,H,rfl,ap,?_,ar,λp aw az=>?_⟩,hb⟩;rotate_left
  .rcases ab with Z|⟨g,rfl,aA,_⟩
   .exact absurd (CI.1 Z) az
   .cases aw
    exact aA
  rcases ab with Z|⟨g,rfl,_,I⟩
  .exact .inl<|CI.1 Z
  .refine .inr ⟨g,0,rfl,λk r O=>?_⟩
   obtain⟨a1,a2,a3⟩:=YI O;rw[RT];exact⟨I _ _ a1,I _ _ a2,I _ _ a3⟩
theorem Uq(cap:Nat){zs:List Int}(h:AV w a zs)(aw:zs.length<=100):
 Calls prog 53 #[.slice a zs.length cap] w λe w'=>(∃G H,e=.returned (.slice G zs.length H)/\(zs.length<=H/\H<=9223372036854775807)/\(zs=[]\/∃g,G=some (aD g 0)/\w.heap.size<=g/\∀i,i<zs.length->Ce w' g i (iN<|zs.getD i 0))/\∀p,G=some p->p.block<w'.heap.size)/\Bw w w':=by
 refine rQ (dq a zs.length cap (zs.map<|Value.int .i64) oS oM ?_ (λu ad=>by obtain⟨z,_,rfl⟩:=CQ.1 ad;rfl)) ?_
 .rcases h with rfl|⟨b,az,rfl,J⟩
  .cases a with
   |none=>exact .inl ⟨rfl,rfl⟩
   |some ak=>exact .inr ⟨ak,rfl,λj u I=>by simp at I⟩
  .refine .inr ⟨_,rfl,λj u I=>?_⟩
   rw[Ef];rw[R6]at I;obtain⟨z,Z,rfl⟩:=R2.1 I;have O:=(NE.1 Z).1;rw[J j O];simp[List.getD,Z]
 .rintro e w' ⟨⟨G,H,rfl,al,ao,O⟩,hb⟩
  refine⟨⟨G,H,rfl,al,?_,O⟩,hb⟩;rcases ao with ap|⟨g,rfl,ar,J⟩
  .exact .inl<|CI.1 ap
  .refine .inr ⟨g,rfl,ar,λi ab=>J _ _ ?_⟩
   rw[R6,NA ab];simp[List.getD,NA ab]
theorem kV{cu cg ck:Int}{ca:Option Addr}{cc:Nat}{cs:List Int}(h:AV w ca cs)(bp:cs.length<=100):
 Calls prog 91 #[Fj cu cg ca cs.length cc ck] w λe w'=>(∃G O,e=.returned (Fj cu cg G cs.length O ck)/\(cs.length<=O/\O<=9223372036854775807)/\AV w' G cs/\∀p,G=some p->p.block<w'.heap.size/\(cs=[]\/w.heap.size<=p.block))/\Bw w w':=by
 have Z:(w.alloc<|ER cu cg ca cs.length cc ck).heap.size=w.heap.size+1:=ND _ _;have a6:Bw w<|w.alloc<|ER cu cg ca cs.length cc ck:=(NB _ _).alloc (rP _) _;have a7:Bw w<|(w.alloc<|ER cu cg ca cs.length cc ck).alloc<|EG:=a6.alloc a6.size _;have bq:Bw (w.alloc<|ER cu cg ca cs.length cc ck)<|(w.alloc<|ER cu cg ca cs.length cc ck).alloc<|EG:=(NB _ _).alloc (rP _) _;have c0:Ce ((w.alloc<|ER cu cg ca cs.length cc ck).alloc<|EG) w.heap.size 0<|iN cu:=Bz<|rO _ _ _ _ rfl;have c1:Ce ((w.alloc<|ER cu cg ca cs.length cc ck).alloc<|EG) w.heap.size 1<|iN cg:=Bz<|rO _ _ _ _ rfl;have c2:Ce ((w.alloc<|ER cu cg ca cs.length cc ck).alloc<|EG) w.heap.size 2<|.slice ca cs.length cc:=Bz<|rO _ _ _ _ rfl;have a8:Ce ((w.alloc<|ER cu cg ca cs.length cc ck).alloc<|EG) w.heap.size 3<|iN ck:=Bz<|rO _ _ _ _ rfl;have ad:Ce ((w.alloc<|ER cu cg ca cs.length cc ck).alloc<|EG) (w.heap.size+1) 0<|iN 0:=rO _ _ _ _ Z.symm;have ak:Ce ((w.alloc<|ER cu cg ca cs.length cc ck).alloc<|EG) (w.heap.size+1) 1<|iN 0:=rO _ _ _ _ Z.symm;have al:Ce ((w.alloc<|ER cu cg ca cs.length cc ck).alloc<|EG) (w.heap.size+1) 2<|nL:=rO _ _ _ _ Z.symm;have ao:Ce ((w.alloc<|ER cu cg ca cs.length cc ck).alloc<|EG) (w.heap.size+1) 3<|iN 0:=rO _ _ _ _ Z.symm;have f0:∀q,((w.alloc<|ER cu cg ca cs.length cc ck).alloc<|EG).frozen? ⟨w.heap.size,q,none⟩=false:=λq=>by
  rw[bq.frozen (p:=⟨w.heap.size,q,none⟩) (by show w.heap.size<_;omega)];exact RB _ _ _ _ rfl
 have f1:∀q,((w.alloc<|ER cu cg ca cs.length cc ck).alloc<|EG).frozen? ⟨w.heap.size+1,q,none⟩=false:=λq=>RB _ _ _ _ Z.symm;have ba:Hid (Calls prog 53 #[.slice ca cs.length cc] ((w.alloc<|ER cu cg ca cs.length cc ck).alloc<|EG) λe w'=>(∃G O,e=.returned (.slice G cs.length O)/\(cs.length<=O/\O<=9223372036854775807)/\(cs=[]\/∃g,G=some ⟨g,0,none⟩/\((w.alloc<|ER cu cg ca cs.length cc ck).alloc<|EG).heap.size<=g/\∀i,i<cs.length->Ce w' g i (iN<|cs.getD i 0))/\∀p,G=some p->p.block<w'.heap.size)/\Bw ((w.alloc<|ER cu cg ca cs.length cc ck).alloc<|EG) w'):=Uq cc (h.below a7) bp
 have bb:Hid<|((w.alloc<|ER cu cg ca cs.length cc ck).alloc<|EG).heap.size=w.heap.size+1+1:=by show _=_;rw[ND,Z]
 have bd:Hid<|Bw w<|(w.alloc<|ER cu cg ca cs.length cc ck).alloc<|EG:=a7;go_enter func91,ntmps91;go_upto_region 1 with fail
 generalize((w.alloc<|ER cu cg ca cs.length cc ck).alloc<|EG)=ap at*;go_wp2_with fail
 refine rQ ba ?_;rintro e J ⟨⟨G,H,rfl,be,ar,bf⟩,I⟩;have bs:=bb.out;have la:w.heap.size<ap.heap.size:=by omega
 have lb:w.heap.size+1<ap.heap.size:=by omega
 have c0:=Aj I c0;have c1:=Aj I c1;have c2:=Aj I c2;have a8:=Aj I a8;have ad:=Aj I ad;have ak:=Aj I ak;have al:=Aj I al;have ao:=Aj I ao;have bF:=(I.frozen (p:=⟨w.heap.size,2,none⟩) la).trans<|f0 2;have bG:=(I.frozen (p:=⟨w.heap.size+1,0,none⟩) lb).trans<|f1 0;have bH:=(I.frozen (p:=⟨w.heap.size+1,1,none⟩) lb).trans<|f1 1;have bY:=(I.frozen (p:=⟨w.heap.size+1,2,none⟩) lb).trans<|f1 2;have b0:=(I.frozen (p:=⟨w.heap.size+1,3,none⟩) lb).trans<|f1 3;have bu:Hid<|cs.length<=H/\H<=9223372036854775807:=be;have bg:∀g i,ap.heap.size<=g->(((((J.setCell ⟨w.heap.size,2,none⟩<|.slice G cs.length H).setCell ⟨w.heap.size+1,0,none⟩<|iN cu).setCell ⟨w.heap.size+1,1,none⟩<|iN cg).setCell ⟨w.heap.size+1,2,none⟩<|.slice G cs.length H).setCell ⟨w.heap.size+1,3,none⟩<|iN ck).cell? ⟨g,i,none⟩=J.cell? ⟨g,i,none⟩:=λg i aw=>by
  rw[BO (by show g≠w.heap.size+1;omega),BO (by show g≠w.heap.size+1;omega),BO (by show g≠w.heap.size+1;omega),BO (by show g≠w.heap.size+1;omega),BO (by show g≠w.heap.size;omega)]
 have ab:Hid (AV (((((J.setCell ⟨w.heap.size,2,none⟩<|.slice G cs.length H).setCell ⟨w.heap.size+1,0,none⟩<|iN cu).setCell ⟨w.heap.size+1,1,none⟩<|iN cg).setCell ⟨w.heap.size+1,2,none⟩<|.slice G cs.length H).setCell ⟨w.heap.size+1,3,none⟩<|iN ck) G cs/\(∀p,G=some p->p.block<(((((J.setCell ⟨w.heap.size,2,none⟩<|.slice G cs.length H).setCell ⟨w.heap.size+1,0,none⟩<|iN cu).setCell ⟨w.heap.size+1,1,none⟩<|iN cg).setCell ⟨w.heap.size+1,2,none⟩<|.slice G cs.length H).setCell ⟨w.heap.size+1,3,none⟩<|iN ck).heap.size/\(cs=[]\/w.heap.size<=p.block))/\Bw w (((((J.setCell ⟨w.heap.size,2,none⟩<|.slice G cs.length H).setCell ⟨w.heap.size+1,0,none⟩<|iN cu).setCell ⟨w.heap.size+1,1,none⟩<|iN cg).setCell ⟨w.heap.size+1,2,none⟩<|.slice G cs.length H).setCell ⟨w.heap.size+1,3,none⟩<|iN ck)):=by
  have bx:=bd.out.trans<|I.mono bd.size;refine⟨?_,λp az=>?_,?_⟩
  .rcases ar with e|⟨g,aA,aw,bA⟩
   .exact .inl e
   .refine .inr ⟨g,0,aA,λi bB=>?_⟩
    rw[RT,bg _ _ aw];exact bA i bB
  .refine⟨by have:=bf p az;simpa using this,?_⟩
   rcases ar with e|⟨g,aA,aw,_⟩
   .exact .inl e
   .rw[aA]at az;cases az;exact .inr (by show w.heap.size<=g;omega)
  .exact((((bx.setCell (p:=⟨w.heap.size,2,none⟩) (rP _) _).setCell (p:=⟨w.heap.size+1,0,none⟩) (tN _) _).setCell (p:=⟨w.heap.size+1,1,none⟩) (tN _) _).setCell (p:=⟨w.heap.size+1,2,none⟩) (tN _) _).setCell (p:=⟨w.heap.size+1,3,none⟩) (tN _) _
 have bi:(((((J.setCell ⟨w.heap.size,2,none⟩<|.slice G cs.length H).setCell ⟨w.heap.size+1,0,none⟩<|iN cu).setCell ⟨w.heap.size+1,1,none⟩<|iN cg).setCell ⟨w.heap.size+1,2,none⟩<|.slice G cs.length H).setCell ⟨w.heap.size+1,3,none⟩<|iN ck).cell? ⟨w.heap.size+1,0,none⟩=some (iN cu):=by
  rw[Bt oM,Bt oM,Bt oM];exact N2 _ _ _<|(BO (by show w.heap.size+1≠w.heap.size;omega)).trans ad
 have bk:(((((J.setCell ⟨w.heap.size,2,none⟩<|.slice G cs.length H).setCell ⟨w.heap.size+1,0,none⟩<|iN cu).setCell ⟨w.heap.size+1,1,none⟩<|iN cg).setCell ⟨w.heap.size+1,2,none⟩<|.slice G cs.length H).setCell ⟨w.heap.size+1,3,none⟩<|iN ck).cell? ⟨w.heap.size+1,1,none⟩=some (iN cg):=by
  rw[Bt oM,Bt oM];exact N2 _ _ _<|(Bt oM).trans<|(BO (by show w.heap.size+1≠w.heap.size;omega)).trans ak
 have bl:(((((J.setCell ⟨w.heap.size,2,none⟩<|.slice G cs.length H).setCell ⟨w.heap.size+1,0,none⟩<|iN cu).setCell ⟨w.heap.size+1,1,none⟩<|iN cg).setCell ⟨w.heap.size+1,2,none⟩<|.slice G cs.length H).setCell ⟨w.heap.size+1,3,none⟩<|iN ck).cell? ⟨w.heap.size+1,2,none⟩=some (.slice G cs.length H):=by
  rw[Bt oM];exact N2 _ _ _<|(Bt oM).trans<|(Bt oM).trans<|(BO (by show w.heap.size+1≠w.heap.size;omega)).trans al
 have bn:(((((J.setCell ⟨w.heap.size,2,none⟩<|.slice G cs.length H).setCell ⟨w.heap.size+1,0,none⟩<|iN cu).setCell ⟨w.heap.size+1,1,none⟩<|iN cg).setCell ⟨w.heap.size+1,2,none⟩<|.slice G cs.length H).setCell ⟨w.heap.size+1,3,none⟩<|iN ck).cell? ⟨w.heap.size+1,3,none⟩=some (iN ck):=N2 _ _ _<|(Bt oM).trans<|(Bt oM).trans<|(Bt oM).trans<|(BO (by show w.heap.size+1≠w.heap.size;omega)).trans ao;obtain⟨bo,a1⟩:∃bo,(((((J.setCell ⟨w.heap.size,2,none⟩<|.slice G cs.length H).setCell ⟨w.heap.size+1,0,none⟩<|iN cu).setCell ⟨w.heap.size+1,1,none⟩<|iN cg).setCell ⟨w.heap.size+1,2,none⟩<|.slice G cs.length H).setCell ⟨w.heap.size+1,3,none⟩<|iN ck)=bo:=⟨_,rfl⟩;rw[a1]at bi bk bl bn ab;have bC:Hid _:=a1;clear a1 bg ar bf I ba f0 f1 bs la lb be bb;go_wp2;rw[bC.out];refine NZ (v:=Fj cu cg G cs.length H ck) (by simp[results,results91,go_sem,bi,bk,bl,bn]) rfl ⟨⟨G,H,rfl,bu,ab.1,ab.2.1⟩,ab.2.2⟩
theorem kG{ua ga ca lwa:Option Addr}{uc gc cc lwn lwc:Nat}{gs:List Rg}{cs:List Int}{cu cg ck q:Int}(bg:Rgs w ua us)(bi:Rgs w ga gs)(bk:us.length<=100)(bl:gs.length<=100)(bn:us.length<=uc)(bo:gs.length<=gc)(bp:∀r∈us,r.ok)(bq:∀r∈gs,r.ok)(bs:AV w ca cs)(bu:cs.length<=8):
 Calls prog 138 #[.agg #[.slice ua us.length uc,.slice ga gs.length gc,iN cu,iN cg,.slice ca cs.length cc,iN ck,iN q,.slice lwa lwn lwc]] w λe w'=>(∃E,e=.returned (Ao E)/\(E=0->Eb us=0/\Eb gs=0/\DZ cu cg cs ck=0/\1<=q/\q<=64)/\(E≠0->¬(Eb us=0/\Eb gs=0/\DZ cu cg cs ck=0/\1<=q/\q<=64)))/\Bw w w':=by
 have ba:Bw w<|w.alloc<|CY ua ga ca lwa uc gc cc lwn lwc us gs cs cu cg ck q:=(NB _ _).alloc (rP _) _;have c0:Ce (w.alloc<|CY ua ga ca lwa uc gc cc lwn lwc us gs cs cu cg ck q) w.heap.size 0<|.slice ua us.length uc:=rO _ _ _ _ rfl;have c1:Ce (w.alloc<|CY ua ga ca lwa uc gc cc lwn lwc us gs cs cu cg ck q) w.heap.size 1<|.slice ga gs.length gc:=rO _ _ _ _ rfl;have c2:Ce (w.alloc<|CY ua ga ca lwa uc gc cc lwn lwc us gs cs cu cg ck q) w.heap.size 2<|iN cu:=rO _ _ _ _ rfl;have I:Ce (w.alloc<|CY ua ga ca lwa uc gc cc lwn lwc us gs cs cu cg ck q) w.heap.size 3<|iN cg:=rO _ _ _ _ rfl;have J:Ce (w.alloc<|CY ua ga ca lwa uc gc cc lwn lwc us gs cs cu cg ck q) w.heap.size 4<|.slice ca cs.length cc:=rO _ _ _ _ rfl;have O:Ce (w.alloc<|CY ua ga ca lwa uc gc cc lwn lwc us gs cs cu cg ck q) w.heap.size 5<|iN ck:=rO _ _ _ _ rfl;have H:Ce (w.alloc<|CY ua ga ca lwa uc gc cc lwn lwc us gs cs cu cg ck q) w.heap.size 6<|iN q:=rO _ _ _ _ rfl;have bb:=hid<|Oy ua uc us _ bk bn bp<|bg.below ba;have bd:=hid ba;have Z:Hid (Rgs w ga gs/\gs.length<=100/\gs.length<=gc/\∀r∈gs,r.ok):=⟨bi,bl,bo,bq⟩;have be:Hid<|AV w ca cs/\cs.length<=8:=⟨bs,bu⟩;obtain⟨aw,az⟩:∃F,Hid<|Eb us=F:=⟨_,rfl⟩;obtain⟨F2,aA⟩:∃F,Hid<|Eb gs=F:=⟨_,rfl⟩;obtain⟨ab,a1⟩:∃F,Hid<|DZ cu cg cs ck=F:=⟨_,rfl⟩;rw[az.out]at bb;go_enter func138,ntmps138;go_upto_region 1 with fail
 generalize w.alloc (CY ua ga ca lwa uc gc cc lwn lwc us gs cs cu cg ck q)=bF at*;generalize w.heap.size=cb at c0 c1 c2 I J O H⊢;go_wp2_with fail
 go_call bb.out as e w2 ⟨rfl,q2⟩
 have ad:=hid<|bd.trans<|q2.mono bd.size;replace c1:=Aj q2 c1;replace c2:=Aj q2 c2;replace I:=Aj q2 I;replace J:=Aj q2 J;replace O:=Aj q2 O;replace H:=Aj q2 H;by_cases ak:aw=0
 case neg=>
  have G:=AP (n:=aw) rfl ak;rw[G];go_wp2;go_ret;exact⟨⟨aw,by rw[G];rfl,λe=>absurd e ak,λ_ c=>ak<|az.symm.trans c.1⟩,ad⟩
 case pos=>
  subst ak;rw[show Ao 0=Value.nilIface from rfl];have bx:Hid (Calls prog 153 #[.slice ga gs.length gc] w2 λe w'=>e=.returned (Ao F2)/\Bw w2 w'):=by
   have e:=Oy ga gc gs w2 Z.2.1 Z.2.2.1 Z.2.2.2<|Z.1.below ad;rw[aA.out]at e;exact e
  go_wp2_with fail
  go_call bx.out as e w3 ⟨rfl,q3⟩
  have al:=hid<|ad.trans<|q3.mono ad.size;replace c2:=Aj q3 c2;replace I:=Aj q3 I;replace J:=Aj q3 J;replace O:=Aj q3 O;replace H:=Aj q3 H;by_cases ao:F2=0
  case neg=>
   have G:=AP (n:=F2) rfl ao;rw[G];go_wp2;go_ret;exact⟨⟨F2,by rw[G];rfl,λe=>absurd e ao,λ_ c=>ao<|aA.symm.trans c.2.1⟩,al⟩
  case pos=>
   subst ao;rw[show Ao 0=Value.nilIface from rfl];have bA:Hid (Calls prog 188 #[Fj cu cg ca cs.length cc ck] w3 λe w'=>e=.returned (Ao ab)/\Bw w3 w'):=by
    have e:=UQ cu cg ck ca cc cs w3 be.2<|be.1.below al;rw[a1.out]at e;exact e
   go_wp2_with fail
   go_call bA as e w4 ⟨rfl,q4⟩
   have ap:=hid<|al.trans<|q4.mono al.size;replace H:=Aj q4 H;by_cases ar:ab=0
   case neg=>
    have G:=AP (n:=ab) rfl ar;rw[G];go_wp2;go_ret;exact⟨⟨ab,by rw[G];rfl,λe=>absurd e ar,λ_ c=>ar<|a1.symm.trans c.2.2.1⟩,ap⟩
   case pos=>
    subst ar;rw[show Ao 0=Value.nilIface from rfl];by_cases a6:q<1
    .have bB:decide (q<1)=true:=NY a6
     have a7:=hid a6;go_wp2;go_ret;exact⟨⟨1,rfl,λe=>absurd e oD,λ_ c=>by have:=a7.out;have:=c.2.2.2.1;omega⟩,ap⟩
    .have bB:decide (q<1)=false:=NM a6
     by_cases a8:64<q
     .have bC:decide (64<q)=true:=NY a8
      have a7:=hid a8;go_wp2;go_ret;exact⟨⟨1,rfl,λe=>absurd e oD,λ_ c=>by have:=a7.out;have:=c.2.2.2.2;omega⟩,ap⟩
     .have bC:decide (64<q)=false:=NM a8
      have bf:Hid<|1<=q/\q<=64:=⟨by omega,by omega⟩;go_wp2;go_ret;exact⟨⟨0,rfl,λ_=>⟨az,aA,a1,bf.1,bf.2⟩,λe=>absurd rfl e⟩,ap⟩
end Go.Proofs.YtchpdmjlicmdaaaGreatDoor
