/-
  branch: the walk.
-/
import Derived.Test.YtkkhfnkmfkdhiabUmX
import Derived.Test.YtkkhfnkmfkdhiabUgY
import Derived.Test.YtkkhfnkmfkdhiabUhX
namespace Go.Proofs.Ytkkhfnkmfkdhiab
open Go.RowKit

/-- What branch answers. -/
def BrE (W W' : World) (S : Nat → Bool) (e : Ending) : Except Int (List (Nd × ByteArray)) → Prop
  | .error f => e = .returned (.tuple #[ndV zN zH, .iface 96 (.int .i64 f)]) ∧ Below W.heap.size W W'
  | .ok L => (∃ h', e = .returned (.tuple #[ndV (chainF L) h', .nilIface]) ∧ NdV (offS W'.cell? S) (chainF L) h') ∧ Below W.heap.size W W'
theorem brE_err {W W' : World} {S : Nat → Bool} {f : Int} {R : Except Int (List (Nd × ByteArray))} (hR : R = .error f) (hb : Below W.heap.size W W') : BrE W W' S (.returned (.tuple #[ndV zN zH, .iface 96 (.int .i64 f)])) R := by subst hR; exact ⟨rfl, hb⟩

theorem set_alloc (w : World) {g : Nat} (hg : g < w.heap.size) (i : Nat) (v : Value) (o : Obj) : (w.alloc o).setCell ⟨g, i, none⟩ v = (w.setCell ⟨g, i, none⟩ v).alloc o := by
  exact World.setCell_alloc_past o g i v hg
theorem nd_bareK {c : Mem} {k m u g : Int} {o : Bool} {at_ : List Kv} {d : ByteArray} {h : Hd} (hN : NdV c (.mk k m u g o at_ d []) h) : NdV c (bareN (.mk k m u g o at_ d [])) h := ndV_iff.2 (ndV_iff.1 hN)
theorem lim_bare {x : Nd} (h : Lim x) : Lim (bareN x) := by
  obtain ⟨k, m, u, g, o, at_, d, ks⟩ := x
  rw [Lim] at h
  show Lim (.mk k m u g false at_ d [])
  rw [Lim]
  exact ⟨h.1, by simp, by rw [LimL]; trivial⟩
set_option maxRecDepth 100000 in
set_option maxHeartbeats 4000000 in
theorem branch_any {W : World} {S : Nat → Bool} (hS0 : ∀ k, S k = true → k < W.heap.size) {na : Option Addr} {cn : Nat} {nds : List Nd} {sa : Option Addr} {cs : Nat} {nms : List ByteArray} (hx : NsV (offS W.cell? S) na nds) (hs : Strs (offS W.cell? S) sa nms) (hne : nds ≠ []) (hlx : nds.length ≤ 1000) (hln : nds.length ≤ nms.length) (hok : ∀ y ∈ nds, y.kids = [] ∧ Lim y ∧ IdT y) {M : MapsV} (hM : MapsOk W M) :
    Calls Try.prog 91 #[M.v, .slice na nds.length cn, .slice sa nms.length cs] W fun e W' => BrE W W' S e (brF M.us M.gs (prsF nds nms)) := by
  obtain ⟨ua, ga, uc, gc, us, gs⟩ := M
  obtain ⟨i0, hi0, hi1, hi2, hi3⟩ := info_three Try.infoNd
  have HI0 : Hid _ := hi0
  have HI1 : Hid _ := hi1
  have HI2 : Hid _ := hi2
  have HI3 : Hid _ := hi3
  clear hi0 hi1 hi2 hi3
  obtain ⟨c0, c1, RB, hBA, hzA⟩ := two_up W _ _ ua ga us.length gs.length uc gc rfl rfl
  have HX : Hid (NsV (offS W.cell? S) na nds) := hx
  have HS : Hid (Strs (offS W.cell? S) sa nms) := hs
  have HM : Hid (MapsOk W ⟨ua, ga, uc, gc, us, gs⟩) := hM
  have HOK : Hid (∀ y ∈ nds, y.kids = [] ∧ Lim y ∧ IdT y) := hok
  have HNE : Hid (nds ≠ []) := hne
  obtain ⟨R, HR⟩ : ∃ R, Hid (brF us gs (prsF nds nms) = R) := ⟨_, rfl⟩
  show Calls Try.prog 91 #[.agg #[.slice ua us.length uc, .slice ga gs.length gc], .slice na nds.length cn, .slice sa nms.length cs] W fun e W' => BrE W W' S e (brF us gs (prsF nds nms))
  rw [HR.out]
  obtain ⟨N, HN⟩ : ∃ N, Hid (nds.length = N) := ⟨_, rfl⟩
  obtain ⟨NM, HNM⟩ : ∃ N, Hid (nms.length = N) := ⟨_, rfl⟩
  rw [HN.out] at hlx hln ⊢
  rw [HNM.out] at hln ⊢
  have HBI : Hid (BrI S W ua ga us.length gs.length uc gc (.slice none 0 0) [] ((W.alloc (.cells #[.slice ua us.length uc, .slice ga gs.length gc] 62)).alloc (.cells #[.int .i64 0, .int .i64 0, .int .i64 0, .int .i64 0, .bool false, .slice none 0 0, .string ⟨#[]⟩, .slice none 0 0] 25))) := ⟨hBA, c0, c1, RB, World.ownsRow_nil _ _ _ _, fun f hf => by cases hf⟩
  clear hx hs hM hok hne c0 c1 RB hBA hzA
  go_enter Try.func91, Try.ntmps91
  go_upto_region 1 with fail
  generalize ((W.alloc (.cells #[.slice ua us.length uc, .slice ga gs.length gc] 62)).alloc (.cells #[.int .i64 0, .int .i64 0, .int .i64 0, .int .i64 0, .bool false, .slice none 0 0, .string ⟨#[]⟩, .slice none 0 0] 25)) = wA at HBI ⊢
  go_wp2
  go_loopw [8, 16] (fun v i wr => ∃ (j : Nat) (L : List Fl) (P : List (Nd × ByteArray)), j ≤ N ∧ i = .int .i64 j ∧ Hid (brF us gs ((prsF nds nms).take j) = .ok P) ∧ Hid (P.map Prod.fst = L.map Fl.x) ∧ Hid (L.length = j) ∧ Hid (BrI S W ua ga us.length gs.length uc gc v L wr)) (fun _ i _ => N - (intOf i).toNat)
  case atStart => exact ⟨0, [], [], Nat.zero_le _, rfl, rfl, rfl, rfl, HBI.out⟩
  case round =>
    clear HBI
    obtain ⟨j, L, P, hj, rfl, HP, HPL, HLJ, HBI⟩ := hrel
    by_cases hjl : j < N
    rotate_left
    · obtain rfl : j = N := by omega
      have hb : decide ((j : Int) < (j : Int)) = false := decide_eq_false (by omega)
      have HRP : Hid (R = .ok P) := by
        have e := HP.out
        rw [List.take_of_length_le (by rw [prs_len (by rw [HN.out, HNM.out]; exact hln), HN.out]; omega), HR.out] at e
        exact e
      have HPS : Hid (P.map Prod.snd = (prsF nds nms).map Prod.snd ∧ P.length = j) := by
        have e := HRP.out
        rw [← HR.out] at e
        have e1 := (brF_ok e).1
        refine ⟨e1, ?_⟩
        have e2 := congrArg List.length e1
        rw [List.length_map, List.length_map, prs_len (by rw [HN.out, HNM.out]; exact hln), HN.out] at e2
        exact e2
      have hjp : 0 < j := by
        have e := HN.out
        rcases Nat.eq_zero_or_pos j with e2 | e2
        · rw [e2] at e; exact absurd (List.length_eq_zero_iff.1 e) HNE.out
        · exact e2
      obtain ⟨jj, rfl⟩ : ∃ jj, j = jj + 1 := ⟨j - 1, by omega⟩
      obtain ⟨g, vcap, rfl, hgb, hgc, hgn, hgf⟩ : ∃ g cap, u8 = .slice (some ⟨g, 0, none⟩) (jj + 1) cap ∧ W.heap.size + 1 + 1 ≤ g ∧ jj + 1 ≤ cap ∧ (∀ (i : Nat) f, L[i]? = some f → NAt wr.cell? g (i * 8) f.x f.h) ∧ ∀ j, wr.frozen? ⟨g, j, none⟩ = false := by
        have e := row_nat HBI.out.row
        rw [HLJ.out] at e
        rcases e with e | e
        · have := HLJ.out; rw [e] at this; cases this
        · exact e
      have hat : ∀ (t : Nat), t < jj + 1 → ∃ f p, L[t]? = some f ∧ P[t]? = some p ∧ f.x = p.1 ∧ nms[t]? = some p.2 := fun t ht => by
        obtain ⟨f, hf⟩ : ∃ f, L[t]? = some f := ⟨_, List.getElem?_eq_getElem (by rw [HLJ.out]; exact ht)⟩
        obtain ⟨p, hp⟩ : ∃ p, P[t]? = some p := ⟨_, List.getElem?_eq_getElem (by rw [HPS.out.2]; exact ht)⟩
        obtain ⟨y, hy⟩ : ∃ y, nds[t]? = some y := ⟨_, List.getElem?_eq_getElem (by rw [HN.out]; exact ht)⟩
        obtain ⟨nm, hn⟩ : ∃ nm, nms[t]? = some nm := ⟨_, List.getElem?_eq_getElem (by rw [HNM.out]; omega)⟩
        have e1 := congrArg (fun l => l[t]?) HPL.out
        simp only [List.getElem?_map, hf, hp, Option.map_some, Option.some.injEq] at e1
        have e2 := congrArg (fun l => l[t]?) HPS.out.1
        simp only [List.getElem?_map, hp, prs_at hy hn, Option.map_some, Option.some.injEq] at e2
        exact ⟨f, p, hf, hp, e1.symm, by rw [hn, e2]⟩
      have HAT : Hid _ := hat
      have HBJ : Hid (BrJ S W (.slice (some ⟨g, 0, none⟩) (jj + 1) vcap) g L P jj wr) := by
        obtain ⟨f, p, h1, h2, h3, h4⟩ := hat jj (by omega)
        have e0 : P.drop jj = [p] := by
          have e1 := List.drop_eq_getElem_cons (List.getElem?_eq_some_iff.1 h2).1
          rw [(List.getElem?_eq_some_iff.1 h2).2, show P.drop (jj + 1) = [] from List.drop_of_length_le (by rw [HPS.out.2]; omega)] at e1
          exact e1
        refine ⟨HBI.out.low, by omega, (HBI.out.row.lt g rfl).2, HBI.out.rb, hgf, fun s f hs hf => ⟨hgn s f hf, HBI.out.nd f (List.mem_of_getElem? hf)⟩, f.h, ?_, ?_⟩
        · rw [e0, chainF, ← h3]; exact hgn jj f h1
        · rw [e0, chainF, ← h3]; exact HBI.out.nd f (List.mem_of_getElem? h1)
      clear hat hgn hgf HPL HP HLJ
      have HBW : Hid (BrI S W ua ga us.length gs.length uc gc (.slice (some ⟨g, 0, none⟩) (jj + 1) vcap) L wr) := HBI.out
      clear HBI
      go_wp2
      go_loopw [13] (fun i w2 => ∃ t : Nat, t ≤ jj ∧ i = .int .i64 t ∧ Hid (BrJ S W (.slice (some ⟨g, 0, none⟩) (jj + 1) vcap) g L P t w2)) (fun i _ => (intOf i).toNat)
      case atStart => exact ⟨jj, Nat.le_refl _, by go_num, HBJ.out⟩
      case round =>
        clear HBJ
        obtain ⟨t, ht, rfl, HJ⟩ := hrel
        cases t with
        | zero =>
          obtain ⟨hc, hn0, hn1⟩ := HJ.out.ch
          obtain ⟨C, HC⟩ : ∃ C, Hid (chainF (P.drop 0) = C) := ⟨_, rfl⟩
          rw [HC.out] at hn0 hn1
          obtain ⟨zk, zm, zu, zg, zo, za, zd, zs⟩ := C
          have HRC : Hid (chainF P = (.mk zk zm zu zg zo za zd zs)) := HC.out
          have HN1 : Hid _ := hn1
          have RB := HJ.out.rb
          have hB := HJ.out.low
          have R8 := RB.store (.mk zk zm zu zg zo za zd zs) hc
          have b8 : But (W.heap.size + 1) wr (stB wr (W.heap.size + 1) (.mk zk zm zu zg zo za zd zs) hc) := stB_but
          have hB8 : Below W.heap.size W (stB wr (W.heap.size + 1) (.mk zk zm zu zg zo za zd zs) hc) := hB.trans (b8.below (by omega) hB.size)
          have HN8 : Hid (NdV (offS (stB wr (W.heap.size + 1) (.mk zk zm zu zg zo za zd zs) hc).cell? S) (.mk zk zm zu zg zo za zd zs) hc) := hn1.on (mle_step fun q hq hs => by
            simp [brS] at hs
            exact ⟨hs.2, b8.block q hq hs.1.1.2⟩)
          have z0 := RB.2 0
          have z1 := RB.2 1
          have z2 := RB.2 2
          have z3 := RB.2 3
          have z4 := RB.2 4
          have z5 := RB.2 5
          have z6 := RB.2 6
          have z7 := RB.2 7
          obtain ⟨y0, y1, y2, y3, y4, y5, y6, y7⟩ := RB.1
          obtain ⟨f0, f1, f2, f3, f4, f5, f6, f7⟩ := hn0
          simp only [Nat.zero_mul, Nat.zero_add] at f0 f1 f2 f3 f4 f5 f6 f7
          clear RB HJ HC hn1 HN1 HAT HBW b8
          go_wp2
          obtain ⟨W9, HW9⟩ : ∃ W9, Hid (stB wr (W.heap.size + 1) (.mk zk zm zu zg zo za zd zs) hc = W9) := ⟨_, rfl⟩
          rw [HW9.out] at R8 hB8 HN8
          have hw9 := HW9.out
          simp only [stB] at hw9
          rw [hw9]
          obtain ⟨r0, r1, r2, r3, r4, r5, r6, r7⟩ := R8.1
          refine bodyPost_ret (v := .tuple #[ndV (.mk zk zm zu zg zo za zd zs) hc, .nilIface]) (by simp [results, Try.results91, go_sem, ndV, r0, r1, r2, r3, r4, r5, r6, r7]) rfl ?_
          rw [HRP.out]
          refine ⟨⟨hc, by rw [HRC.out], ?_⟩, hB8⟩
          rw [HRC.out]
          exact HN8.out
        | succ t =>
          obtain ⟨f, p, a1, a2, a3, a4⟩ := HAT.out t (by omega)
          obtain ⟨_, q, _, b2, _, b4⟩ := HAT.out (t + 1) (by omega)
          obtain ⟨hc, hn0, hn1⟩ := HJ.out.ch
          have HST : Hid _ := HJ.out.step rfl a1 a2 b2 a3 hn0 hn1 (by
            have := hS0 wr.heap.size
            have e2 := HJ.out.low.size
            have e3 := HJ.out.gz
            have e4 := HJ.out.rb.1.lt
            simp [brS, Value.ownBlock]
            refine ⟨⟨⟨by omega, by omega⟩, by omega⟩, ?_⟩
            cases hh : S wr.heap.size with
            | false => rfl
            | true => have := this hh; omega)
          have hgz := HJ.out.gz
          obtain ⟨C, HC⟩ : ∃ C, Hid (chainF (P.drop (t + 1)) = C) := ⟨_, rfl⟩
          rw [HC.out] at hn0 hn1 HST
          obtain ⟨zk, zm, zu, zg, zo, za, zd, zs⟩ := C
          obtain ⟨sb, so, rfl, hsa⟩ : ∃ b off, sa = some ⟨b, off, none⟩ ∧ ∀ i s, nms[i]? = some s → offS W.cell? S ⟨b, off + i, none⟩ = some (.string s) := by
            rcases HS.out with e | e
            · rw [e] at b4; simp at b4
            · exact e
          have hsn : wr.cell? ⟨sb, so + (t + 1), none⟩ = some (.string q.2) := mle_below HJ.out.low _ _ (offS_le _ _ _ _ (hsa _ _ b4))
          have hsg : sb ≠ g := fun e => by
            have e1 := World.block_lt_of_cell? _ _ (offS_le _ _ _ _ (hsa _ _ b4))
            have : sb < W.heap.size := e1
            omega
          have hfz := HJ.out.fz (t * 8 + 7)
          obtain ⟨fk, fa7⟩ : ∃ u7, wr.cell? ⟨g, t * 8 + 7, none⟩ = some u7 := by
            obtain ⟨e1, _⟩ := HJ.out.ab t f (by omega) a1
            obtain ⟨⟨k, m, u, gg, o, at_, d, ks⟩, fh, fl⟩ := f
            exact ⟨_, e1.2.2.2.2.2.2.2⟩
          obtain ⟨f0, f1, f2, f3, f4, f5, f6, f7⟩ := hn0
          obtain ⟨q1, qn⟩ := q
          dsimp only at hsn HST b4
          clear HJ HAT hn1 HC a1 a2 a3 a4 b2 b4 hsa
          rw [show ((t + 1 : Nat) : Int) = (t : Int) + 1 by omega]
          have hb : decide ((0 : Int) < (t : Int) + 1) = true := decide_eq_true (by omega)
          have k0 : (0 : Int) ≤ (t : Int) + 1 := by omega
          have k1 : (t : Int) + 1 < (NM : Int) := by omega
          have k2 : (t : Int) + 1 < (jj : Int) + 1 := by omega
          have k3 : (t : Int) < (jj : Int) + 1 := by omega
          have htn : ((t : Int) + 1).toNat = t + 1 := by omega
          have k4 : (t : Int) ≤ (jj : Int) := by omega
          have k5 : IntKind.i64.wrap (t : Int) = (t : Int) := wrap_small (by omega) (by omega)
          have k6 : IntKind.i64.wrap ((t : Int) + 1 - 1) = (t : Int) := (wrap_small (by omega) (by omega)).trans (by omega)
          have T4 : wr.cell? ⟨sb, so + (t + 1), none⟩ = some (.string qn) ∧ wr.cell? ⟨g, (t + 1) * 8, none⟩ = some (.int .i64 zk) ∧ wr.cell? ⟨g, (t + 1) * 8 + 1, none⟩ = some (.int .i64 zm) ∧ wr.cell? ⟨g, (t + 1) * 8 + 2, none⟩ = some (.int .i64 zu) ∧ wr.cell? ⟨g, (t + 1) * 8 + 3, none⟩ = some (.int .i64 zg) ∧ wr.cell? ⟨g, (t + 1) * 8 + 4, none⟩ = some (.bool zo) ∧ wr.cell? ⟨g, (t + 1) * 8 + 5, none⟩ = some (.slice hc.aa za.length hc.ca) ∧ wr.cell? ⟨g, (t + 1) * 8 + 6, none⟩ = some (.string zd) ∧ wr.cell? ⟨g, (t + 1) * 8 + 7, none⟩ = some (.slice hc.ak zs.length hc.ck) := ⟨hsn, f0, f1, f2, f3, f4, f5, f6, f7⟩
          have T5 : wr.drew.cell? ⟨sb, so + (t + 1), none⟩ = some (.string qn) ∧ wr.drew.cell? ⟨g, (t + 1) * 8, none⟩ = some (.int .i64 zk) ∧ wr.drew.cell? ⟨g, (t + 1) * 8 + 1, none⟩ = some (.int .i64 zm) ∧ wr.drew.cell? ⟨g, (t + 1) * 8 + 2, none⟩ = some (.int .i64 zu) ∧ wr.drew.cell? ⟨g, (t + 1) * 8 + 3, none⟩ = some (.int .i64 zg) ∧ wr.drew.cell? ⟨g, (t + 1) * 8 + 4, none⟩ = some (.bool zo) ∧ wr.drew.cell? ⟨g, (t + 1) * 8 + 5, none⟩ = some (.slice hc.aa za.length hc.ca) ∧ wr.drew.cell? ⟨g, (t + 1) * 8 + 6, none⟩ = some (.string zd) ∧ wr.drew.cell? ⟨g, (t + 1) * 8 + 7, none⟩ = some (.slice hc.ak zs.length hc.ck) := T4
          have T6 : (wr.alloc (.cells #[.string qn, .int .i64 zk, .int .i64 zm, .int .i64 zu, .int .i64 zg, .bool zo, .slice hc.aa za.length hc.ca, .string zd, .slice hc.ak zs.length hc.ck] 102)).drew.cell? ⟨sb, so + (t + 1), none⟩ = some (.string qn) ∧ (wr.alloc (.cells #[.string qn, .int .i64 zk, .int .i64 zm, .int .i64 zu, .int .i64 zg, .bool zo, .slice hc.aa za.length hc.ca, .string zd, .slice hc.ak zs.length hc.ck] 102)).drew.cell? ⟨g, (t + 1) * 8, none⟩ = some (.int .i64 zk) ∧ (wr.alloc (.cells #[.string qn, .int .i64 zk, .int .i64 zm, .int .i64 zu, .int .i64 zg, .bool zo, .slice hc.aa za.length hc.ca, .string zd, .slice hc.ak zs.length hc.ck] 102)).drew.cell? ⟨g, (t + 1) * 8 + 1, none⟩ = some (.int .i64 zm) ∧ (wr.alloc (.cells #[.string qn, .int .i64 zk, .int .i64 zm, .int .i64 zu, .int .i64 zg, .bool zo, .slice hc.aa za.length hc.ca, .string zd, .slice hc.ak zs.length hc.ck] 102)).drew.cell? ⟨g, (t + 1) * 8 + 2, none⟩ = some (.int .i64 zu) ∧ (wr.alloc (.cells #[.string qn, .int .i64 zk, .int .i64 zm, .int .i64 zu, .int .i64 zg, .bool zo, .slice hc.aa za.length hc.ca, .string zd, .slice hc.ak zs.length hc.ck] 102)).drew.cell? ⟨g, (t + 1) * 8 + 3, none⟩ = some (.int .i64 zg) ∧ (wr.alloc (.cells #[.string qn, .int .i64 zk, .int .i64 zm, .int .i64 zu, .int .i64 zg, .bool zo, .slice hc.aa za.length hc.ca, .string zd, .slice hc.ak zs.length hc.ck] 102)).drew.cell? ⟨g, (t + 1) * 8 + 4, none⟩ = some (.bool zo) ∧ (wr.alloc (.cells #[.string qn, .int .i64 zk, .int .i64 zm, .int .i64 zu, .int .i64 zg, .bool zo, .slice hc.aa za.length hc.ca, .string zd, .slice hc.ak zs.length hc.ck] 102)).drew.cell? ⟨g, (t + 1) * 8 + 5, none⟩ = some (.slice hc.aa za.length hc.ca) ∧ (wr.alloc (.cells #[.string qn, .int .i64 zk, .int .i64 zm, .int .i64 zu, .int .i64 zg, .bool zo, .slice hc.aa za.length hc.ca, .string zd, .slice hc.ak zs.length hc.ck] 102)).drew.cell? ⟨g, (t + 1) * 8 + 6, none⟩ = some (.string zd) ∧ (wr.alloc (.cells #[.string qn, .int .i64 zk, .int .i64 zm, .int .i64 zu, .int .i64 zg, .bool zo, .slice hc.aa za.length hc.ca, .string zd, .slice hc.ak zs.length hc.ck] 102)).drew.cell? ⟨g, (t + 1) * 8 + 7, none⟩ = some (.slice hc.ak zs.length hc.ck) := ⟨mle_below (alloc_bel wr _) _ _ T4.1, mle_below (alloc_bel wr _) _ _ T4.2.1, mle_below (alloc_bel wr _) _ _ T4.2.2.1, mle_below (alloc_bel wr _) _ _ T4.2.2.2.1, mle_below (alloc_bel wr _) _ _ T4.2.2.2.2.1, mle_below (alloc_bel wr _) _ _ T4.2.2.2.2.2.1, mle_below (alloc_bel wr _) _ _ T4.2.2.2.2.2.2.1, mle_below (alloc_bel wr _) _ _ T4.2.2.2.2.2.2.2.1, mle_below (alloc_bel wr _) _ _ T4.2.2.2.2.2.2.2.2⟩
          have T7 : ((wr.setCell ⟨g, t * 8 + 7, none⟩ (.slice (some ⟨wr.heap.size, 0, none⟩) 1 1)).alloc (.cells #[.string qn, .int .i64 zk, .int .i64 zm, .int .i64 zu, .int .i64 zg, .bool zo, .slice hc.aa za.length hc.ca, .string zd, .slice hc.ak zs.length hc.ck] 102)).drew.cell? ⟨sb, so + (t + 1), none⟩ = some (.string qn) ∧ ((wr.setCell ⟨g, t * 8 + 7, none⟩ (.slice (some ⟨wr.heap.size, 0, none⟩) 1 1)).alloc (.cells #[.string qn, .int .i64 zk, .int .i64 zm, .int .i64 zu, .int .i64 zg, .bool zo, .slice hc.aa za.length hc.ca, .string zd, .slice hc.ak zs.length hc.ck] 102)).drew.cell? ⟨g, (t + 1) * 8, none⟩ = some (.int .i64 zk) ∧ ((wr.setCell ⟨g, t * 8 + 7, none⟩ (.slice (some ⟨wr.heap.size, 0, none⟩) 1 1)).alloc (.cells #[.string qn, .int .i64 zk, .int .i64 zm, .int .i64 zu, .int .i64 zg, .bool zo, .slice hc.aa za.length hc.ca, .string zd, .slice hc.ak zs.length hc.ck] 102)).drew.cell? ⟨g, (t + 1) * 8 + 1, none⟩ = some (.int .i64 zm) ∧ ((wr.setCell ⟨g, t * 8 + 7, none⟩ (.slice (some ⟨wr.heap.size, 0, none⟩) 1 1)).alloc (.cells #[.string qn, .int .i64 zk, .int .i64 zm, .int .i64 zu, .int .i64 zg, .bool zo, .slice hc.aa za.length hc.ca, .string zd, .slice hc.ak zs.length hc.ck] 102)).drew.cell? ⟨g, (t + 1) * 8 + 2, none⟩ = some (.int .i64 zu) ∧ ((wr.setCell ⟨g, t * 8 + 7, none⟩ (.slice (some ⟨wr.heap.size, 0, none⟩) 1 1)).alloc (.cells #[.string qn, .int .i64 zk, .int .i64 zm, .int .i64 zu, .int .i64 zg, .bool zo, .slice hc.aa za.length hc.ca, .string zd, .slice hc.ak zs.length hc.ck] 102)).drew.cell? ⟨g, (t + 1) * 8 + 3, none⟩ = some (.int .i64 zg) ∧ ((wr.setCell ⟨g, t * 8 + 7, none⟩ (.slice (some ⟨wr.heap.size, 0, none⟩) 1 1)).alloc (.cells #[.string qn, .int .i64 zk, .int .i64 zm, .int .i64 zu, .int .i64 zg, .bool zo, .slice hc.aa za.length hc.ca, .string zd, .slice hc.ak zs.length hc.ck] 102)).drew.cell? ⟨g, (t + 1) * 8 + 4, none⟩ = some (.bool zo) ∧ ((wr.setCell ⟨g, t * 8 + 7, none⟩ (.slice (some ⟨wr.heap.size, 0, none⟩) 1 1)).alloc (.cells #[.string qn, .int .i64 zk, .int .i64 zm, .int .i64 zu, .int .i64 zg, .bool zo, .slice hc.aa za.length hc.ca, .string zd, .slice hc.ak zs.length hc.ck] 102)).drew.cell? ⟨g, (t + 1) * 8 + 5, none⟩ = some (.slice hc.aa za.length hc.ca) ∧ ((wr.setCell ⟨g, t * 8 + 7, none⟩ (.slice (some ⟨wr.heap.size, 0, none⟩) 1 1)).alloc (.cells #[.string qn, .int .i64 zk, .int .i64 zm, .int .i64 zu, .int .i64 zg, .bool zo, .slice hc.aa za.length hc.ca, .string zd, .slice hc.ak zs.length hc.ck] 102)).drew.cell? ⟨g, (t + 1) * 8 + 6, none⟩ = some (.string zd) ∧ ((wr.setCell ⟨g, t * 8 + 7, none⟩ (.slice (some ⟨wr.heap.size, 0, none⟩) 1 1)).alloc (.cells #[.string qn, .int .i64 zk, .int .i64 zm, .int .i64 zu, .int .i64 zg, .bool zo, .slice hc.aa za.length hc.ca, .string zd, .slice hc.ak zs.length hc.ck] 102)).drew.cell? ⟨g, (t + 1) * 8 + 7, none⟩ = some (.slice hc.ak zs.length hc.ck) := ⟨mle_below (alloc_bel _ _) _ _ ((World.cell?_setCell_other _ _ _ _ (fun e => by simp only [Addr.mk.injEq] at e; omega)).trans T4.1), mle_below (alloc_bel _ _) _ _ ((World.cell?_setCell_other _ _ _ _ (fun e => by simp only [Addr.mk.injEq] at e; omega)).trans T4.2.1), mle_below (alloc_bel _ _) _ _ ((World.cell?_setCell_other _ _ _ _ (fun e => by simp only [Addr.mk.injEq] at e; omega)).trans T4.2.2.1), mle_below (alloc_bel _ _) _ _ ((World.cell?_setCell_other _ _ _ _ (fun e => by simp only [Addr.mk.injEq] at e; omega)).trans T4.2.2.2.1), mle_below (alloc_bel _ _) _ _ ((World.cell?_setCell_other _ _ _ _ (fun e => by simp only [Addr.mk.injEq] at e; omega)).trans T4.2.2.2.2.1), mle_below (alloc_bel _ _) _ _ ((World.cell?_setCell_other _ _ _ _ (fun e => by simp only [Addr.mk.injEq] at e; omega)).trans T4.2.2.2.2.2.1), mle_below (alloc_bel _ _) _ _ ((World.cell?_setCell_other _ _ _ _ (fun e => by simp only [Addr.mk.injEq] at e; omega)).trans T4.2.2.2.2.2.2.1), mle_below (alloc_bel _ _) _ _ ((World.cell?_setCell_other _ _ _ _ (fun e => by simp only [Addr.mk.injEq] at e; omega)).trans T4.2.2.2.2.2.2.2.1), mle_below (alloc_bel _ _) _ _ ((World.cell?_setCell_other _ _ _ _ (fun e => by simp only [Addr.mk.injEq] at e; omega)).trans T4.2.2.2.2.2.2.2.2)⟩
          clear T4 hsn f0 f1 f2 f3 f4 f5 f6 f7
          go_upto_region 16 with fail
          go_region_held3 (fun w' => w'.cell? ⟨sb, so + (t + 1), none⟩ = some (.string qn) ∧ w'.cell? ⟨g, (t + 1) * 8, none⟩ = some (.int .i64 zk) ∧ w'.cell? ⟨g, (t + 1) * 8 + 1, none⟩ = some (.int .i64 zm) ∧ w'.cell? ⟨g, (t + 1) * 8 + 2, none⟩ = some (.int .i64 zu) ∧ w'.cell? ⟨g, (t + 1) * 8 + 3, none⟩ = some (.int .i64 zg) ∧ w'.cell? ⟨g, (t + 1) * 8 + 4, none⟩ = some (.bool zo) ∧ w'.cell? ⟨g, (t + 1) * 8 + 5, none⟩ = some (.slice hc.aa za.length hc.ca) ∧ w'.cell? ⟨g, (t + 1) * 8 + 6, none⟩ = some (.string zd) ∧ w'.cell? ⟨g, (t + 1) * 8 + 7, none⟩ = some (.slice hc.ak zs.length hc.ck)) (first | with_reducible exact T5 | with_reducible exact T6 | with_reducible exact T7) (fail)
          have HEQ : Hid ((wr.alloc (.cells (.string qn :: ndL (.mk zk zm zu zg zo za zd zs) hc).toArray 102)).setCell ⟨g, t * 8 + 7, none⟩ (.slice (some ⟨wr.heap.size, 0, none⟩) 1 1) = (wr.setCell ⟨g, t * 8 + 7, none⟩ (.slice (some ⟨wr.heap.size, 0, none⟩) 1 1)).alloc (.cells #[.string qn, .int .i64 zk, .int .i64 zm, .int .i64 zu, .int .i64 zg, .bool zo, .slice hc.aa za.length hc.ca, .string zd, .slice hc.ak zs.length hc.ck] 102)) := set_alloc wr hgz _ _ _
          rw [HEQ.out] at HST
          clear T5 T6 T7 fa7 hfz HEQ
          generalize (wr.setCell ⟨g, t * 8 + 7, none⟩ (.slice (some ⟨wr.heap.size, 0, none⟩) 1 1)).alloc (.cells #[.string qn, .int .i64 zk, .int .i64 zm, .int .i64 zu, .int .i64 zg, .bool zo, .slice hc.aa za.length hc.ca, .string zd, .slice hc.ak zs.length hc.ck] 102) = w5 at HST ⊢
          go_wp2
          go_roundw
          case rel => exact ⟨t, by omega, by go_num, HST.out.below (Below.refl _ _).drew⟩
          case measure => (simp [intOf]; try omega)
    have hb : decide ((j : Int) < (N : Int)) = true := decide_eq_true (by omega)
    obtain ⟨y, hyj⟩ : ∃ y, nds[j]? = some y := ⟨_, List.getElem?_eq_getElem (by rw [HN.out]; exact hjl)⟩
    obtain ⟨nm, hnj⟩ : ∃ nm, nms[j]? = some nm := ⟨_, List.getElem?_eq_getElem (by rw [HNM.out]; omega)⟩
    obtain ⟨nb, no, rfl, hfx, hfa⟩ : ∃ b off, na = some ⟨b, off, none⟩ ∧ ∃ f : Nat → Hd, ∀ i x, nds[i]? = some x → NAt (offS W.cell? S) b (off + i * 8) x (f i) ∧ NdV (offS W.cell? S) x (f i) := by
      rcases HX.out with e | e
      · rw [e] at hyj; simp at hyj
      · exact e
    obtain ⟨sb, so, rfl, hsa⟩ : ∃ b off, sa = some ⟨b, off, none⟩ ∧ ∀ i s, nms[i]? = some s → offS W.cell? S ⟨b, off + i, none⟩ = some (.string s) := by
      rcases HS.out with e | e
      · rw [e] at hnj; simp at hnj
      · exact e
    obtain ⟨hya, hyn⟩ := hfa j y hyj
    obtain ⟨hk0, hli, hid⟩ := HOK.out y (List.mem_of_getElem? hyj)
    have hsn := hsa j nm hnj
    have HNX : Hid ((prsF nds nms).take (j + 1) = (prsF nds nms).take j ++ [(bareN y, nm)]) := prs_next hyj hnj
    have HFULL : Hid (prsF nds nms = (prsF nds nms).take (j + 1) ++ (prsF nds nms).drop (j + 1)) := (List.take_append_drop _ _).symm
    generalize hfx j = hy at hya hyn
    obtain ⟨yk, ym, yu, yg, yo, ya, yd, ys⟩ := y
    have hk0 : ys = [] := hk0
    subst hk0
    have hlow := HBI.out.low
    have hmW : MLe (offS W.cell? S) (offS wr.cell? (brS W.heap.size u8 S)) := mle_step fun q hq hs => ⟨by
      have e1 := HBI.out.row.lt
      simp [brS, hs]
      exact ⟨⟨by omega, by omega⟩, fun e => by have := (e1 q e).1; omega⟩, hlow.block q hq⟩
    have hyw := (hya.on hmW).on (offS_le _ _)
    have hynw := hyn.on hmW
    have hsnw := offS_le _ _ _ _ (hmW _ _ hsn)
    have hb2 := alloc_bel wr (.cells #[.int .i64 yk, .int .i64 ym, .int .i64 yu, .int .i64 yg, .bool false, .slice hy.aa ya.length hy.ca, .string yd, .slice hy.ak 0 hy.ck] 25)
    have BI2 := HBI.out.below hb2
    obtain ⟨OY, HOY⟩ : ∃ OY, Hid (mvF true us gs (bareN (.mk yk ym yu yg yo ya yd [])) = OY) := ⟨_, rfl⟩
    have HMv : Hid (Calls Try.prog 43 #[.agg #[.slice ua us.length uc, .slice ga gs.length gc], .agg #[.int .i64 yk, .int .i64 ym, .int .i64 yu, .int .i64 yg, .bool false, .slice hy.aa ya.length hy.ca, .string yd, .slice hy.ak 0 hy.ck]] (wr.alloc (.cells #[.int .i64 yk, .int .i64 ym, .int .i64 yu, .int .i64 yg, .bool false, .slice hy.aa ya.length hy.ca, .string yd, .slice hy.ak 0 hy.ck] 25)) fun e W' => MvE (wr.alloc (.cells #[.int .i64 yk, .int .i64 ym, .int .i64 yu, .int .i64 yg, .bool false, .slice hy.aa ya.length hy.ca, .string yd, .slice hy.ak 0 hy.ck] 25)) W' (brS W.heap.size u8 S) e OY) := by
      have := outside_co (W := wr.alloc (.cells #[.int .i64 yk, .int .i64 ym, .int .i64 yu, .int .i64 yg, .bool false, .slice hy.aa ya.length hy.ca, .string yd, .slice hy.ak 0 hy.ck] 25)) (S := (brS W.heap.size u8 S)) (M := ⟨ua, ga, uc, gc, us, gs⟩) (x := bareN (.mk yk ym yu yg yo ya yd [])) (h := hy) (BI2.hid hS0) (NdV.on (nd_bareK hynw) (mle_S hb2)) (lim_bare hli) (by rw [cnt_bare]; omega) (idT_bare hid) (HM.out.below BI2.low)
      rw [HOY.out] at this
      exact this
    have m0 := BI2.m0
    have m1 := BI2.m1
    obtain ⟨n0, n1, n2, n3, n4, n5, n6, n7⟩ := hyw
    simp only [List.length_nil] at n7
    clear hya hyn hid hli hsa hsn hynw hfa hyj hnj
    go_wp2_with fail
    refine Calls.mono HMv.out ?_
    intro e w3 hE
    clear n0 n1 n2 n3 n4 n5 n6 n7 m0 m1 HMv
    cases OY with
    | none =>
      obtain ⟨rfl, hB3⟩ := hE
      have HEE : Hid (R = .error 11) := by
        show R = _
        rw [← HR.out, HFULL.out]
        refine brF_err _ ?_
        rw [HNX.out, brF_snoc, HP.out]
        dsimp only
        rw [HOY.out]
      have BI3 := BI2.below hB3
      have hb4 := alloc_bel w3 (.cells #[.int .i64 0, .int .i64 0, .int .i64 0, .int .i64 0, .bool false, .slice none 0 0, .string ⟨#[]⟩, .slice none 0 0] 25)
      have BI4 := BI3.below hb4
      have hB4 := BI4.low
      have RB4 := BI4.rb
      rw [show ndV zN zH = .agg #[.int .i64 0, .int .i64 0, .int .i64 0, .int .i64 0, .bool false, .slice none 0 0, .string ⟨#[]⟩, .slice none 0 0] from rfl]
      clear BI2 BI3 BI4 hb4 hb2 hB3 hlow hmW hsnw HBI HNX HFULL HP HPL
      go_upto_region 7 with fail
      generalize w3.alloc (.cells #[.int .i64 0, .int .i64 0, .int .i64 0, .int .i64 0, .bool false, .slice none 0 0, .string ⟨#[]⟩, .slice none 0 0] 25) = w4 at hB4 RB4 ⊢
      have R3 := NBw.store RB4 zN zH
      have hB3 : Below W.heap.size W (stB w4 (W.heap.size + 1) zN zH) := hB4.trans (stB_but.below (by omega) hB4.size)
      have z0 := RB4.2 0
      have z1 := RB4.2 1
      have z2 := RB4.2 2
      have z3 := RB4.2 3
      have z4 := RB4.2 4
      have z5 := RB4.2 5
      have z6 := RB4.2 6
      have z7 := RB4.2 7
      obtain ⟨f0, f1, f2, f3, f4, f5, f6, f7⟩ := RB4.1
      go_wp2
      obtain ⟨W6, HW6⟩ : ∃ W6, Hid (stB w4 (W.heap.size + 1) zN zH = W6) := ⟨_, rfl⟩
      rw [HW6.out] at R3 hB3
      have hw6 := HW6.out
      simp only [stB, zN, zH] at hw6
      simp only [List.length_nil] at hw6
      rw [hw6]
      obtain ⟨r0, r1, r2, r3, r4, r5, r6, r7⟩ := R3.1
      refine bodyPost_ret (v := .tuple #[ndV zN zH, .iface 96 (.int .i64 11)]) (by simp [results, Try.results91, go_sem, ndV, zN, zH, r0, r1, r2, r3, r4, r5, r6, r7]) rfl (brE_err HEE.out hB3)
    | some z =>
      obtain ⟨⟨hz, rfl, hzN⟩, hB3⟩ := hE
      have HZK : Hid (z.kids = []) := (mv_keep HOY.out).2
      obtain ⟨zk, zm, zu, zg, zo, za, zd, zs⟩ := z
      have BI3 := BI2.below hB3
      have hb4 := alloc_bel w3 (.cells #[.int .i64 zk, .int .i64 zm, .int .i64 zu, .int .i64 zg, .bool zo, .slice hz.aa za.length hz.ca, .string zd, .slice hz.ak zs.length hz.ck] 25)
      have BI4 := BI3.below hb4
      have HZN : Hid (NdV (offS (w3.alloc (.cells #[.int .i64 zk, .int .i64 zm, .int .i64 zu, .int .i64 zg, .bool zo, .slice hz.aa za.length hz.ca, .string zd, .slice hz.ak zs.length hz.ck] 25)).cell? (brS W.heap.size u8 S)) (.mk zk zm zu zg zo za zd zs) hz) := NdV.on hzN (mle_S hb4)
      have ZB := NBw.new w3 zk zm zu zg zo za zd zs hz
      have hs4 := mle_below hb4 _ _ (mle_below hB3 _ _ (mle_below hb2 _ _ hsnw))
      have HBI4 : Hid (BrI S W ua ga us.length gs.length uc gc u8 L (w3.alloc (.cells #[.int .i64 zk, .int .i64 zm, .int .i64 zu, .int .i64 zg, .bool zo, .slice hz.aa za.length hz.ca, .string zd, .slice hz.ak zs.length hz.ck] 25))) := BI4
      rw [show ndV (.mk zk zm zu zg zo za zd zs) hz = .agg #[.int .i64 zk, .int .i64 zm, .int .i64 zu, .int .i64 zg, .bool zo, .slice hz.aa za.length hz.ca, .string zd, .slice hz.ak zs.length hz.ck] from rfl]
      have HSN : Hid (brF us gs ((prsF nds nms).take (j + 1)) = if nameB nm = false then .error 4 else .ok (P ++ [((.mk zk zm zu zg zo za zd zs), nm)])) := by
        show _ = _
        rw [HNX.out, brF_snoc, HP.out]
        dsimp only
        rw [HOY.out]
      clear BI2 BI3 BI4 hb4 hb2 hB3 hlow hmW hsnw HBI HNX HP hzN HOY
      go_upto_region 7 with fail
      generalize w3.alloc (.cells #[.int .i64 zk, .int .i64 zm, .int .i64 zu, .int .i64 zg, .bool zo, .slice hz.aa za.length hz.ca, .string zd, .slice hz.ak zs.length hz.ck] 25) = w4 at HBI4 HZN ZB hs4 ⊢
      generalize w3.heap.size = b11 at ZB ⊢
      have hjm : (j : Int) < (NM : Int) := by omega
      by_cases hnm : nameB nm = false
      · have HEE : Hid (R = .error 4) := by
          show R = _
          rw [← HR.out, HFULL.out]
          refine brF_err _ ?_
          rw [HSN.out, if_pos hnm]
        have hB4 := HBI4.out.low
        have RB4 := HBI4.out.rb
        clear HSN HFULL HBI4 HZN ZB
        go_wp2_with fail
        refine Calls.mono (name_any nm _) ?_
        rintro e w5 ⟨rfl, rfl⟩
        rw [hnm]
        have R3 := NBw.store RB4 zN zH
        have hB3 : Below W.heap.size W (stB w4 (W.heap.size + 1) zN zH) := hB4.trans (stB_but.below (by omega) hB4.size)
        have z0 := RB4.2 0
        have z1 := RB4.2 1
        have z2 := RB4.2 2
        have z3 := RB4.2 3
        have z4 := RB4.2 4
        have z5 := RB4.2 5
        have z6 := RB4.2 6
        have z7 := RB4.2 7
        obtain ⟨f0, f1, f2, f3, f4, f5, f6, f7⟩ := RB4.1
        go_wp2
        obtain ⟨W6, HW6⟩ : ∃ W6, Hid (stB w4 (W.heap.size + 1) zN zH = W6) := ⟨_, rfl⟩
        rw [HW6.out] at R3 hB3
        have hw6 := HW6.out
        simp only [stB, zN, zH] at hw6
        simp only [List.length_nil] at hw6
        rw [hw6]
        obtain ⟨r0, r1, r2, r3, r4, r5, r6, r7⟩ := R3.1
        refine bodyPost_ret (v := .tuple #[ndV zN zH, .iface 96 (.int .i64 4)]) (by simp [results, Try.results91, go_sem, ndV, zN, zH, r0, r1, r2, r3, r4, r5, r6, r7]) rfl (brE_err HEE.out hB3)
      · have hnt : nameB nm = true := by simpa using hnm
        have HP2 : Hid (brF us gs ((prsF nds nms).take (j + 1)) = .ok (P ++ [((.mk zk zm zu zg zo za zd zs), nm)])) := by show _ = _; rw [HSN.out, if_neg hnm]
        have HPL2 : Hid ((P ++ [(((.mk zk zm zu zg zo za zd zs) : Nd), nm)]).map Prod.fst = (L ++ [(⟨(.mk zk zm zu zg zo za zd zs), hz, 0⟩ : Fl)]).map Fl.x) := by show _ = _; rw [List.map_append, List.map_append, HPL.out]; rfl
        have hLl : L.length ≤ 1000 := by have := HLJ.out; omega
        obtain ⟨z0, z1, z2, z3, z4, z5, z6, z7⟩ := ZB.1
        clear HSN HFULL ZB hnm
        go_wp2_with fail
        refine Calls.mono (name_any nm _) ?_
        rintro e w5 ⟨rfl, rfl⟩
        rw [hnt]
        go_wp2_with (at_builtin; refine wpList_append_src (w4.alloc (.cells #[.int .i64 zk, .int .i64 zm, .int .i64 zu, .int .i64 zg, .bool zo, .slice hz.aa za.length hz.ca, .string zd, .slice hz.ak zs.length hz.ck] 25)) rfl (.tmp 40) (.tmp 42) 50 rfl (W.heap.size + 1 + 1) 25 i0 (.agg #[.int .i64 0, .int .i64 0, .int .i64 0, .int .i64 0, .bool false, .slice none 0 0, .string ⟨#[]⟩, .slice none 0 0]) 8 104 Try.underlying50 HI0.out HI1.out HI2.out HI3.out rfl (by decide) u8 L.length (flN L) rfl (HBI4.out.row.alloc _) (some ⟨w4.heap.size, 0, none⟩) 1 1 (ndL (.mk zk zm zu zg zo za zd zs) hz) rfl rfl (.inr ⟨_, rfl, fun q t hq => by rw [addr_add, Nat.zero_add]; exact nd_newA w4 _ hz _ q t hq⟩) (ndL_one _ _) (by unfold maxLen; omega) (by omega) (by have := HBI4.out.rb.1.lt; rw [World.size_alloc]; omega) ?_)
        intro v7 w7 hown7 hgr7 ho7
        have HB7 : Hid (BrI S W ua ga us.length gs.length uc gc v7 (L ++ [(⟨(.mk zk zm zu zg zo za zd zs), hz, 0⟩ : Fl)]) w7) := (HBI4.out.below (alloc_bel w4 _)).app (f := ⟨(.mk zk zm zu zg zo za zd zs), hz, 0⟩) (HZN.out.on (mle_S (alloc_bel w4 _))) (by rw [flN_app, List.length_append]; simpa [flN] using hown7) hgr7 (by rw [World.size_alloc]; exact ho7)
        clear hown7 hgr7 ho7 HBI4 HZN z0 z1 z2 z3 z4 z5 z6 z7
        go_wp2
        go_roundw
        case rel => exact ⟨j + 1, _, _, by omega, by go_num, HP2.out, HPL2.out, (show _ = _ from by rw [List.length_append, HLJ.out]; rfl), HB7.out⟩
        case measure => (simp [intOf]; try omega)
end Go.Proofs.Ytkkhfnkmfkdhiab
