/-
  branch: the walk.
  Along: the walk.
-/
import Derived.Test.YtlbabnffiibnpaaGreatHdX
import Derived.Test.YtlbabnffiibnpaaGreatZnX
import Derived.Test.YtlbabnffiibnpaaGreatUkX
import Derived.Test.YtlbabnffiibnpaaGreatMiX
namespace Go.Proofs.YtlbabnffiibnpaaGreat
open Go.RowKit
/-- What branch answers. -/
def BrE (W W' : World) (S : Nat → Bool) (e : Ending) : Except Int (List (Nd × ByteArray)) → Prop
  | .error f => e = .returned (.tuple #[ndV zN zH, .iface 44 (.int .i64 f)]) ∧ Below W.heap.size W W'
  | .ok L => (∃ h', e = .returned (.tuple #[ndV (chainF L) h', .nilIface]) ∧ NdV (offS W'.cell? S) (chainF L) h') ∧ Below W.heap.size W W'
theorem brE_err {W W' : World} {S : Nat → Bool} {f : Int} {R : Except Int (List (Nd × ByteArray))} (hR : R = .error f) (hb : Below W.heap.size W W') : BrE W W' S (.returned (.tuple #[ndV zN zH, .iface 44 (.int .i64 f)])) R := by subst hR; exact ⟨rfl, hb⟩
theorem set_alloc (w : World) {g : Nat} (hg : g < w.heap.size) (i : Nat) (v : Value) (o : Obj) : (w.alloc o).setCell ⟨g, i, none⟩ v = (w.setCell ⟨g, i, none⟩ v).alloc o := by
  exact World.setCell_alloc_past o g i v hg
theorem nd_bareK {c : Mem} {k m u g : Int} {o : Bool} {at_ : List Kv} {d : ByteArray} {h : Hd} (hN : NdV c (.mk k m u g o at_ d []) h) : NdV c (bareN (.mk k m u g o at_ d [])) h := ndV_iff.2 (ndV_iff.1 hN)
theorem lim_bare {x : Nd} (h : Lim x) : Lim (bareN x) := by
  obtain ⟨k, m, u, g, o, at_, d, ks⟩ := x
  rw [Lim] at h
  show Lim (.mk k m u g false at_ d [])
  rw [Lim]
  exact ⟨h.1, by simp, by rw [LimL]; trivial⟩
set_option maxRecDepth 100000 in
set_option maxHeartbeats 4000000 in
theorem branch_any {W : World} {S : Nat → Bool} (hS0 : ∀ k, S k = true → k < W.heap.size) {na : Option Addr} {cn : Nat} {nds : List Nd} {sa : Option Addr} {cs : Nat} {nms : List ByteArray} (hx : NsV (offS W.cell? S) na nds) (hs : Strs (offS W.cell? S) sa nms) (hne : nds ≠ []) (hlx : nds.length ≤ 1000) (hln : nds.length ≤ nms.length) (hok : ∀ y ∈ nds, y.kids = [] ∧ Lim y ∧ IdT y) {M : MapsV} (hM : MapsOk W M) :
    Calls Tryz.prog 15 #[M.v, .slice na nds.length cn, .slice sa nms.length cs] W fun e W' => BrE W W' S e (brF M.us M.gs (prsF nds nms)) := by
  obtain ⟨ua, ga, uc, gc, us, gs⟩ := M
  obtain ⟨i0, hi0, hi1, hi2, hi3⟩ := info_three Tryz.infoNd
  have HI0 : Hid _ := hi0
  have HI1 : Hid _ := hi1
  have HI2 : Hid _ := hi2
  have HI3 : Hid _ := hi3
  clear hi0 hi1 hi2 hi3
  obtain ⟨c0, c1, RB, hBA, hzA⟩ := two_up W _ _ ua ga us.length gs.length uc gc rfl rfl
  have HX : Hid (NsV (offS W.cell? S) na nds) := hx
  have HS : Hid (Strs (offS W.cell? S) sa nms) := hs
  have HM : Hid (MapsOk W ⟨ua, ga, uc, gc, us, gs⟩) := hM
  have HOK : Hid (∀ y ∈ nds, y.kids = [] ∧ Lim y ∧ IdT y) := hok
  have HNE : Hid (nds ≠ []) := hne
  obtain ⟨R, HR⟩ : ∃ R, Hid (brF us gs (prsF nds nms) = R) := ⟨_, rfl⟩
  show Calls Tryz.prog 15 #[.agg #[.slice ua us.length uc, .slice ga gs.length gc], .slice na nds.length cn, .slice sa nms.length cs] W fun e W' => BrE W W' S e (brF us gs (prsF nds nms))
  rw [HR.out]
  obtain ⟨N, HN⟩ : ∃ N, Hid (nds.length = N) := ⟨_, rfl⟩
  obtain ⟨NM, HNM⟩ : ∃ N, Hid (nms.length = N) := ⟨_, rfl⟩
  rw [HN.out] at hlx hln ⊢
  rw [HNM.out] at hln ⊢
  have HBI : Hid (BrI S W ua ga us.length gs.length uc gc (.slice none 0 0) [] ((W.alloc (.cells #[.slice ua us.length uc, .slice ga gs.length gc] 25)).alloc (.cells #[.int .i64 0, .int .i64 0, .int .i64 0, .int .i64 0, .bool false, .slice none 0 0, .string ⟨#[]⟩, .slice none 0 0] 34))) := ⟨hBA, c0, c1, RB, World.ownsRow_nil _ _ _ _, fun f hf => by cases hf⟩
  clear hx hs hM hok hne c0 c1 RB hBA hzA
  go_enter Tryz.func15, Tryz.ntmps15
  go_upto_region 1 with fail
  generalize ((W.alloc (.cells #[.slice ua us.length uc, .slice ga gs.length gc] 25)).alloc (.cells #[.int .i64 0, .int .i64 0, .int .i64 0, .int .i64 0, .bool false, .slice none 0 0, .string ⟨#[]⟩, .slice none 0 0] 34)) = wA at HBI ⊢
  go_wp2
  go_loopw [8, 16] (fun v i wr => ∃ (j : Nat) (L : List Fl) (P : List (Nd × ByteArray)), j ≤ N ∧ i = .int .i64 j ∧ Hid (brF us gs ((prsF nds nms).take j) = .ok P) ∧ Hid (P.map Prod.fst = L.map Fl.x) ∧ Hid (L.length = j) ∧ Hid (BrI S W ua ga us.length gs.length uc gc v L wr)) (fun _ i _ => N - (intOf i).toNat)
  case atStart => exact ⟨0, [], [], Nat.zero_le _, rfl, rfl, rfl, rfl, HBI.out⟩
  case round =>
    clear HBI
    obtain ⟨j, L, P, hj, rfl, HP, HPL, HLJ, HBI⟩ := hrel
    by_cases hjl : j < N
    rotate_left
    · obtain rfl : j = N := by omega
      have hb : decide ((j : Int) < (j : Int)) = false := decide_eq_false (by omega)
      have HRP : Hid (R = .ok P) := by
        have e := HP.out
        rw [List.take_of_length_le (by rw [prs_len (by rw [HN.out, HNM.out]; exact hln), HN.out]; omega), HR.out] at e
        exact e
      have HPS : Hid (P.map Prod.snd = (prsF nds nms).map Prod.snd ∧ P.length = j) := by
        have e := HRP.out
        rw [← HR.out] at e
        have e1 := (brF_ok e).1
        refine ⟨e1, ?_⟩
        have e2 := congrArg List.length e1
        rw [List.length_map, List.length_map, prs_len (by rw [HN.out, HNM.out]; exact hln), HN.out] at e2
        exact e2
      have hjp : 0 < j := by
        have e := HN.out
        rcases Nat.eq_zero_or_pos j with e2 | e2
        · rw [e2] at e; exact absurd (List.length_eq_zero_iff.1 e) HNE.out
        · exact e2
      obtain ⟨jj, rfl⟩ : ∃ jj, j = jj + 1 := ⟨j - 1, by omega⟩
      obtain ⟨g, vcap, rfl, hgb, hgc, hgn, hgf⟩ : ∃ g cap, u8 = .slice (some ⟨g, 0, none⟩) (jj + 1) cap ∧ W.heap.size + 1 + 1 ≤ g ∧ jj + 1 ≤ cap ∧ (∀ (i : Nat) f, L[i]? = some f → NAt wr.cell? g (i * 8) f.x f.h) ∧ ∀ j, wr.frozen? ⟨g, j, none⟩ = false := by
        have e := row_nat HBI.out.row
        rw [HLJ.out] at e
        rcases e with e | e
        · have := HLJ.out; rw [e] at this; cases this
        · exact e
      have hat : ∀ (t : Nat), t < jj + 1 → ∃ f p, L[t]? = some f ∧ P[t]? = some p ∧ f.x = p.1 ∧ nms[t]? = some p.2 := fun t ht => by
        obtain ⟨f, hf⟩ : ∃ f, L[t]? = some f := ⟨_, List.getElem?_eq_getElem (by rw [HLJ.out]; exact ht)⟩
        obtain ⟨p, hp⟩ : ∃ p, P[t]? = some p := ⟨_, List.getElem?_eq_getElem (by rw [HPS.out.2]; exact ht)⟩
        obtain ⟨y, hy⟩ : ∃ y, nds[t]? = some y := ⟨_, List.getElem?_eq_getElem (by rw [HN.out]; exact ht)⟩
        obtain ⟨nm, hn⟩ : ∃ nm, nms[t]? = some nm := ⟨_, List.getElem?_eq_getElem (by rw [HNM.out]; omega)⟩
        have e1 := congrArg (fun l => l[t]?) HPL.out
        simp only [List.getElem?_map, hf, hp, Option.map_some, Option.some.injEq] at e1
        have e2 := congrArg (fun l => l[t]?) HPS.out.1
        simp only [List.getElem?_map, hp, prs_at hy hn, Option.map_some, Option.some.injEq] at e2
        exact ⟨f, p, hf, hp, e1.symm, by rw [hn, e2]⟩
      have HAT : Hid _ := hat
      have HBJ : Hid (BrJ S W (.slice (some ⟨g, 0, none⟩) (jj + 1) vcap) g L P jj wr) := by
        obtain ⟨f, p, h1, h2, h3, h4⟩ := hat jj (by omega)
        have e0 : P.drop jj = [p] := by
          have e1 := List.drop_eq_getElem_cons (List.getElem?_eq_some_iff.1 h2).1
          rw [(List.getElem?_eq_some_iff.1 h2).2, show P.drop (jj + 1) = [] from List.drop_of_length_le (by rw [HPS.out.2]; omega)] at e1
          exact e1
        refine ⟨HBI.out.low, by omega, (HBI.out.row.lt g rfl).2, HBI.out.rb, hgf, fun s f hs hf => ⟨hgn s f hf, HBI.out.nd f (List.mem_of_getElem? hf)⟩, f.h, ?_, ?_⟩
        · rw [e0, chainF, ← h3]; exact hgn jj f h1
        · rw [e0, chainF, ← h3]; exact HBI.out.nd f (List.mem_of_getElem? h1)
      clear hat hgn hgf HPL HP HLJ
      have HBW : Hid (BrI S W ua ga us.length gs.length uc gc (.slice (some ⟨g, 0, none⟩) (jj + 1) vcap) L wr) := HBI.out
      clear HBI
      go_wp2
      go_loopw [13] (fun i w2 => ∃ t : Nat, t ≤ jj ∧ i = .int .i64 t ∧ Hid (BrJ S W (.slice (some ⟨g, 0, none⟩) (jj + 1) vcap) g L P t w2)) (fun i _ => (intOf i).toNat)
      case atStart => exact ⟨jj, Nat.le_refl _, by go_num, HBJ.out⟩
      case round =>
        clear HBJ
        obtain ⟨t, ht, rfl, HJ⟩ := hrel
        cases t with
        | zero =>
          obtain ⟨hc, hn0, hn1⟩ := HJ.out.ch
          obtain ⟨C, HC⟩ : ∃ C, Hid (chainF (P.drop 0) = C) := ⟨_, rfl⟩
          rw [HC.out] at hn0 hn1
          obtain ⟨zk, zm, zu, zg, zo, za, zd, zs⟩ := C
          have HRC : Hid (chainF P = (.mk zk zm zu zg zo za zd zs)) := HC.out
          have HN1 : Hid _ := hn1
          have RB := HJ.out.rb
          have hB := HJ.out.low
          have R8 := RB.store (.mk zk zm zu zg zo za zd zs) hc
          have b8 : But (W.heap.size + 1) wr (stB wr (W.heap.size + 1) (.mk zk zm zu zg zo za zd zs) hc) := stB_but
          have hB8 : Below W.heap.size W (stB wr (W.heap.size + 1) (.mk zk zm zu zg zo za zd zs) hc) := hB.trans (b8.below (by omega) hB.size)
          have HN8 : Hid (NdV (offS (stB wr (W.heap.size + 1) (.mk zk zm zu zg zo za zd zs) hc).cell? S) (.mk zk zm zu zg zo za zd zs) hc) := hn1.on (mle_step fun q hq hs => by
            simp [brS] at hs
            exact ⟨hs.2, b8.block q hq hs.1.1.2⟩)
          have z0 := RB.2 0
          have z1 := RB.2 1
          have z2 := RB.2 2
          have z3 := RB.2 3
          have z4 := RB.2 4
          have z5 := RB.2 5
          have z6 := RB.2 6
          have z7 := RB.2 7
          obtain ⟨y0, y1, y2, y3, y4, y5, y6, y7⟩ := RB.1
          obtain ⟨f0, f1, f2, f3, f4, f5, f6, f7⟩ := hn0
          simp only [Nat.zero_mul, Nat.zero_add] at f0 f1 f2 f3 f4 f5 f6 f7
          clear RB HJ HC hn1 HN1 HAT HBW b8
          go_wp2
          obtain ⟨W9, HW9⟩ : ∃ W9, Hid (stB wr (W.heap.size + 1) (.mk zk zm zu zg zo za zd zs) hc = W9) := ⟨_, rfl⟩
          rw [HW9.out] at R8 hB8 HN8
          have hw9 := HW9.out
          simp only [stB] at hw9
          rw [hw9]
          obtain ⟨r0, r1, r2, r3, r4, r5, r6, r7⟩ := R8.1
          refine bodyPost_ret (v := .tuple #[ndV (.mk zk zm zu zg zo za zd zs) hc, .nilIface]) (by simp [results, Tryz.results15, go_sem, ndV, r0, r1, r2, r3, r4, r5, r6, r7]) rfl ?_
          rw [HRP.out]
          refine ⟨⟨hc, by rw [HRC.out], ?_⟩, hB8⟩
          rw [HRC.out]
          exact HN8.out
        | succ t =>
          obtain ⟨f, p, a1, a2, a3, a4⟩ := HAT.out t (by omega)
          obtain ⟨_, q, _, b2, _, b4⟩ := HAT.out (t + 1) (by omega)
          obtain ⟨hc, hn0, hn1⟩ := HJ.out.ch
          have HST : Hid _ := HJ.out.step rfl a1 a2 b2 a3 hn0 hn1 (by
            have := hS0 wr.heap.size
            have e2 := HJ.out.low.size
            have e3 := HJ.out.gz
            have e4 := HJ.out.rb.1.lt
            simp [brS, Value.ownBlock]
            refine ⟨⟨⟨by omega, by omega⟩, by omega⟩, ?_⟩
            cases hh : S wr.heap.size with
            | false => rfl
            | true => have := this hh; omega)
          have hgz := HJ.out.gz
          obtain ⟨C, HC⟩ : ∃ C, Hid (chainF (P.drop (t + 1)) = C) := ⟨_, rfl⟩
          rw [HC.out] at hn0 hn1 HST
          obtain ⟨zk, zm, zu, zg, zo, za, zd, zs⟩ := C
          obtain ⟨sb, so, rfl, hsa⟩ : ∃ b off, sa = some ⟨b, off, none⟩ ∧ ∀ i s, nms[i]? = some s → offS W.cell? S ⟨b, off + i, none⟩ = some (.string s) := by
            rcases HS.out with e | e
            · rw [e] at b4; simp at b4
            · exact e
          have hsn : wr.cell? ⟨sb, so + (t + 1), none⟩ = some (.string q.2) := mle_below HJ.out.low _ _ (offS_le _ _ _ _ (hsa _ _ b4))
          have hsg : sb ≠ g := fun e => by
            have e1 := World.block_lt_of_cell? _ _ (offS_le _ _ _ _ (hsa _ _ b4))
            have : sb < W.heap.size := e1
            omega
          have hfz := HJ.out.fz (t * 8 + 7)
          obtain ⟨fk, fa7⟩ : ∃ u7, wr.cell? ⟨g, t * 8 + 7, none⟩ = some u7 := by
            obtain ⟨e1, _⟩ := HJ.out.ab t f (by omega) a1
            obtain ⟨⟨k, m, u, gg, o, at_, d, ks⟩, fh, fl⟩ := f
            exact ⟨_, e1.2.2.2.2.2.2.2⟩
          obtain ⟨f0, f1, f2, f3, f4, f5, f6, f7⟩ := hn0
          obtain ⟨q1, qn⟩ := q
          dsimp only at hsn HST b4
          clear HJ HAT hn1 HC a1 a2 a3 a4 b2 b4 hsa
          rw [show ((t + 1 : Nat) : Int) = (t : Int) + 1 by omega]
          have hb : decide ((0 : Int) < (t : Int) + 1) = true := decide_eq_true (by omega)
          have k0 : (0 : Int) ≤ (t : Int) + 1 := by omega
          have k1 : (t : Int) + 1 < (NM : Int) := by omega
          have k2 : (t : Int) + 1 < (jj : Int) + 1 := by omega
          have k3 : (t : Int) < (jj : Int) + 1 := by omega
          have htn : ((t : Int) + 1).toNat = t + 1 := by omega
          have k4 : (t : Int) ≤ (jj : Int) := by omega
          have k5 : IntKind.i64.wrap (t : Int) = (t : Int) := wrap_small (by omega) (by omega)
          have k6 : IntKind.i64.wrap ((t : Int) + 1 - 1) = (t : Int) := (wrap_small (by omega) (by omega)).trans (by omega)
          have T4 : wr.cell? ⟨sb, so + (t + 1), none⟩ = some (.string qn) ∧ wr.cell? ⟨g, (t + 1) * 8, none⟩ = some (.int .i64 zk) ∧ wr.cell? ⟨g, (t + 1) * 8 + 1, none⟩ = some (.int .i64 zm) ∧ wr.cell? ⟨g, (t + 1) * 8 + 2, none⟩ = some (.int .i64 zu) ∧ wr.cell? ⟨g, (t + 1) * 8 + 3, none⟩ = some (.int .i64 zg) ∧ wr.cell? ⟨g, (t + 1) * 8 + 4, none⟩ = some (.bool zo) ∧ wr.cell? ⟨g, (t + 1) * 8 + 5, none⟩ = some (.slice hc.aa za.length hc.ca) ∧ wr.cell? ⟨g, (t + 1) * 8 + 6, none⟩ = some (.string zd) ∧ wr.cell? ⟨g, (t + 1) * 8 + 7, none⟩ = some (.slice hc.ak zs.length hc.ck) := ⟨hsn, f0, f1, f2, f3, f4, f5, f6, f7⟩
          have T5 : wr.drew.cell? ⟨sb, so + (t + 1), none⟩ = some (.string qn) ∧ wr.drew.cell? ⟨g, (t + 1) * 8, none⟩ = some (.int .i64 zk) ∧ wr.drew.cell? ⟨g, (t + 1) * 8 + 1, none⟩ = some (.int .i64 zm) ∧ wr.drew.cell? ⟨g, (t + 1) * 8 + 2, none⟩ = some (.int .i64 zu) ∧ wr.drew.cell? ⟨g, (t + 1) * 8 + 3, none⟩ = some (.int .i64 zg) ∧ wr.drew.cell? ⟨g, (t + 1) * 8 + 4, none⟩ = some (.bool zo) ∧ wr.drew.cell? ⟨g, (t + 1) * 8 + 5, none⟩ = some (.slice hc.aa za.length hc.ca) ∧ wr.drew.cell? ⟨g, (t + 1) * 8 + 6, none⟩ = some (.string zd) ∧ wr.drew.cell? ⟨g, (t + 1) * 8 + 7, none⟩ = some (.slice hc.ak zs.length hc.ck) := T4
          have T6 : (wr.alloc (.cells #[.string qn, .int .i64 zk, .int .i64 zm, .int .i64 zu, .int .i64 zg, .bool zo, .slice hc.aa za.length hc.ca, .string zd, .slice hc.ak zs.length hc.ck] 61)).drew.cell? ⟨sb, so + (t + 1), none⟩ = some (.string qn) ∧ (wr.alloc (.cells #[.string qn, .int .i64 zk, .int .i64 zm, .int .i64 zu, .int .i64 zg, .bool zo, .slice hc.aa za.length hc.ca, .string zd, .slice hc.ak zs.length hc.ck] 61)).drew.cell? ⟨g, (t + 1) * 8, none⟩ = some (.int .i64 zk) ∧ (wr.alloc (.cells #[.string qn, .int .i64 zk, .int .i64 zm, .int .i64 zu, .int .i64 zg, .bool zo, .slice hc.aa za.length hc.ca, .string zd, .slice hc.ak zs.length hc.ck] 61)).drew.cell? ⟨g, (t + 1) * 8 + 1, none⟩ = some (.int .i64 zm) ∧ (wr.alloc (.cells #[.string qn, .int .i64 zk, .int .i64 zm, .int .i64 zu, .int .i64 zg, .bool zo, .slice hc.aa za.length hc.ca, .string zd, .slice hc.ak zs.length hc.ck] 61)).drew.cell? ⟨g, (t + 1) * 8 + 2, none⟩ = some (.int .i64 zu) ∧ (wr.alloc (.cells #[.string qn, .int .i64 zk, .int .i64 zm, .int .i64 zu, .int .i64 zg, .bool zo, .slice hc.aa za.length hc.ca, .string zd, .slice hc.ak zs.length hc.ck] 61)).drew.cell? ⟨g, (t + 1) * 8 + 3, none⟩ = some (.int .i64 zg) ∧ (wr.alloc (.cells #[.string qn, .int .i64 zk, .int .i64 zm, .int .i64 zu, .int .i64 zg, .bool zo, .slice hc.aa za.length hc.ca, .string zd, .slice hc.ak zs.length hc.ck] 61)).drew.cell? ⟨g, (t + 1) * 8 + 4, none⟩ = some (.bool zo) ∧ (wr.alloc (.cells #[.string qn, .int .i64 zk, .int .i64 zm, .int .i64 zu, .int .i64 zg, .bool zo, .slice hc.aa za.length hc.ca, .string zd, .slice hc.ak zs.length hc.ck] 61)).drew.cell? ⟨g, (t + 1) * 8 + 5, none⟩ = some (.slice hc.aa za.length hc.ca) ∧ (wr.alloc (.cells #[.string qn, .int .i64 zk, .int .i64 zm, .int .i64 zu, .int .i64 zg, .bool zo, .slice hc.aa za.length hc.ca, .string zd, .slice hc.ak zs.length hc.ck] 61)).drew.cell? ⟨g, (t + 1) * 8 + 6, none⟩ = some (.string zd) ∧ (wr.alloc (.cells #[.string qn, .int .i64 zk, .int .i64 zm, .int .i64 zu, .int .i64 zg, .bool zo, .slice hc.aa za.length hc.ca, .string zd, .slice hc.ak zs.length hc.ck] 61)).drew.cell? ⟨g, (t + 1) * 8 + 7, none⟩ = some (.slice hc.ak zs.length hc.ck) := ⟨mle_below (alloc_bel wr _) _ _ T4.1, mle_below (alloc_bel wr _) _ _ T4.2.1, mle_below (alloc_bel wr _) _ _ T4.2.2.1, mle_below (alloc_bel wr _) _ _ T4.2.2.2.1, mle_below (alloc_bel wr _) _ _ T4.2.2.2.2.1, mle_below (alloc_bel wr _) _ _ T4.2.2.2.2.2.1, mle_below (alloc_bel wr _) _ _ T4.2.2.2.2.2.2.1, mle_below (alloc_bel wr _) _ _ T4.2.2.2.2.2.2.2.1, mle_below (alloc_bel wr _) _ _ T4.2.2.2.2.2.2.2.2⟩
          have T7 : ((wr.setCell ⟨g, t * 8 + 7, none⟩ (.slice (some ⟨wr.heap.size, 0, none⟩) 1 1)).alloc (.cells #[.string qn, .int .i64 zk, .int .i64 zm, .int .i64 zu, .int .i64 zg, .bool zo, .slice hc.aa za.length hc.ca, .string zd, .slice hc.ak zs.length hc.ck] 61)).drew.cell? ⟨sb, so + (t + 1), none⟩ = some (.string qn) ∧ ((wr.setCell ⟨g, t * 8 + 7, none⟩ (.slice (some ⟨wr.heap.size, 0, none⟩) 1 1)).alloc (.cells #[.string qn, .int .i64 zk, .int .i64 zm, .int .i64 zu, .int .i64 zg, .bool zo, .slice hc.aa za.length hc.ca, .string zd, .slice hc.ak zs.length hc.ck] 61)).drew.cell? ⟨g, (t + 1) * 8, none⟩ = some (.int .i64 zk) ∧ ((wr.setCell ⟨g, t * 8 + 7, none⟩ (.slice (some ⟨wr.heap.size, 0, none⟩) 1 1)).alloc (.cells #[.string qn, .int .i64 zk, .int .i64 zm, .int .i64 zu, .int .i64 zg, .bool zo, .slice hc.aa za.length hc.ca, .string zd, .slice hc.ak zs.length hc.ck] 61)).drew.cell? ⟨g, (t + 1) * 8 + 1, none⟩ = some (.int .i64 zm) ∧ ((wr.setCell ⟨g, t * 8 + 7, none⟩ (.slice (some ⟨wr.heap.size, 0, none⟩) 1 1)).alloc (.cells #[.string qn, .int .i64 zk, .int .i64 zm, .int .i64 zu, .int .i64 zg, .bool zo, .slice hc.aa za.length hc.ca, .string zd, .slice hc.ak zs.length hc.ck] 61)).drew.cell? ⟨g, (t + 1) * 8 + 2, none⟩ = some (.int .i64 zu) ∧ ((wr.setCell ⟨g, t * 8 + 7, none⟩ (.slice (some ⟨wr.heap.size, 0, none⟩) 1 1)).alloc (.cells #[.string qn, .int .i64 zk, .int .i64 zm, .int .i64 zu, .int .i64 zg, .bool zo, .slice hc.aa za.length hc.ca, .string zd, .slice hc.ak zs.length hc.ck] 61)).drew.cell? ⟨g, (t + 1) * 8 + 3, none⟩ = some (.int .i64 zg) ∧ ((wr.setCell ⟨g, t * 8 + 7, none⟩ (.slice (some ⟨wr.heap.size, 0, none⟩) 1 1)).alloc (.cells #[.string qn, .int .i64 zk, .int .i64 zm, .int .i64 zu, .int .i64 zg, .bool zo, .slice hc.aa za.length hc.ca, .string zd, .slice hc.ak zs.length hc.ck] 61)).drew.cell? ⟨g, (t + 1) * 8 + 4, none⟩ = some (.bool zo) ∧ ((wr.setCell ⟨g, t * 8 + 7, none⟩ (.slice (some ⟨wr.heap.size, 0, none⟩) 1 1)).alloc (.cells #[.string qn, .int .i64 zk, .int .i64 zm, .int .i64 zu, .int .i64 zg, .bool zo, .slice hc.aa za.length hc.ca, .string zd, .slice hc.ak zs.length hc.ck] 61)).drew.cell? ⟨g, (t + 1) * 8 + 5, none⟩ = some (.slice hc.aa za.length hc.ca) ∧ ((wr.setCell ⟨g, t * 8 + 7, none⟩ (.slice (some ⟨wr.heap.size, 0, none⟩) 1 1)).alloc (.cells #[.string qn, .int .i64 zk, .int .i64 zm, .int .i64 zu, .int .i64 zg, .bool zo, .slice hc.aa za.length hc.ca, .string zd, .slice hc.ak zs.length hc.ck] 61)).drew.cell? ⟨g, (t + 1) * 8 + 6, none⟩ = some (.string zd) ∧ ((wr.setCell ⟨g, t * 8 + 7, none⟩ (.slice (some ⟨wr.heap.size, 0, none⟩) 1 1)).alloc (.cells #[.string qn, .int .i64 zk, .int .i64 zm, .int .i64 zu, .int .i64 zg, .bool zo, .slice hc.aa za.length hc.ca, .string zd, .slice hc.ak zs.length hc.ck] 61)).drew.cell? ⟨g, (t + 1) * 8 + 7, none⟩ = some (.slice hc.ak zs.length hc.ck) := ⟨mle_below (alloc_bel _ _) _ _ ((World.cell?_setCell_other _ _ _ _ (fun e => by simp only [Addr.mk.injEq] at e; omega)).trans T4.1), mle_below (alloc_bel _ _) _ _ ((World.cell?_setCell_other _ _ _ _ (fun e => by simp only [Addr.mk.injEq] at e; omega)).trans T4.2.1), mle_below (alloc_bel _ _) _ _ ((World.cell?_setCell_other _ _ _ _ (fun e => by simp only [Addr.mk.injEq] at e; omega)).trans T4.2.2.1), mle_below (alloc_bel _ _) _ _ ((World.cell?_setCell_other _ _ _ _ (fun e => by simp only [Addr.mk.injEq] at e; omega)).trans T4.2.2.2.1), mle_below (alloc_bel _ _) _ _ ((World.cell?_setCell_other _ _ _ _ (fun e => by simp only [Addr.mk.injEq] at e; omega)).trans T4.2.2.2.2.1), mle_below (alloc_bel _ _) _ _ ((World.cell?_setCell_other _ _ _ _ (fun e => by simp only [Addr.mk.injEq] at e; omega)).trans T4.2.2.2.2.2.1), mle_below (alloc_bel _ _) _ _ ((World.cell?_setCell_other _ _ _ _ (fun e => by simp only [Addr.mk.injEq] at e; omega)).trans T4.2.2.2.2.2.2.1), mle_below (alloc_bel _ _) _ _ ((World.cell?_setCell_other _ _ _ _ (fun e => by simp only [Addr.mk.injEq] at e; omega)).trans T4.2.2.2.2.2.2.2.1), mle_below (alloc_bel _ _) _ _ ((World.cell?_setCell_other _ _ _ _ (fun e => by simp only [Addr.mk.injEq] at e; omega)).trans T4.2.2.2.2.2.2.2.2)⟩
          clear T4 hsn f0 f1 f2 f3 f4 f5 f6 f7
          go_upto_region 16 with fail
          go_region_held3 (fun w' => w'.cell? ⟨sb, so + (t + 1), none⟩ = some (.string qn) ∧ w'.cell? ⟨g, (t + 1) * 8, none⟩ = some (.int .i64 zk) ∧ w'.cell? ⟨g, (t + 1) * 8 + 1, none⟩ = some (.int .i64 zm) ∧ w'.cell? ⟨g, (t + 1) * 8 + 2, none⟩ = some (.int .i64 zu) ∧ w'.cell? ⟨g, (t + 1) * 8 + 3, none⟩ = some (.int .i64 zg) ∧ w'.cell? ⟨g, (t + 1) * 8 + 4, none⟩ = some (.bool zo) ∧ w'.cell? ⟨g, (t + 1) * 8 + 5, none⟩ = some (.slice hc.aa za.length hc.ca) ∧ w'.cell? ⟨g, (t + 1) * 8 + 6, none⟩ = some (.string zd) ∧ w'.cell? ⟨g, (t + 1) * 8 + 7, none⟩ = some (.slice hc.ak zs.length hc.ck)) (first | with_reducible exact T5 | with_reducible exact T6 | with_reducible exact T7) (fail)
          have HEQ : Hid ((wr.alloc (.cells (.string qn :: ndL (.mk zk zm zu zg zo za zd zs) hc).toArray 61)).setCell ⟨g, t * 8 + 7, none⟩ (.slice (some ⟨wr.heap.size, 0, none⟩) 1 1) = (wr.setCell ⟨g, t * 8 + 7, none⟩ (.slice (some ⟨wr.heap.size, 0, none⟩) 1 1)).alloc (.cells #[.string qn, .int .i64 zk, .int .i64 zm, .int .i64 zu, .int .i64 zg, .bool zo, .slice hc.aa za.length hc.ca, .string zd, .slice hc.ak zs.length hc.ck] 61)) := set_alloc wr hgz _ _ _
          rw [HEQ.out] at HST
          clear T5 T6 T7 fa7 hfz HEQ
          generalize (wr.setCell ⟨g, t * 8 + 7, none⟩ (.slice (some ⟨wr.heap.size, 0, none⟩) 1 1)).alloc (.cells #[.string qn, .int .i64 zk, .int .i64 zm, .int .i64 zu, .int .i64 zg, .bool zo, .slice hc.aa za.length hc.ca, .string zd, .slice hc.ak zs.length hc.ck] 61) = w5 at HST ⊢
          go_wp2
          go_roundw
          case rel => exact ⟨t, by omega, by go_num, HST.out.below (Below.refl _ _).drew⟩
          case measure => (simp [intOf]; try omega)
    have hb : decide ((j : Int) < (N : Int)) = true := decide_eq_true (by omega)
    obtain ⟨y, hyj⟩ : ∃ y, nds[j]? = some y := ⟨_, List.getElem?_eq_getElem (by rw [HN.out]; exact hjl)⟩
    obtain ⟨nm, hnj⟩ : ∃ nm, nms[j]? = some nm := ⟨_, List.getElem?_eq_getElem (by rw [HNM.out]; omega)⟩
    obtain ⟨nb, no, rfl, hfx, hfa⟩ : ∃ b off, na = some ⟨b, off, none⟩ ∧ ∃ f : Nat → Hd, ∀ i x, nds[i]? = some x → NAt (offS W.cell? S) b (off + i * 8) x (f i) ∧ NdV (offS W.cell? S) x (f i) := by
      rcases HX.out with e | e
      · rw [e] at hyj; simp at hyj
      · exact e
    obtain ⟨sb, so, rfl, hsa⟩ : ∃ b off, sa = some ⟨b, off, none⟩ ∧ ∀ i s, nms[i]? = some s → offS W.cell? S ⟨b, off + i, none⟩ = some (.string s) := by
      rcases HS.out with e | e
      · rw [e] at hnj; simp at hnj
      · exact e
    obtain ⟨hya, hyn⟩ := hfa j y hyj
    obtain ⟨hk0, hli, hid⟩ := HOK.out y (List.mem_of_getElem? hyj)
    have hsn := hsa j nm hnj
    have HNX : Hid ((prsF nds nms).take (j + 1) = (prsF nds nms).take j ++ [(bareN y, nm)]) := prs_next hyj hnj
    have HFULL : Hid (prsF nds nms = (prsF nds nms).take (j + 1) ++ (prsF nds nms).drop (j + 1)) := (List.take_append_drop _ _).symm
    generalize hfx j = hy at hya hyn
    obtain ⟨yk, ym, yu, yg, yo, ya, yd, ys⟩ := y
    have hk0 : ys = [] := hk0
    subst hk0
    have hlow := HBI.out.low
    have hmW : MLe (offS W.cell? S) (offS wr.cell? (brS W.heap.size u8 S)) := mle_step fun q hq hs => ⟨by
      have e1 := HBI.out.row.lt
      simp [brS, hs]
      exact ⟨⟨by omega, by omega⟩, fun e => by have := (e1 q e).1; omega⟩, hlow.block q hq⟩
    have hyw := (hya.on hmW).on (offS_le _ _)
    have hynw := hyn.on hmW
    have hsnw := offS_le _ _ _ _ (hmW _ _ hsn)
    have hb2 := alloc_bel wr (.cells #[.int .i64 yk, .int .i64 ym, .int .i64 yu, .int .i64 yg, .bool false, .slice hy.aa ya.length hy.ca, .string yd, .slice hy.ak 0 hy.ck] 34)
    have BI2 := HBI.out.below hb2
    obtain ⟨OY, HOY⟩ : ∃ OY, Hid (mvF true us gs (bareN (.mk yk ym yu yg yo ya yd [])) = OY) := ⟨_, rfl⟩
    have HMv : Hid (Calls Tryz.prog 28 #[.agg #[.slice ua us.length uc, .slice ga gs.length gc], .agg #[.int .i64 yk, .int .i64 ym, .int .i64 yu, .int .i64 yg, .bool false, .slice hy.aa ya.length hy.ca, .string yd, .slice hy.ak 0 hy.ck]] (wr.alloc (.cells #[.int .i64 yk, .int .i64 ym, .int .i64 yu, .int .i64 yg, .bool false, .slice hy.aa ya.length hy.ca, .string yd, .slice hy.ak 0 hy.ck] 34)) fun e W' => MvE (wr.alloc (.cells #[.int .i64 yk, .int .i64 ym, .int .i64 yu, .int .i64 yg, .bool false, .slice hy.aa ya.length hy.ca, .string yd, .slice hy.ak 0 hy.ck] 34)) W' (brS W.heap.size u8 S) e OY) := by
      have := outside_co (W := wr.alloc (.cells #[.int .i64 yk, .int .i64 ym, .int .i64 yu, .int .i64 yg, .bool false, .slice hy.aa ya.length hy.ca, .string yd, .slice hy.ak 0 hy.ck] 34)) (S := (brS W.heap.size u8 S)) (M := ⟨ua, ga, uc, gc, us, gs⟩) (x := bareN (.mk yk ym yu yg yo ya yd [])) (h := hy) (BI2.hid hS0) (NdV.on (nd_bareK hynw) (mle_S hb2)) (lim_bare hli) (by rw [cnt_bare]; omega) (idT_bare hid) (HM.out.below BI2.low)
      rw [HOY.out] at this
      exact this
    have m0 := BI2.m0
    have m1 := BI2.m1
    obtain ⟨n0, n1, n2, n3, n4, n5, n6, n7⟩ := hyw
    simp only [List.length_nil] at n7
    clear hya hyn hid hli hsa hsn hynw hfa hyj hnj
    go_wp2_with fail
    refine Calls.mono HMv.out ?_
    intro e w3 hE
    clear n0 n1 n2 n3 n4 n5 n6 n7 m0 m1 HMv
    cases OY with
    | none =>
      obtain ⟨rfl, hB3⟩ := hE
      have HEE : Hid (R = .error 11) := by
        show R = _
        rw [← HR.out, HFULL.out]
        refine brF_err _ ?_
        rw [HNX.out, brF_snoc, HP.out]
        dsimp only
        rw [HOY.out]
      have BI3 := BI2.below hB3
      have hb4 := alloc_bel w3 (.cells #[.int .i64 0, .int .i64 0, .int .i64 0, .int .i64 0, .bool false, .slice none 0 0, .string ⟨#[]⟩, .slice none 0 0] 34)
      have BI4 := BI3.below hb4
      have hB4 := BI4.low
      have RB4 := BI4.rb
      rw [show ndV zN zH = .agg #[.int .i64 0, .int .i64 0, .int .i64 0, .int .i64 0, .bool false, .slice none 0 0, .string ⟨#[]⟩, .slice none 0 0] from rfl]
      clear BI2 BI3 BI4 hb4 hb2 hB3 hlow hmW hsnw HBI HNX HFULL HP HPL
      go_upto_region 7 with fail
      generalize w3.alloc (.cells #[.int .i64 0, .int .i64 0, .int .i64 0, .int .i64 0, .bool false, .slice none 0 0, .string ⟨#[]⟩, .slice none 0 0] 34) = w4 at hB4 RB4 ⊢
      have R3 := NBw.store RB4 zN zH
      have hB3 : Below W.heap.size W (stB w4 (W.heap.size + 1) zN zH) := hB4.trans (stB_but.below (by omega) hB4.size)
      have z0 := RB4.2 0
      have z1 := RB4.2 1
      have z2 := RB4.2 2
      have z3 := RB4.2 3
      have z4 := RB4.2 4
      have z5 := RB4.2 5
      have z6 := RB4.2 6
      have z7 := RB4.2 7
      obtain ⟨f0, f1, f2, f3, f4, f5, f6, f7⟩ := RB4.1
      go_wp2
      obtain ⟨W6, HW6⟩ : ∃ W6, Hid (stB w4 (W.heap.size + 1) zN zH = W6) := ⟨_, rfl⟩
      rw [HW6.out] at R3 hB3
      have hw6 := HW6.out
      simp only [stB, zN, zH] at hw6
      simp only [List.length_nil] at hw6
      rw [hw6]
      obtain ⟨r0, r1, r2, r3, r4, r5, r6, r7⟩ := R3.1
      refine bodyPost_ret (v := .tuple #[ndV zN zH, .iface 44 (.int .i64 11)]) (by simp [results, Tryz.results15, go_sem, ndV, zN, zH, r0, r1, r2, r3, r4, r5, r6, r7]) rfl (brE_err HEE.out hB3)
    | some z =>
      obtain ⟨⟨hz, rfl, hzN⟩, hB3⟩ := hE
      have HZK : Hid (z.kids = []) := (mv_keep HOY.out).2
      obtain ⟨zk, zm, zu, zg, zo, za, zd, zs⟩ := z
      have BI3 := BI2.below hB3
      have hb4 := alloc_bel w3 (.cells #[.int .i64 zk, .int .i64 zm, .int .i64 zu, .int .i64 zg, .bool zo, .slice hz.aa za.length hz.ca, .string zd, .slice hz.ak zs.length hz.ck] 34)
      have BI4 := BI3.below hb4
      have HZN : Hid (NdV (offS (w3.alloc (.cells #[.int .i64 zk, .int .i64 zm, .int .i64 zu, .int .i64 zg, .bool zo, .slice hz.aa za.length hz.ca, .string zd, .slice hz.ak zs.length hz.ck] 34)).cell? (brS W.heap.size u8 S)) (.mk zk zm zu zg zo za zd zs) hz) := NdV.on hzN (mle_S hb4)
      have ZB := NBw.new w3 zk zm zu zg zo za zd zs hz
      have hs4 := mle_below hb4 _ _ (mle_below hB3 _ _ (mle_below hb2 _ _ hsnw))
      have HBI4 : Hid (BrI S W ua ga us.length gs.length uc gc u8 L (w3.alloc (.cells #[.int .i64 zk, .int .i64 zm, .int .i64 zu, .int .i64 zg, .bool zo, .slice hz.aa za.length hz.ca, .string zd, .slice hz.ak zs.length hz.ck] 34))) := BI4
      rw [show ndV (.mk zk zm zu zg zo za zd zs) hz = .agg #[.int .i64 zk, .int .i64 zm, .int .i64 zu, .int .i64 zg, .bool zo, .slice hz.aa za.length hz.ca, .string zd, .slice hz.ak zs.length hz.ck] from rfl]
      have HSN : Hid (brF us gs ((prsF nds nms).take (j + 1)) = if nameB nm = false then .error 4 else .ok (P ++ [((.mk zk zm zu zg zo za zd zs), nm)])) := by
        show _ = _
        rw [HNX.out, brF_snoc, HP.out]
        dsimp only
        rw [HOY.out]
      clear BI2 BI3 BI4 hb4 hb2 hB3 hlow hmW hsnw HBI HNX HP hzN HOY
      go_upto_region 7 with fail
      generalize w3.alloc (.cells #[.int .i64 zk, .int .i64 zm, .int .i64 zu, .int .i64 zg, .bool zo, .slice hz.aa za.length hz.ca, .string zd, .slice hz.ak zs.length hz.ck] 34) = w4 at HBI4 HZN ZB hs4 ⊢
      generalize w3.heap.size = b11 at ZB ⊢
      have hjm : (j : Int) < (NM : Int) := by omega
      by_cases hnm : nameB nm = false
      · have HEE : Hid (R = .error 4) := by
          show R = _
          rw [← HR.out, HFULL.out]
          refine brF_err _ ?_
          rw [HSN.out, if_pos hnm]
        have hB4 := HBI4.out.low
        have RB4 := HBI4.out.rb
        clear HSN HFULL HBI4 HZN ZB
        go_wp2_with fail
        refine Calls.mono (name_any nm _) ?_
        rintro e w5 ⟨rfl, rfl⟩
        rw [hnm]
        have R3 := NBw.store RB4 zN zH
        have hB3 : Below W.heap.size W (stB w4 (W.heap.size + 1) zN zH) := hB4.trans (stB_but.below (by omega) hB4.size)
        have z0 := RB4.2 0
        have z1 := RB4.2 1
        have z2 := RB4.2 2
        have z3 := RB4.2 3
        have z4 := RB4.2 4
        have z5 := RB4.2 5
        have z6 := RB4.2 6
        have z7 := RB4.2 7
        obtain ⟨f0, f1, f2, f3, f4, f5, f6, f7⟩ := RB4.1
        go_wp2
        obtain ⟨W6, HW6⟩ : ∃ W6, Hid (stB w4 (W.heap.size + 1) zN zH = W6) := ⟨_, rfl⟩
        rw [HW6.out] at R3 hB3
        have hw6 := HW6.out
        simp only [stB, zN, zH] at hw6
        simp only [List.length_nil] at hw6
        rw [hw6]
        obtain ⟨r0, r1, r2, r3, r4, r5, r6, r7⟩ := R3.1
        refine bodyPost_ret (v := .tuple #[ndV zN zH, .iface 44 (.int .i64 4)]) (by simp [results, Tryz.results15, go_sem, ndV, zN, zH, r0, r1, r2, r3, r4, r5, r6, r7]) rfl (brE_err HEE.out hB3)
      · have hnt : nameB nm = true := by simpa using hnm
        have HP2 : Hid (brF us gs ((prsF nds nms).take (j + 1)) = .ok (P ++ [((.mk zk zm zu zg zo za zd zs), nm)])) := by show _ = _; rw [HSN.out, if_neg hnm]
        have HPL2 : Hid ((P ++ [(((.mk zk zm zu zg zo za zd zs) : Nd), nm)]).map Prod.fst = (L ++ [(⟨(.mk zk zm zu zg zo za zd zs), hz, 0⟩ : Fl)]).map Fl.x) := by show _ = _; rw [List.map_append, List.map_append, HPL.out]; rfl
        have hLl : L.length ≤ 1000 := by have := HLJ.out; omega
        obtain ⟨z0, z1, z2, z3, z4, z5, z6, z7⟩ := ZB.1
        clear HSN HFULL ZB hnm
        go_wp2_with fail
        refine Calls.mono (name_any nm _) ?_
        rintro e w5 ⟨rfl, rfl⟩
        rw [hnt]
        go_wp2_with (at_builtin; refine wpList_append_src (w4.alloc (.cells #[.int .i64 zk, .int .i64 zm, .int .i64 zu, .int .i64 zg, .bool zo, .slice hz.aa za.length hz.ca, .string zd, .slice hz.ak zs.length hz.ck] 34)) rfl (.tmp 40) (.tmp 42) 22 rfl (W.heap.size + 1 + 1) 34 i0 (.agg #[.int .i64 0, .int .i64 0, .int .i64 0, .int .i64 0, .bool false, .slice none 0 0, .string ⟨#[]⟩, .slice none 0 0]) 8 104 Tryz.underlying22 HI0.out HI1.out HI2.out HI3.out rfl (by decide) u8 L.length (flN L) rfl (HBI4.out.row.alloc _) (some ⟨w4.heap.size, 0, none⟩) 1 1 (ndL (.mk zk zm zu zg zo za zd zs) hz) rfl rfl (.inr ⟨_, rfl, fun q t hq => by rw [addr_add, Nat.zero_add]; exact nd_newA w4 _ hz _ q t hq⟩) (ndL_one _ _) (by unfold maxLen; omega) (by omega) (by have := HBI4.out.rb.1.lt; rw [World.size_alloc]; omega) ?_)
        intro v7 w7 hown7 hgr7 ho7
        have HB7 : Hid (BrI S W ua ga us.length gs.length uc gc v7 (L ++ [(⟨(.mk zk zm zu zg zo za zd zs), hz, 0⟩ : Fl)]) w7) := (HBI4.out.below (alloc_bel w4 _)).app (f := ⟨(.mk zk zm zu zg zo za zd zs), hz, 0⟩) (HZN.out.on (mle_S (alloc_bel w4 _))) (by rw [flN_app, List.length_append]; simpa [flN] using hown7) hgr7 (by rw [World.size_alloc]; exact ho7)
        clear hown7 hgr7 ho7 HBI4 HZN z0 z1 z2 z3 z4 z5 z6 z7
        go_wp2
        go_roundw
        case rel => exact ⟨j + 1, _, _, by omega, by go_num, HP2.out, HPL2.out, (show _ = _ from by rw [List.length_append, HLJ.out]; rfl), HB7.out⟩
        case measure => (simp [intOf]; try omega)
end Go.Proofs.YtlbabnffiibnpaaGreat
namespace Go.Proofs.YtlbabnffiibnpaaGreat
open Go.RowKit Go.Shelf
attribute [local go_sem] Oper.semAt_some
theorem AlJ.put {S : Nat → Bool} {w A : World} {xs : List Nd} {names : List ByteArray} {st : Loop} {i : Nat} {Sx : Nat → Bool} (h : AlJ S w A xs names st i Sx) (st' : Loop) : AlJ S w (A.putObj (w.heap.size + 1 + 1 + 1 + 1 + 1) (.loop st')) xs names st' i Sx := by
  obtain ⟨vn, vf, L, h1, h2, h3, h4, h5, h6⟩ := h.bx
  have hm := mle_putS (S := alS w.heap.size vn vf S) h.lk rfl (.loop st')
  exact ⟨h.low.trans (below_put h.low.size (by omega) _), ⟨vn, vf, L, boxed_putL h1 h.lk _, boxed_putL h2 h.lk _, ⟨ownsRow_putObj h3.rn _ h.lk rfl, ownsRow_putObj h3.rf _ h.lk rfl, h3.ne, fun f hf => (h3.nd f hf).on hm⟩, h4, h5, h6⟩, (World.putObj_heap_other (by omega)).trans h.dk, World.putObj_heap_same (Array.getElem?_eq_some_iff.1 h.lk).1⟩
theorem nd_nokids {c : Mem} {k m u g : Int} {o : Bool} {at_ : List Kv} {d : ByteArray} {ks : Kds} {h : Hd} (hN : NdV c (.mk k m u g o at_ d ks) h) : NdV c (.mk k m u g o at_ d []) ⟨h.aa, h.ca, none, 0⟩ := by
  obtain ⟨h1, h2, _, _⟩ := ndV_iff.1 hN
  exact ndV_iff.2 ⟨h1, h2, ⟨Nat.le_refl _, by simp⟩, .inl rfl⟩
theorem AlR.put {S : Nat → Bool} {n₀ : Nat} {A : World} {vn vf : Value} {L L2 : List Fl} (h : AlR S n₀ A vn vf L L2) {l : Nat} {o : Obj} (hl : A.heap[l]? = some o) (ho : o.isCells = false) (o' : Obj) : AlR S n₀ (A.putObj l o') vn vf L L2 :=
  ⟨ownsRow_putObj h.rn o' hl ho, ownsRow_putObj h.rf o' hl ho, h.ne, fun f hf => (h.nd f hf).on (mle_putS hl ho o')⟩
theorem along_end {w V : World} {S : Nat → Bool} {xs : List Nd} {names : List ByteArray} {act : Act} {vn vf : Value} {L : List Fl} (h4 : act.tmps[4]? = some vn) (h5 : act.tmps[5]? = some vf) (hd : act.defers = [{ target := .collected (w.heap.size + 1 + 1 + 1 + 1), args := #[] }]) (hK : V.heap[w.heap.size + 1 + 1 + 1 + 1]? = some (.deferred (some []))) (hR : AlR S w.heap.size V vn vf L L) (hQ : ∀ (j : Nat) f, L[j]? = some f → ∃ q r, stackP xs (names.take j) = q :: r ∧ f.x = q.1.with [] ∧ f.ly = q.2) (hE : L.length = names.length + 1 ∨ L.length ≤ names.length ∧ stackP xs (names.take L.length) = []) (hB : Below w.heap.size w V) :
    bodyPostM Fence.wide 0 Tryz.prog Tryz.f13 (fun e w' => (∃ vn vf L, e = .returned (.tuple #[vn, vf]) ∧ AlR S w.heap.size w' vn vf L L ∧ (∀ (j : Nat) f, L[j]? = some f → ∃ q r, stackP xs (names.take j) = q :: r ∧ f.x = q.1.with [] ∧ f.ly = q.2) ∧ (L.length = names.length + 1 ∨ L.length ≤ names.length ∧ stackP xs (names.take L.length) = [])) ∧ Below w.heap.size w w') .ret act V := by
  show LeavesInM Fence.wide 0 Tryz.prog Tryz.f13 act.tmps _ act.defers .returning V
  rw [hd]
  refine ⟨by simp, .inl ⟨_, _, rfl, run_takeDeferred hK, ?_⟩⟩
  refine ⟨.tuple #[vn, vf], by simp [results, Tryz.results13, go_sem, h4, h5], ⟨vn, vf, L, rfl, hR.put hK rfl _, hQ, hE⟩, hB.trans (below_put (l := w.heap.size + 1 + 1 + 1 + 1) hB.size (by omega) _)⟩
theorem XA.toJ {S : Nat → Bool} {w A : World} {Sx : Nat → Bool} {st : Loop} {vn vf : Value} {L : List Fl} {W : World} {xs : List Nd} {names : List ByteArray} {i : Nat} (h : XA S w A Sx st vn vf L L vn vf W) (hl : L.length = i) (hQ : ∀ (j : Nat) f, L[j]? = some f → ∃ q r, stackP xs (names.take j) = q :: r ∧ f.x = q.1.with [] ∧ f.ly = q.2) : AlJ S w W xs names st i (alS w.heap.size vn vf S) := ⟨h.low, ⟨vn, vf, L, h.bn, h.bf, h.r, hl, hQ, rfl⟩, h.dk, h.lk⟩
theorem AlSt.init {S : Nat → Bool} {w A : World} {Sx : Nat → Bool} {st : Loop} {vn vf : Value} {L : List Fl} {N : Nd} {hb : Hd} {ly nbx vb vo : Nat} {vs : Value} {t24 t25 t26 t27 t28 t29 t30 t31 t32 t33 t34 t35 : Value} {W : World} (hX : XA S w A Sx st vn vf L L vn vf W) (hb1 : NBw W nbx N hb) (hn : NdV (offS W.cell? (alS w.heap.size vn vf S)) N hb) : AlSt S w A Sx st vn vf L N hb ly nbx vb vo vs false false false false false false false false false false false false false false t24 t25 t26 t27 t28 t29 t30 t31 t32 t33 t34 t35 W :=
  ⟨(fun e => by cases e), (fun e => by cases e), (fun e => by cases e), (fun e => by cases e), (fun e => by cases e), (fun e => by cases e), (fun e => by cases e), (fun e => by cases e), (fun e => by cases e), (fun e => by cases e), (fun e => by cases e), (fun e => by cases e), (fun e => by cases e), (fun e => by cases e), fun _ => ⟨hX, hb1, hn⟩, (fun e => by cases e), (fun e => by cases e), (fun e => by cases e), (fun e => by cases e), (fun e => by cases e), (fun e => by cases e), (fun e => by cases e)⟩
set_option maxRecDepth 100000 in
set_option maxHeartbeats 4000000 in
theorem along_any {w : World} {S : Nat → Bool} (hS0 : ∀ k, S k = true → k < w.heap.size) {a : Option Addr} {cap : Nat} {xs : List Nd} {an : Option Addr} {capn : Nat} {names : List ByteArray} (hx : NsV (offS w.cell? S) a xs) (hs : Strs (offS w.cell? S) an names) (hlx : xs.length ≤ 1000) (hln : names.length ≤ 1000) (hsm : SmallP (layP xs)) (hlim : LimP (layP xs)) :
    Calls Tryz.prog 13 #[.slice a xs.length cap, .slice an names.length capn] w fun e w' => (∃ vn vf L, e = .returned (.tuple #[vn, vf]) ∧ AlR S w.heap.size w' vn vf L L ∧ (∀ (j : Nat) f, L[j]? = some f → ∃ q r, stackP xs (names.take j) = q :: r ∧ f.x = q.1.with [] ∧ f.ly = q.2) ∧ (L.length = names.length + 1 ∨ L.length ≤ names.length ∧ stackP xs (names.take L.length) = [])) ∧ Below w.heap.size w w' := by
  refine (callsIn_wide (n := 0)).1 ?_
  refine callsIn_of_wp_marks Tryz.func13 rfl trivial ?_ rfl
  simp only [Tryz.ntmps13, List.size_toArray, List.length_cons, List.length_nil, Nat.reduceAdd, Nat.reduceSub, Array.replicate_succ, Array.replicate_zero, List.push_toArray, List.append_toArray, List.nil_append, List.cons_append]
  gi_wp2_with fail
  refine ⟨trivial, rfl, CallsIn.mono (callsIn_wide.2 (steps_any _ a an xs.length cap names.length capn)) ?_⟩
  rintro e w1 ⟨rfl, hw1⟩
  rw [World.size_alloc, World.size_alloc]
  have bA := (Below.refl _ w).alloc (Nat.le_refl _) (.cells #[.slice none 0 0] 22)
  have bB := bA.alloc bA.size (.cells #[.slice none 0 0] 48)
  have s2 : ((w.alloc (.cells #[.slice none 0 0] 22)).alloc (.cells #[.slice none 0 0] 48)).heap.size = w.heap.size + 1 + 1 := by rw [World.size_alloc, World.size_alloc]
  have hB0 : Below w.heap.size w w1 := by rw [hw1]; exact (bB.alloc bB.size _).alloc (by rw [World.size_alloc, s2]; omega) _
  have hz : w1.heap.size = w.heap.size + 1 + 1 + 1 + 1 := by rw [hw1, World.size_alloc, World.size_alloc, s2]
  have bx0 : Boxed w1 w.heap.size 22 (.slice none 0 0) := by rw [hw1]; exact (((Boxed.new w _ _).alloc _).alloc _).alloc _
  have bx1 : Boxed w1 (w.heap.size + 1) 48 (.slice none 0 0) := by
    rw [hw1]
    have := ((Boxed.new (w.alloc (.cells #[.slice none 0 0] 22)) 48 (.slice none 0 0)).alloc (.cells #[.slice a xs.length cap] 22)).alloc (.cells #[.slice an names.length capn] 26)
    rwa [World.size_alloc] at this
  have bx2 : Boxed w1 (w.heap.size + 1 + 1) 22 (.slice a xs.length cap) := by
    rw [hw1]
    have := (Boxed.new ((w.alloc (.cells #[.slice none 0 0] 22)).alloc (.cells #[.slice none 0 0] 48)) 22 (.slice a xs.length cap)).alloc (.cells #[.slice an names.length capn] 26)
    rwa [s2] at this
  have bx3 : Boxed w1 (w.heap.size + 1 + 1 + 1) 26 (.slice an names.length capn) := by
    rw [hw1]
    have := Boxed.new (((w.alloc (.cells #[.slice none 0 0] 22)).alloc (.cells #[.slice none 0 0] 48)).alloc (.cells #[.slice a xs.length cap] 22)) 26 (.slice an names.length capn)
    rwa [World.size_alloc, s2] at this
  clear hw1 bA bB s2
  gi_wp2_with fail
  refine range_at (gf := 44) (lb := #[.pointer (some ⟨w.heap.size + 1 + 1, 0, none⟩), .pointer (some ⟨w.heap.size + 1 + 1 + 1, 0, none⟩)]) rfl (enters_of Tryz.func44 (by kernel_rfl) rfl) ?_
  intro fn rec hrec W1 hB1 hs1 hl1 hd1
  rw [hz] at hB1 hs1 hl1 hd1 ⊢
  have hB1' : Below w1.heap.size w1 W1 := by rw [hz]; exact hB1
  have hSf : ∀ k, w.heap.size ≤ k → S k = false := fun k hk => by
    cases hh : S k with
    | false => rfl
    | true => have := hS0 k hh; omega
  have h0 : AlJ S w W1 xs names (rec .ready none) 0 (alS w.heap.size (.slice none 0 0) (.slice none 0 0) S) := ⟨hB0.trans (hB1.mono (by omega)), ⟨_, _, [], boxed_bel bx0 hB1', boxed_bel bx1 hB1', ⟨World.ownsRow_nil _ _ _ _, World.ownsRow_nil _ _ _ _, fun g e => by simp [Value.ownBlock] at e, fun f hf => by cases hf⟩, rfl, fun j f hj => by simp at hj, rfl⟩, hd1, hl1⟩
  have hW : MLe (offS w.cell? S) (offS W1.cell? (alS w.heap.size (.slice none 0 0) (.slice none 0 0) S)) := mle_step fun k hk hs => ⟨by simp [alS, hs, Value.ownBlock]; omega, h0.low.block k hk⟩
  have k2 : offS W1.cell? (alS w.heap.size (.slice none 0 0) (.slice none 0 0) S) ⟨w.heap.size + 1 + 1, 0, none⟩ = some (.slice a xs.length cap) := by rw [offS_ne (by simp [alS, Value.ownBlock]; exact ⟨by omega, hSf _ (by omega)⟩)]; exact (boxed_bel bx2 hB1').cell
  have k3 : offS W1.cell? (alS w.heap.size (.slice none 0 0) (.slice none 0 0) S) ⟨w.heap.size + 1 + 1 + 1, 0, none⟩ = some (.slice an names.length capn) := by rw [offS_ne (by simp [alS, Value.ownBlock]; exact ⟨by omega, hSf _ (by omega)⟩)]; exact (boxed_bel bx3 hB1').cell
  clear hB0 hB1 hB1' hs1 hl1 hd1 bx0 bx1 bx2 bx3
  refine (steps1_any (w.heap.size + 1 + 1) (w.heap.size + 1 + 1 + 1) a cap xs an capn names (w.heap.size + 1 + 1 + 1 + 1 + 1) (fun i S' A => AlJ S w A xs names (rec .ready none) i S') (fun A => ∃ i Sx, i ≤ names.length ∧ stackP xs (names.take i) = [] ∧ AlJ S w A xs names (rec .done (some (.exit 0))) i Sx) W1 _ k2 k3 (hx.on hW) (hs.on hW) hlx hln hsm
    (fun i S' A h => h.hid hS0) (fun i S' A B h hb => h.keep hb) ?rounds h0).mono ?after
  case rounds =>
    intro i S' v A hi hA hv
    have hsmS := stackP_small hsm (names.take i)
    have hliS := stackP_lim hlim (names.take i)
    obtain ⟨va, vc, D, rfl, g1, g2, g3, g4, g5⟩ := hv
    obtain ⟨vn, vf, L, hbn, hbf, hR, hL, hQ, rfl⟩ := hA.bx
    refine round_at hrec hA.lk rfl ?_
    gi_wp2
    refine ⟨hA.lk, ?_⟩
    have hlt : w.heap.size + 1 + 1 + 1 + 1 + 1 < A.heap.size := (Array.getElem?_eq_some_iff.1 hA.lk).1
    cases D with
    | nil =>
      have hst : stackP xs (names.take i) = [] := by rw [← g5]; rfl
      gi_wp2
      exact ⟨World.putObj_heap_same hlt, .inr ⟨rfl, i, hi, hst, _, (hA.put (rec .busy none)).put (rec .done (some (.exit 0)))⟩⟩
    | cons s D =>
      obtain ⟨sb, sp, ly, ⟨k, m, u, g, o, at_, d, ks⟩, h⟩ := s
      have hsp := g4 _ (List.mem_cons_self ..)
      obtain ⟨vb, vo, rfl, hrow⟩ : ∃ b off, va = some ⟨b, off, none⟩ ∧ ∀ j d', ((⟨sb, sp, ly, (.mk k m u g o at_ d ks), h⟩ : Sp) :: D)[j]? = some d' → offS A.cell? (alS w.heap.size vn vf S) ⟨b, off + j * 2, none⟩ = some (.pointer (some ⟨d'.b, d'.p, none⟩)) ∧ offS A.cell? (alS w.heap.size vn vf S) ⟨b, off + j * 2 + 1, none⟩ = some (.int .i64 d'.ly) := by
        rcases g3 with e | e
        · cases e
        · exact e
      obtain ⟨r0, r1⟩ := hrow 0 _ rfl
      dsimp only at r0 r1
      rw [Nat.zero_mul, Nat.add_zero] at r0 r1
      have hq : ((.mk k m u g o at_ d ks), ly) ∈ stackP xs (names.take i) := by rw [← g5]; exact List.mem_cons_self ..
      have HLQ : Hid (∃ r, stackP xs (names.take i) = ((.mk k m u g o at_ d ks), ly) :: r) := ⟨_, g5.symm⟩
      have hlim1 : Lim (.mk k m u g o at_ d []) := by have e := hliS _ hq; rw [Lim] at e ⊢; exact ⟨e.1, by simp, by rw [LimL]; trivial⟩
      have hcnt1 : cnt (.mk k m u g o at_ d []) ≤ 1000 := by rw [cnt, cntL]; omega
      have hm1 : MLe (offS A.cell? (alS w.heap.size vn vf S)) (offS (A.putObj (w.heap.size + 1 + 1 + 1 + 1 + 1) (.loop (rec .busy none))).cell? (alS w.heap.size vn vf S)) := mle_putS hA.lk rfl _
      have hX : XA S w A (alS w.heap.size vn vf S) (rec .busy none) vn vf L L vn vf (A.putObj (w.heap.size + 1 + 1 + 1 + 1 + 1) (.loop (rec .busy none))) := ⟨hA.low.trans (below_put hA.low.size (by omega) _), by rw [World.putObj_size]; exact Nat.le_refl _, boxed_putL hbn hA.lk _, boxed_putL hbf hA.lk _, ⟨ownsRow_putObj hR.rn _ hA.lk rfl, ownsRow_putObj hR.rf _ hA.lk rfl, hR.ne, fun f hf => (hR.nd f hf).on hm1⟩, hm1, (World.putObj_heap_other (by omega)).trans hA.dk, World.putObj_heap_same hlt⟩
      have hbA : ∀ g, vn.ownBlock = some g → g < A.heap.size := fun g e => (hR.rn.lt g e).2
      have hns : NAt (offS (A.putObj (w.heap.size + 1 + 1 + 1 + 1 + 1) (.loop (rec .busy none))).cell? (alS w.heap.size vn vf S)) sb sp (.mk k m u g o at_ d ks) h := hsp.1.on hm1
      have HNS : Hid (NdV (offS (A.putObj (w.heap.size + 1 + 1 + 1 + 1 + 1) (.loop (rec .busy none))).cell? (alS w.heap.size vn vf S)) (.mk k m u g o at_ d ks) h) := hsp.2.on hm1
      have r01 := hm1 _ _ r0
      have r11 := hm1 _ _ r1
      have hsz1 : (A.putObj (w.heap.size + 1 + 1 + 1 + 1 + 1) (.loop (rec .busy none))).heap.size = A.heap.size := World.putObj_size ..
      have HAZ : Hid (A.heap.size = A.heap.size) := rfl
      generalize A.putObj (w.heap.size + 1 + 1 + 1 + 1 + 1) (.loop (rec .busy none)) = A1 at hX hns HNS r01 r11 hsz1 ⊢
      have t0 := offS_le _ _ _ _ r01
      have t1 := offS_le _ _ _ _ r11
      obtain ⟨n0, n1, n2, n3, n4, n5, n6, n7⟩ := hns.on (offS_le _ _)
      have hb2 : Below A1.heap.size A1 (A1.alloc (.cells #[.int .i64 k, .int .i64 m, .int .i64 u, .int .i64 g, .bool o, .slice h.aa at_.length h.ca, .string d, .slice none 0 0] 34)) := (Below.refl _ _).alloc (Nat.le_refl _) _
      have NB := NBw.new A1 k m u g o at_ d [] ⟨h.aa, h.ca, none, 0⟩
      rw [hsz1] at NB
      have hX2 := hX.below hb2
      have hn2 : NdV (offS (A1.alloc (.cells #[.int .i64 k, .int .i64 m, .int .i64 u, .int .i64 g, .bool o, .slice h.aa at_.length h.ca, .string d, .slice none 0 0] 34)).cell? (alS w.heap.size vn vf S)) (.mk k m u g o at_ d []) ⟨h.aa, h.ca, none, 0⟩ := (nd_nokids HNS.out).on (mle_S hb2)
      have HX2 : Hid _ := hX2
      have HN2 : Hid _ := hn2
      have HNB : Hid _ := NB
      clear hX2 hn2 NB hX HNS hb2
      gi_wp2
      refine al8 (S := S) (w := w) (A := A) (Sx := alS w.heap.size vn vf S) (st := rec .busy none) (vn := vn) (vf := vf) (L := L) (N := .mk k m u g o at_ d []) (hb := ⟨h.aa, h.ca, none, 0⟩) (ly := ly) (nbx := A.heap.size) (vb := vb) (vo := vo) (dl := D.length) (vc := vc) hS0 hlim1 hcnt1 hbA (by omega) r1 rfl (AlSt.init (HX2.out.below (Below.refl _ _).drew) HNB.out HN2.out) ?_
      intro act W' t28 t35 h' hX'
      have hJ := (hX'.toJ (xs := xs) (names := names) (i := i + 1) (by rw [List.length_append, hL]; rfl) (fun j f hj => by
        rw [List.getElem?_append] at hj
        split at hj
        · exact hQ j f hj
        · rename_i hge
          have e : j - L.length = 0 := by
            rcases Nat.eq_zero_or_pos (j - L.length) with e | e
            · exact e
            · rw [List.getElem?_eq_none (by simp; omega)] at hj; cases hj
          rw [e] at hj
          simp at hj
          subst hj
          obtain ⟨r, hr⟩ := HLQ.out
          have e2 : j = i := by omega
          rw [e2]
          exact ⟨_, r, hr, rfl, rfl⟩)).put (rec .ready none)
      exact ⟨hX'.lk, .inl ⟨rfl, _, hJ, hX'.ml.trans (mle_putS hX'.lk rfl _)⟩⟩
  case after =>
    rintro e W2 ⟨⟨v, rfl⟩, (⟨S', hJ⟩ | ⟨i, S', hi, hst, hJ⟩)⟩
    · refine ⟨⟨_, rfl⟩, .inl ⟨hJ.lk, ?_⟩⟩
      have hJ2 := hJ.put (rec .exhausted none)
      generalize W2.putObj (w.heap.size + 1 + 1 + 1 + 1 + 1) (.loop (rec .exhausted none)) = W3 at hJ2 ⊢
      obtain ⟨vn, vf, L, hbn, hbf, hR, hL, hQ, _⟩ := hJ2.bx
      have hcn := hbn.cell
      have hcf := hbf.cell
      gi_wp2
      gi_quiet (fail)
      all_goals
        gi_wp2
        exact along_end rfl rfl rfl hJ2.dk (hR.below (bdN (Below.refl _ _) _)) hQ (.inl hL) (bdN hJ2.low _)
    · refine ⟨⟨_, rfl⟩, .inr ⟨.exit 0, hJ.lk, ?_⟩⟩
      have hJ2 := hJ.put (rec .exhausted (some (.exit 0)))
      generalize W2.putObj (w.heap.size + 1 + 1 + 1 + 1 + 1) (.loop (rec .exhausted (some (.exit 0)))) = W3 at hJ2 ⊢
      obtain ⟨vn, vf, L, hbn, hbf, hR, hL, hQ, _⟩ := hJ2.bx
      have hcn := hbn.cell
      have hcf := hbf.cell
      gi_wp2
      gi_quiet (fail)
      all_goals
        gi_wp2
        exact along_end rfl rfl rfl hJ2.dk (hR.below (bdN (Below.refl _ _) _)) hQ (.inr ⟨by rw [hL]; exact hi, by rw [hL]; exact hst⟩) (bdN hJ2.low _)
end Go.Proofs.YtlbabnffiibnpaaGreat
