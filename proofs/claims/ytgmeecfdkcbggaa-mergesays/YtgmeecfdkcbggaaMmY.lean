/-
  THE DOCUMENT's stack: the walk.
-/
import Derived.Test.YtgmeecfdkcbggaaFdX
import Derived.Test.YtgmeecfdkcbggaaMeX
import Derived.Deep.RegionHeld3
import Derived.Deep.RegionLaw
import Derived.Deep.Cut
namespace Go.Proofs.Ytgmeecfdkcbggaa
open Go.RowKit
theorem kid_fl {c : Mem} {x : Nd} {h : Hd} (hN : NdV c x h) (nm : ByteArray) :
    (kidF nm x = -1 ∧ kidO nm x = none) ∨ ∃ (kb ko j : Nat) (y : Nd) (hy : Hd), kidF nm x = j ∧ h.ak = some ⟨kb, ko, none⟩ ∧ kidO nm x = some y ∧ j < x.kids.length ∧ NAt c kb (ko + j * 9 + 1) y hy ∧ NdV c y hy := by
  obtain ⟨k, m, u, g, o, at_, d, ks⟩ := x
  by_cases hk : k = 2
  · have e0 : kidF nm (.mk k m u g o at_ d ks) = kidI nm ks 0 := if_pos hk
    rcases kidI_at nm ks 0 with ⟨h1, _⟩ | ⟨j, y, h1, h2, _⟩
    · exact .inl ⟨e0.trans h1, by unfold kidO; rw [e0, h1]; rfl⟩
    · right
      obtain ⟨_, _, _, hK⟩ := ndV_iff.1 hN
      rcases hK with e | ⟨kb, off, e, f, hf⟩
      · subst e; simp at h2
      · obtain ⟨g1, g2⟩ := hf j nm y h2
        rw [Nat.zero_add] at h1
        refine ⟨kb, off, j, y, f j, e0.trans h1, e, ?_, (List.getElem?_eq_some_iff.1 h2).1, g1.2, g2⟩
        unfold kidO
        rw [e0, h1, if_neg (by omega)]
        simp only [Int.toNat_natCast]
        show (ks[j]?).map _ = _
        rw [h2]; rfl
  · have e0 : kidF nm (.mk k m u g o at_ d ks) = -1 := if_neg hk
    exact .inl ⟨e0, by unfold kidO; rw [e0]; rfl⟩
theorem take_snoc {α : Type} {l : List α} {n : Nat} {x : α} (h : l[n]? = some x) : l.take (n + 1) = l.take n ++ [x] := by rw [List.take_add_one, h]; rfl
theorem fl_split {c : Mem} {b p : Nat} {f : Fl} (h : FlAt c b p f) : NAt c b p f.x f.h ∧ c ⟨b, p + 8, none⟩ = some (.int .i64 f.ly) := h
set_option maxRecDepth 100000 in
set_option maxHeartbeats 4000000 in
theorem rstack_any {w : World} {S : Nat → Bool} {a : Option Addr} {cap : Nat} {xs : List Nd} {an : Option Addr} {capn : Nat} {names : List ByteArray} (hx : NsV (offS w.cell? S) a xs) (hs : Strs w.cell? an names) (hlx : xs.length ≤ 1000) (hln : names.length ≤ 1000) (hsm : SmallP (layP xs)) (bare : Bool) :
    Calls Try.prog 25 #[.slice a xs.length cap, .slice an names.length capn, .bool bare] w fun e w' => ∃ v, e = .returned v ∧ FlL w.heap.size w'.cell? (offS w.cell? S) v (stackB bare xs names names.length) ∧ Below w.heap.size w w' := by
  obtain ⟨i0, hi0, hi1, hi2, hi3⟩ := info_three Try.infoF
  have HI0 : Hid _ := hi0
  have HI1 : Hid _ := hi1
  have HI2 : Hid _ := hi2
  have HI3 : Hid _ := hi3
  clear hi0 hi1 hi2 hi3
  have HSM : Hid _ := hsm
  have HS : Hid _ := hs
  obtain ⟨F0, p1, p2, p3, p4⟩ : ∃ F0 : List Fl, F0.length = xs.length ∧ F0.map Fl.pr = layP xs ∧ (∀ f ∈ F0, NdV (offS w.cell? S) f.x f.h) ∧ ∀ (i : Nat) f, F0[i]? = some f → f.ly = i ∧ ∃ b off, a = some ⟨b, off, none⟩ ∧ NAt w.cell? b (off + i * 8) f.x f.h := by
    rcases hx with rfl | ⟨b, off, e, f, hf⟩
    · exact ⟨[], rfl, rfl, fun s hs => (by cases hs), fun i s hi => by simp at hi⟩
    · refine ⟨xs.zipIdx.map fun q => ⟨q.1, f q.2, q.2⟩, by simp, ?_, fun s hs => ?_, fun i s hi => ?_⟩
      · rw [List.map_map]; exact List.map_id' _
      · obtain ⟨q, hq, rfl⟩ := List.mem_map.1 hs
        have h1 := List.mem_zipIdx_iff_getElem?.1 hq
        exact (hf q.2 q.1 h1).2
      · rw [List.getElem?_map, List.getElem?_zipIdx] at hi
        cases hx : xs[i]? with
        | none => rw [hx] at hi; cases hi
        | some x =>
          rw [hx] at hi
          simp only [Option.map_some, Option.some.injEq] at hi
          subst hi
          refine ⟨by simp, b, off, e, ?_⟩
          have h1 := (hf i x hx).1.on (offS_le _ _)
          simpa using h1
  have HP : Hid _ := p3
  have HA : Hid _ := p4
  have HPR : Hid _ := p2
  obtain ⟨NX, HNX⟩ : ∃ N, Hid (xs.length = N) := ⟨_, rfl⟩
  obtain ⟨N, HN⟩ : ∃ N, Hid (names.length = N) := ⟨_, rfl⟩
  have HF0 : Hid (F0.length = NX) := p1.trans HNX.out
  rw [HNX.out] at hlx ⊢
  rw [HN.out] at hln ⊢
  clear hx hs hsm p1 p2 p3 p4
  go_enter Try.func25, Try.ntmps25
  go_wp2
  go_loopw [7, 8] (fun v i wr => ∃ j : Nat, j ≤ NX ∧ i = .int .i64 j ∧ Hid (wr.ownsRow w.heap.size 59 9 v j (flF (F0.take j))) ∧ Below w.heap.size w wr) (fun _ i _ => NX - (intOf i).toNat)
  case atStart => exact ⟨0, Nat.zero_le _, rfl, World.ownsRow_nil _ _ _ _, Below.refl _ _⟩
  case round =>
    obtain ⟨j, hj, rfl, HROW, hB⟩ := hrel
    by_cases hjl : j < NX
    · have hb : decide ((j : Int) < (NX : Int)) = true := decide_eq_true (by omega)
      obtain ⟨f, hf⟩ : ∃ f, F0[j]? = some f := ⟨_, List.getElem?_eq_getElem (by rw [HF0.out]; exact hjl)⟩
      obtain ⟨ely, b, off, rfl, hnat⟩ := HA.out j f hf
      have HTK : Hid (F0.take (j + 1) = F0.take j ++ [f]) := take_snoc hf
      have hnw := hnat.below hB
      obtain ⟨⟨k, m, u, g, o, at_, d, ks⟩, hf0, ly⟩ := f
      dsimp only at ely
      subst ly
      obtain ⟨n0, n1, n2, n3, n4, n5, n6, n7⟩ := hnw
      clear hf hnat
      go_wp2_with (at_builtin; refine wpList_append_src (wr.alloc (.cells #[.int .i64 k, .int .i64 m, .int .i64 u, .int .i64 g, .bool o, .slice hf0.aa at_.length hf0.ca, .string d, .slice hf0.ak ks.length hf0.ck, .int .i64 j] 59)) rfl (.tmp 19) (.tmp 26) 56 rfl w.heap.size 59 i0 (.agg #[.int .i64 0, .int .i64 0, .int .i64 0, .int .i64 0, .bool false, .slice none 0 0, .string ⟨#[]⟩, .slice none 0 0, .int .i64 0]) 9 112 Try.underlying56 HI0.out HI1.out HI2.out HI3.out rfl (by decide) _ j (flF (F0.take j)) rfl (HROW.out.alloc _) (some ⟨wr.heap.size, 0, none⟩) 1 1 (flF [⟨(.mk k m u g o at_ d ks), hf0, j⟩]) rfl rfl (.inr ⟨_, rfl, fl_newA _ ⟨(.mk k m u g o at_ d ks), hf0, j⟩ _⟩) (flF_one _) (by unfold maxLen; omega) (by omega) (by have := hB.size; rw [World.size_alloc]; omega) ?_)
      intro v7 w7 hown7 hgr7 ho7
      have HOW : Hid (w7.ownsRow w.heap.size 59 9 v7 (j + 1) (flF (F0.take (j + 1)))) := by rw [HTK.out, flF_app]; exact hown7
      have hB7 : Below w.heap.size w w7 := (hB.alloc hB.size _).grown hgr7 (by have := hB.size; rw [World.size_alloc]; omega) (fun q e => (HROW.out.lt q e).1)
      clear hown7 hgr7 ho7 HTK HROW n0 n1 n2 n3 n4 n5 n6 n7
      go_wp2
      go_roundw
      case rel => exact ⟨j + 1, by omega, by go_num, HOW.out, hB7⟩
      case measure => (simp [intOf]; try omega)
    · obtain rfl : j = NX := by omega
      have hb : decide ((j : Int) < (j : Int)) = false := decide_eq_false (by omega)
      have hrow := HROW.out
      rw [List.take_of_length_le (by rw [HF0.out]; omega)] at hrow
      have hfl : FlL w.heap.size wr.cell? (offS w.cell? S) u7 (layP xs) := by
        have e := HF0.out
        rw [← e] at hrow
        obtain ⟨a1, c1, q1, q2, q3, q4⟩ := row_floors hrow
        exact ⟨a1, c1, F0, q1, q2, q3, q4, HP.out, HPR.out⟩
      have HC : Hid _ := rshown_any hfl (by have := HSM.out.1; exact this)
      clear hfl hrow HROW HF0 HPR HA HP
      go_wp2_with fail
      refine Calls.mono HC.out ?_
      rintro e w1 ⟨⟨v1, rfl, hv1⟩, rfl⟩
      have HV1 : Hid (FlL w.heap.size w1.cell? (offS w.cell? S) v1 (stackB bare xs names 0)) := hv1
      clear HC hv1
      go_wp2
      go_loopw [7, 9, 10, 11, 12] (fun v i _ _ _ wr => ∃ j : Nat, j ≤ N ∧ i = .int .i64 j ∧ Hid (FlL w.heap.size wr.cell? (offS w.cell? S) v (stackB bare xs names j)) ∧ Below w.heap.size w wr) (fun _ i _ _ _ _ => N - (intOf i).toNat)
      case atStart => exact ⟨0, Nat.zero_le _, rfl, HV1.out, hB⟩
      case round =>
        clear HV1 hB
        obtain ⟨j, hj, rfl, HV, hB⟩ := hrel
        obtain ⟨W5, rfl⟩ : ∃ W5, W5 = wr := ⟨wr, rfl⟩
        by_cases hjl : j < N
        rotate_left
        · have hb : decide ((j : Int) < (N : Int)) = false := decide_eq_false (by omega)
          have HE : Hid (j = N) := by show _ = _; omega
          go_wp2
          go_ret
          exact ⟨_, rfl, by have e := HE.out; rw [← e]; exact HV.out, hB⟩
        have hb : decide ((j : Int) < (N : Int)) = true := decide_eq_true (by omega)
        obtain ⟨nm, hnm⟩ : ∃ nm, names[j]? = some nm := ⟨_, List.getElem?_eq_getElem (by rw [HN.out]; exact hjl)⟩
        obtain ⟨sb, so, rfl, hstr⟩ : ∃ b off, an = some ⟨b, off, none⟩ ∧ ∀ i s, names[i]? = some s → w.cell? ⟨b, off + i, none⟩ = some (.string s) := by
          rcases HS.out with e | e
          · subst e; simp at hnm
          · exact e
        have r0 := mle_below hB _ _ (hstr j nm hnm)
        have HLS : Hid (SmallP (stackB bare xs names j)) := stackB_small HSM.out names j
        have HNX2 : Hid (stackB bare xs names (j + 1) = shP (kidsB (bare && decide (j + 1 = N)) nm (stackB bare xs names j))) := by show _ = _; rw [stackB, hnm, HN.out]
        obtain ⟨l, HLL⟩ : ∃ l, Hid (stackB bare xs names j = l) := ⟨_, rfl⟩
        rw [HLL.out] at HV HLS HNX2
        obtain ⟨va, vc, F, rfl, g1, g2, g3, g4, g5⟩ := HV.out
        have HROW : Hid _ := g3
        have HND : Hid _ := g4
        have HFP : Hid (F.map Fl.pr = l) := g5
        obtain ⟨M, HM⟩ : ∃ M, Hid (F.length = M) := ⟨_, rfl⟩
        have hM : M ≤ 1000 := by have h1 := HLS.out.1; rw [← g5, List.length_map, HM.out] at h1; exact h1
        rw [HM.out] at g1 ⊢
        clear hstr hnm g3 g4 g5 HV HLL
        go_wp2
        go_loopw [10, 11, 12] (fun nx i _ w3 => ∃ (q : Nat) (G : List Fl), q ≤ M ∧ i = .int .i64 q ∧ Hid (w3.ownsRow W5.heap.size 59 9 nx G.length (flF G)) ∧ Hid (G.map Fl.pr = kidsB (bare && decide (j + 1 = N)) nm (l.take q)) ∧ Hid (∀ f ∈ G, NdV (offS w.cell? S) f.x f.h) ∧ Hid (G.length ≤ q) ∧ Below W5.heap.size W5 w3) (fun _ i _ _ => M - (intOf i).toNat)
        case atStart => exact ⟨0, [], Nat.zero_le _, rfl, World.ownsRow_nil _ _ _ _, rfl, fun f hf => (by cases hf), Nat.le_refl _, Below.refl _ _⟩
        case round =>
          obtain ⟨q, G, hq, rfl, HG, HPG, HNG, HLG, hB3⟩ := hrel
          by_cases hql : q < M
          rotate_left
          · obtain rfl : q = M := by omega
            have hb3 : decide ((q : Int) < (q : Int)) = false := decide_eq_false (by omega)
            have hfl : FlL w.heap.size wr.cell? (offS w.cell? S) u10 (kidsB (bare && decide (j + 1 = N)) nm l) := by
              obtain ⟨a1, c1, q1, q2, q3, q4⟩ := row_floors HG.out
              have e := HPG.out
              rw [List.take_of_length_le (by rw [← HFP.out, List.length_map, HM.out]; omega)] at e
              exact ⟨a1, c1, G, q1, q2, q3, q4.on hB.size (fun _ _ h => h), HNG.out, e⟩
            have HC : Hid _ := rshown_any hfl (kidsB_small HLS.out).1
            have hB7 := hB.trans (hB3.mono hB.size)
            clear hfl HG HPG HNG HLG HFP HND HROW HM
            go_wp2_with fail
            refine Calls.mono HC.out ?_
            rintro e w8 ⟨⟨v8, rfl, hv8⟩, rfl⟩
            have HV8 : Hid (FlL w.heap.size w8.cell? (offS w.cell? S) v8 (stackB bare xs names (j + 1))) := by rw [HNX2.out]; exact hv8
            clear HC hv8
            go_wp2
            go_roundw
            case rel => exact ⟨j + 1, by omega, by go_num, HV8.out, hB7⟩
            case measure => (simp [intOf]; try omega)
          have hb3 : decide ((q : Int) < (M : Int)) = true := decide_eq_true (by omega)
          obtain ⟨f, hf⟩ : ∃ f, F[q]? = some f := ⟨_, List.getElem?_eq_getElem (by rw [HM.out]; exact hql)⟩
          have hndf := HND.out f (List.mem_of_getElem? hf)
          have HTK : Hid (l.take (q + 1) = l.take q ++ [f.pr]) := by
            have e : l[q]? = some f.pr := by rw [← HFP.out, List.getElem?_map, hf]; rfl
            exact take_snoc e
          have hcn := HLS.out.2 f.pr (by rw [← HFP.out]; exact List.mem_map_of_mem (List.mem_of_getElem? hf))
          obtain ⟨vb, vo, rfl, hrow⟩ : ∃ b off, va = some ⟨b, off, none⟩ ∧ ∀ i f, F[i]? = some f → FlAt W5.cell? b (off + i * 9) f := by
            rcases HROW.out with e | ⟨b, off, e1, _, e2⟩
            · subst e; simp at hf
            · exact ⟨b, off, e1, e2⟩
          have hfa := (hrow q f hf).on (mle_below hB3)
          have r1 := mle_below hB3 _ _ r0
          clear hrow hf
          obtain ⟨⟨k, m, u, g, o, at_, d, ks⟩, hf, ly⟩ := f
          obtain ⟨⟨n0, n1, n2, n3, n4, n5, n6, n7⟩, n8⟩ := fl_split hfa
          dsimp only at n0 n1 n2 n3 n4 n5 n6 n7 n8 hndf hcn
          have T5 : wr.drew.cell? ⟨vb, vo + q * 9, none⟩ = some (.int .i64 k) ∧ wr.drew.cell? ⟨vb, vo + q * 9 + 1, none⟩ = some (.int .i64 m) ∧ wr.drew.cell? ⟨vb, vo + q * 9 + 2, none⟩ = some (.int .i64 u) ∧ wr.drew.cell? ⟨vb, vo + q * 9 + 3, none⟩ = some (.int .i64 g) ∧ wr.drew.cell? ⟨vb, vo + q * 9 + 4, none⟩ = some (.bool o) ∧ wr.drew.cell? ⟨vb, vo + q * 9 + 5, none⟩ = some (.slice hf.aa at_.length hf.ca) ∧ wr.drew.cell? ⟨vb, vo + q * 9 + 6, none⟩ = some (.string d) ∧ wr.drew.cell? ⟨vb, vo + q * 9 + 7, none⟩ = some (.slice hf.ak ks.length hf.ck) ∧ wr.drew.cell? ⟨sb, so + j, none⟩ = some (.string nm) := ⟨n0, n1, n2, n3, n4, n5, n6, n7, r1⟩
          have hBw : Below w.heap.size w wr := hB.trans (hB3.mono hB.size)
          have HKC : Hid (Calls Try.prog 37 #[.agg #[.int .i64 k, .int .i64 m, .int .i64 u, .int .i64 g, .bool o, .slice hf.aa at_.length hf.ca, .string d, .slice hf.ak ks.length hf.ck], .string nm] wr.drew fun e W' => e = .returned (.int .i64 (kidF nm (.mk k m u g o at_ d ks))) ∧ Below wr.heap.size wr W') := (kid_any (hndf.on (offS_le _ _)) nm wr.drew hBw.drew (fun k' m' u' g' o' a' d' ks' e => by
            cases e
            have h1 := kids_cnt (.mk k m u g o at_ d ks)
            have h2 : cnt (Fl.pr ⟨(.mk k m u g o at_ d ks), hf, ly⟩).1 = cnt (.mk k m u g o at_ d ks) := rfl
            have h3 : ((.mk k m u g o at_ d ks) : Nd).kids.length = ks.length := rfl
            omega)).mono fun e W' z => ⟨z.1, ((Below.refl _ wr).drew).trans z.2⟩
          have HFL : Hid _ := kid_fl hndf nm
          obtain ⟨KF, HKF⟩ : ∃ KF, Hid (kidF nm (.mk k m u g o at_ d ks) = KF) := ⟨_, rfl⟩
          rw [HKF.out] at HKC
          have HN8 : Hid (wr.cell? ⟨vb, vo + q * 9 + 8, none⟩ = some (.int .i64 ly)) := n8
          clear n0 n1 n2 n3 n4 n5 n6 n7 n8 r1 hfa hcn
          go_upto_region 14 with fail
          go_region_held3 (fun w' => w'.cell? ⟨vb, vo + q * 9, none⟩ = some (.int .i64 k) ∧ w'.cell? ⟨vb, vo + q * 9 + 1, none⟩ = some (.int .i64 m) ∧ w'.cell? ⟨vb, vo + q * 9 + 2, none⟩ = some (.int .i64 u) ∧ w'.cell? ⟨vb, vo + q * 9 + 3, none⟩ = some (.int .i64 g) ∧ w'.cell? ⟨vb, vo + q * 9 + 4, none⟩ = some (.bool o) ∧ w'.cell? ⟨vb, vo + q * 9 + 5, none⟩ = some (.slice hf.aa at_.length hf.ca) ∧ w'.cell? ⟨vb, vo + q * 9 + 6, none⟩ = some (.string d) ∧ w'.cell? ⟨vb, vo + q * 9 + 7, none⟩ = some (.slice hf.ak ks.length hf.ck) ∧ w'.cell? ⟨sb, so + j, none⟩ = some (.string nm)) (first | with_reducible exact T5 | with_reducible exact T6) (first | (go_at_call 37; (with_reducible refine Calls.mono HKC.out ?_); rintro e w6 ⟨rfl, hB6⟩; have T6 : w6.cell? ⟨vb, vo + q * 9, none⟩ = some (.int .i64 k) ∧ w6.cell? ⟨vb, vo + q * 9 + 1, none⟩ = some (.int .i64 m) ∧ w6.cell? ⟨vb, vo + q * 9 + 2, none⟩ = some (.int .i64 u) ∧ w6.cell? ⟨vb, vo + q * 9 + 3, none⟩ = some (.int .i64 g) ∧ w6.cell? ⟨vb, vo + q * 9 + 4, none⟩ = some (.bool o) ∧ w6.cell? ⟨vb, vo + q * 9 + 5, none⟩ = some (.slice hf.aa at_.length hf.ca) ∧ w6.cell? ⟨vb, vo + q * 9 + 6, none⟩ = some (.string d) ∧ w6.cell? ⟨vb, vo + q * 9 + 7, none⟩ = some (.slice hf.ak ks.length hf.ck) ∧ w6.cell? ⟨sb, so + j, none⟩ = some (.string nm) := ⟨mle_below hB6 _ _ T5.1, mle_below hB6 _ _ T5.2.1, mle_below hB6 _ _ T5.2.2.1, mle_below hB6 _ _ T5.2.2.2.1, mle_below hB6 _ _ T5.2.2.2.2.1, mle_below hB6 _ _ T5.2.2.2.2.2.1, mle_below hB6 _ _ T5.2.2.2.2.2.2.1, mle_below hB6 _ _ T5.2.2.2.2.2.2.2.1, mle_below hB6 _ _ T5.2.2.2.2.2.2.2.2⟩))
          have HN9 : Hid (w6.cell? ⟨vb, vo + q * 9 + 8, none⟩ = some (.int .i64 ly)) := mle_below hB6 _ _ HN8.out
          have HG6 : Hid (w6.ownsRow W5.heap.size 59 9 u10 G.length (flF G)) := ownsRow_bel HG.out hB6
          have hBw6 := hBw.trans (hB6.mono hBw.size)
          have hB6 := hB3.trans (hB6.mono hB3.size)
          have t7 := T6.2.2.2.2.2.2.2.1
          clear T5 HKC HN8 HG hB3 hBw
          rcases HFL.out with ⟨e1, e2⟩ | ⟨kb, ko, ji, y, hy, e1, e2, e3, e4, e5, e6⟩
          · rw [HKF.out] at e1
            subst e1
            clear HFL HKF T6
            have HPR2 : Hid (G.map Fl.pr = kidsB (bare && decide (j + 1 = N)) nm (l.take (q + 1))) := by
              show _ = _
              rw [HPG.out, HTK.out, kidsB, kidsB, List.filterMap_append]
              simp only [List.filterMap_cons, List.filterMap_nil, Fl.pr]
              simp [e2]
            go_wp2
            go_roundw
            case rel => exact ⟨q + 1, G, by omega, by go_num, HG6.out, HPR2.out, HNG.out, (show _ ≤ _ from by have := HLG.out; omega), hB6⟩
            case measure => (simp [intOf]; try omega)
          · rw [HKF.out] at e1
            subst e1
            obtain ⟨yk, ym, yu, yg, yo, ya, yd, ys⟩ := y
            obtain ⟨m0, m1, m2, m3, m4, m5, m6, m7⟩ : NAt w6.drew.cell? kb (ko + ji * 9 + 1) (.mk yk ym yu yg yo ya yd ys) hy := (e5.on (offS_le _ _)).on (mle_below hBw6.drew)
            have HNY : Hid (NdV (offS w.cell? S) (.mk yk ym yu yg yo ya yd ys) hy) := e6
            have hji : ji < ks.length := e4
            rw [e2] at t7
            have t7d : w6.drew.cell? ⟨vb, vo + q * 9 + 7, none⟩ = some (.slice (some ⟨kb, ko, none⟩) ks.length hf.ck) := t7
            have t8 := HN9.out
            have t8d : w6.drew.cell? ⟨vb, vo + q * 9 + 8, none⟩ = some (.int .i64 ly) := t8
            have hnn : decide ((ji : Int) < 0) = false := decide_eq_false (by omega)
            have HE3 : Hid _ := e3
            clear HFL HKF T6 e2 e3 e4 e5 e6
            cases bare with
            | false =>
              have HPR2 : Hid ((G ++ [(⟨(.mk yk ym yu yg yo ya yd ys), hy, ly⟩ : Fl)]).map Fl.pr = kidsB (false && decide (j + 1 = N)) nm (l.take (q + 1))) := by
                show _ = _
                rw [List.map_append, HPG.out, HTK.out, kidsB, kidsB, List.filterMap_append]
                simp only [List.filterMap_cons, List.filterMap_nil, Fl.pr, List.map_cons, List.map_nil]
                simp [HE3.out]
              have HNG2 : Hid (∀ f ∈ G ++ [(⟨(.mk yk ym yu yg yo ya yd ys), hy, ly⟩ : Fl)], NdV (offS w.cell? S) f.x f.h) := fun f hf => by
                rcases List.mem_append.1 hf with e | e
                · exact HNG.out f e
                · rw [List.mem_singleton] at e; rw [e]; exact HNY.out
              have hGl : G.length ≤ 1000 := by have := HLG.out; omega
              have hB6d := hB6.drew
              go_upto_region 16 with fail
              go_region_law (first | (refine step_append_src (w6.drew.alloc (.cells #[.int .i64 yk, .int .i64 ym, .int .i64 yu, .int .i64 yg, .bool yo, .slice hy.aa ya.length hy.ca, .string yd, .slice hy.ak ys.length hy.ck, .int .i64 ly] 59)) (by rfl) (.tmp 72) (.tmp 89) 56 (by rfl) W5.heap.size 59 i0 (.agg #[.int .i64 0, .int .i64 0, .int .i64 0, .int .i64 0, .bool false, .slice none 0 0, .string ⟨#[]⟩, .slice none 0 0, .int .i64 0]) 9 112 Try.underlying56 HI0.out HI1.out HI2.out HI3.out rfl (by decide) _ G.length (flF G) (by rfl) (HG6.out.alloc _) (some ⟨w6.heap.size, 0, none⟩) 1 1 (flF [⟨(.mk yk ym yu yg yo ya yd ys), hy, ly⟩]) (by rfl) (by rfl) (.inr ⟨_, rfl, fl_newA w6.drew ⟨(.mk yk ym yu yg yo ya yd ys), hy, ly⟩ _⟩) (flF_one _) (by unfold maxLen; omega) (by omega) (by have := hB6d.size; rw [World.size_alloc]; omega) ?_; intro v7 w7 hown7 hgr7 ho7; have HOW : Hid (w7.ownsRow W5.heap.size 59 9 v7 (G ++ [(⟨(.mk yk ym yu yg yo ya yd ys), hy, ly⟩ : Fl)]).length (flF (G ++ [(⟨(.mk yk ym yu yg yo ya yd ys), hy, ly⟩ : Fl)]))) := (by rw [flF_app, List.length_append]; exact hown7); have hB7 : Below W5.heap.size W5 w7 := (hB6d.alloc hB6d.size _).grown hgr7 (by have := hB6d.size; rw [World.size_alloc]; omega) (fun z e => (HG6.out.lt z e).1); clear hown7 hgr7 ho7))
              all_goals
                go_wp2
                go_roundw
                case rel => exact ⟨q + 1, G ++ [(⟨(.mk yk ym yu yg yo ya yd ys), hy, ly⟩ : Fl)], by omega, by go_num, HOW.out, HPR2.out, HNG2.out, (show _ ≤ _ from by have := HLG.out; rw [List.length_append]; simp; omega), hB7⟩
                case measure => (simp [intOf]; try omega)
            | true =>
              by_cases hjn : j + 1 = N
              rotate_left
              · have hjn2 : ((j : Int) + 1 == (N : Int)) = false := by rw [beq_eq_false_iff_ne]; omega
                have HPR2 : Hid ((G ++ [(⟨(.mk yk ym yu yg yo ya yd ys), hy, ly⟩ : Fl)]).map Fl.pr = kidsB (true && decide (j + 1 = N)) nm (l.take (q + 1))) := by
                  show _ = _
                  rw [List.map_append, HPG.out, HTK.out, kidsB, kidsB, List.filterMap_append]
                  simp only [List.filterMap_cons, List.filterMap_nil, Fl.pr, List.map_cons, List.map_nil]
                  simp [HE3.out, hjn]
                have HNG2 : Hid (∀ f ∈ G ++ [(⟨(.mk yk ym yu yg yo ya yd ys), hy, ly⟩ : Fl)], NdV (offS w.cell? S) f.x f.h) := fun f hf => by
                  rcases List.mem_append.1 hf with e | e
                  · exact HNG.out f e
                  · rw [List.mem_singleton] at e; rw [e]; exact HNY.out
                have hGl : G.length ≤ 1000 := by have := HLG.out; omega
                have hB6d := hB6.drew
                go_upto_region 16 with fail
                go_region_law (first | (refine step_append_src (w6.drew.alloc (.cells #[.int .i64 yk, .int .i64 ym, .int .i64 yu, .int .i64 yg, .bool yo, .slice hy.aa ya.length hy.ca, .string yd, .slice hy.ak ys.length hy.ck, .int .i64 ly] 59)) (by rfl) (.tmp 72) (.tmp 89) 56 (by rfl) W5.heap.size 59 i0 (.agg #[.int .i64 0, .int .i64 0, .int .i64 0, .int .i64 0, .bool false, .slice none 0 0, .string ⟨#[]⟩, .slice none 0 0, .int .i64 0]) 9 112 Try.underlying56 HI0.out HI1.out HI2.out HI3.out rfl (by decide) _ G.length (flF G) (by rfl) (HG6.out.alloc _) (some ⟨w6.heap.size, 0, none⟩) 1 1 (flF [⟨(.mk yk ym yu yg yo ya yd ys), hy, ly⟩]) (by rfl) (by rfl) (.inr ⟨_, rfl, fl_newA w6.drew ⟨(.mk yk ym yu yg yo ya yd ys), hy, ly⟩ _⟩) (flF_one _) (by unfold maxLen; omega) (by omega) (by have := hB6d.size; rw [World.size_alloc]; omega) ?_; intro v7 w7 hown7 hgr7 ho7; have HOW : Hid (w7.ownsRow W5.heap.size 59 9 v7 (G ++ [(⟨(.mk yk ym yu yg yo ya yd ys), hy, ly⟩ : Fl)]).length (flF (G ++ [(⟨(.mk yk ym yu yg yo ya yd ys), hy, ly⟩ : Fl)]))) := (by rw [flF_app, List.length_append]; exact hown7); have hB7 : Below W5.heap.size W5 w7 := (hB6d.alloc hB6d.size _).grown hgr7 (by have := hB6d.size; rw [World.size_alloc]; omega) (fun z e => (HG6.out.lt z e).1); clear hown7 hgr7 ho7))
                all_goals
                  go_wp2
                  go_roundw
                  case rel => exact ⟨q + 1, G ++ [(⟨(.mk yk ym yu yg yo ya yd ys), hy, ly⟩ : Fl)], by omega, by go_num, HOW.out, HPR2.out, HNG2.out, (show _ ≤ _ from by have := HLG.out; rw [List.length_append]; simp; omega), hB7⟩
                  case measure => (simp [intOf]; try omega)
              · have hjn2 : ((j : Int) + 1 == (N : Int)) = true := by rw [beq_iff_eq]; omega
                have HJN : Hid (j + 1 = N) := hjn
                clear hjn
                by_cases hly : ly = 0
                · subst hly
                  have HPR2 : Hid (G.map Fl.pr = kidsB (true && decide (j + 1 = N)) nm (l.take (q + 1))) := by
                    show _ = _
                    rw [HPG.out, HTK.out, kidsB, kidsB, List.filterMap_append]
                    simp only [List.filterMap_cons, List.filterMap_nil, Fl.pr]
                    simp [HJN.out]
                  go_wp2
                  go_roundw
                  case rel => exact ⟨q + 1, G, by omega, by go_num, HG6.out, HPR2.out, HNG.out, (show _ ≤ _ from by have := HLG.out; omega), hB6⟩
                  case measure => (simp [intOf]; try omega)
                · have hly2 : ((ly : Int) == 0) = false := by rw [beq_eq_false_iff_ne]; omega
                  have HPR2 : Hid ((G ++ [(⟨(.mk yk ym yu yg yo ya yd ys), hy, ly⟩ : Fl)]).map Fl.pr = kidsB (true && decide (j + 1 = N)) nm (l.take (q + 1))) := by
                    show _ = _
                    rw [List.map_append, HPG.out, HTK.out, kidsB, kidsB, List.filterMap_append]
                    simp only [List.filterMap_cons, List.filterMap_nil, Fl.pr, List.map_cons, List.map_nil]
                    simp [HE3.out, hly]
                  have HNG2 : Hid (∀ f ∈ G ++ [(⟨(.mk yk ym yu yg yo ya yd ys), hy, ly⟩ : Fl)], NdV (offS w.cell? S) f.x f.h) := fun f hf => by
                    rcases List.mem_append.1 hf with e | e
                    · exact HNG.out f e
                    · rw [List.mem_singleton] at e; rw [e]; exact HNY.out
                  have hGl : G.length ≤ 1000 := by have := HLG.out; omega
                  have hB6d := hB6.drew
                  go_upto_region 16 with fail
                  go_region_law (first | (refine step_append_src (w6.drew.alloc (.cells #[.int .i64 yk, .int .i64 ym, .int .i64 yu, .int .i64 yg, .bool yo, .slice hy.aa ya.length hy.ca, .string yd, .slice hy.ak ys.length hy.ck, .int .i64 ly] 59)) (by rfl) (.tmp 72) (.tmp 89) 56 (by rfl) W5.heap.size 59 i0 (.agg #[.int .i64 0, .int .i64 0, .int .i64 0, .int .i64 0, .bool false, .slice none 0 0, .string ⟨#[]⟩, .slice none 0 0, .int .i64 0]) 9 112 Try.underlying56 HI0.out HI1.out HI2.out HI3.out rfl (by decide) _ G.length (flF G) (by rfl) (HG6.out.alloc _) (some ⟨w6.heap.size, 0, none⟩) 1 1 (flF [⟨(.mk yk ym yu yg yo ya yd ys), hy, ly⟩]) (by rfl) (by rfl) (.inr ⟨_, rfl, fl_newA w6.drew ⟨(.mk yk ym yu yg yo ya yd ys), hy, ly⟩ _⟩) (flF_one _) (by unfold maxLen; omega) (by omega) (by have := hB6d.size; rw [World.size_alloc]; omega) ?_; intro v7 w7 hown7 hgr7 ho7; have HOW : Hid (w7.ownsRow W5.heap.size 59 9 v7 (G ++ [(⟨(.mk yk ym yu yg yo ya yd ys), hy, ly⟩ : Fl)]).length (flF (G ++ [(⟨(.mk yk ym yu yg yo ya yd ys), hy, ly⟩ : Fl)]))) := (by rw [flF_app, List.length_append]; exact hown7); have hB7 : Below W5.heap.size W5 w7 := (hB6d.alloc hB6d.size _).grown hgr7 (by have := hB6d.size; rw [World.size_alloc]; omega) (fun z e => (HG6.out.lt z e).1); clear hown7 hgr7 ho7))
                  all_goals
                    go_wp2
                    go_roundw
                    case rel => exact ⟨q + 1, G ++ [(⟨(.mk yk ym yu yg yo ya yd ys), hy, ly⟩ : Fl)], by omega, by go_num, HOW.out, HPR2.out, HNG2.out, (show _ ≤ _ from by have := HLG.out; rw [List.length_append]; simp; omega), hB7⟩
                    case measure => (simp [intOf]; try omega)
end Go.Proofs.Ytgmeecfdkcbggaa
