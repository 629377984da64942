/-
  Lights, copies, sameNodes: the walks.
  comes: the walk.
-/
import Derived.Test.YtkkhfnkmfkdhiabUmX
import Derived.Test.YtkkhfnkmfkdhiabUhX
import Derived.Test.YtkkhfnkmfkdhiabWaX
import Derived.Test.YtkkhfnkmfkdhiabMnY
import Derived.Test.YtkkhfnkmfkdhiabUoY
import Derived.Test.YtkkhfnkmfkdhiabAgY
namespace Go.Proofs.Ytkkhfnkmfkdhiab
open Go.RowKit

theorem alloc_bel2 (w : World) (o : Obj) : Below w.heap.size w (w.alloc o) := (Below.refl _ _).alloc (Nat.le_refl _) _
theorem mle_hide {w w' : World} {S : Nat → Bool} (hb : Below w.heap.size w w') (hs : ∀ k, k < w.heap.size → S k = false) : MLe w.cell? (offS w'.cell? S) := fun q v h => by
  have hq := World.block_lt_of_cell? _ _ h
  rw [offS_ne (hs _ hq)]
  exact mle_below hb _ _ h
def lightsB (xs : List Nd) : Bool := decide (xs.length ≤ 5) && xs.all fun x => decide (0 < lightF x 80)
theorem ns_at {c : Mem} {a : Option Addr} {xs : List Nd} (h : NsV c a xs) {j : Nat} {x : Nd} (hj : xs[j]? = some x) : ∃ b off h, a = some ⟨b, off, none⟩ ∧ NAt c b (off + j * 8) x h ∧ NdV c x h := by
  rcases h with e | ⟨b, off, e, f, hf⟩
  · rw [e] at hj; simp at hj
  · exact ⟨b, off, f j, e, hf j x hj⟩
set_option maxRecDepth 100000 in
set_option maxHeartbeats 1000000 in
theorem lights_any {w : World} {a : Option Addr} {cap : Nat} {xs : List Nd} (hx : NsV w.cell? a xs) (hl : xs.length ≤ 9223372036854775807) :
    Calls Try.prog 26 #[.slice a xs.length cap] w fun e w' => e = .returned (.bool (lightsB xs)) ∧ Below w.heap.size w w' := by
  obtain ⟨R, HR⟩ : ∃ R, Hid (lightsB xs = R) := ⟨_, rfl⟩
  rw [HR.out]
  have HX : Hid (NsV w.cell? a xs) := hx
  by_cases h5 : 5 < xs.length
  · have HRF : Hid (R = false) := by show R = _; rw [← HR.out]; unfold lightsB; rw [decide_eq_false (by omega)]; rfl
    have hb : decide ((5 : Int) < (xs.length : Int)) = true := decide_eq_true (by omega)
    clear hx
    go_enter Try.func26, Try.ntmps26
    go_wp2
    go_ret
    exact ⟨ret_bool HRF.out.symm, Below.refl _ _⟩
  have HRA : Hid (R = xs.all fun x => decide (0 < lightF x 80)) := by show R = _; rw [← HR.out]; unfold lightsB; rw [decide_eq_true (by omega)]; rfl
  have hb : decide ((5 : Int) < (xs.length : Int)) = false := decide_eq_false (by omega)
  obtain ⟨N, HN⟩ : ∃ N, Hid (xs.length = N) := ⟨_, rfl⟩
  rw [HN.out] at hb h5 ⊢
  clear hx hl HR
  go_enter Try.func26, Try.ntmps26
  go_wp2
  go_loopw [3] (fun i wr => ∃ j : Nat, j ≤ N ∧ i = .int .i64 j ∧ Hid (∀ x ∈ xs.take j, 0 < lightF x 80) ∧ Below w.heap.size w wr) (fun i _ => N - (intOf i).toNat)
  case atStart => exact ⟨0, Nat.zero_le _, rfl, fun x hx => (by cases hx), Below.refl _ _⟩
  case round =>
    obtain ⟨j, hj, rfl, HA, hB⟩ := hrel
    by_cases hjl : j < N
    · have hb2 : decide ((j : Int) < (N : Int)) = true := decide_eq_true (by omega)
      obtain ⟨x, hxj⟩ : ∃ x, xs[j]? = some x := ⟨_, List.getElem?_eq_getElem (by rw [HN.out]; exact hjl)⟩
      obtain ⟨ab, ao, h, rfl, hn, hd⟩ := ns_at HX.out hxj
      have HTK : Hid (xs.take (j + 1) = xs.take j ++ [x]) := take_next2 hxj
      have HMEM : Hid (x ∈ xs) := List.mem_of_getElem? hxj
      have hn2 := hn.below hB
      obtain ⟨LF, HLF⟩ : ∃ LF, Hid (lightF x 80 = LF) := ⟨_, rfl⟩
      have HL0 := Light_any (hd.on (mle_below hB))
      rw [HLF.out] at HL0
      obtain ⟨k, m, u, g, o, at_, d, ks⟩ := x
      have HL : Hid (Calls Try.prog 11 #[.agg #[.int .i64 k, .int .i64 m, .int .i64 u, .int .i64 g, .bool o, .slice h.aa at_.length h.ca, .string d, .slice h.ak ks.length h.ck]] wr fun e W' => e = .returned (.bool (decide (0 < LF))) ∧ Below wr.heap.size wr W') := HL0
      obtain ⟨f0, f1, f2, f3, f4, f5, f6, f7⟩ := hn2
      clear hn hd hxj HL0
      go_wp2_with fail
      with_reducible refine Calls.mono HL.out ?_
      rintro e w2 ⟨rfl, hB2⟩
      have hB3 := hB.trans (hB2.mono hB.size)
      clear f0 f1 f2 f3 f4 f5 f6 f7 HL hB2
      by_cases hlf : 0 < LF
      · have hd1 : decide (0 < LF) = true := decide_eq_true hlf
        have HA2 : Hid (∀ x ∈ xs.take (j + 1), 0 < lightF x 80) := fun y hy => by
          rw [HTK.out] at hy
          rcases List.mem_append.1 hy with e | e
          · exact HA.out y e
          · rw [List.mem_singleton] at e; rw [e, HLF.out]; exact hlf
        rw [hd1]
        go_wp2
        go_roundw
        case rel => exact ⟨j + 1, by omega, by go_num, HA2.out, hB3⟩
        case measure => (simp [intOf]; try omega)
      · have hd1 : decide (0 < LF) = false := decide_eq_false hlf
        have HRF : Hid (R = false) := by
          show R = _
          rw [HRA.out]
          refine List.all_eq_false.2 ⟨_, HMEM.out, ?_⟩
          rw [HLF.out, hd1]
          simp
        rw [hd1]
        go_wp2
        go_ret
        exact ⟨ret_bool HRF.out.symm, hB3⟩
    · have hb2 : decide ((j : Int) < (N : Int)) = false := decide_eq_false (by omega)
      have HRT : Hid (R = true) := by
        show R = _
        rw [HRA.out]
        refine List.all_eq_true.2 fun x hx => decide_eq_true (HA.out x ?_)
        rw [List.take_of_length_le (by rw [HN.out]; omega)]
        exact hx
      go_wp2
      go_ret
      exact ⟨ret_bool HRT.out.symm, hB⟩
/-- What stands while nodes are copied. -/
structure CpI (w : World) (v : Value) (L : List Fl) (wr : World) : Prop where
  low : Below w.heap.size w wr
  row : wr.ownsRow w.heap.size 25 8 v L.length (flN L)
  nd : ∀ f ∈ L, NdV (offS wr.cell? (fun k => v.ownBlock == some k)) f.x f.h
theorem CpI.below {w : World} {v : Value} {L : List Fl} {wr w' : World} (h : CpI w v L wr) (hb : Below wr.heap.size wr w') : CpI w v L w' := ⟨h.low.trans (hb.mono h.low.size), ownsRow_bel h.row hb, fun f hf => (h.nd f hf).on (mle_S hb)⟩
theorem CpI.app {w : World} {v v' : Value} {L : List Fl} {wr w' : World} (h : CpI w v L wr) {f : Fl} (hf : NdV (offS wr.cell? (fun k => v.ownBlock == some k)) f.x f.h) (hown : w'.ownsRow w.heap.size 25 8 v' (L ++ [f]).length (flN (L ++ [f]))) (hg : wr.grownBy w' v.ownBlock) (ho : v'.ownBlock = v.ownBlock ∨ v'.ownBlock = some wr.heap.size) : CpI w v' (L ++ [f]) w' := by
  have hm : MLe (offS wr.cell? (fun k => v.ownBlock == some k)) (offS w'.cell? (fun k => v'.ownBlock == some k)) := mle_step fun k hk hs => by
    simp at hs
    refine ⟨?_, hg.block k hk (fun e => hs e.symm)⟩
    simp
    rcases ho with e | e
    · rw [e]; exact hs
    · rw [e]; intro e2; cases e2; omega
  refine ⟨h.low.grown hg h.low.size (fun g e => (h.row.lt g e).1), hown, fun f' hf' => ?_⟩
  rcases List.mem_append.1 hf' with e | e
  · exact (h.nd f' e).on hm
  · rw [List.mem_singleton] at e; rw [e]; exact hf.on hm
set_option maxRecDepth 100000 in
set_option maxHeartbeats 1000000 in
theorem copies_any {w : World} {a : Option Addr} {cap : Nat} {xs : List Nd} (hx : NsV w.cell? a xs) (hl : xs.length ≤ 5) (hok : ∀ x ∈ xs, Lim x ∧ cnt x ≤ 1000) :
    Calls Try.prog 28 #[.slice a xs.length cap] w fun e w' => ∃ a' cap', e = .returned (.slice a' xs.length cap') ∧ xs.length ≤ cap' ∧ NsV w'.cell? a' xs ∧ Below w.heap.size w w' := by
  obtain ⟨i0, hi0, hi1, hi2, hi3⟩ := info_three Try.infoNd
  have HI0 : Hid _ := hi0
  have HI1 : Hid _ := hi1
  have HI2 : Hid _ := hi2
  have HI3 : Hid _ := hi3
  clear hi0 hi1 hi2 hi3
  have HX : Hid (NsV w.cell? a xs) := hx
  have HOK : Hid (∀ x ∈ xs, Lim x ∧ cnt x ≤ 1000) := hok
  obtain ⟨N, HN⟩ : ∃ N, Hid (xs.length = N) := ⟨_, rfl⟩
  rw [HN.out] at hl ⊢
  clear hx hok
  go_enter Try.func28, Try.ntmps28
  go_wp2
  go_loopw [3, 4] (fun v i wr => ∃ (j : Nat) (L : List Fl), j ≤ N ∧ i = .int .i64 j ∧ Hid (L.map Fl.x = xs.take j) ∧ Hid (L.length = j) ∧ Hid (CpI w v L wr)) (fun _ i _ => N - (intOf i).toNat)
  case atStart => exact ⟨0, [], Nat.zero_le _, rfl, rfl, rfl, Below.refl _ _, World.ownsRow_nil _ _ _ _, fun f hf => by cases hf⟩
  case round =>
    obtain ⟨j, L, hj, rfl, HL, HLJ, HC⟩ := hrel
    by_cases hjl : j < N
    · have hb2 : decide ((j : Int) < (N : Int)) = true := decide_eq_true (by omega)
      obtain ⟨x, hxj⟩ : ∃ x, xs[j]? = some x := ⟨_, List.getElem?_eq_getElem (by rw [HN.out]; exact hjl)⟩
      obtain ⟨ab, ao, h, rfl, hn, hd⟩ := ns_at HX.out hxj
      have HTK : Hid (xs.take (j + 1) = xs.take j ++ [x]) := take_next2 hxj
      obtain ⟨hli, hcn⟩ := HOK.out x (List.mem_of_getElem? hxj)
      have hn2 := hn.below HC.out.low
      have hdw : NdV (offS wr.cell? (fun k => u3.ownBlock == some k)) x h := hd.on (mle_hide HC.out.low (fun k hk => by
        simp
        intro e
        have := (HC.out.row.lt k e).1
        omega))
      obtain ⟨k, m, u, g, o, at_, d, ks⟩ := x
      have HO : Hid (Calls Try.prog 69 #[.agg #[.int .i64 k, .int .i64 m, .int .i64 u, .int .i64 g, .bool o, .slice h.aa at_.length h.ca, .string d, .slice h.ak ks.length h.ck]] wr fun e W' => (∃ h', e = .returned (.agg #[.int .i64 k, .int .i64 m, .int .i64 u, .int .i64 g, .bool o, .slice h'.aa at_.length h'.ca, .string d, .slice h'.ak ks.length h'.ck]) ∧ NdV (offS W'.cell? (fun k => u3.ownBlock == some k)) (.mk k m u g o at_ d ks) h') ∧ Below wr.heap.size wr W') := own_any (x := (.mk k m u g o at_ d ks)) (h := h) (fun k hk => by simp at hk; exact (HC.out.row.lt k hk).2) hdw hli hcn
      obtain ⟨f0, f1, f2, f3, f4, f5, f6, f7⟩ := hn2
      have hLl : L.length ≤ 1000 := by have := HLJ.out; omega
      clear hn hd hxj hdw hli hcn
      go_wp2_with fail
      with_reducible refine Calls.mono HO.out ?_
      rintro e w2 ⟨⟨h', rfl, hn2⟩, hB2⟩
      have hb3 := alloc_bel2 w2 (.cells #[.int .i64 k, .int .i64 m, .int .i64 u, .int .i64 g, .bool o, .slice h'.aa at_.length h'.ca, .string d, .slice h'.ak ks.length h'.ck] 25)
      have CP := (HC.out.below hB2).below hb3
      have hn3 := hn2.on (mle_S hb3)
      have NB := NBw.new w2 k m u g o at_ d ks h'
      have HCP : Hid _ := CP
      have HN3 : Hid _ := hn3
      clear f0 f1 f2 f3 f4 f5 f6 f7 HO hB2 hb3 CP hn2 hn3 HC
      go_upto_region 6 with fail
      generalize w2.alloc (.cells #[.int .i64 k, .int .i64 m, .int .i64 u, .int .i64 g, .bool o, .slice h'.aa at_.length h'.ca, .string d, .slice h'.ak ks.length h'.ck] 25) = w3 at HCP HN3 NB ⊢
      generalize w2.heap.size = b5 at NB ⊢
      obtain ⟨f0, f1, f2, f3, f4, f5, f6, f7⟩ := NB.1
      have HCP : Hid (CpI w u3 L w3) := HCP
      go_wp2_with (at_builtin; refine wpList_append_src (w3.alloc (.cells #[.int .i64 k, .int .i64 m, .int .i64 u, .int .i64 g, .bool o, .slice h'.aa at_.length h'.ca, .string d, .slice h'.ak ks.length h'.ck] 25)) rfl (.tmp 17) (.tmp 19) 50 rfl w.heap.size 25 i0 (.agg #[.int .i64 0, .int .i64 0, .int .i64 0, .int .i64 0, .bool false, .slice none 0 0, .string ⟨#[]⟩, .slice none 0 0]) 8 104 Try.underlying50 HI0.out HI1.out HI2.out HI3.out rfl (by decide) u3 L.length (flN L) rfl (HCP.out.row.alloc _) (some ⟨w3.heap.size, 0, none⟩) 1 1 (ndL (.mk k m u g o at_ d ks) h') rfl rfl (.inr ⟨_, rfl, fun q t hq => by rw [addr_add, Nat.zero_add]; exact nd_newA w3 _ h' _ q t hq⟩) (ndL_one _ _) (by unfold maxLen; omega) (by omega) (by have := HCP.out.low.size; rw [World.size_alloc]; omega) ?_)
      intro v7 w7 hown7 hgr7 ho7
      have HB7 : Hid (CpI w v7 (L ++ [(⟨(.mk k m u g o at_ d ks), h', 0⟩ : Fl)]) w7) := (HCP.out.below (alloc_bel2 w3 _)).app (f := ⟨(.mk k m u g o at_ d ks), h', 0⟩) (NdV.on HN3.out (mle_S (alloc_bel2 w3 _))) (by rw [flN_app, List.length_append]; simpa [flN] using hown7) hgr7 (by rw [World.size_alloc]; exact ho7)
      have HL2 : Hid ((L ++ [(⟨(.mk k m u g o at_ d ks), h', 0⟩ : Fl)]).map Fl.x = xs.take (j + 1)) := by show _ = _; rw [List.map_append, HL.out, HTK.out]; rfl
      clear hown7 hgr7 ho7 HCP HN3 NB f0 f1 f2 f3 f4 f5 f6 f7
      go_wp2
      go_roundw
      case rel => exact ⟨j + 1, _, by omega, by go_num, HL2.out, (show _ = _ from by rw [List.length_append, HLJ.out]; rfl), HB7.out⟩
      case measure => (simp [intOf]; try omega)
    · obtain rfl : j = N := by omega
      have hb2 : decide ((j : Int) < (j : Int)) = false := decide_eq_false (by omega)
      have HLX : Hid (L.map Fl.x = xs) := by show _ = _; rw [HL.out, List.take_of_length_le (by rw [HN.out]; omega)]
      go_wp2
      go_ret
      rcases HC.out.row.2 with ⟨rfl, h0⟩ | ⟨g, cap, cur, rfl, hb, hg, h1, h2, h3, h4⟩
      · rw [HLJ.out] at h0
        exact ⟨none, 0, ret_val (show Value.slice none 0 0 = .slice none j 0 by rw [h0]), by rw [h0]; exact Nat.le_refl _, .inl (List.length_eq_zero_iff.1 (by rw [HN.out]; exact h0)), HC.out.low⟩
      · refine ⟨some ⟨g, 0, none⟩, cap, ret_val (show Value.slice (some ⟨g, 0, none⟩) L.length cap = .slice (some ⟨g, 0, none⟩) j cap by rw [HLJ.out]), by rw [← HLJ.out]; exact h1, .inr ⟨g, 0, rfl, fun i => (L.getD i ⟨zN, zH, 0⟩).h, fun i x hi => ?_⟩, HC.out.low⟩
        rw [← HLX.out, List.getElem?_map] at hi
        obtain ⟨f, hf, rfl⟩ := Option.map_eq_some_iff.1 hi
        have e : (L.getD i ⟨zN, zH, 0⟩) = f := by rw [List.getD_eq_getElem?_getD, hf]; rfl
        dsimp only
        rw [e]
        refine ⟨nat_iff.2 fun q u hq => ?_, (HC.out.nd f (List.mem_of_getElem? hf)).on (offS_le _ _)⟩
        rw [Nat.zero_add]
        exact ownsRow_cell hg h4 (flN_get L i f hf q u hq)
set_option maxRecDepth 100000 in
set_option maxHeartbeats 1000000 in
theorem sameNodes_any {w W : World} {a b : Option Addr} {ca cb : Nat} {xs : List Nd} (ha : NsV w.cell? a xs) (hb : NsV w.cell? b xs) (hW : Below w.heap.size w W) (hl : xs.length ≤ 1000) (hok : ∀ x ∈ xs, Lim x) :
    Calls Try.prog 39 #[.slice a xs.length ca, .slice b xs.length cb] W fun e w' => e = .returned (.bool true) ∧ Below W.heap.size W w' := by
  have HA : Hid (NsV w.cell? a xs) := ha
  have HB : Hid (NsV w.cell? b xs) := hb
  have HOK : Hid (∀ x ∈ xs, Lim x) := hok
  obtain ⟨N, HN⟩ : ∃ N, Hid (xs.length = N) := ⟨_, rfl⟩
  rw [HN.out] at hl ⊢
  clear ha hb hok
  go_enter Try.func39, Try.ntmps39
  go_wp2
  go_loopw [5] (fun i wr => ∃ j : Nat, j ≤ N ∧ i = .int .i64 j ∧ Below W.heap.size W wr) (fun i _ => N - (intOf i).toNat)
  case atStart => exact ⟨0, Nat.zero_le _, rfl, Below.refl _ _⟩
  case round =>
    obtain ⟨j, hj, rfl, hB⟩ := hrel
    by_cases hjl : j < N
    · have hb2 : decide ((j : Int) < (N : Int)) = true := decide_eq_true (by omega)
      obtain ⟨x, hxj⟩ : ∃ x, xs[j]? = some x := ⟨_, List.getElem?_eq_getElem (by rw [HN.out]; exact hjl)⟩
      obtain ⟨ab, ao, ha, rfl, hn, hd⟩ := ns_at HA.out hxj
      obtain ⟨bb, bo, hb, rfl, hm, he⟩ := ns_at HB.out hxj
      have hli := HOK.out x (List.mem_of_getElem? hxj)
      have hBw : Below w.heap.size w wr := hW.trans (hB.mono hW.size)
      have hn2 := hn.below hBw
      have hm2 := hm.below hBw
      have HS0 := sameNode_yes hd hb wr.drew hli he hBw.drew
      obtain ⟨k, m, u, g, o, at_, d, ks⟩ := x
      have HS : Hid (Calls Try.prog 17 #[.agg #[.int .i64 k, .int .i64 m, .int .i64 u, .int .i64 g, .bool o, .slice ha.aa at_.length ha.ca, .string d, .slice ha.ak ks.length ha.ck], .agg #[.int .i64 k, .int .i64 m, .int .i64 u, .int .i64 g, .bool o, .slice hb.aa at_.length hb.ca, .string d, .slice hb.ak ks.length hb.ck]] wr.drew fun e W' => e = .returned (.bool true) ∧ Below wr.heap.size wr W') := HS0.mono fun e W' q => ⟨q.1, ((Below.refl _ wr).drew).trans q.2⟩
      obtain ⟨e0, e1, e2, e3, e4, e5, e6, e7⟩ := hn2
      obtain ⟨d0, d1, d2, d3, d4, d5, d6, d7⟩ := hm2
      have T4 : wr.cell? ⟨ab, ao + j * 8, none⟩ = some (.int .i64 k) ∧ wr.cell? ⟨ab, ao + j * 8 + 1, none⟩ = some (.int .i64 m) ∧ wr.cell? ⟨ab, ao + j * 8 + 2, none⟩ = some (.int .i64 u) ∧ wr.cell? ⟨ab, ao + j * 8 + 3, none⟩ = some (.int .i64 g) ∧ wr.cell? ⟨ab, ao + j * 8 + 4, none⟩ = some (.bool o) ∧ wr.cell? ⟨ab, ao + j * 8 + 5, none⟩ = some (.slice ha.aa at_.length ha.ca) ∧ wr.cell? ⟨ab, ao + j * 8 + 6, none⟩ = some (.string d) ∧ wr.cell? ⟨ab, ao + j * 8 + 7, none⟩ = some (.slice ha.ak ks.length ha.ck) ∧ wr.cell? ⟨bb, bo + j * 8, none⟩ = some (.int .i64 k) ∧ wr.cell? ⟨bb, bo + j * 8 + 1, none⟩ = some (.int .i64 m) ∧ wr.cell? ⟨bb, bo + j * 8 + 2, none⟩ = some (.int .i64 u) ∧ wr.cell? ⟨bb, bo + j * 8 + 3, none⟩ = some (.int .i64 g) ∧ wr.cell? ⟨bb, bo + j * 8 + 4, none⟩ = some (.bool o) ∧ wr.cell? ⟨bb, bo + j * 8 + 5, none⟩ = some (.slice hb.aa at_.length hb.ca) ∧ wr.cell? ⟨bb, bo + j * 8 + 6, none⟩ = some (.string d) ∧ wr.cell? ⟨bb, bo + j * 8 + 7, none⟩ = some (.slice hb.ak ks.length hb.ck) := ⟨e0, e1, e2, e3, e4, e5, e6, e7, d0, d1, d2, d3, d4, d5, d6, d7⟩
      have T5 : wr.drew.cell? ⟨ab, ao + j * 8, none⟩ = some (.int .i64 k) ∧ wr.drew.cell? ⟨ab, ao + j * 8 + 1, none⟩ = some (.int .i64 m) ∧ wr.drew.cell? ⟨ab, ao + j * 8 + 2, none⟩ = some (.int .i64 u) ∧ wr.drew.cell? ⟨ab, ao + j * 8 + 3, none⟩ = some (.int .i64 g) ∧ wr.drew.cell? ⟨ab, ao + j * 8 + 4, none⟩ = some (.bool o) ∧ wr.drew.cell? ⟨ab, ao + j * 8 + 5, none⟩ = some (.slice ha.aa at_.length ha.ca) ∧ wr.drew.cell? ⟨ab, ao + j * 8 + 6, none⟩ = some (.string d) ∧ wr.drew.cell? ⟨ab, ao + j * 8 + 7, none⟩ = some (.slice ha.ak ks.length ha.ck) ∧ wr.drew.cell? ⟨bb, bo + j * 8, none⟩ = some (.int .i64 k) ∧ wr.drew.cell? ⟨bb, bo + j * 8 + 1, none⟩ = some (.int .i64 m) ∧ wr.drew.cell? ⟨bb, bo + j * 8 + 2, none⟩ = some (.int .i64 u) ∧ wr.drew.cell? ⟨bb, bo + j * 8 + 3, none⟩ = some (.int .i64 g) ∧ wr.drew.cell? ⟨bb, bo + j * 8 + 4, none⟩ = some (.bool o) ∧ wr.drew.cell? ⟨bb, bo + j * 8 + 5, none⟩ = some (.slice hb.aa at_.length hb.ca) ∧ wr.drew.cell? ⟨bb, bo + j * 8 + 6, none⟩ = some (.string d) ∧ wr.drew.cell? ⟨bb, bo + j * 8 + 7, none⟩ = some (.slice hb.ak ks.length hb.ck) := T4
      have HTB : Hid (∀ w' : World, Below wr.heap.size wr w' → w'.cell? ⟨ab, ao + j * 8, none⟩ = some (.int .i64 k) ∧ w'.cell? ⟨ab, ao + j * 8 + 1, none⟩ = some (.int .i64 m) ∧ w'.cell? ⟨ab, ao + j * 8 + 2, none⟩ = some (.int .i64 u) ∧ w'.cell? ⟨ab, ao + j * 8 + 3, none⟩ = some (.int .i64 g) ∧ w'.cell? ⟨ab, ao + j * 8 + 4, none⟩ = some (.bool o) ∧ w'.cell? ⟨ab, ao + j * 8 + 5, none⟩ = some (.slice ha.aa at_.length ha.ca) ∧ w'.cell? ⟨ab, ao + j * 8 + 6, none⟩ = some (.string d) ∧ w'.cell? ⟨ab, ao + j * 8 + 7, none⟩ = some (.slice ha.ak ks.length ha.ck) ∧ w'.cell? ⟨bb, bo + j * 8, none⟩ = some (.int .i64 k) ∧ w'.cell? ⟨bb, bo + j * 8 + 1, none⟩ = some (.int .i64 m) ∧ w'.cell? ⟨bb, bo + j * 8 + 2, none⟩ = some (.int .i64 u) ∧ w'.cell? ⟨bb, bo + j * 8 + 3, none⟩ = some (.int .i64 g) ∧ w'.cell? ⟨bb, bo + j * 8 + 4, none⟩ = some (.bool o) ∧ w'.cell? ⟨bb, bo + j * 8 + 5, none⟩ = some (.slice hb.aa at_.length hb.ca) ∧ w'.cell? ⟨bb, bo + j * 8 + 6, none⟩ = some (.string d) ∧ w'.cell? ⟨bb, bo + j * 8 + 7, none⟩ = some (.slice hb.ak ks.length hb.ck)) := fun w' hb => ⟨mle_below hb _ _ T4.1, mle_below hb _ _ T4.2.1, mle_below hb _ _ T4.2.2.1, mle_below hb _ _ T4.2.2.2.1, mle_below hb _ _ T4.2.2.2.2.1, mle_below hb _ _ T4.2.2.2.2.2.1, mle_below hb _ _ T4.2.2.2.2.2.2.1, mle_below hb _ _ T4.2.2.2.2.2.2.2.1, mle_below hb _ _ T4.2.2.2.2.2.2.2.2.1, mle_below hb _ _ T4.2.2.2.2.2.2.2.2.2.1, mle_below hb _ _ T4.2.2.2.2.2.2.2.2.2.2.1, mle_below hb _ _ T4.2.2.2.2.2.2.2.2.2.2.2.1, mle_below hb _ _ T4.2.2.2.2.2.2.2.2.2.2.2.2.1, mle_below hb _ _ T4.2.2.2.2.2.2.2.2.2.2.2.2.2.1, mle_below hb _ _ T4.2.2.2.2.2.2.2.2.2.2.2.2.2.2.1, mle_below hb _ _ T4.2.2.2.2.2.2.2.2.2.2.2.2.2.2.2⟩
      have k1 : (j : Int) < (N : Int) := by omega
      clear T4 e0 e1 e2 e3 e4 e5 e6 e7 d0 d1 d2 d3 d4 d5 d6 d7 hn hd hm he hli HS0 hxj
      go_upto_region 6 with fail
      go_region_held3 (fun w' => w'.cell? ⟨ab, ao + j * 8, none⟩ = some (.int .i64 k) ∧ w'.cell? ⟨ab, ao + j * 8 + 1, none⟩ = some (.int .i64 m) ∧ w'.cell? ⟨ab, ao + j * 8 + 2, none⟩ = some (.int .i64 u) ∧ w'.cell? ⟨ab, ao + j * 8 + 3, none⟩ = some (.int .i64 g) ∧ w'.cell? ⟨ab, ao + j * 8 + 4, none⟩ = some (.bool o) ∧ w'.cell? ⟨ab, ao + j * 8 + 5, none⟩ = some (.slice ha.aa at_.length ha.ca) ∧ w'.cell? ⟨ab, ao + j * 8 + 6, none⟩ = some (.string d) ∧ w'.cell? ⟨ab, ao + j * 8 + 7, none⟩ = some (.slice ha.ak ks.length ha.ck) ∧ w'.cell? ⟨bb, bo + j * 8, none⟩ = some (.int .i64 k) ∧ w'.cell? ⟨bb, bo + j * 8 + 1, none⟩ = some (.int .i64 m) ∧ w'.cell? ⟨bb, bo + j * 8 + 2, none⟩ = some (.int .i64 u) ∧ w'.cell? ⟨bb, bo + j * 8 + 3, none⟩ = some (.int .i64 g) ∧ w'.cell? ⟨bb, bo + j * 8 + 4, none⟩ = some (.bool o) ∧ w'.cell? ⟨bb, bo + j * 8 + 5, none⟩ = some (.slice hb.aa at_.length hb.ca) ∧ w'.cell? ⟨bb, bo + j * 8 + 6, none⟩ = some (.string d) ∧ w'.cell? ⟨bb, bo + j * 8 + 7, none⟩ = some (.slice hb.ak ks.length hb.ck)) (first | with_reducible exact T5 | with_reducible exact T6) (first | (go_at_call 17; (with_reducible refine Calls.mono HS.out ?_); rintro e w6 ⟨rfl, hB6⟩; have T6 := HTB.out w6 hB6))
      have hB7 := hB.trans (hB6.mono hB.size)
      clear T5 T6 HS HTB hB6
      go_wp2
      go_roundw
      case rel => exact ⟨j + 1, by omega, by go_num, hB7⟩
      case measure => (simp [intOf]; try omega)
    · have hb2 : decide ((j : Int) < (N : Int)) = false := decide_eq_false (by omega)
      go_wp2
      go_ret
      exact ⟨rfl, hB⟩
end Go.Proofs.Ytkkhfnkmfkdhiab

namespace Go.Proofs.Ytkkhfnkmfkdhiab
open Go.RowKit

def sF : ByteArray := ⟨#[102]⟩
def cU : Nd := .mk 2 0 0 0 false [] ⟨#[]⟩ []
def cF : Nd := .mk 1 0 3 3 false [] ⟨#[]⟩ []
def cL : Nd := .mk 2 0 0 0 false [] ⟨#[]⟩ [(sF, cF)]
def cG : Nd := .mk 1 0 1003 1003 false [] ⟨#[]⟩ []
def cR : Nd := .mk 2 0 0 0 false [] ⟨#[]⟩ [(sF, cG)]
theorem comes_up : UpR [⟨0, 1000, 10⟩] [⟨0, 1000, 10⟩] [cU, cL] [sF] cU = .ok cR := by rfl
theorem strs_oneP (w : World) (s : ByteArray) (t : TypeId) : Strs (w.alloc (.cells #[.string s] t)).cell? (some ⟨w.heap.size, 0, none⟩) [s] := by
  refine .inr ⟨_, _, rfl, fun i s' hi => ?_⟩
  cases i with
  | zero => simp at hi; subst hi; exact World.cell?_alloc_at _ _ _ _ rfl
  | succ i => simp at hi
theorem one_okR : ∀ r ∈ [(⟨0, 1000, 10⟩ : Rg)], r.ok := by
  intro r hr
  simp at hr
  subst hr
  simp [Rg.ok, I64]
theorem comes_mem (w w1 w2 w3 w4 w5 w6 : World) (h1 : w1 = w.alloc (.cells #[.int .i64 2, .int .i64 0, .int .i64 0, .int .i64 0, .bool false, .slice none 0 0, .string ⟨#[]⟩, .slice none 0 0] 25)) (h2 : w2 = w1.alloc (.cells #[.string ⟨#[102]⟩, .int .i64 1, .int .i64 0, .int .i64 3, .int .i64 3, .bool false, .slice none 0 0, .string ⟨#[]⟩, .slice none 0 0] 102)) (h3 : w3 = w2.alloc (.cells #[.int .i64 2, .int .i64 0, .int .i64 0, .int .i64 0, .bool false, .slice none 0 0, .string ⟨#[]⟩, .slice (some ⟨w.heap.size + 1, 0, none⟩) 1 1] 25)) (h4 : w4 = w3.alloc (.cells #[.int .i64 0, .int .i64 1000, .int .i64 10] 148)) (h5 : w5 = w4.alloc (.cells #[.int .i64 2, .int .i64 0, .int .i64 0, .int .i64 0, .bool false, .slice none 0 0, .string ⟨#[]⟩, .slice none 0 0, .int .i64 2, .int .i64 0, .int .i64 0, .int .i64 0, .bool false, .slice none 0 0, .string ⟨#[]⟩, .slice (some ⟨w.heap.size + 1, 0, none⟩) 1 1] 25)) (h6 : w6 = w5.alloc (.cells #[.string ⟨#[102]⟩] 9)) :
    NsV w6.cell? (some ⟨w.heap.size + 1 + 1 + 1 + 1, 0, none⟩) [cU, cL] ∧ Strs w6.cell? (some ⟨w.heap.size + 1 + 1 + 1 + 1 + 1, 0, none⟩) [sF] ∧ Rgs w6 (some ⟨w.heap.size + 1 + 1 + 1, 0, none⟩) [⟨0, 1000, 10⟩] ∧ Below w.heap.size w w6 := by
  have s1 : w1.heap.size = w.heap.size + 1 := by rw [h1, World.size_alloc]
  have s2 : w2.heap.size = w.heap.size + 1 + 1 := by rw [h2, World.size_alloc, s1]
  have s3 : w3.heap.size = w.heap.size + 1 + 1 + 1 := by rw [h3, World.size_alloc, s2]
  have s4 : w4.heap.size = w.heap.size + 1 + 1 + 1 + 1 := by rw [h4, World.size_alloc, s3]
  have s5 : w5.heap.size = w.heap.size + 1 + 1 + 1 + 1 + 1 := by rw [h5, World.size_alloc, s4]
  have a1 : Below w.heap.size w w1 := by rw [h1]; exact alloc_bel2 _ _
  have a2 : Below w1.heap.size w1 w2 := by rw [h2]; exact alloc_bel2 _ _
  have a3 : Below w2.heap.size w2 w3 := by rw [h3]; exact alloc_bel2 _ _
  have a4 : Below w3.heap.size w3 w4 := by rw [h4]; exact alloc_bel2 _ _
  have a5 : Below w4.heap.size w4 w5 := by rw [h5]; exact alloc_bel2 _ _
  have a6 : Below w5.heap.size w5 w6 := by rw [h6]; exact alloc_bel2 _ _
  have d2 : ∀ j u, (Value.string sF :: ndL cF zH)[j]? = some u → w2.cell? ⟨w.heap.size + 1, j, none⟩ = some u := fun j u hj => by
    rw [h2, ← s1]
    refine (World.cell?_alloc_at _ _ _ _ rfl).trans ?_
    have : (#[Value.string ⟨#[102]⟩, .int .i64 1, .int .i64 0, .int .i64 3, .int .i64 3, .bool false, .slice none 0 0, .string ⟨#[]⟩, .slice none 0 0] : Array Value) = (Value.string sF :: ndL cF zH).toArray := rfl
    rw [this]
    simpa using hj
  have d4 : ∀ j u, ([.int .i64 0, .int .i64 1000, .int .i64 10] : List Value)[j]? = some u → w4.cell? ⟨w.heap.size + 1 + 1 + 1, j, none⟩ = some u := fun j u hj => by
    rw [h4, ← s3]
    refine (World.cell?_alloc_at _ _ _ _ rfl).trans ?_
    simpa using hj
  have d5 : ∀ j u, (ndL cU zH ++ ndL cL ⟨none, 0, some ⟨w.heap.size + 1, 0, none⟩, 1⟩)[j]? = some u → w5.cell? ⟨w.heap.size + 1 + 1 + 1 + 1, j, none⟩ = some u := fun j u hj => by
    rw [h5, ← s4]
    refine (World.cell?_alloc_at _ _ _ _ rfl).trans ?_
    have : (#[.int .i64 2, .int .i64 0, .int .i64 0, .int .i64 0, .bool false, .slice none 0 0, .string ⟨#[]⟩, .slice none 0 0, .int .i64 2, .int .i64 0, .int .i64 0, .int .i64 0, .bool false, .slice none 0 0, .string ⟨#[]⟩, .slice (some ⟨w.heap.size + 1, 0, none⟩) 1 1] : Array Value) = (ndL cU zH ++ ndL cL ⟨none, 0, some ⟨w.heap.size + 1, 0, none⟩, 1⟩).toArray := rfl
    rw [this]
    simpa using hj
  have m26 : MLe w2.cell? w6.cell? := (((mle_below a3).trans (mle_below a4)).trans (mle_below a5)).trans (mle_below a6)
  have m46 : MLe w4.cell? w6.cell? := (mle_below a5).trans (mle_below a6)
  have nF : NdV w6.cell? cF zH := ndV_iff.2 ⟨.inl rfl, ⟨Nat.le_refl _, by show (0 : Nat) ≤ _; omega⟩, ⟨Nat.le_refl _, by show (0 : Nat) ≤ _; omega⟩, .inl rfl⟩
  have nU : NdV w6.cell? cU zH := ndV_iff.2 ⟨.inl rfl, ⟨Nat.le_refl _, by show (0 : Nat) ≤ _; omega⟩, ⟨Nat.le_refl _, by show (0 : Nat) ≤ _; omega⟩, .inl rfl⟩
  have nL : NdV w6.cell? cL ⟨none, 0, some ⟨w.heap.size + 1, 0, none⟩, 1⟩ := ndV_iff.2 ⟨.inl rfl, ⟨Nat.le_refl _, by show (0 : Nat) ≤ _; omega⟩, ⟨Nat.le_refl _, by show (1 : Nat) ≤ _; omega⟩, .inr ⟨_, 0, rfl, fun _ => zH, fun i n x hi => by
    cases i with
    | succ i => simp at hi
    | zero =>
      simp at hi
      obtain ⟨rfl, rfl⟩ := hi
      refine ⟨kdAt_iff.2 fun j u hj => ?_, nF⟩
      rw [show 0 + 0 * 9 + j = j by omega]
      exact m26 _ _ (d2 j u hj)⟩⟩
  refine ⟨.inr ⟨_, 0, rfl, fun i => if i = 0 then zH else ⟨none, 0, some ⟨w.heap.size + 1, 0, none⟩, 1⟩, fun i x hi => ?_⟩, ?_, .inr ⟨_, 0, rfl, fun k r hr => ?_⟩, ((((a1.trans (a2.mono a1.size)).trans (a3.mono (by omega))).trans (a4.mono (by omega))).trans (a5.mono (by omega))).trans (a6.mono (by omega))⟩
  · match i, hi with
    | 0, hi =>
      simp at hi
      subst hi
      show NAt _ _ _ cU zH ∧ NdV _ cU zH
      refine ⟨nat_iff.2 fun q u hq => ?_, nU⟩
      have hl := (List.getElem?_eq_some_iff.1 hq).1
      rw [show 0 + 0 * 8 + q = q by omega]
      exact mle_below a6 _ _ (d5 q u (by rw [List.getElem?_append_left hl]; exact hq))
    | 1, hi =>
      simp at hi
      subst hi
      show NAt _ _ _ cL ⟨none, 0, some ⟨w.heap.size + 1, 0, none⟩, 1⟩ ∧ NdV _ cL ⟨none, 0, some ⟨w.heap.size + 1, 0, none⟩, 1⟩
      refine ⟨nat_iff.2 fun q u hq => ?_, nL⟩
      rw [show 0 + 1 * 8 + q = 8 + q by omega]
      exact mle_below a6 _ _ (d5 (8 + q) u (by rw [List.getElem?_append_right (by rw [ndL_length]; omega), ndL_length, show 8 + q - 8 = q by omega]; exact hq))
  · have e := strs_oneP w5 sF 9
    rw [s5] at e
    rw [h6]
    exact e
  · match k, hr with
    | 0, hr =>
      simp at hr
      subst hr
      exact ⟨m46 _ _ (d4 0 _ rfl), m46 _ _ (d4 1 _ rfl), m46 _ _ (d4 2 _ rfl)⟩
set_option maxRecDepth 100000 in
set_option maxHeartbeats 2000000 in
theorem comes_any (w : World) : Calls Try.prog 41 #[] w fun e w' => e = .returned (.bool true) ∧ Below w.heap.size w w' := by
  obtain ⟨hx, hs, hr, hB⟩ := comes_mem w _ _ _ _ _ _ rfl rfl rfl rfl rfl rfl
  have HC : Hid (Calls Try.prog 47 #[.slice (some ⟨w.heap.size + 1 + 1 + 1 + 1, 0, none⟩) 2 2, .agg #[.slice (some ⟨w.heap.size + 1 + 1 + 1, 0, none⟩) 1 1, .slice (some ⟨w.heap.size + 1 + 1 + 1, 0, none⟩) 1 1], .slice (some ⟨w.heap.size + 1 + 1 + 1 + 1 + 1, 0, none⟩) 1 1] ((((((w.alloc (.cells #[.int .i64 2, .int .i64 0, .int .i64 0, .int .i64 0, .bool false, .slice none 0 0, .string ⟨#[]⟩, .slice none 0 0] 25)).alloc (.cells #[.string ⟨#[102]⟩, .int .i64 1, .int .i64 0, .int .i64 3, .int .i64 3, .bool false, .slice none 0 0, .string ⟨#[]⟩, .slice none 0 0] 102)).alloc (.cells #[.int .i64 2, .int .i64 0, .int .i64 0, .int .i64 0, .bool false, .slice none 0 0, .string ⟨#[]⟩, .slice (some ⟨w.heap.size + 1, 0, none⟩) 1 1] 25)).alloc (.cells #[.int .i64 0, .int .i64 1000, .int .i64 10] 148)).alloc (.cells #[.int .i64 2, .int .i64 0, .int .i64 0, .int .i64 0, .bool false, .slice none 0 0, .string ⟨#[]⟩, .slice none 0 0, .int .i64 2, .int .i64 0, .int .i64 0, .int .i64 0, .bool false, .slice none 0 0, .string ⟨#[]⟩, .slice (some ⟨w.heap.size + 1, 0, none⟩) 1 1] 25)).alloc (.cells #[.string ⟨#[102]⟩] 9)) fun e W' => (∃ h', e = .returned (.tuple #[.agg #[.int .i64 2, .int .i64 0, .int .i64 0, .int .i64 0, .bool false, .slice h'.aa 0 h'.ca, .string ⟨#[]⟩, .slice h'.ak 1 h'.ck], .nilIface]) ∧ NdV (offS W'.cell? (fun _ => false)) cR h') ∧ Below ((((((w.alloc (.cells #[.int .i64 2, .int .i64 0, .int .i64 0, .int .i64 0, .bool false, .slice none 0 0, .string ⟨#[]⟩, .slice none 0 0] 25)).alloc (.cells #[.string ⟨#[102]⟩, .int .i64 1, .int .i64 0, .int .i64 3, .int .i64 3, .bool false, .slice none 0 0, .string ⟨#[]⟩, .slice none 0 0] 102)).alloc (.cells #[.int .i64 2, .int .i64 0, .int .i64 0, .int .i64 0, .bool false, .slice none 0 0, .string ⟨#[]⟩, .slice (some ⟨w.heap.size + 1, 0, none⟩) 1 1] 25)).alloc (.cells #[.int .i64 0, .int .i64 1000, .int .i64 10] 148)).alloc (.cells #[.int .i64 2, .int .i64 0, .int .i64 0, .int .i64 0, .bool false, .slice none 0 0, .string ⟨#[]⟩, .slice none 0 0, .int .i64 2, .int .i64 0, .int .i64 0, .int .i64 0, .bool false, .slice none 0 0, .string ⟨#[]⟩, .slice (some ⟨w.heap.size + 1, 0, none⟩) 1 1] 25)).alloc (.cells #[.string ⟨#[102]⟩] 9)).heap.size ((((((w.alloc (.cells #[.int .i64 2, .int .i64 0, .int .i64 0, .int .i64 0, .bool false, .slice none 0 0, .string ⟨#[]⟩, .slice none 0 0] 25)).alloc (.cells #[.string ⟨#[102]⟩, .int .i64 1, .int .i64 0, .int .i64 3, .int .i64 3, .bool false, .slice none 0 0, .string ⟨#[]⟩, .slice none 0 0] 102)).alloc (.cells #[.int .i64 2, .int .i64 0, .int .i64 0, .int .i64 0, .bool false, .slice none 0 0, .string ⟨#[]⟩, .slice (some ⟨w.heap.size + 1, 0, none⟩) 1 1] 25)).alloc (.cells #[.int .i64 0, .int .i64 1000, .int .i64 10] 148)).alloc (.cells #[.int .i64 2, .int .i64 0, .int .i64 0, .int .i64 0, .bool false, .slice none 0 0, .string ⟨#[]⟩, .slice none 0 0, .int .i64 2, .int .i64 0, .int .i64 0, .int .i64 0, .bool false, .slice none 0 0, .string ⟨#[]⟩, .slice (some ⟨w.heap.size + 1, 0, none⟩) 1 1] 25)).alloc (.cells #[.string ⟨#[102]⟩] 9)) W') := by
    have e := up_any (W := ((((((w.alloc (.cells #[.int .i64 2, .int .i64 0, .int .i64 0, .int .i64 0, .bool false, .slice none 0 0, .string ⟨#[]⟩, .slice none 0 0] 25)).alloc (.cells #[.string ⟨#[102]⟩, .int .i64 1, .int .i64 0, .int .i64 3, .int .i64 3, .bool false, .slice none 0 0, .string ⟨#[]⟩, .slice none 0 0] 102)).alloc (.cells #[.int .i64 2, .int .i64 0, .int .i64 0, .int .i64 0, .bool false, .slice none 0 0, .string ⟨#[]⟩, .slice (some ⟨w.heap.size + 1, 0, none⟩) 1 1] 25)).alloc (.cells #[.int .i64 0, .int .i64 1000, .int .i64 10] 148)).alloc (.cells #[.int .i64 2, .int .i64 0, .int .i64 0, .int .i64 0, .bool false, .slice none 0 0, .string ⟨#[]⟩, .slice none 0 0, .int .i64 2, .int .i64 0, .int .i64 0, .int .i64 0, .bool false, .slice none 0 0, .string ⟨#[]⟩, .slice (some ⟨w.heap.size + 1, 0, none⟩) 1 1] 25)).alloc (.cells #[.string ⟨#[102]⟩] 9))) (S := fun _ => false) (fun k hk => by cases hk) (a := some ⟨w.heap.size + 1 + 1 + 1 + 1, 0, none⟩) (cap := 2) (xs := [cU, cL]) (an := some ⟨w.heap.size + 1 + 1 + 1 + 1 + 1, 0, none⟩) (capn := 1) (names := [sF]) (hx.on (fun q v h => h)) (hs.on (fun q v h => h)) (by decide) (by decide) ⟨Nat.le_refl _, by show (1 : Nat) ≤ _; omega⟩ ⟨by decide, fun q hq => by
      simp [layP, List.zipIdx] at hq
      rcases hq with rfl | rfl <;> decide⟩ (fun q hq => by
      simp [layP, List.zipIdx] at hq
      rcases hq with rfl | rfl
      · simp [cU, Lim, LimL]
      · simp [cL, cF, Lim, LimL]) (fun q hq => by
      simp [layP, List.zipIdx] at hq
      rcases hq with rfl | rfl
      · simp [cU, IdN, IdL, I64]
      · simp [cL, cF, IdN, IdL, I64]) (M := ⟨some ⟨w.heap.size + 1 + 1 + 1, 0, none⟩, some ⟨w.heap.size + 1 + 1 + 1, 0, none⟩, 1, 1, [⟨0, 1000, 10⟩], [⟨0, 1000, 10⟩]⟩) ⟨hr, hr, by show (1 : Nat) ≤ 100; omega, by show (1 : Nat) ≤ 100; omega, by show (1 : Nat) ≤ 1; omega, by show (1 : Nat) ≤ 1; omega, one_okR, one_okR⟩ (U := cU) (fun x hx => by simp at hx; exact hx.symm) (by decide) (by simp [cU, At1, At1L])
    rw [comes_up] at e
    exact e
  go_enter Try.func41, Try.ntmps41
  go_wp2_with fail
  with_reducible refine Calls.mono HC.out ?_
  rintro e w7 ⟨⟨h', rfl, hN⟩, hB7⟩
  have hB07 := hB.trans (hB7.mono hB.size)
  obtain ⟨_, _, _, hK⟩ := ndV_iff.1 (hN.on (offS_le _ _))
  obtain ⟨kb, ko, hak, fh, hfh⟩ : ∃ b off, h'.ak = some ⟨b, off, none⟩ ∧ ∃ f : Nat → Hd, ∀ i n x, [(sF, cG)][i]? = some (n, x) → KdAt w7.cell? b (off + i * 9) n x (f i) ∧ NdV w7.cell? x (f i) := by
    rcases hK with e | e
    · cases e
    · exact e
  obtain ⟨⟨_, hkd⟩, _⟩ := hfh 0 sF cG rfl
  have hk2 : w7.cell? ⟨kb, ko + 1 + 2, none⟩ = some (.int .i64 1003) := by
    have := hkd.2.2.1
    rwa [Nat.zero_mul, Nat.add_zero] at this
  have hb8 := alloc_bel2 w7 (.cells #[.int .i64 2, .int .i64 0, .int .i64 0, .int .i64 0, .bool false, .slice h'.aa 0 h'.ca, .string ⟨#[]⟩, .slice (some ⟨kb, ko, none⟩) 1 h'.ck] 25)
  have hk3 := mle_below hb8 _ _ hk2
  have hc7 : (w7.alloc (.cells #[.int .i64 2, .int .i64 0, .int .i64 0, .int .i64 0, .bool false, .slice h'.aa 0 h'.ca, .string ⟨#[]⟩, .slice (some ⟨kb, ko, none⟩) 1 h'.ck] 25)).cell? ⟨w7.heap.size, 7, none⟩ = some (.slice (some ⟨kb, ko, none⟩) 1 h'.ck) := World.cell?_alloc_at _ _ _ _ rfl
  have hB8 := hB07.trans (hb8.mono hB07.size)
  rw [hak]
  clear HC hx hs hr hB hB7 hB07 hN hK hfh hkd hk2 hb8
  go_upto_region 5 with fail
  generalize w7.alloc (.cells #[.int .i64 2, .int .i64 0, .int .i64 0, .int .i64 0, .bool false, .slice h'.aa 0 h'.ca, .string ⟨#[]⟩, .slice (some ⟨kb, ko, none⟩) 1 h'.ck] 25) = w8 at hc7 hk3 hB8 ⊢
  generalize w7.heap.size = b8 at hc7 ⊢
  go_wp2_with fail
  refine Calls.mono (same_nil _) ?_
  rintro e w9 ⟨rfl, rfl⟩
  go_wp2
  go_ret
  exact ⟨rfl, hB8⟩
end Go.Proofs.Ytkkhfnkmfkdhiab
