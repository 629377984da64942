/-
  TopMerge: the walk.
-/
import Derived.Test.YtgmeecfdkcbggaaGdX
import Derived.Deep.RegionHeld3
import Derived.Deep.Cut
namespace Go.Proofs.Ytgmeecfdkcbggaa
open Go.RowKit
theorem nsv_one (w : World) (k m u g : Int) (o : Bool) (at_ : List Kv) (d : ByteArray) (ks : Kds) (h : Hd) {w' : World} (hb : Below (w.alloc (.cells #[.int .i64 k, .int .i64 m, .int .i64 u, .int .i64 g, .bool o, .slice h.aa at_.length h.ca, .string d, .slice h.ak ks.length h.ck] 31)).heap.size (w.alloc (.cells #[.int .i64 k, .int .i64 m, .int .i64 u, .int .i64 g, .bool o, .slice h.aa at_.length h.ca, .string d, .slice h.ak ks.length h.ck] 31)) w') (hn : NdV w.cell? (.mk k m u g o at_ d ks) h) : NsV w'.cell? (some ⟨w.heap.size, 0, none⟩) [.mk k m u g o at_ d ks] := by
  have hal := alloc_bel2 w (.cells #[.int .i64 k, .int .i64 m, .int .i64 u, .int .i64 g, .bool o, .slice h.aa at_.length h.ca, .string d, .slice h.ak ks.length h.ck] 31)
  refine .inr ⟨w.heap.size, 0, rfl, fun _ => h, fun i x hi => ?_⟩
  cases i with
  | zero =>
    simp at hi
    subst hi
    exact ⟨((NBw.new w k m u g o at_ d ks h).below hb).1.at, (hn.ab hal).ab hb⟩
  | succ i => simp at hi
theorem nsv_tail {c : Mem} {b off : Nat} {x : Nd} {ys : List Nd} (h : NsV c (some ⟨b, off, none⟩) (x :: ys)) : NsV c (some ⟨b, off + 8, none⟩) ys := by
  rcases h with e | ⟨b', off', e, f, hf⟩
  · cases e
  · simp only [Option.some.injEq, Addr.mk.injEq, and_true] at e
    obtain ⟨rfl, rfl⟩ := e
    refine .inr ⟨b, off + 8, rfl, fun i => f (i + 1), fun i x hi => ?_⟩
    have h1 := hf (i + 1) x (by simpa using hi)
    rw [show off + 8 + i * 8 = off + (i + 1) * 8 by omega]
    exact h1
theorem owns_oneN (w : World) (k m u g : Int) (o : Bool) (at_ : List Kv) (d : ByteArray) (ks : Kds) (h : Hd) : (w.alloc (.cells #[.int .i64 k, .int .i64 m, .int .i64 u, .int .i64 g, .bool o, .slice h.aa at_.length h.ca, .string d, .slice h.ak ks.length h.ck] 31)).ownsRow w.heap.size 31 8 (.slice (some ⟨w.heap.size, 0, none⟩) 1 1) 1 (flN [(⟨(.mk k m u g o at_ d ks), h, 0⟩ : Fl)]) :=
  ⟨rfl, .inr ⟨w.heap.size, 1, _, rfl, Nat.le_refl _, heap_alloc_new w _, Nat.le_refl _, by decide, rfl, rfl⟩⟩
theorem cpI_one (w : World) (k m u g : Int) (o : Bool) (at_ : List Kv) (d : ByteArray) (ks : Kds) (h : Hd) (hn : NdV w.cell? (.mk k m u g o at_ d ks) h) : CpI w (.slice (some ⟨w.heap.size, 0, none⟩) 1 1) [⟨(.mk k m u g o at_ d ks), h, 0⟩] (w.alloc (.cells #[.int .i64 k, .int .i64 m, .int .i64 u, .int .i64 g, .bool o, .slice h.aa at_.length h.ca, .string d, .slice h.ak ks.length h.ck] 31)) :=
  ⟨alloc_bel2 w _, owns_oneN w k m u g o at_ d ks h, fun f hf => by
    rw [List.mem_singleton] at hf
    rw [hf]
    exact hn.on (mle_hide (alloc_bel2 w _) (fun q hq => by simp [Value.ownBlock]; omega))⟩
theorem cpI_ns {w wr : World} {v : Value} {L : List Fl} (h : CpI w v L wr) : ∃ a cap, v = .slice a L.length cap ∧ NsV wr.cell? a (L.map Fl.x) := by
  rcases h.row.2 with ⟨rfl, h0⟩ | ⟨g, cap, cur, rfl, hb, hg, h1, h2, h3, h4⟩
  · exact ⟨none, 0, by rw [h0], .inl (by rw [List.length_eq_zero_iff.1 h0]; rfl)⟩
  · refine ⟨some ⟨g, 0, none⟩, cap, rfl, .inr ⟨g, 0, rfl, fun i => (L.getD i ⟨zN, zH, 0⟩).h, fun i x hi => ?_⟩⟩
    rw [List.getElem?_map] at hi
    obtain ⟨f, hf, rfl⟩ := Option.map_eq_some_iff.1 hi
    have e : (L.getD i ⟨zN, zH, 0⟩) = f := by rw [List.getD_eq_getElem?_getD, hf]; rfl
    dsimp only
    rw [e]
    refine ⟨nat_iff.2 fun q u hq => ?_, (h.nd f (List.mem_of_getElem? hf)).on (offS_le _ _)⟩
    rw [Nat.zero_add]
    exact ownsRow_cell hg h4 (flN_get L i f hf q u hq)
theorem x5_stack : stackP [(.mk 2 5 0 0 false [] ⟨#[]⟩ [] : Nd)] [] = [((.mk 2 5 0 0 false [] ⟨#[]⟩ [] : Nd), 0)] := by rfl
theorem x5_ok : LaysOk [(.mk 2 5 0 0 false [] ⟨#[]⟩ [] : Nd)] := ⟨fun x hx => by
    rw [List.mem_singleton] at hx
    rw [hx, Lil]
    exact ⟨⟨Nat.zero_le _, fun r hr => by cases hr⟩, Nat.zero_le _, by rw [LilL]; trivial⟩, by decide⟩
theorem lights_ok {xs : List Nd} (h : lightsB xs = true) : LaysOk xs ∧ xs.length ≤ 5 := by
  unfold lightsB at h
  rw [Bool.and_eq_true] at h
  have h5 : xs.length ≤ 5 := of_decide_eq_true h.1
  have ha : ∀ x ∈ xs, Lil x ∧ cnt x ≤ 80 := fun x hx => by
    have e2 := of_decide_eq_true (List.all_eq_true.1 h.2 x hx)
    have e3 := light_lil x 80 e2
    exact ⟨e3.1, by have := e3.2; omega⟩
  refine ⟨⟨fun x hx => (ha x hx).1, ?_⟩, h5⟩
  have ht : ∀ l : Fls, (∀ q ∈ l, cnt q.1 ≤ 80) → tot l ≤ 80 * l.length := fun l => by
    induction l with
    | nil => intro _; exact Nat.le_refl _
    | cons q r ih =>
      intro hq
      have h1 := ih fun p hp => hq p (List.mem_cons_of_mem _ hp)
      have h2 := hq q (List.mem_cons_self ..)
      rw [tot, List.length_cons]
      omega
  have := ht (layP xs) fun q hq => (ha q.1 (layP_mem hq)).2
  rw [layP_len] at this
  omega
set_option maxRecDepth 100000 in
set_option maxHeartbeats 8000000 in
theorem topmerge_any {W : World} {a : Option Addr} {cap : Nat} {xs : List Nd} (hx : NsV W.cell? a xs) (hxc : xs.length ≤ cap ∧ cap ≤ 9223372036854775807) (an : Option Addr) (capn : Nat) (names : List ByteArray) (hs : Strs W.cell? an names) (hcn : names.length ≤ capn ∧ capn ≤ 9223372036854775807) :
    Calls Try.prog 4 #[.slice a xs.length cap, .slice an names.length capn] W fun e W' => e = .returned (.bool true) ∧ Below W.heap.size W W' := by
  obtain ⟨LB, HLB⟩ : ∃ B, Hid (lightsB xs = B) := ⟨_, rfl⟩
  have HX : Hid (NsV W.cell? a xs) := hx
  have HS : Hid (Strs W.cell? an names) := hs
  have HXC : Hid (xs.length ≤ cap ∧ cap ≤ 9223372036854775807) := hxc
  have HNC : Hid (names.length ≤ capn ∧ capn ≤ 9223372036854775807) := hcn
  have HLK0 : Hid (Calls Try.prog 9 #[.slice (some ⟨W.heap.size, 0, none⟩) 1 1, .slice none 0 0] (W.alloc (.cells #[.int .i64 2, .int .i64 5, .int .i64 0, .int .i64 0, .bool false, .slice none 0 0, .string ⟨#[]⟩, .slice none 0 0] 31)) fun e w' => (∃ h : Hd, e = .returned (.tuple #[.agg #[.int .i64 2, .int .i64 5, .int .i64 0, .int .i64 0, .bool false, .slice h.aa 0 h.ca, .string ⟨#[]⟩, .slice h.ak 0 h.ck], .int .i64 0, .bool true])) ∧ Below (W.alloc (.cells #[.int .i64 2, .int .i64 5, .int .i64 0, .int .i64 0, .bool false, .slice none 0 0, .string ⟨#[]⟩, .slice none 0 0] 31)).heap.size (W.alloc (.cells #[.int .i64 2, .int .i64 5, .int .i64 0, .int .i64 0, .bool false, .slice none 0 0, .string ⟨#[]⟩, .slice none 0 0] 31)) w') := by
    have e := look_one (w := W.alloc (.cells #[.int .i64 2, .int .i64 5, .int .i64 0, .int .i64 0, .bool false, .slice none 0 0, .string ⟨#[]⟩, .slice none 0 0] 31)) (S := fun _ => false) (cap := 1) (capn := 0) (an := none) (names := []) (fun _ hk => by cases hk) (by rw [offS_no]; exact nsv_one W 2 5 0 0 false [] ⟨#[]⟩ [] zH (Below.refl _ _) (ndV_iff.2 ⟨.inl rfl, ⟨Nat.le_refl _, by decide⟩, ⟨Nat.le_refl _, by decide⟩, .inl rfl⟩)) (.inl rfl) x5_ok (Nat.zero_le _)
    rw [x5_stack] at e
    refine Calls.mono e fun e W' ⟨⟨h, h1, _⟩, hb⟩ => ⟨⟨h, h1⟩, hb⟩
  clear hx hs hxc hcn
  go_enter Try.func4, Try.ntmps4
  go_wp2_with fail
  refine Calls.mono HLK0.out ?_
  rintro e w1 ⟨⟨h1, rfl⟩, hB1⟩
  have hB : Below W.heap.size W (w1.alloc (.cells #[.int .i64 2, .int .i64 5, .int .i64 0, .int .i64 0, .bool false, .slice h1.aa 0 h1.ca, .string ⟨#[]⟩, .slice h1.ak 0 h1.ck] 31)) := ((alloc_bel2 W _).trans (hB1.mono (alloc_bel2 W _).size)).trans ((alloc_bel2 w1 _).mono (Nat.le_trans (alloc_bel2 W _).size hB1.size))
  clear HLK0 hB1
  go_wp2_with fail
  generalize w1.alloc (.cells #[.int .i64 2, .int .i64 5, .int .i64 0, .int .i64 0, .bool false, .slice h1.aa 0 h1.ca, .string ⟨#[]⟩, .slice h1.ak 0 h1.ck] 31) = w2 at hB ⊢
  have HL1 := lights_any (w := w2) (cap := cap) (HX.out.on (mle_below hB)) (Nat.le_trans HXC.out.1 HXC.out.2)
  rw [HLB.out] at HL1
  refine Calls.mono HL1 ?_
  rintro e w3 ⟨rfl, hq⟩
  replace hB := hB.trans (hq.mono hB.size)
  clear HL1 hq
  cases LB with
  | false =>
    go_wp2
    go_ret
    exact ⟨rfl, hB⟩
  | true =>
    by_cases hnl : 8 < names.length
    · have d1 : decide ((8 : Int) < (names.length : Int)) = true := decide_eq_true (by omega)
      go_wp2
      go_ret
      exact ⟨rfl, hB⟩
    have d1 : decide ((8 : Int) < (names.length : Int)) = false := decide_eq_false (by omega)
    obtain ⟨hok, hx5⟩ := lights_ok HLB.out
    have HOK : Hid (LaysOk xs) := hok
    have HFL : Hid (Calls Try.prog 17 #[.slice a xs.length cap, .nilFunc] w3 fun e w' => (∃ h, e = .returned (.tuple #[ndV (flat0 (shP (layP xs))) h, .bool (lkB (shP (layP xs)))]) ∧ NdV w'.cell? (flat0 (shP (layP xs))) h) ∧ Below w3.heap.size w3 w') := by
      have e := mflat_one (w := w3) (S := fun _ => false) (cap := cap) (fv := .nilFunc) (F := idF) (fun _ hk => by cases hk) (by rw [offS_no]; exact HX.out.on (mle_below hB)) HOK.out (.inl ⟨rfl, rfl⟩)
      exact Calls.mono e fun e W' he => ⟨he.1.imp fun h q => ⟨q.1, q.2.on (offS_le _ _)⟩, he.2⟩
    obtain ⟨TB, HTB⟩ : ∃ B, Hid (lkB (shP (layP xs)) = B) := ⟨_, rfl⟩
    obtain ⟨FN, HFN⟩ : ∃ B, Hid (flat0 (shP (layP xs)) = B) := ⟨_, rfl⟩
    rw [HTB.out, HFN.out] at HFL
    obtain ⟨fk, fm, fu, fg, fo, fa, fd, fs⟩ := FN
    have HFL : Hid (Calls Try.prog 17 #[.slice a xs.length cap, .nilFunc] w3 fun e w' => (∃ h : Hd, e = .returned (.tuple #[.agg #[.int .i64 fk, .int .i64 fm, .int .i64 fu, .int .i64 fg, .bool fo, .slice h.aa fa.length h.ca, .string fd, .slice h.ak fs.length h.ck], .bool TB]) ∧ NdV w'.cell? (.mk fk fm fu fg fo fa fd fs) h) ∧ Below w3.heap.size w3 w') := HFL.out
    clear hok
    go_wp2_with fail
    with_reducible refine Calls.mono HFL.out ?_
    rintro e w4 ⟨⟨hf, rfl, nf⟩, hq⟩
    replace hB := hB.trans (hq.mono hB.size)
    have X8 := NBw.new w4 fk fm fu fg fo fa fd fs hf
    have hq2 := alloc_bel2 w4 (.cells #[.int .i64 fk, .int .i64 fm, .int .i64 fu, .int .i64 fg, .bool fo, .slice hf.aa fa.length hf.ca, .string fd, .slice hf.ak fs.length hf.ck] 31)
    replace hB := hB.trans (hq2.mono hB.size)
    replace nf := nf.ab hq2
    clear hq hq2 HFL d1
    cases TB with
    | false =>
      have hnil : shP (layP xs) = [] := by
        have h1 := HTB.out
        cases ht : shP (layP xs) with
        | nil => rfl
        | cons q r => rw [ht] at h1; cases h1
      have HLK : Hid (∀ w' : World, Below W.heap.size W w' → Calls Try.prog 9 #[.slice a xs.length cap, .slice an names.length capn] w' fun e W' => (∃ h : Hd, e = .returned (.tuple #[.agg #[.int .i64 0, .int .i64 0, .int .i64 0, .int .i64 0, .bool false, .slice h.aa 0 h.ca, .string ⟨#[]⟩, .slice h.ak 0 h.ck], .int .i64 0, .bool false])) ∧ Below w'.heap.size w' W') := fun w' hb => by
        have e := look_one (w := w') (S := fun _ => false) (cap := cap) (capn := capn) (names := names) (fun _ hk => by cases hk) (by rw [offS_no]; exact HX.out.on (mle_below hb)) (by rw [offS_no]; exact HS.out.on (mle_below hb)) HOK.out (by omega)
        rw [stackP_none hnil names] at e
        refine Calls.mono e fun e W' ⟨⟨h, h1, _⟩, hb⟩ => ⟨⟨h, h1⟩, hb⟩
      go_wp2_with fail
      with_reducible refine Calls.mono (HLK.out _ hB) ?_
      rintro e w5 ⟨⟨h5, rfl⟩, hq⟩
      replace hB := hB.trans (hq.mono hB.size)
      have hq2 := alloc_bel2 w5 (.cells #[.int .i64 0, .int .i64 0, .int .i64 0, .int .i64 0, .bool false, .slice h5.aa 0 h5.ca, .string ⟨#[]⟩, .slice h5.ak 0 h5.ck] 31)
      replace hB := hB.trans (hq2.mono hB.size)
      go_wp2
      go_ret
      exact ⟨rfl, hB⟩
    | true =>
      have hne : shP (layP xs) ≠ [] := fun e => by have h1 := HTB.out; rw [e] at h1; cases h1
      have HNE : Hid (shP (layP xs) ≠ []) := hne
      have HFO : Hid (LaysOk [(.mk fk fm fu fg fo fa fd fs)]) := by
        have h1 := HOK.out.flat hne
        rw [HFN.out] at h1
        exact h1
      obtain ⟨k, m, u, g, o, at_, d, ks, o', ks', l1, l2, l3⟩ := look_flat hne names
      rw [HFN.out] at l2 l3
      obtain ⟨SB, HSB⟩ : ∃ B, Hid (lkB (stackP xs names) = B) := ⟨_, rfl⟩
      obtain ⟨L1, HL1⟩ : ∃ B, Hid (lkL (stackP xs names) = B) := ⟨_, rfl⟩
      obtain ⟨L2, HL2⟩ : ∃ B, Hid (lkL (stackP [(.mk fk fm fu fg fo fa fd fs)] names) = B) := ⟨_, rfl⟩
      have HAT : Hid (at_.length ≤ 1000) := by
        have h1 := lkX_lim HOK.out names
        rw [l1, Lim] at h1
        exact h1.1
      have HLK : Hid (∀ w' : World, Below W.heap.size W w' → Calls Try.prog 9 #[.slice a xs.length cap, .slice an names.length capn] w' fun e W' => (∃ h : Hd, e = .returned (.tuple #[.agg #[.int .i64 k, .int .i64 m, .int .i64 u, .int .i64 g, .bool o, .slice h.aa at_.length h.ca, .string d, .slice h.ak ks.length h.ck], .int .i64 L1, .bool SB]) ∧ NdV W'.cell? (.mk k m u g o at_ d ks) h) ∧ Below w'.heap.size w' W') := fun w' hb => by
        have e := look_one (w := w') (S := fun _ => false) (cap := cap) (capn := capn) (names := names) (fun _ hk => by cases hk) (by rw [offS_no]; exact HX.out.on (mle_below hb)) (by rw [offS_no]; exact HS.out.on (mle_below hb)) HOK.out (by omega)
        rw [l1, HSB.out, HL1.out] at e
        exact Calls.mono e fun e W' he => ⟨he.1.imp fun h q => ⟨q.1, q.2.on (offS_le _ _)⟩, he.2⟩
      have HLF : Hid (∀ (w' : World) (fb : Nat), Below W.heap.size W w' → NsV w'.cell? (some ⟨fb, 0, none⟩) [(.mk fk fm fu fg fo fa fd fs)] → Calls Try.prog 9 #[.slice (some ⟨fb, 0, none⟩) 1 1, .slice an names.length capn] w' fun e W' => (∃ h : Hd, e = .returned (.tuple #[.agg #[.int .i64 k, .int .i64 m, .int .i64 u, .int .i64 g, .bool o', .slice h.aa at_.length h.ca, .string d, .slice h.ak ks'.length h.ck], .int .i64 L2, .bool SB]) ∧ NdV W'.cell? (.mk k m u g o' at_ d ks') h) ∧ Below w'.heap.size w' W') := fun w' fb hb hn => by
        have e := look_one (w := w') (S := fun _ => false) (xs := [(.mk fk fm fu fg fo fa fd fs)]) (cap := 1) (capn := capn) (names := names) (fun _ hk => by cases hk) (by rw [offS_no]; exact hn) (by rw [offS_no]; exact HS.out.on (mle_below hb)) HFO.out (by omega)
        rw [l2, l3, HSB.out, HL2.out] at e
        exact Calls.mono e fun e W' he => ⟨he.1.imp fun h q => ⟨q.1, q.2.on (offS_le _ _)⟩, he.2⟩
      clear l1 l2 l3 HL1 HL2 HSB hne
      go_upto_region 10 with fail
      generalize w4.alloc (.cells #[.int .i64 fk, .int .i64 fm, .int .i64 fu, .int .i64 fg, .bool fo, .slice hf.aa fa.length hf.ca, .string fd, .slice hf.ak fs.length hf.ck] 31) = w5 at hB nf X8 ⊢
      generalize w4.heap.size = bf at X8 ⊢
      go_wp2_with fail
      with_reducible refine Calls.mono (HLK.out _ hB) ?_
      rintro e w6 ⟨⟨ha, rfl, na⟩, hq⟩
      replace hB := hB.trans (hq.mono hB.size)
      replace nf := nf.ab hq
      replace X8 := X8.below hq
      have X13 := NBw.new w6 k m u g o at_ d ks ha
      have hq2 := alloc_bel2 w6 (.cells #[.int .i64 k, .int .i64 m, .int .i64 u, .int .i64 g, .bool o, .slice ha.aa at_.length ha.ca, .string d, .slice ha.ak ks.length ha.ck] 31)
      replace hB := hB.trans (hq2.mono hB.size)
      replace nf := nf.ab hq2
      replace na := na.ab hq2
      replace X8 := X8.below hq2
      clear hq hq2 HLK
      go_upto_region 11 with fail
      generalize w6.alloc (.cells #[.int .i64 k, .int .i64 m, .int .i64 u, .int .i64 g, .bool o, .slice ha.aa at_.length ha.ca, .string d, .slice ha.ak ks.length ha.ck] 31) = w7 at hB nf na X8 X13 ⊢
      generalize w6.heap.size = ba at X13 ⊢
      obtain ⟨y0, y1, y2, y3, y4, y5, y6, y7⟩ := id X8.1
      have hq := alloc_bel2 w7 (.cells #[.int .i64 fk, .int .i64 fm, .int .i64 fu, .int .i64 fg, .bool fo, .slice hf.aa fa.length hf.ca, .string fd, .slice hf.ak fs.length hf.ck] 31)
      have hB8 := hB.trans (hq.mono hB.size)
      have hns := nsv_one w7 fk fm fu fg fo fa fd fs hf (Below.refl _ _) nf
      go_wp2_with fail
      with_reducible refine Calls.mono (HLF.out _ _ hB8 hns) ?_
      rintro e w8 ⟨⟨hb, rfl, nb⟩, hq3⟩
      replace hB := hB8.trans (hq3.mono hB8.size)
      have hq4 := hq.trans (hq3.mono hq.size)
      replace nf := nf.ab hq4
      replace na := na.ab hq4
      replace X8 := X8.below hq4
      replace X13 := X13.below hq4
      have X16 := NBw.new w8 k m u g o' at_ d ks' hb
      have hq2 := alloc_bel2 w8 (.cells #[.int .i64 k, .int .i64 m, .int .i64 u, .int .i64 g, .bool o', .slice hb.aa at_.length hb.ca, .string d, .slice hb.ak ks'.length hb.ck] 31)
      replace hB := hB.trans (hq2.mono hB.size)
      replace nf := nf.ab hq2
      replace na := na.ab hq2
      replace nb := nb.ab hq2
      replace X8 := X8.below hq2
      replace X13 := X13.below hq2
      clear hq hq2 hq3 hq4 hns hB8 HLF y0 y1 y2 y3 y4 y5 y6 y7
      go_upto_region 12 with fail
      generalize w8.alloc (.cells #[.int .i64 k, .int .i64 m, .int .i64 u, .int .i64 g, .bool o', .slice hb.aa at_.length hb.ca, .string d, .slice hb.ak ks'.length hb.ck] 31) = w9 at hB nf na nb X8 X13 X16 ⊢
      generalize w8.heap.size = bb at X16 ⊢
      obtain ⟨y0, y1, y2, y3, y4, y5, y6, y7⟩ := id X13.1
      obtain ⟨v0, v1, v2, v3, v4, v5, v6, v7⟩ := id X16.1
      have HSA : Hid (Calls Try.prog 21 #[.slice ha.aa at_.length ha.ca, .slice hb.aa at_.length hb.ca] w9 fun e w' => e = .returned (.bool true) ∧ Below w9.heap.size w9 w') := sameAttrs_yes ha.aa hb.aa ha.ca hb.ca at_.length at_ w9 rfl HAT.out (ndV_iff.1 na).1 (ndV_iff.1 nb).1
      have hSB : (SB != SB) = false := by cases SB <;> rfl
      have hk : (k != k) = false := by simp
      have hm : (m != m) = false := by simp
      have hu : (u != u) = false := by simp
      have hg : (g != g) = false := by simp
      have hd2 : (d.data.toList == d.data.toList) = true := by simp
      go_wp2_with fail
      with_reducible refine Calls.mono HSA.out ?_
      rintro e w10 ⟨rfl, hq⟩
      replace hB := hB.trans (hq.mono hB.size)
      replace nf := nf.ab hq
      replace X8 := X8.below hq
      clear hq HSA na nb X13 X16 y0 y1 y2 y3 y4 y5 y6 y7 v0 v1 v2 v3 v4 v5 v6 v7 hSB hk hm hu hg hd2 HAT
      go_upto_region 14 with fail
      obtain ⟨LS, HLS⟩ : ∃ L, Hid (listP (stackP xs names) = L) := ⟨_, rfl⟩
      have HLL : Hid (LS.length ≤ 1000) := by
        show _ ≤ _
        rw [← HLS.out]
        have h1 := listP_len (stackP xs names)
        by_cases ht : stackP xs names = []
        · rw [ht]; exact Nat.zero_le _
        · have := (HOK.out.stack names ht).tot; omega
      have HM1 : Hid (∀ w' : World, Below w10.heap.size w10 w' → Calls Try.prog 15 #[.slice a xs.length cap, .slice an names.length capn] w' fun e W' => (∃ a' c', e = .returned (.slice a' LS.length c') ∧ Strs W'.cell? a' LS) ∧ Below w10.heap.size w10 W' ∧ Below w'.heap.size w' W') := fun w' hb => by
        have e := mlist_any (w := w') (S := fun _ => false) (cap := cap) (capn := capn) (names := names) (fun _ hk => by cases hk) (by rw [offS_no]; exact HX.out.on (mle_below (hB.trans (hb.mono hB.size)))) (by rw [offS_no]; exact HS.out.on (mle_below (hB.trans (hb.mono hB.size)))) HOK.out (by omega)
        rw [HLS.out] at e
        refine Calls.mono e fun e W' he => ?_
        obtain ⟨⟨a', c', e1, _, _, e2⟩, e3⟩ := he
        exact ⟨⟨a', c', e1, e2.on (offS_le _ _)⟩, hb.trans (e3.mono hb.size), e3⟩
      have HM2 : Hid (∀ (w' : World) (fb : Nat), Below w10.heap.size w10 w' → NsV w'.cell? (some ⟨fb, 0, none⟩) [(.mk fk fm fu fg fo fa fd fs)] → Calls Try.prog 15 #[.slice (some ⟨fb, 0, none⟩) 1 1, .slice an names.length capn] w' fun e W' => (∃ a' c', e = .returned (.slice a' LS.length c') ∧ Strs W'.cell? a' LS) ∧ Below w10.heap.size w10 W' ∧ Below w'.heap.size w' W') := fun w' fb hb hn => by
        have e := mlist_any (w := w') (S := fun _ => false) (xs := [(.mk fk fm fu fg fo fa fd fs)]) (cap := 1) (capn := capn) (names := names) (fun _ hk => by cases hk) (by rw [offS_no]; exact hn) (by rw [offS_no]; exact HS.out.on (mle_below (hB.trans (hb.mono hB.size)))) HFO.out (by omega)
        have el := list_flat HNE.out names
        rw [HFN.out, HLS.out] at el
        rw [el] at e
        refine Calls.mono e fun e W' he => ?_
        obtain ⟨⟨a', c', e1, _, _, e2⟩, e3⟩ := he
        exact ⟨⟨a', c', e1, e2.on (offS_le _ _)⟩, hb.trans (e3.mono hb.size), e3⟩
      have HSN : Hid (∀ (w' : World) (a1 a2 : Option Addr) (c1 c2 : Nat), Below w10.heap.size w10 w' → Strs w'.cell? a1 LS → Strs w'.cell? a2 LS → Calls Try.prog 14 #[.slice a1 LS.length c1, .slice a2 LS.length c2] w' fun e W' => e = .returned (.bool true) ∧ Below w10.heap.size w10 W') := fun w' a1 a2 c1 c2 hb h1 h2 => (sameNames_yes a1 a2 c1 c2 LS.length LS w' rfl HLL.out h1 h2).mono fun e W' q => ⟨q.1, hb.trans (q.2.mono hb.size)⟩
      have HT : Hid (∀ w' : World, Below w10.heap.size w10 w' → w'.cell? ⟨bf, 0, none⟩ = some (.int .i64 fk) ∧ w'.cell? ⟨bf, 1, none⟩ = some (.int .i64 fm) ∧ w'.cell? ⟨bf, 2, none⟩ = some (.int .i64 fu) ∧ w'.cell? ⟨bf, 3, none⟩ = some (.int .i64 fg) ∧ w'.cell? ⟨bf, 4, none⟩ = some (.bool fo) ∧ w'.cell? ⟨bf, 5, none⟩ = some (.slice hf.aa fa.length hf.ca) ∧ w'.cell? ⟨bf, 6, none⟩ = some (.string fd) ∧ w'.cell? ⟨bf, 7, none⟩ = some (.slice hf.ak fs.length hf.ck)) := fun w' hb => by
        obtain ⟨e0, e1, e2, e3, e4, e5, e6, e7⟩ := (X8.below hb).1
        exact ⟨e0, e1, e2, e3, e4, e5, e6, e7⟩
      have bd : Below w10.heap.size w10 w10.drew := (Below.refl _ w10).drew
      have bda : Below w10.heap.size w10 (w10.alloc (.cells #[.int .i64 fk, .int .i64 fm, .int .i64 fu, .int .i64 fg, .bool fo, .slice hf.aa fa.length hf.ca, .string fd, .slice hf.ak fs.length hf.ck] 31)).drew := ((Below.refl _ w10).alloc (Nat.le_refl _) _).drew
      have HNSB : Hid (NsV (w10.alloc (.cells #[.int .i64 fk, .int .i64 fm, .int .i64 fu, .int .i64 fg, .bool fo, .slice hf.aa fa.length hf.ca, .string fd, .slice hf.ak fs.length hf.ck] 31)).drew.cell? (some ⟨w10.heap.size, 0, none⟩) [(.mk fk fm fu fg fo fa fd fs)]) := nsv_one w10 fk fm fu fg fo fa fd fs hf ((Below.refl _ _).drew) nf
      have HNF : Hid (NdV w10.cell? (.mk fk fm fu fg fo fa fd fs) hf) := nf
      have HX8 : Hid _ := X8
      have HBB : Hid (Below W.heap.size W w10) := hB
      clear nf X8 hB HLL
      go_cut [131] from 123 (fun s wx => s = .bool false ∧ Below w10.heap.size w10 wx)
      case first =>
        go_region_held3 (fun w' => w'.cell? ⟨bf, 0, none⟩ = some (.int .i64 fk) ∧ w'.cell? ⟨bf, 1, none⟩ = some (.int .i64 fm) ∧ w'.cell? ⟨bf, 2, none⟩ = some (.int .i64 fu) ∧ w'.cell? ⟨bf, 3, none⟩ = some (.int .i64 fg) ∧ w'.cell? ⟨bf, 4, none⟩ = some (.bool fo) ∧ w'.cell? ⟨bf, 5, none⟩ = some (.slice hf.aa fa.length hf.ca) ∧ w'.cell? ⟨bf, 6, none⟩ = some (.string fd) ∧ w'.cell? ⟨bf, 7, none⟩ = some (.slice hf.ak fs.length hf.ck)) (exact HT.out _ (by with_reducible assumption)) (first
          | (go_at_call 15; (with_reducible refine Calls.mono (HM1.out w10.drew bd) ?_); rintro e w11 ⟨⟨a1, c1, rfl, st1⟩, hb11, hc11⟩; have hb12 : Below w10.heap.size w10 (w11.alloc (.cells #[.int .i64 fk, .int .i64 fm, .int .i64 fu, .int .i64 fg, .bool fo, .slice hf.aa fa.length hf.ca, .string fd, .slice hf.ak fs.length hf.ck] 31)) := hb11.alloc hb11.size _; have hns1 := nsv_one w11 fk fm fu fg fo fa fd fs hf (Below.refl _ _) (HNF.out.ab hb11); have st1' := st1.on (mle_below (alloc_bel2 w11 (.cells #[.int .i64 fk, .int .i64 fm, .int .i64 fu, .int .i64 fg, .bool fo, .slice hf.aa fa.length hf.ca, .string fd, .slice hf.ak fs.length hf.ck] 31))))
          | (go_at_call 15; (with_reducible refine Calls.mono (HM1.out (w10.alloc (.cells #[.int .i64 fk, .int .i64 fm, .int .i64 fu, .int .i64 fg, .bool fo, .slice hf.aa fa.length hf.ca, .string fd, .slice hf.ak fs.length hf.ck] 31)).drew bda) ?_); rintro e v11 ⟨⟨a1, c1, rfl, st1⟩, hb11, hc11⟩; have hns2 := HNSB.out.on (mle_below hc11))
          | (go_at_call 15; (with_reducible refine Calls.mono (HM2.out (w11.alloc (.cells #[.int .i64 fk, .int .i64 fm, .int .i64 fu, .int .i64 fg, .bool fo, .slice hf.aa fa.length hf.ca, .string fd, .slice hf.ak fs.length hf.ck] 31)) w11.heap.size hb12 hns1) ?_); rintro e w13 ⟨⟨a2, c2, rfl, st2⟩, hb13, hc13⟩; have st3 := st1'.on (mle_below hc13))
          | (go_at_call 15; (with_reducible refine Calls.mono (HM2.out v11 w10.heap.size hb11 hns2) ?_); rintro e w13 ⟨⟨a2, c2, rfl, st2⟩, hb13, hc13⟩; have st3 := st1.on (mle_below hc13))
          | (go_at_call 14; (with_reducible refine Calls.mono (HSN.out w13 a1 a2 c1 c2 hb13 st3 st2) ?_); rintro e w14 ⟨rfl, hb14⟩))
        all_goals
          go_wp2_with fail
          go_meet
          case rel => exact ⟨rfl, by assumption⟩
      case rest =>
        obtain ⟨rfl, c2⟩ := hcut
        have hB := HBB.out.trans (c2.mono HBB.out.size)
        have nf := HNF.out.ab c2
        have X8 : NBw wc bf (.mk fk fm fu fg fo fa fd fs) hf := NBw.below HX8.out c2
        clear c2 HT HM1 HM2 HSN bd bda HNSB HNF HX8 HBB HLS
        obtain ⟨i0, hi0, hi1, hi2, hi3⟩ := info_three Try.infoNd
        have HI0 : Hid _ := hi0
        have HI1 : Hid _ := hi1
        have HI2 : Hid _ := hi2
        have HI3 : Hid _ := hi3
        clear hi0 hi1 hi2 hi3
        have HFLM : Hid (Lim (.mk fk fm fu fg fo fa fd fs)) := lim_of _ (by have h1 := HFO.out.tot; rw [tot_one] at h1; exact h1) (HFO.out.lil _ (List.mem_singleton.2 rfl))
        cases xs with
        | nil => exact absurd rfl HNE.out
        | cons p ys =>
          obtain ⟨pk, pm, pu, pg, po, pa, pd, ps⟩ := p
          obtain ⟨pb, pof, hp, hpa, hnp, hdp⟩ := ns_at (HX.out.on (mle_below hB)) (j := 0) rfl
          subst hpa
          rw [Nat.zero_mul, Nat.add_zero] at hnp
          obtain ⟨NY, HNY⟩ : ∃ n, Hid (ys.length = n) := ⟨_, rfl⟩
          have hny : NY ≤ 4 := by rw [List.length_cons, HNY.out] at hx5; omega
          have hnc : NY + 1 ≤ cap := by have h1 := HXC.out.1; rw [List.length_cons, HNY.out] at h1; exact h1
          obtain ⟨RB, HRB⟩ : ∃ B, Hid (lkB (shP (layP ys)) = B) := ⟨_, rfl⟩
          obtain ⟨RN, HRN⟩ : ∃ B, Hid (flat0 (shP (layP ys)) = B) := ⟨_, rfl⟩
          obtain ⟨rk, rm, ru, rg, ro, ra, rd, rs⟩ := RN
          have HF2 : Hid (∀ (w' : World) (a2 : Option Addr) (c2 : Nat), wc.heap.size < w'.heap.size → NsV (offS w'.cell? (fun k => k == wc.heap.size)) a2 ys → Calls Try.prog 17 #[.slice a2 NY c2, .nilFunc] w' fun e W' => (∃ h : Hd, e = .returned (.tuple #[.agg #[.int .i64 rk, .int .i64 rm, .int .i64 ru, .int .i64 rg, .bool ro, .slice h.aa ra.length h.ca, .string rd, .slice h.ak rs.length h.ck], .bool RB]) ∧ NdV (offS W'.cell? (fun k => k == wc.heap.size)) (.mk rk rm ru rg ro ra rd rs) h) ∧ Below w'.heap.size w' W') := fun w' a2 c2 hwl hn => by
            have e := mflat_one (w := w') (S := fun k => k == wc.heap.size) (cap := c2) (fv := .nilFunc) (F := idF) (fun k hk => by simp at hk; omega) hn HOK.out.tail (.inl ⟨rfl, rfl⟩)
            rw [HNY.out, HRB.out] at e
            refine Calls.mono e fun e W' he => ⟨he.1.imp fun h q => ?_, he.2⟩
            have q1 := q.1
            have q2 := q.2
            have hfe : flatD idF (shP (layP ys)) = (.mk rk rm ru rg ro ra rd rs) := HRN.out
            rw [hfe] at q1 q2
            exact ⟨q1, q2⟩
          have HF3 : Hid (∀ (w' : World) (ab : Option Addr) (nb cb : Nat), (bothL (.mk pk pm pu pg po pa pd ps) ys).length = nb → NsV w'.cell? ab (bothL (.mk pk pm pu pg po pa pd ps) ys) → Calls Try.prog 17 #[.slice ab nb cb, .nilFunc] w' fun e W' => (∃ (h : Hd) (b : Bool), e = .returned (.tuple #[.agg #[.int .i64 fk, .int .i64 fm, .int .i64 fu, .int .i64 fg, .bool fo, .slice h.aa fa.length h.ca, .string fd, .slice h.ak fs.length h.ck], .bool b]) ∧ NdV W'.cell? (.mk fk fm fu fg fo fa fd fs) h) ∧ Below w'.heap.size w' W') := fun w' ab nb cb hnb hn => by
            have e := mflat_one (w := w') (S := fun _ => false) (cap := cb) (fv := .nilFunc) (F := idF) (fun _ hk => by cases hk) (by rw [offS_no]; exact hn) (both_ok HOK.out) (.inl ⟨rfl, rfl⟩)
            rw [hnb] at e
            refine Calls.mono e fun e W' he => ⟨?_, he.2⟩
            obtain ⟨⟨h, q1, q2⟩, _⟩ := he
            have hfe : flatD idF (shP (layP (bothL (.mk pk pm pu pg po pa pd ps) ys))) = (.mk fk fm fu fg fo fa fd fs) := (both_one _ _).trans HFN.out
            rw [hfe] at q1 q2
            exact ⟨h, _, q1, q2.on (offS_le _ _)⟩
          have hal := alloc_bel2 wc (.cells #[.int .i64 pk, .int .i64 pm, .int .i64 pu, .int .i64 pg, .bool po, .slice hp.aa pa.length hp.ca, .string pd, .slice hp.ak ps.length hp.ck] 31)
          have hBa := hB.trans (hal.mono hB.size)
          have CP := cpI_one wc pk pm pu pg po pa pd ps hp hdp
          have hwl : wc.heap.size < (wc.alloc (.cells #[.int .i64 pk, .int .i64 pm, .int .i64 pu, .int .i64 pg, .bool po, .slice hp.aa pa.length hp.ca, .string pd, .slice hp.ak ps.length hp.ck] 31)).heap.size := by rw [World.size_alloc]; omega
          have HNF0 : Hid (NdV wc.cell? (.mk fk fm fu fg fo fa fd fs) hf) := nf
          have HX80 : Hid (NBw wc bf (.mk fk fm fu fg fo fa fd fs) hf) := X8
          have HB0 : Hid (Below W.heap.size W wc) := hB
          obtain ⟨y0, y1, y2, y3, y4, y5, y6, y7⟩ := hnp
          simp only [List.length_cons]
          rw [HNY.out]
          have hpos : (0 : Int) < (NY : Int) + 1 := by omega
          have hone : (1 : Int) ≤ (NY : Int) + 1 := by omega
          have hone2 : 1 ≤ NY + 1 := by omega
          by_cases hc1 : cap = 1
          · subst hc1
            obtain rfl : NY = 0 := by omega
            have q2 : NsV (offS (wc.alloc (.cells #[.int .i64 pk, .int .i64 pm, .int .i64 pu, .int .i64 pg, .bool po, .slice hp.aa pa.length hp.ca, .string pd, .slice hp.ak ps.length hp.ck] 31)).cell? (fun k => k == wc.heap.size)) (some ⟨pb, pof, none⟩) ys := .inl (List.eq_nil_of_length_eq_zero HNY.out)
            clear hdp
            go_wp2_with fail
            with_reducible refine Calls.mono (HF2.out _ _ _ hwl q2) ?_
            rintro e wg ⟨⟨hr, rfl, nr⟩, hq⟩
            replace hB := hBa.trans (hq.mono hBa.size)
            have hqa := hal.trans (hq.mono hal.size)
            replace nf := nf.ab hqa
            replace X8 := X8.below hqa
            replace CP := CP.below hq
            have X20 := NBw.new wg rk rm ru rg ro ra rd rs hr
            have hq2 := alloc_bel2 wg (.cells #[.int .i64 rk, .int .i64 rm, .int .i64 ru, .int .i64 rg, .bool ro, .slice hr.aa ra.length hr.ca, .string rd, .slice hr.ak rs.length hr.ck] 31)
            replace hB := hB.trans (hq2.mono hB.size)
            replace nf := nf.ab hq2
            replace nr := nr.on (mle_S hq2)
            replace X8 := X8.below hq2
            replace CP := CP.below hq2
            have HCP : Hid _ := CP
            clear hq hq2 hqa hal hBa q2 CP HF2 hwl
            cases RB with
            | false =>
              have HBL : Hid (bothL (.mk pk pm pu pg po pa pd ps) ys = [(.mk pk pm pu pg po pa pd ps)]) := by
                show _ = _
                unfold bothL
                rw [HRB.out]
                rfl
              have hl3 : (bothL (.mk pk pm pu pg po pa pd ps) ys).length = 1 := by rw [HBL.out]; rfl
              have hns3 : NsV (wg.alloc (.cells #[.int .i64 rk, .int .i64 rm, .int .i64 ru, .int .i64 rg, .bool ro, .slice hr.aa ra.length hr.ca, .string rd, .slice hr.ak rs.length hr.ck] 31)).cell? (some ⟨wc.heap.size, 0, none⟩) (bothL (.mk pk pm pu pg po pa pd ps) ys) := by
                rw [HBL.out]
                obtain ⟨a9, c9, e9, hns⟩ := cpI_ns HCP.out
                simp only [Value.slice.injEq] at e9
                rw [← e9.1] at hns
                exact hns
              go_wp2_with fail
              with_reducible refine Calls.mono (HF3.out _ (some ⟨wc.heap.size, 0, none⟩) 1 1 hl3 hns3) ?_
              rintro e wj ⟨⟨h9, b9, rfl, n9⟩, hq⟩
              replace hB := hB.trans (hq.mono hB.size)
              replace nf := nf.ab hq
              replace X8 := X8.below hq
              have X22 := NBw.new wj fk fm fu fg fo fa fd fs h9
              have hq2 := alloc_bel2 wj (.cells #[.int .i64 fk, .int .i64 fm, .int .i64 fu, .int .i64 fg, .bool fo, .slice h9.aa fa.length h9.ca, .string fd, .slice h9.ak fs.length h9.ck] 31)
              replace hB := hB.trans (hq2.mono hB.size)
              replace nf := nf.ab hq2
              replace n9 := n9.ab hq2
              replace X8 := X8.below hq2
              clear hq hq2
              go_upto_region 21 with fail
              generalize wj.alloc (.cells #[.int .i64 fk, .int .i64 fm, .int .i64 fu, .int .i64 fg, .bool fo, .slice h9.aa fa.length h9.ca, .string fd, .slice h9.ak fs.length h9.ck] 31) = wk at hB nf n9 X8 X22 ⊢
              generalize wj.heap.size = b22 at X22 ⊢
              obtain ⟨y0, y1, y2, y3, y4, y5, y6, y7⟩ := id X22.1
              obtain ⟨v0, v1, v2, v3, v4, v5, v6, v7⟩ := id X8.1
              have HSM : Hid (Calls Try.prog 11 #[.agg #[.int .i64 fk, .int .i64 fm, .int .i64 fu, .int .i64 fg, .bool fo, .slice h9.aa fa.length h9.ca, .string fd, .slice h9.ak fs.length h9.ck], .agg #[.int .i64 fk, .int .i64 fm, .int .i64 fu, .int .i64 fg, .bool fo, .slice hf.aa fa.length hf.ca, .string fd, .slice hf.ak fs.length hf.ck]] wk fun e W' => e = .returned (.bool true) ∧ Below wk.heap.size wk W') := sameNode_yes n9 hf wk HFLM.out nf (Below.refl _ _)
              go_wp2_with fail
              with_reducible refine Calls.mono HSM.out ?_
              rintro e wl ⟨rfl, hq⟩
              replace hB := hB.trans (hq.mono hB.size)
              clear HSM hq y0 y1 y2 y3 y4 y5 y6 y7 v0 v1 v2 v3 v4 v5 v6 v7
              go_wp2
              go_ret
              exact ⟨rfl, hB⟩
            | true =>
              have HBL : Hid (bothL (.mk pk pm pu pg po pa pd ps) ys = [(.mk pk pm pu pg po pa pd ps), (.mk rk rm ru rg ro ra rd rs)]) := by
                show _ = _
                unfold bothL
                rw [HRB.out, if_pos rfl, HRN.out]
              go_upto_region 19 with fail
              generalize wg.alloc (.cells #[.int .i64 rk, .int .i64 rm, .int .i64 ru, .int .i64 rg, .bool ro, .slice hr.aa ra.length hr.ca, .string rd, .slice hr.ak rs.length hr.ck] 31) = wh at hB nf nr X8 X20 HCP ⊢
              generalize wg.heap.size = b20 at X20 ⊢
              have HCP : Hid (CpI wc (.slice (some ⟨wc.heap.size, 0, none⟩) 1 1) [(⟨(.mk pk pm pu pg po pa pd ps), hp, 0⟩ : Fl)] wh) := HCP
              obtain ⟨y0, y1, y2, y3, y4, y5, y6, y7⟩ := id X20.1
              go_wp2_with (at_builtin; refine wpList_append_src (wh.alloc (.cells #[.int .i64 rk, .int .i64 rm, .int .i64 ru, .int .i64 rg, .bool ro, .slice hr.aa ra.length hr.ca, .string rd, .slice hr.ak rs.length hr.ck] 31)) rfl (.tmp 143) (.tmp 145) 22 rfl wc.heap.size 31 i0 (.agg #[.int .i64 0, .int .i64 0, .int .i64 0, .int .i64 0, .bool false, .slice none 0 0, .string ⟨#[]⟩, .slice none 0 0]) 8 104 Try.underlying22 HI0.out HI1.out HI2.out HI3.out rfl (by decide) (.slice (some ⟨wc.heap.size, 0, none⟩) 1 1) 1 (flN [(⟨(.mk pk pm pu pg po pa pd ps), hp, 0⟩ : Fl)]) rfl (HCP.out.row.alloc _) (some ⟨wh.heap.size, 0, none⟩) 1 1 (ndL (.mk rk rm ru rg ro ra rd rs) hr) rfl rfl (.inr ⟨_, rfl, fun q t hq => by rw [addr_add, Nat.zero_add]; exact nd_newA wh _ hr _ q t hq⟩) (ndL_one _ _) (by unfold maxLen; omega) (by omega) (by have := HCP.out.low.size; rw [World.size_alloc]; omega) ?_)
              intro v7 w7 hown7 hgr7 ho7
              have hq3 := alloc_bel2 wh (.cells #[.int .i64 rk, .int .i64 rm, .int .i64 ru, .int .i64 rg, .bool ro, .slice hr.aa ra.length hr.ca, .string rd, .slice hr.ak rs.length hr.ck] 31)
              have CP7 : CpI wc v7 ([(⟨(.mk pk pm pu pg po pa pd ps), hp, 0⟩ : Fl)] ++ [(⟨(.mk rk rm ru rg ro ra rd rs), hr, 0⟩ : Fl)]) w7 := (HCP.out.below hq3).app (f := ⟨(.mk rk rm ru rg ro ra rd rs), hr, 0⟩) ((nr.on (mle_S hq3)).on (mle_less fun k hk => by simp [Value.ownBlock] at hk ⊢; omega)) (by rw [flN_app, List.length_append]; simpa [flN] using hown7) hgr7 (by rw [World.size_alloc]; exact ho7)
              obtain ⟨a7, c7, e7, hns7⟩ := cpI_ns CP7
              subst e7
              have hl3 : (bothL (.mk pk pm pu pg po pa pd ps) ys).length = 1 + 1 := by rw [HBL.out]; rfl
              have hns8 : NsV w7.cell? a7 (bothL (.mk pk pm pu pg po pa pd ps) ys) := by rw [HBL.out]; exact hns7
              have nf := HNF0.out.ab CP7.low
              have X8 : NBw w7 bf (.mk fk fm fu fg fo fa fd fs) hf := NBw.below HX80.out CP7.low
              have hB := HB0.out.trans (CP7.low.mono HB0.out.size)
              clear hown7 hgr7 ho7 CP7 HCP hns7 hq3 X20 nr y0 y1 y2 y3 y4 y5 y6 y7
              simp only [List.length_append, List.length_cons, List.length_nil, Nat.zero_add]
              go_wp2_with fail
              with_reducible refine Calls.mono (HF3.out _ a7 _ c7 hl3 hns8) ?_
              rintro e wj ⟨⟨h9, b9, rfl, n9⟩, hq⟩
              replace hB := hB.trans (hq.mono hB.size)
              replace nf := nf.ab hq
              replace X8 := X8.below hq
              have X22 := NBw.new wj fk fm fu fg fo fa fd fs h9
              have hq2 := alloc_bel2 wj (.cells #[.int .i64 fk, .int .i64 fm, .int .i64 fu, .int .i64 fg, .bool fo, .slice h9.aa fa.length h9.ca, .string fd, .slice h9.ak fs.length h9.ck] 31)
              replace hB := hB.trans (hq2.mono hB.size)
              replace nf := nf.ab hq2
              replace n9 := n9.ab hq2
              replace X8 := X8.below hq2
              clear hq hq2
              go_upto_region 21 with fail
              generalize wj.alloc (.cells #[.int .i64 fk, .int .i64 fm, .int .i64 fu, .int .i64 fg, .bool fo, .slice h9.aa fa.length h9.ca, .string fd, .slice h9.ak fs.length h9.ck] 31) = wk at hB nf n9 X8 X22 ⊢
              generalize wj.heap.size = b22 at X22 ⊢
              obtain ⟨y0, y1, y2, y3, y4, y5, y6, y7⟩ := id X22.1
              obtain ⟨v0, v1, v2, v3, v4, v5, v6, v7⟩ := id X8.1
              have HSM : Hid (Calls Try.prog 11 #[.agg #[.int .i64 fk, .int .i64 fm, .int .i64 fu, .int .i64 fg, .bool fo, .slice h9.aa fa.length h9.ca, .string fd, .slice h9.ak fs.length h9.ck], .agg #[.int .i64 fk, .int .i64 fm, .int .i64 fu, .int .i64 fg, .bool fo, .slice hf.aa fa.length hf.ca, .string fd, .slice hf.ak fs.length hf.ck]] wk fun e W' => e = .returned (.bool true) ∧ Below wk.heap.size wk W') := sameNode_yes n9 hf wk HFLM.out nf (Below.refl _ _)
              go_wp2_with fail
              with_reducible refine Calls.mono HSM.out ?_
              rintro e wl ⟨rfl, hq⟩
              replace hB := hB.trans (hq.mono hB.size)
              clear HSM hq y0 y1 y2 y3 y4 y5 y6 y7 v0 v1 v2 v3 v4 v5 v6 v7
              go_wp2
              go_ret
              exact ⟨rfl, hB⟩
          · have q2 : NsV (offS (wc.alloc (.cells #[.int .i64 pk, .int .i64 pm, .int .i64 pu, .int .i64 pg, .bool po, .slice hp.aa pa.length hp.ca, .string pd, .slice hp.ak ps.length hp.ck] 31)).cell? (fun k => k == wc.heap.size)) (some ⟨pb, pof + 8, none⟩) ys := nsv_tail (HX.out.on (mle_hide hBa (fun k hk => by have := hB.size; simp; omega)))
            clear hdp
            go_wp2_with fail
            with_reducible refine Calls.mono (HF2.out _ _ _ hwl q2) ?_
            rintro e wg ⟨⟨hr, rfl, nr⟩, hq⟩
            replace hB := hBa.trans (hq.mono hBa.size)
            have hqa := hal.trans (hq.mono hal.size)
            replace nf := nf.ab hqa
            replace X8 := X8.below hqa
            replace CP := CP.below hq
            have X20 := NBw.new wg rk rm ru rg ro ra rd rs hr
            have hq2 := alloc_bel2 wg (.cells #[.int .i64 rk, .int .i64 rm, .int .i64 ru, .int .i64 rg, .bool ro, .slice hr.aa ra.length hr.ca, .string rd, .slice hr.ak rs.length hr.ck] 31)
            replace hB := hB.trans (hq2.mono hB.size)
            replace nf := nf.ab hq2
            replace nr := nr.on (mle_S hq2)
            replace X8 := X8.below hq2
            replace CP := CP.below hq2
            have HCP : Hid _ := CP
            clear hq hq2 hqa hal hBa q2 CP HF2 hwl
            cases RB with
            | false =>
              have HBL : Hid (bothL (.mk pk pm pu pg po pa pd ps) ys = [(.mk pk pm pu pg po pa pd ps)]) := by
                show _ = _
                unfold bothL
                rw [HRB.out]
                rfl
              have hl3 : (bothL (.mk pk pm pu pg po pa pd ps) ys).length = 1 := by rw [HBL.out]; rfl
              have hns3 : NsV (wg.alloc (.cells #[.int .i64 rk, .int .i64 rm, .int .i64 ru, .int .i64 rg, .bool ro, .slice hr.aa ra.length hr.ca, .string rd, .slice hr.ak rs.length hr.ck] 31)).cell? (some ⟨wc.heap.size, 0, none⟩) (bothL (.mk pk pm pu pg po pa pd ps) ys) := by
                rw [HBL.out]
                obtain ⟨a9, c9, e9, hns⟩ := cpI_ns HCP.out
                simp only [Value.slice.injEq] at e9
                rw [← e9.1] at hns
                exact hns
              go_wp2_with fail
              with_reducible refine Calls.mono (HF3.out _ (some ⟨wc.heap.size, 0, none⟩) 1 1 hl3 hns3) ?_
              rintro e wj ⟨⟨h9, b9, rfl, n9⟩, hq⟩
              replace hB := hB.trans (hq.mono hB.size)
              replace nf := nf.ab hq
              replace X8 := X8.below hq
              have X22 := NBw.new wj fk fm fu fg fo fa fd fs h9
              have hq2 := alloc_bel2 wj (.cells #[.int .i64 fk, .int .i64 fm, .int .i64 fu, .int .i64 fg, .bool fo, .slice h9.aa fa.length h9.ca, .string fd, .slice h9.ak fs.length h9.ck] 31)
              replace hB := hB.trans (hq2.mono hB.size)
              replace nf := nf.ab hq2
              replace n9 := n9.ab hq2
              replace X8 := X8.below hq2
              clear hq hq2
              go_upto_region 21 with fail
              generalize wj.alloc (.cells #[.int .i64 fk, .int .i64 fm, .int .i64 fu, .int .i64 fg, .bool fo, .slice h9.aa fa.length h9.ca, .string fd, .slice h9.ak fs.length h9.ck] 31) = wk at hB nf n9 X8 X22 ⊢
              generalize wj.heap.size = b22 at X22 ⊢
              obtain ⟨y0, y1, y2, y3, y4, y5, y6, y7⟩ := id X22.1
              obtain ⟨v0, v1, v2, v3, v4, v5, v6, v7⟩ := id X8.1
              have HSM : Hid (Calls Try.prog 11 #[.agg #[.int .i64 fk, .int .i64 fm, .int .i64 fu, .int .i64 fg, .bool fo, .slice h9.aa fa.length h9.ca, .string fd, .slice h9.ak fs.length h9.ck], .agg #[.int .i64 fk, .int .i64 fm, .int .i64 fu, .int .i64 fg, .bool fo, .slice hf.aa fa.length hf.ca, .string fd, .slice hf.ak fs.length hf.ck]] wk fun e W' => e = .returned (.bool true) ∧ Below wk.heap.size wk W') := sameNode_yes n9 hf wk HFLM.out nf (Below.refl _ _)
              go_wp2_with fail
              with_reducible refine Calls.mono HSM.out ?_
              rintro e wl ⟨rfl, hq⟩
              replace hB := hB.trans (hq.mono hB.size)
              clear HSM hq y0 y1 y2 y3 y4 y5 y6 y7 v0 v1 v2 v3 v4 v5 v6 v7
              go_wp2
              go_ret
              exact ⟨rfl, hB⟩
            | true =>
              have HBL : Hid (bothL (.mk pk pm pu pg po pa pd ps) ys = [(.mk pk pm pu pg po pa pd ps), (.mk rk rm ru rg ro ra rd rs)]) := by
                show _ = _
                unfold bothL
                rw [HRB.out, if_pos rfl, HRN.out]
              go_upto_region 19 with fail
              generalize wg.alloc (.cells #[.int .i64 rk, .int .i64 rm, .int .i64 ru, .int .i64 rg, .bool ro, .slice hr.aa ra.length hr.ca, .string rd, .slice hr.ak rs.length hr.ck] 31) = wh at hB nf nr X8 X20 HCP ⊢
              generalize wg.heap.size = b20 at X20 ⊢
              have HCP : Hid (CpI wc (.slice (some ⟨wc.heap.size, 0, none⟩) 1 1) [(⟨(.mk pk pm pu pg po pa pd ps), hp, 0⟩ : Fl)] wh) := HCP
              obtain ⟨y0, y1, y2, y3, y4, y5, y6, y7⟩ := id X20.1
              go_wp2_with (at_builtin; refine wpList_append_src (wh.alloc (.cells #[.int .i64 rk, .int .i64 rm, .int .i64 ru, .int .i64 rg, .bool ro, .slice hr.aa ra.length hr.ca, .string rd, .slice hr.ak rs.length hr.ck] 31)) rfl (.tmp 143) (.tmp 145) 22 rfl wc.heap.size 31 i0 (.agg #[.int .i64 0, .int .i64 0, .int .i64 0, .int .i64 0, .bool false, .slice none 0 0, .string ⟨#[]⟩, .slice none 0 0]) 8 104 Try.underlying22 HI0.out HI1.out HI2.out HI3.out rfl (by decide) (.slice (some ⟨wc.heap.size, 0, none⟩) 1 1) 1 (flN [(⟨(.mk pk pm pu pg po pa pd ps), hp, 0⟩ : Fl)]) rfl (HCP.out.row.alloc _) (some ⟨wh.heap.size, 0, none⟩) 1 1 (ndL (.mk rk rm ru rg ro ra rd rs) hr) rfl rfl (.inr ⟨_, rfl, fun q t hq => by rw [addr_add, Nat.zero_add]; exact nd_newA wh _ hr _ q t hq⟩) (ndL_one _ _) (by unfold maxLen; omega) (by omega) (by have := HCP.out.low.size; rw [World.size_alloc]; omega) ?_)
              intro v7 w7 hown7 hgr7 ho7
              have hq3 := alloc_bel2 wh (.cells #[.int .i64 rk, .int .i64 rm, .int .i64 ru, .int .i64 rg, .bool ro, .slice hr.aa ra.length hr.ca, .string rd, .slice hr.ak rs.length hr.ck] 31)
              have CP7 : CpI wc v7 ([(⟨(.mk pk pm pu pg po pa pd ps), hp, 0⟩ : Fl)] ++ [(⟨(.mk rk rm ru rg ro ra rd rs), hr, 0⟩ : Fl)]) w7 := (HCP.out.below hq3).app (f := ⟨(.mk rk rm ru rg ro ra rd rs), hr, 0⟩) ((nr.on (mle_S hq3)).on (mle_less fun k hk => by simp [Value.ownBlock] at hk ⊢; omega)) (by rw [flN_app, List.length_append]; simpa [flN] using hown7) hgr7 (by rw [World.size_alloc]; exact ho7)
              obtain ⟨a7, c7, e7, hns7⟩ := cpI_ns CP7
              subst e7
              have hl3 : (bothL (.mk pk pm pu pg po pa pd ps) ys).length = 1 + 1 := by rw [HBL.out]; rfl
              have hns8 : NsV w7.cell? a7 (bothL (.mk pk pm pu pg po pa pd ps) ys) := by rw [HBL.out]; exact hns7
              have nf := HNF0.out.ab CP7.low
              have X8 : NBw w7 bf (.mk fk fm fu fg fo fa fd fs) hf := NBw.below HX80.out CP7.low
              have hB := HB0.out.trans (CP7.low.mono HB0.out.size)
              clear hown7 hgr7 ho7 CP7 HCP hns7 hq3 X20 nr y0 y1 y2 y3 y4 y5 y6 y7
              simp only [List.length_append, List.length_cons, List.length_nil, Nat.zero_add]
              go_wp2_with fail
              with_reducible refine Calls.mono (HF3.out _ a7 _ c7 hl3 hns8) ?_
              rintro e wj ⟨⟨h9, b9, rfl, n9⟩, hq⟩
              replace hB := hB.trans (hq.mono hB.size)
              replace nf := nf.ab hq
              replace X8 := X8.below hq
              have X22 := NBw.new wj fk fm fu fg fo fa fd fs h9
              have hq2 := alloc_bel2 wj (.cells #[.int .i64 fk, .int .i64 fm, .int .i64 fu, .int .i64 fg, .bool fo, .slice h9.aa fa.length h9.ca, .string fd, .slice h9.ak fs.length h9.ck] 31)
              replace hB := hB.trans (hq2.mono hB.size)
              replace nf := nf.ab hq2
              replace n9 := n9.ab hq2
              replace X8 := X8.below hq2
              clear hq hq2
              go_upto_region 21 with fail
              generalize wj.alloc (.cells #[.int .i64 fk, .int .i64 fm, .int .i64 fu, .int .i64 fg, .bool fo, .slice h9.aa fa.length h9.ca, .string fd, .slice h9.ak fs.length h9.ck] 31) = wk at hB nf n9 X8 X22 ⊢
              generalize wj.heap.size = b22 at X22 ⊢
              obtain ⟨y0, y1, y2, y3, y4, y5, y6, y7⟩ := id X22.1
              obtain ⟨v0, v1, v2, v3, v4, v5, v6, v7⟩ := id X8.1
              have HSM : Hid (Calls Try.prog 11 #[.agg #[.int .i64 fk, .int .i64 fm, .int .i64 fu, .int .i64 fg, .bool fo, .slice h9.aa fa.length h9.ca, .string fd, .slice h9.ak fs.length h9.ck], .agg #[.int .i64 fk, .int .i64 fm, .int .i64 fu, .int .i64 fg, .bool fo, .slice hf.aa fa.length hf.ca, .string fd, .slice hf.ak fs.length hf.ck]] wk fun e W' => e = .returned (.bool true) ∧ Below wk.heap.size wk W') := sameNode_yes n9 hf wk HFLM.out nf (Below.refl _ _)
              go_wp2_with fail
              with_reducible refine Calls.mono HSM.out ?_
              rintro e wl ⟨rfl, hq⟩
              replace hB := hB.trans (hq.mono hB.size)
              clear HSM hq y0 y1 y2 y3 y4 y5 y6 y7 v0 v1 v2 v3 v4 v5 v6 v7
              go_wp2
              go_ret
              exact ⟨rfl, hB⟩
end Go.Proofs.Ytgmeecfdkcbggaa
