/-
  THE KIDS OF A NAME, ONE AFTER THE OTHER: the iterator's walk.
-/
import Derived.Test.YtlbabnffiibnpaaGreatNnX
namespace Go.Proofs.YtlbabnffiibnpaaGreat
open Go.RowKit Go.Shelf
attribute [local go_sem] Oper.semAt_some
theorem bdN {B : Nat} {a w : World} (h : Below B a w) (n : Nat) : Below B a (w.drewN n) := ⟨h.os, h.tape, h.output, h.size, h.block⟩
/-- A kid's spot, or none. -/
def KO (c : Mem) (nm : ByteArray) (d : Sp) (o : Option Sp) : Prop :=
  (o = none ∧ kidF nm d.x = -1 ∧ idxI (fun n => decide (n = nm)) d.x.dirKs 0 = -1) ∨ ∃ (b off j : Nat) (y : Nd) (hy : Hd), o = some ⟨b, off + j * 9 + 1, d.ly, y, hy⟩ ∧ d.x.kind = 2 ∧ d.h.ak = some ⟨b, off, none⟩ ∧ kidF nm d.x = j ∧ idxI (fun n => decide (n = nm)) d.x.dirKs 0 = j ∧ d.x.kids[j]? = some (nm, y) ∧ j < d.x.kids.length ∧ SpAt c ⟨b, off + j * 9 + 1, d.ly, y, hy⟩
theorem ko_of {c : Mem} {d : Sp} (hs : SpAt c d) (nm : ByteArray) : ∃ o, KO c nm d o := by
  rcases kid_spot hs nm with h | ⟨b, off, j, y, hy, h⟩
  · exact ⟨none, .inl ⟨rfl, h⟩⟩
  · exact ⟨some _, .inr ⟨b, off, j, y, hy, rfl, h⟩⟩
theorem ko_all {c : Mem} {D : List Sp} (hD : ∀ (i : Nat) d, D[i]? = some d → SpAt c d) (nm : ByteArray) : ∃ O : Nat → Option Sp, ∀ (i : Nat) d, D[i]? = some d → KO c nm d (O i) := by
  have key : ∀ i : Nat, ∃ o, ∀ d, D[i]? = some d → KO c nm d o := fun i => by
    cases h : D[i]? with
    | none => exact ⟨none, fun d hd => by cases hd⟩
    | some d =>
      obtain ⟨o, ho⟩ := ko_of (hD i d h) nm
      exact ⟨o, fun e he => by cases he; exact ho⟩
  exact ⟨fun i => Classical.choose (key i), fun i d hi => Classical.choose_spec (key i) d hi⟩
/-- The kid of a name, of a node. -/
def kidO (nm : ByteArray) (x : Nd) : Option Nd := if kidF nm x < 0 then none else (x.kids[(kidF nm x).toNat]?).map (·.2)
def kidsP (nm : ByteArray) (l : List (Nd × Nat)) : List (Nd × Nat) := l.filterMap fun q => (kidO nm q.1).map fun y => (y, q.2)
theorem KO.pr {c : Mem} {nm : ByteArray} {d : Sp} {o : Option Sp} (h : KO c nm d o) : o.map Sp.pr = (kidO nm d.x).map fun y => (y, d.ly) := by
  unfold kidO
  rcases h with ⟨rfl, e, _⟩ | ⟨b, off, j, y, hy, rfl, _, _, e, _, e2, _⟩
  · rw [e]; simp
  · rw [e, if_neg (by omega)]
    simp [e2, Sp.pr]
theorem KO.at {c : Mem} {nm : ByteArray} {d : Sp} {o : Option Sp} (h : KO c nm d o) : ∀ s, o = some s → SpAt c s := by
  rcases h with ⟨rfl, _⟩ | ⟨b, off, j, y, hy, rfl, _, _, _, _, _, _, h⟩
  · intro s hs; cases hs
  · intro s hs; cases hs; exact h
theorem range_filt : ∀ (D : List Sp) (O : Nat → Option Sp) (G : Nd × Nat → Option (Nd × Nat)), (∀ i d, D[i]? = some d → (O i).map Sp.pr = G d.pr) → ((List.range D.length).filterMap O).map Sp.pr = (D.map Sp.pr).filterMap G
  | [], O, G, _ => rfl
  | d :: D, O, G, h => by
    have ih := range_filt D (fun i => O (i + 1)) G fun i e hi => h (i + 1) e (by simpa using hi)
    have h0 := h 0 d rfl
    have e1 : List.filterMap O (List.map Nat.succ (List.range D.length)) = List.filterMap (fun i => O (i + 1)) (List.range D.length) := by rw [List.filterMap_map]; rfl
    rw [List.length_cons, List.range_succ_eq_map, List.filterMap_cons, List.map_cons, List.filterMap_cons, ← h0, e1]
    cases O 0 with
    | none => exact ih
    | some s => simp only [List.map_cons, Option.map_some]; rw [ih]
theorem filt_at (O : Nat → Option Sp) (N i : Nat) (hi : i < N) {s : Sp} (hs : O i = some s) : ((List.range N).filterMap O)[((List.range i).filterMap O).length]? = some s := by
  obtain ⟨k, rfl⟩ : ∃ k, N = (i + 1) + k := ⟨N - (i + 1), by omega⟩
  rw [List.range_add, List.filterMap_append, List.range_succ, List.filterMap_append]
  simp [hs]
theorem filt_next (O : Nat → Option Sp) (i : Nat) : ((List.range (i + 1)).filterMap O).length = ((List.range i).filterMap O).length + (if (O i).isSome then 1 else 0) := by
  rw [List.range_succ, List.filterMap_append]
  cases h : O i <;> simp [h]
/-- Spots in a row. -/
def SpRow (c : Mem) (a : Option Addr) (D : List Sp) : Prop := D = [] ∨ ∃ b off, a = some ⟨b, off, none⟩ ∧ ∀ i d, D[i]? = some d → c ⟨b, off + i * 2, none⟩ = some (.pointer (some ⟨d.b, d.p, none⟩)) ∧ c ⟨b, off + i * 2 + 1, none⟩ = some (.int .i64 d.ly)
theorem SpRow.below {w w' : World} {a : Option Addr} {D : List Sp} (h : SpRow w.cell? a D) (hb : Below w.heap.size w w') : SpRow w'.cell? a D := by
  rcases h with e | ⟨b, off, e, h⟩
  · exact .inl e
  · exact .inr ⟨b, off, e, fun i d hi => ⟨mle_below hb _ _ (h i d hi).1, mle_below hb _ _ (h i d hi).2⟩⟩
theorem kofd_any {w : World} {d : Sp} (hs : SpAt w.cell? d) (nm : ByteArray) (bn : Nat) (hk : d.x.kids.length ≤ 1000) (hc : w.cell? ⟨bn, 0, none⟩ = some (.string nm)) :
    Calls Tryz.prog 52 #[if d.x.kind = 2 then .slice d.h.ak d.x.kids.length d.h.ck else .slice none 0 0, .func (.func 69) #[] #[.pointer (some ⟨bn, 0, none⟩)]] w fun e w' => e = .returned (.int .i64 (idxI (fun n => decide (n = nm)) d.x.dirKs 0)) ∧ Below w.heap.size w w' := by
  unfold Nd.dirKs
  by_cases h2 : d.x.kind = 2
  · rw [if_pos h2, if_pos h2]
    obtain ⟨b, p, ly, ⟨k, m, u, g, o, at_, dd, ks⟩, h⟩ := d
    exact kofx_any h.ak h.ck bn ks nm w hk (ndV_iff.1 hs.2).2.2.2 hc
  · rw [if_neg h2, if_neg h2]
    exact kofx_any none 0 bn [] nm w (by simp) (.inl rfl) hc
set_option maxRecDepth 100000 in
set_option maxHeartbeats 4000000 in
theorem kidsOf1_any (bd bn n₀ : Nat) (a : Option Addr) (cap : Nat) (D : List Sp) (nm : ByteArray) (O : Nat → Option Sp) (w : World) (hn : n₀ = w.heap.size) (hd : w.cell? ⟨bd, 0, none⟩ = some (.slice a D.length cap)) (hm : w.cell? ⟨bn, 0, none⟩ = some (.string nm)) (hlen : D.length ≤ 1000) (hk : ∀ d ∈ D, d.x.kids.length ≤ 1000)
    (hR : SpRow w.cell? a D) (hD : ∀ (i : Nat) d, D[i]? = some d → SpAt w.cell? d) (hO : ∀ (i : Nat) d, D[i]? = some d → KO w.cell? nm d (O i)) :
    Its 68 #[.pointer (some ⟨bd, 0, none⟩), .pointer (some ⟨bn, 0, none⟩)] n₀ w ((List.range D.length).filterMap O) := by
  subst hn
  intro l J Jx W hW hJ hY h0
  have hbd : bd < w.heap.size := World.block_lt_of_cell? _ _ hd
  have hbn : bn < w.heap.size := World.block_lt_of_cell? _ _ hm
  have hcW : W.cell? ⟨bd, 0, none⟩ = some (.slice a D.length cap) := (hW.cell (p := ⟨bd, 0, none⟩) hbd).trans hd
  show CallsIn Fence.wide 0 Tryz.prog 68 #[.func (.yield l) #[] #[], .pointer (some ⟨bd, 0, none⟩), .pointer (some ⟨bn, 0, none⟩)] W _
  refine callsIn_of_wp Tryz.func68 rfl trivial ?_ rfl
  simp only [Tryz.ntmps68, List.size_toArray, List.length_cons, List.length_nil, Nat.reduceAdd, Nat.reduceSub, Array.replicate_succ, Array.replicate_zero, List.push_toArray, List.append_toArray, List.nil_append, List.cons_append]
  have HY : Hid _ := hY
  have HR : Hid _ := hR
  have HD : Hid _ := hD
  have HO : Hid _ := hO
  have HK : Hid _ := hk
  have HM : Hid _ := hm
  obtain ⟨N, HN⟩ : ∃ N, Hid (D.length = N) := ⟨_, rfl⟩
  rw [HN.out] at hcW hlen HY ⊢
  clear hY hR hD hO hk hd hm
  gi_wp2
  gi_loopw [5, 6, 9] (fun _ _ i wr => ∃ j : Nat, j ≤ N ∧ i = .int .i64 j ∧ J ((List.range j).filterMap O).length wr ∧ Below w.heap.size w wr) (fun _ _ i _ => N - (intOf i).toNat)
  case atStart => exact ⟨0, Nat.zero_le _, rfl, h0, hW⟩
  case round =>
    obtain ⟨j, hj, rfl, hJj, hBj⟩ := hrel
    by_cases hjl : j < N
    rotate_left
    · have hji : decide ((j : Int) < (N : Int)) = false := decide_eq_false (by omega)
      gi_wp2
      go_end0
      exact ⟨⟨_, rfl⟩, .inl (by rw [show N = j by omega]; exact hJj)⟩
    · have hji : decide ((j : Int) < (N : Int)) = true := decide_eq_true (by omega)
      obtain ⟨d, hd⟩ : ∃ d, D[j]? = some d := ⟨_, List.getElem?_eq_getElem (by rw [HN.out]; exact hjl)⟩
      obtain ⟨b, off, rfl, hrow⟩ : ∃ b off, a = some ⟨b, off, none⟩ ∧ ∀ i d, D[i]? = some d → w.cell? ⟨b, off + i * 2, none⟩ = some (.pointer (some ⟨d.b, d.p, none⟩)) ∧ w.cell? ⟨b, off + i * 2 + 1, none⟩ = some (.int .i64 d.ly) := by
        rcases HR.out with e | e
        · subst e; simp at hd
        · exact e
      obtain ⟨r0, r1⟩ := hrow j d hd
      have r0 := mle_below hBj _ _ r0
      have r1 := mle_below hBj _ _ r1
      have hal : Below wr.heap.size wr (wr.alloc (.cells #[.pointer (some ⟨d.b, d.p, none⟩), .int .i64 d.ly] 59)) := (Below.refl _ _).alloc (Nat.le_refl _) _
      obtain ⟨c0, c1⟩ := two_new wr (.pointer (some ⟨d.b, d.p, none⟩)) (.int .i64 d.ly) 59
      have hsp := (HD.out j d hd).below hBj
      have hB2 := hBj.trans (hal.mono hBj.size)
      have hJ2 := hJ _ _ _ hJj hal
      have HC : Hid (CallsIn Fence.wide 0 Tryz.prog 56 #[.agg #[.pointer (some ⟨d.b, d.p, none⟩), .int .i64 d.ly]] (wr.alloc (.cells #[.pointer (some ⟨d.b, d.p, none⟩), .int .i64 d.ly] 59)) _) := callsIn_wide.2 (kids_any (hsp.below hal))
      have HX : Hid (∀ W2 : World, Below w.heap.size w W2 → CallsIn Fence.wide 0 Tryz.prog 52 #[if d.x.kind = 2 then .slice d.h.ak d.x.kids.length d.h.ck else .slice none 0 0, .func (.func 69) #[] #[.pointer (some ⟨bn, 0, none⟩)]] W2 fun e W' => e = .returned (.int .i64 (idxI (fun n => decide (n = nm)) d.x.dirKs 0)) ∧ Below W2.heap.size W2 W') := fun W2 hW2 => callsIn_wide.2 (kofd_any (HD.out j d hd |>.below hW2) nm bn (HK.out d (List.mem_of_getElem? hd)) ((hW2.cell (p := ⟨bn, 0, none⟩) hbn).trans HM.out))
      obtain ⟨kv, HKV⟩ : ∃ kv, Hid ((if d.x.kind = 2 then .slice d.h.ak d.x.kids.length d.h.ck else .slice none 0 0 : Value) = kv) := ⟨_, rfl⟩
      rw [HKV.out] at HC HX
      gi_wp2_with fail
      refine ⟨trivial, rfl, CallsIn.mono HC.out ?_⟩
      rintro e w3 ⟨rfl, hB3⟩
      have hB4 := hB2.trans (hB3.mono hB2.size)
      have hJ3 := hJ _ _ _ hJ2 hB3
      have c3 := mle_below hB3 _ _ c0
      have c4 := mle_below hB3 _ _ c1
      clear HC c0 c1 hB2 hB3 hJ2 hal
      have HX3 : Hid _ := HX.out w3 hB4
      gi_wp2_with fail
      refine ⟨trivial, rfl, CallsIn.mono HX3.out ?_⟩
      rintro e w4 ⟨rfl, hB5⟩
      have hB6 := hB4.trans (hB5.mono hB4.size)
      have hJ4 := hJ _ _ _ hJ3 hB5
      have c5 := mle_below hB5 _ _ c3
      have c6 := mle_below hB5 _ _ c4
      have hsp4 := (HD.out j d hd).below hB6
      clear HX HX3 c3 c4 hB4 hB5 hJ3 hsp
      rcases HO.out j d hd with ⟨o1, _, o2⟩ | ⟨kb, ko, ji, y, hy, o1, o2, o3, _, o4, o5, o6, o7⟩
      · rw [o2]
        have hmix : Tryz.prog.follows .mixedOrders = true := by kernel_rfl
        gi_wp2_with fail
        refine wpIn_region_quiet_lit rfl (by kernel_rfl) (by kernel_rfl) ?_
        repeat (gi_big_quiet_step (fail))
        refine BigFrame.wpQuietIn_skip (fun _ _ _ _ => trivial) rfl ?_
        simp only [go_sem, List.setIfInBounds_toArray, List.set_cons_succ, List.set_cons_zero]
        repeat (gi_big_quiet_step (fail))
        refine wpQuietIn_nil ?_
        rintro _ ⟨nq, rfl⟩
        gi_wp2
        go_roundw
        case rel => exact ⟨j + 1, by omega, by go_num, by rw [filt_next, o1]; exact hJ _ _ _ hJ4 (bdN (Below.refl _ _) nq), bdN hB6 nq⟩
        case measure => (simp [intOf]; try omega)
      · have hmix : Tryz.prog.follows .mixedOrders = true := by kernel_rfl
        have hsT := filt_at O N j hjl o1
        obtain ⟨fn, tmps, assign, body, hyy, hRR⟩ := HY.out _ _ w4.drew hsT (hJ _ _ _ hJ4 (Below.refl _ _).drew)
        have HRR : Hid (RoundIn Fence.wide 0 Tryz.prog l fn tmps assign body w4.drew fun e B => ∃ bv, e = .returned (.bool bv) ∧ ((bv = true ∧ J (((List.range j).filterMap O).length + 1) B ∧ Below w.heap.size w4.drew B) ∨ (bv = false ∧ Jx B))) := RoundIn.mono hRR fun e B h => by
          rcases h with ⟨rfl, h1, h2⟩ | ⟨rfl, h1⟩
          · exact ⟨true, rfl, .inl ⟨rfl, h1, h2⟩⟩
          · exact ⟨false, rfl, .inr ⟨rfl, h1⟩⟩
        rw [Sp.v] at hyy
        dsimp only at hyy
        obtain ⟨n0, _, n2⟩ : w4.drew.cell? ⟨d.b, d.p, none⟩ = some (.int .i64 d.x.kind) ∧ True ∧ w4.drew.cell? ⟨d.b, d.p + 7, none⟩ = some (.slice d.h.ak d.x.kids.length d.h.ck) := by
          obtain ⟨b, p, ly, ⟨k, m, u, g, o, at_, dd, ks⟩, h⟩ := d
          exact ⟨hsp4.1.split.1, trivial, hsp4.1.split.2.2⟩
        rw [o3] at n2
        have c7 : w4.drew.cell? ⟨wr.heap.size, 0, none⟩ = some (.pointer (some ⟨d.b, d.p, none⟩)) := c5
        have c8 : w4.drew.cell? ⟨wr.heap.size, 1, none⟩ = some (.int .i64 d.ly) := c6
        rw [o4]
        obtain ⟨KL, HKL⟩ : ∃ KL, Hid (d.x.kids.length = KL) := ⟨_, rfl⟩
        rw [HKL.out] at n2 o6
        clear hRR hsT o2 o3 o4 o5 o7 hsp4 HY
        gi_wp2_with fail
        gi_region_with_o (refine ⟨rfl, RoundIn.mono HRR.out ?_⟩; rintro e W5 ⟨bv, rfl, HE⟩)
        all_goals
          cases bv with
          | true =>
            have hjj : J (((List.range j).filterMap O).length + 1) W5 ∧ Below w.heap.size w4.drew W5 := by
              rcases HE with ⟨_, h⟩ | ⟨h, _⟩
              · exact h
              · cases h
            gi_wp2
            go_roundw
            case rel => exact ⟨j + 1, by omega, by go_num, by rw [filt_next, o1]; exact hjj.1, hB6.trans (Below.trans (Below.refl _ _).drew hjj.2)⟩
            case measure => (simp [intOf]; try omega)
          | false =>
            have hjx : Jx W5 := by
              rcases HE with ⟨h, _⟩ | ⟨_, h⟩
              · cases h
              · exact h
            gi_wp2
            refine bodyPost_ret (results_none rfl _ _ _) rfl ?_
            exact ⟨⟨_, rfl⟩, .inr hjx⟩
end Go.Proofs.YtlbabnffiibnpaaGreat
