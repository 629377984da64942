/-
  WHAT IS SEEN OF THE LAYERS BELOW: the program's and the document's: the facts of no program, and the walks.
  NAMES THAT ARE THE SAME: the walk.
-/
import Derived.Test.YtgmeecfdkcbggaaFdX
import Derived.Test.YtgmeecfdkcbggaaMmY
import Derived.Lib.SliceRun
import Derived.Test.YtgmeecfdkcbggaaMeX
namespace Go.Proofs.Ytgmeecfdkcbggaa
open Go.RowKit
/-- What is seen, without the top layer's. -/
def dropZ : Fls → Fls
  | [] => []
  | q :: r => if q.2 = 0 then r else q :: r
def LyInc (l : Fls) : Prop := (l.map (·.2)).Pairwise (· < ·)
theorem kidsB_pos (nm : ByteArray) : ∀ {l : Fls}, (∀ q ∈ l, q.2 ≠ 0) → kidsB true nm l = kidsP nm l
  | [], _ => rfl
  | q :: r, h => by
    have ih := kidsB_pos nm (l := r) fun p hp => h p (List.mem_cons_of_mem _ hp)
    unfold kidsB kidsP at ih ⊢
    rw [List.filterMap_cons, List.filterMap_cons, ih, if_neg (fun e => h q (List.mem_cons_self ..) e.2)]
theorem kidsB_drop (nm : ByteArray) {l : Fls} (h : LyInc l) : kidsB true nm l = kidsP nm (dropZ l) := by
  cases l with
  | nil => rfl
  | cons q r =>
    unfold LyInc at h
    rw [List.map_cons, List.pairwise_cons] at h
    have hr : ∀ p ∈ r, p.2 ≠ 0 := fun p hp => by have := h.1 p.2 (List.mem_map_of_mem hp); omega
    rw [dropZ]
    split
    · rename_i e
      have ih := kidsB_pos nm hr
      unfold kidsB at ih ⊢
      rw [List.filterMap_cons, if_pos ⟨rfl, e⟩]
      exact ih
    · rename_i e
      exact kidsB_pos nm fun p hp => by
        rcases List.mem_cons.1 hp with e2 | e2
        · rw [e2]; exact e
        · exact hr p e2
theorem stackP_inc (xs : List Nd) : ∀ names : List ByteArray, LyInc (stackP xs names) := by
  intro names
  unfold stackP
  have h0 : LyInc (shP (layP xs)) := by
    refine List.Pairwise.sublist ((shP_pre _).map _) ?_
    unfold layP
    rw [List.zipIdx_map_snd]
    exact List.pairwise_lt_range'
  generalize shP (layP xs) = l at h0 ⊢
  induction names generalizing l with
  | nil => exact h0
  | cons nm names ih =>
    rw [List.foldl_cons]
    refine ih _ ?_
    exact List.Pairwise.sublist ((shP_pre _).map _) (List.Pairwise.sublist (kidsP_ly nm l) h0)
theorem stackB_yes (xs : List Nd) (names : List ByteArray) : ∀ i, i < names.length → stackB true xs names i = stackP xs (names.take i)
  | 0, _ => rfl
  | i + 1, h => by
    have e : names[i]? = some names[i] := List.getElem?_eq_getElem (by omega)
    rw [stackB, e, stackP_next e, ← stackB_yes xs names i (by omega)]
    have hd : decide (i + 1 = names.length) = false := decide_eq_false (by omega)
    simp [hd, kidsB_no]
/-- Is something seen there of the layers below the top one? -/
def belP (xs : List Nd) (names : List ByteArray) : Bool := decide (0 < names.length) && !(stackB true xs names names.length).isEmpty
theorem belP_last {xs : List Nd} {names : List ByteArray} {n : Nat} {nm : ByteArray} (hn : names.length = n + 1) (hm : names[n]? = some nm) : belP xs names = !(shP (kidsP nm (dropZ (stackP xs (names.take n))))).isEmpty := by
  unfold belP
  rw [hn, stackB, hm, stackB_yes xs names n (by omega)]
  have hd : decide (n + 1 = names.length) = true := decide_eq_true (by omega)
  simp [hd, kidsB_drop nm (stackP_inc xs (names.take n))]
theorem dropZ_small {l : Fls} (h : SmallP l) : SmallP (dropZ l) := by
  cases l with
  | nil => exact h
  | cons q r =>
    rw [dropZ]
    split
    · exact ⟨by have := h.1; rw [List.length_cons] at this; omega, fun p hp => h.2 p (List.mem_cons_of_mem _ hp)⟩
    · exact h
theorem ret_boolE {b c : Bool} (h : b = c) : Ending.returned (.bool b) = .returned (.bool c) := by rw [h]
set_option maxRecDepth 100000 in
set_option maxHeartbeats 2000000 in
theorem mbelow_any {w : World} {S : Nat → Bool} (hS0 : ∀ k, S k = true → k < w.heap.size) {a : Option Addr} {cap : Nat} {xs : List Nd} {an : Option Addr} {capn : Nat} {names : List ByteArray} (hx : NsV (offS w.cell? S) a xs) (hs : Strs (offS w.cell? S) an names) (hok : LaysOk xs) (hln : names.length ≤ 1000) (hcn : names.length ≤ capn ∧ capn ≤ 9223372036854775807) :
    Calls Try.prog 12 #[.slice a xs.length cap, .slice an names.length capn] w fun e w' => e = .returned (.bool (belP xs names)) ∧ Below w.heap.size w w' := by
  have HS0 : Hid _ := hS0
  have HS : Hid _ := hs
  have HX : Hid _ := hx
  have HOK : Hid _ := hok
  obtain ⟨N, HN⟩ : ∃ N, Hid (names.length = N) := ⟨_, rfl⟩
  rw [HN.out] at hcn hln ⊢
  clear hS0 hs hx hok
  go_enter Try.func12, Try.ntmps12
  cases N with
  | zero =>
    go_wp2
    go_ret
    refine ⟨ret_boolE ?_, Below.refl _ _⟩
    unfold belP
    rw [HN.out]
    rfl
  | succ n =>
    obtain ⟨nm, hnm⟩ : ∃ nm, names[n]? = some nm := ⟨_, List.getElem?_eq_getElem (by rw [HN.out]; omega)⟩
    have HBP : Hid _ := belP_last (xs := xs) HN.out hnm
    obtain ⟨sb, so, rfl, hstr⟩ : ∃ b off, an = some ⟨b, off, none⟩ ∧ ∀ i s, names[i]? = some s → offS w.cell? S ⟨b, off + i, none⟩ = some (.string s) := by
      rcases HS.out with e | e
      · subst e; simp at hnm
      · exact e
    have hlt : (names.take n).length = n := by rw [List.length_take, HN.out]; omega
    have HW : Hid (Calls Try.prog 24 #[.slice a xs.length cap, .slice (some ⟨sb, so, none⟩) n capn] w fun e w' => ∃ v, e = .returned v ∧ SpL (offS w'.cell? S) v (stackP xs (names.take n)) ∧ Below w.heap.size w w') := by
      have e := walk_any (cap := cap) (capn := capn) (an := some ⟨sb, so, none⟩) (names := names.take n) HS0.out HX.out (.inr ⟨sb, so, rfl, fun i s hi => hstr i s (by
        rw [List.getElem?_take] at hi
        split at hi
        · exact hi
        · cases hi)⟩) HOK.out.len (by omega) HOK.out.small
      rw [hlt] at e
      exact e
    have r0 := offS_le _ _ _ _ (hstr n nm hnm)
    have hw1 : IntKind.i64.wrap (((n + 1 : Nat) : Int) - 1) = (n : Int) := (wrap_small (by omega) (by omega)).trans (by omega)
    have hw2 : IntKind.i64.wrap ((n : Int) + 1 - 1) = (n : Int) := (wrap_small (by omega) (by omega)).trans (by omega)
    have hc2 : (n : Int) ≤ (capn : Int) := by omega
    have hn0 : (0 : Int) ≤ (n : Int) := by omega
    have hne : decide ((n : Int) + 1 = 0) = false := decide_eq_false (by omega)
    have HSM : Hid (SmallP (stackP xs (names.take n))) := stackP_small HOK.out.small _
    clear hstr hnm hlt HS HX HOK
    generalize stackP xs (names.take n) = top at HW HBP HSM
    go_wp2_with fail
    refine Calls.mono HW.out ?_
    rintro e w1 ⟨v, rfl, hv, hB1⟩
    obtain ⟨va, vc, D, rfl, g1, g2, g3, g4, g5⟩ := hv
    have r1 := mle_below hB1 _ _ r0
    have hnn : (n : Int) < (n : Int) + 1 := by omega
    have hnn2 : n < n + 1 := by omega
    clear r0 HW hne hc2
    cases D with
    | nil =>
      have q3 : SpRow (offS w1.cell? S) va [] := g3
      have q4 : ∀ s ∈ ([] : List Sp), SpAt (offS w1.cell? S) s := g4
      have q5 : ([] : List Sp).map Sp.pr = dropZ top := by rw [← g5]; rfl
      clear g3 g4 g5
      have HST : Hid _ := stepB_any (A := w1) (S := S) (cap := vc) (w := (w1.alloc (.cells #[.slice va ([] : List Sp).length vc] 51)).alloc (.cells #[.string nm] 9)) (fun k hk => Nat.lt_of_lt_of_le (HS0.out k hk) hB1.size) nm q3 q4 (by rw [q5]; exact dropZ_small HSM.out) rfl
      rw [q5] at HST
      clear q3 q4 q5
      go_wp2_with fail
      refine Calls.mono (kidsOf_any w1 va ([] : List Sp).length vc nm) ?_
      rintro e w2 ⟨rfl, rfl⟩
      go_wp2_with fail
      refine Calls.mono HST.out ?_
      rintro e w3 ⟨v3, rfl, hv3, hB3⟩
      obtain ⟨a3, c3, D3, rfl, _, _, _, _, g6⟩ := hv3
      have hB4 := hB1.trans (hB3.mono hB1.size)
      cases D3 with
      | nil =>
        clear HST
        go_wp2
        go_ret
        exact ⟨ret_boolE (by rw [HBP.out, ← g6]; rfl), hB4⟩
      | cons s3 D3 =>
        have hgt : decide ((D3.length : Int) + 1 > 0) = true := decide_eq_true (by omega)
        have hgt2 : decide ((0 : Int) < (D3.length : Int) + 1) = true := decide_eq_true (by omega)
        clear HST
        go_wp2
        go_ret
        exact ⟨ret_boolE (by rw [HBP.out, ← g6]; rfl), hB4⟩
    | cons s D =>
      obtain ⟨vb, vo, rfl, hrow⟩ : ∃ b off, va = some ⟨b, off, none⟩ ∧ ∀ i d', (s :: D)[i]? = some d' → offS w1.cell? S ⟨b, off + i * 2, none⟩ = some (.pointer (some ⟨d'.b, d'.p, none⟩)) ∧ offS w1.cell? S ⟨b, off + i * 2 + 1, none⟩ = some (.int .i64 d'.ly) := by
        rcases g3 with e | e
        · cases e
        · exact e
      obtain ⟨v0, v1⟩ := hrow 0 _ rfl
      have v1 := offS_le _ _ _ _ v1
      rw [Nat.zero_mul, Nat.add_zero] at v1
      obtain ⟨ND, HND⟩ : ∃ ND, Hid (D.length = ND) := ⟨_, rfl⟩
      have hgt : decide ((ND : Int) + 1 > 0) = true := decide_eq_true (by omega)
      have hpos : (0 : Int) < (ND : Int) + 1 := by omega
      by_cases hz : s.ly = 0
      · have hz1 : (((s.ly : Nat) : Int) == 0) = true := by rw [hz]; rfl
        have hz2 : decide (((s.ly : Nat) : Int) = 0) = true := decide_eq_true (by omega)
        rw [hz] at v1
        have q4 : ∀ s ∈ D, SpAt (offS w1.cell? S) s := fun t ht => g4 t (List.mem_cons_of_mem _ ht)
        have q5 : D.map Sp.pr = dropZ top := by
          rw [← g5, List.map_cons, dropZ, if_pos (show (Sp.pr s).2 = 0 from hz)]
        have HLEN : Hid ((s :: D).length = ND + 1) := by show _ = _; rw [List.length_cons, HND.out]
        simp only [List.length_cons] at g1
        rw [HND.out] at g1
        by_cases hc1 : vc = 1
        · subst hc1
          have q3 : SpRow (offS w1.cell? S) (some ⟨vb, vo, none⟩) D := .inl (List.eq_nil_of_length_eq_zero (by rw [HND.out]; omega))
          obtain rfl : D = [] := List.eq_nil_of_length_eq_zero (by rw [HND.out]; omega)
          obtain rfl : ND = 0 := HND.out.symm
          clear g3 g4 g5 hrow hz hz1 hz2
          simp only [List.length_cons, List.length_nil]
          have HST : Hid _ := stepB_any (A := w1) (S := S) (cap := 0) (w := (w1.alloc (.cells #[.slice (some ⟨vb, vo, none⟩) ([] : List Sp).length 0] 51)).alloc (.cells #[.string nm] 9)) (fun k hk => Nat.lt_of_lt_of_le (HS0.out k hk) hB1.size) nm q3 q4 (by rw [q5]; exact dropZ_small HSM.out) rfl
          rw [q5] at HST
          simp only [List.length_nil] at HST
          clear q3 q4 q5
          go_wp2_with fail
          refine Calls.mono (kidsOf_any w1 (some ⟨vb, vo, none⟩) 0 0 nm) ?_
          rintro e w2 ⟨rfl, rfl⟩
          go_wp2_with fail
          refine Calls.mono HST.out ?_
          rintro e w3 ⟨v3, rfl, hv3, hB3⟩
          obtain ⟨a3, c3, D3, rfl, _, _, _, _, g6⟩ := hv3
          have hB4 := hB1.trans (hB3.mono hB1.size)
          cases D3 with
          | nil =>
            clear HST
            go_wp2
            go_ret
            exact ⟨ret_boolE (by rw [HBP.out, ← g6]; rfl), hB4⟩
          | cons s3 D3 =>
            have hgt : decide ((D3.length : Int) + 1 > 0) = true := decide_eq_true (by omega)
            have hgt2 : decide ((0 : Int) < (D3.length : Int) + 1) = true := decide_eq_true (by omega)
            clear HST
            go_wp2
            go_ret
            exact ⟨ret_boolE (by rw [HBP.out, ← g6]; rfl), hB4⟩
        · have q3 : SpRow (offS w1.cell? S) (some ⟨vb, vo + 2, none⟩) D := .inr ⟨vb, vo + 2, rfl, fun i d' hi => by
            have h1 := hrow (i + 1) d' (by simpa using hi)
            rw [show vo + 2 + i * 2 = vo + (i + 1) * 2 by omega]
            exact h1⟩
          clear g3 g4 g5 hrow hz hz1 hz2
          simp only [List.length_cons]
          rw [HND.out]
          have HST : Hid _ := stepB_any (A := w1) (S := S) (cap := (vc - 1)) (w := (w1.alloc (.cells #[.slice (some ⟨vb, vo + 2, none⟩) D.length (vc - 1)] 51)).alloc (.cells #[.string nm] 9)) (fun k hk => Nat.lt_of_lt_of_le (HS0.out k hk) hB1.size) nm q3 q4 (by rw [q5]; exact dropZ_small HSM.out) rfl
          rw [q5] at HST
          rw [HND.out] at HST
          clear q3 q4 q5
          go_wp2_with fail
          refine Calls.mono (kidsOf_any w1 (some ⟨vb, vo + 2, none⟩) ND (vc - 1) nm) ?_
          rintro e w2 ⟨rfl, rfl⟩
          go_wp2_with fail
          refine Calls.mono HST.out ?_
          rintro e w3 ⟨v3, rfl, hv3, hB3⟩
          obtain ⟨a3, c3, D3, rfl, _, _, _, _, g6⟩ := hv3
          have hB4 := hB1.trans (hB3.mono hB1.size)
          cases D3 with
          | nil =>
            clear HST
            go_wp2
            go_ret
            exact ⟨ret_boolE (by rw [HBP.out, ← g6]; rfl), hB4⟩
          | cons s3 D3 =>
            have hgt : decide ((D3.length : Int) + 1 > 0) = true := decide_eq_true (by omega)
            have hgt2 : decide ((0 : Int) < (D3.length : Int) + 1) = true := decide_eq_true (by omega)
            clear HST
            go_wp2
            go_ret
            exact ⟨ret_boolE (by rw [HBP.out, ← g6]; rfl), hB4⟩
      · have hz1 : (((s.ly : Nat) : Int) == 0) = false := by simp; omega
        have q3 : SpRow (offS w1.cell? S) (some ⟨vb, vo, none⟩) (s :: D) := g3
        have q4 : ∀ t ∈ s :: D, SpAt (offS w1.cell? S) t := g4
        have q5 : (s :: D).map Sp.pr = dropZ top := by
          rw [← g5, List.map_cons, dropZ, if_neg (show ¬ (Sp.pr s).2 = 0 from hz)]
        clear g3 g4 g5 hrow hz
        simp only [List.length_cons]
        rw [HND.out]
        have HST : Hid _ := stepB_any (A := w1) (S := S) (cap := vc) (w := (w1.alloc (.cells #[.slice (some ⟨vb, vo, none⟩) (s :: D).length vc] 51)).alloc (.cells #[.string nm] 9)) (fun k hk => Nat.lt_of_lt_of_le (HS0.out k hk) hB1.size) nm q3 q4 (by rw [q5]; exact dropZ_small HSM.out) rfl
        rw [q5] at HST
        simp only [List.length_cons] at HST
        rw [HND.out] at HST
        clear q3 q4 q5
        go_wp2_with fail
        refine Calls.mono (kidsOf_any w1 (some ⟨vb, vo, none⟩) (ND + 1) vc nm) ?_
        rintro e w2 ⟨rfl, rfl⟩
        go_wp2_with fail
        refine Calls.mono HST.out ?_
        rintro e w3 ⟨v3, rfl, hv3, hB3⟩
        obtain ⟨a3, c3, D3, rfl, _, _, _, _, g6⟩ := hv3
        have hB4 := hB1.trans (hB3.mono hB1.size)
        cases D3 with
        | nil =>
          clear HST
          go_wp2
          go_ret
          exact ⟨ret_boolE (by rw [HBP.out, ← g6]; rfl), hB4⟩
        | cons s3 D3 =>
          have hgt : decide ((D3.length : Int) + 1 > 0) = true := decide_eq_true (by omega)
          have hgt2 : decide ((0 : Int) < (D3.length : Int) + 1) = true := decide_eq_true (by omega)
          clear HST
          go_wp2
          go_ret
          exact ⟨ret_boolE (by rw [HBP.out, ← g6]; rfl), hB4⟩
set_option maxRecDepth 100000 in
theorem rbelow_any {w : World} {S : Nat → Bool} {a : Option Addr} {cap : Nat} {xs : List Nd} {an : Option Addr} {capn : Nat} {names : List ByteArray} (hx : NsV (offS w.cell? S) a xs) (hs : Strs w.cell? an names) (hok : LaysOk xs) (hln : names.length ≤ 1000) :
    Calls Try.prog 13 #[.slice a xs.length cap, .slice an names.length capn] w fun e w' => e = .returned (.bool (belP xs names)) ∧ Below w.heap.size w w' := by
  have HST : Hid _ := rstack_any (cap := cap) (capn := capn) hx hs hok.len hln hok.small true
  clear hx hs hok
  have HBP : Hid (belP xs names = (decide (0 < names.length) && !(stackB true xs names names.length).isEmpty)) := rfl
  go_enter Try.func13, Try.ntmps13
  by_cases hn : 0 < names.length
  · have d1 : decide ((names.length : Int) > 0) = true := decide_eq_true (by omega)
    have d2 : decide ((0 : Int) < (names.length : Int)) = true := decide_eq_true (by omega)
    go_wp2_with fail
    refine Calls.mono HST.out ?_
    rintro e w1 ⟨v, rfl, hv, hB⟩
    obtain ⟨a', c', F, rfl, _, _, _, _, g⟩ := hv
    cases F with
    | nil =>
      clear HST
      go_wp2
      go_ret
      exact ⟨ret_boolE (by rw [HBP.out, ← g]; simp [hn]), hB⟩
    | cons f F =>
      have hgt : decide ((F.length : Int) + 1 > 0) = true := decide_eq_true (by omega)
      have hgt2 : decide ((0 : Int) < (F.length : Int) + 1) = true := decide_eq_true (by omega)
      clear HST
      go_wp2
      go_ret
      exact ⟨ret_boolE (by rw [HBP.out, ← g]; simp [hn]), hB⟩
  · have d1 : decide ((names.length : Int) > 0) = false := decide_eq_false (by omega)
    have d2 : decide ((0 : Int) < (names.length : Int)) = false := decide_eq_false (by omega)
    go_wp2
    go_ret
    exact ⟨ret_boolE (by rw [HBP.out]; simp [hn]), Below.refl _ _⟩
end Go.Proofs.Ytgmeecfdkcbggaa
namespace Go.Proofs.Ytgmeecfdkcbggaa
open Go.RowKit
theorem sameNames_yes (a b : Option Addr) (c1 c2 n : Nat) (l : List ByteArray) (w : World) (hn : l.length = n) (hl : n ≤ 1000) (h : Strs w.cell? a l) (h' : Strs w.cell? b l) :
    Calls Try.prog 14 #[.slice a n c1, .slice b n c2] w fun e w' => e = .returned (.bool true) ∧ Below w.heap.size w w' := by
  have hne : ((n : Int) != (n : Int)) = false := by simp
  go_enter Try.func14, Try.ntmps14
  go_wp2
  go_loopw [5] (fun i wr => ∃ k : Nat, k ≤ n ∧ i = .int .i64 k ∧ Below w.heap.size w wr) (fun i _ => n - (intOf i).toNat)
  case atStart => exact ⟨0, Nat.zero_le _, rfl, Below.refl _ _⟩
  case round =>
    obtain ⟨k, hk, rfl, hb⟩ := hrel
    by_cases hlt : k < n
    · obtain ⟨r, hr⟩ : ∃ r, l[k]? = some r := ⟨l[k]'(by omega), List.getElem?_eq_getElem _⟩
      rcases h with hnil | ⟨ba, oa, rfl, hc⟩
      · rw [hnil] at hn; simp at hn; omega
      rcases h' with hnil | ⟨bb, ob, rfl, hc'⟩
      · rw [hnil] at hn; simp at hn; omega
      have y0 := hc k r hr
      have z0 := hc' k r hr
      have q0 : wr.cell? ⟨ba, oa + k, none⟩ = some (.string r) := mle_below hb _ _ y0
      have p0 : wr.cell? ⟨bb, ob + k, none⟩ = some (.string r) := mle_below hb _ _ z0
      have hki : (k : Int) < (n : Int) := by omega
      clear y0 z0 hc hc' hr
      go_wp2
      go_quiet (fail)
      go_wp2
      go_roundw
      case rel => exact ⟨k + 1, by omega, by go_num, below_drewN hb _⟩
      case measure => simp [intOf]; omega
    · go_wp2
      go_ret
      exact ⟨rfl, hb⟩
end Go.Proofs.Ytgmeecfdkcbggaa
