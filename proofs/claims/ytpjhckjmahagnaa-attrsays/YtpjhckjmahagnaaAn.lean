/-
  WHAT THE DOCUMENT's OWN Attr DOES: the walk.
-/
import Derived.Test.YtpjhckjmahagnaaAm
namespace Go.Proofs.Ytpjhckjmahagnaa
open Go.RowKit

/-- What the document's Attr answers: q 1: Set, 0: Get, else Drop. -/
def raF (q : Int) (l : List Kv) (m v : ByteArray) : Int := if q = 1 then setF l m v else if q = 0 then getF l m else drpF l m
def raV (q : Int) (l : List Kv) (m v : ByteArray) : List Kv := if q = 1 then setV l m v else if q = 0 then [] else drpV l m
def raS (q : Int) (l : List Kv) (m : ByteArray) : ByteArray := if q = 0 then getV l m else ByteArray.empty
/-- What was answered. -/
def Told (w w' : World) (e : Ending) (L : List Kv) (s : ByteArray) (f : Int) : Prop :=
  (∃ ao cp, e = .returned (.tuple #[.slice ao L.length cp, .string s, .int .i64 f]) ∧ Kvm w' ao L) ∧ Below w.heap.size w w'
theorem Told.none {w w' : World} {L : List Kv} {s s' : ByteArray} {f n : Int} (hf : f = n) (hL : L = []) (hs : s = s') (hB : Below w.heap.size w w') : Told w w' (.returned (.tuple #[.slice none 0 0, .string s', .int .i64 n])) L s f := by
  subst hL hf hs
  exact ⟨⟨_, 0, rfl, .inl rfl⟩, hB⟩
theorem Told.some {w w' : World} {L M : List Kv} {s s' : ByteArray} {f n : Int} {ao : Option Addr} {cp : Nat} (hf : f = n) (hL : L = M) (hs : s = s') (hk : Kvm w' ao M) (hB : Below w.heap.size w w') : Told w w' (.returned (.tuple #[.slice ao M.length cp, .string s', .int .i64 n])) L s f := by
  subst hL hf hs
  exact ⟨⟨_, _, rfl, hk⟩, hB⟩
theorem new2 (w : World) (x : Kv) : ∀ j u, (flat [x])[j]? = some u → (w.alloc (.cells #[.string x.n, .string x.v] 65)).cell? ((⟨w.heap.size, 0, none⟩ : Addr).add j) = some u := by
  intro j u hj
  match j with
  | 0 => simp [flat] at hj; subst hj; exact (KBox.new w x).1
  | 1 => simp [flat] at hj; subst hj; exact (KBox.new w x).2
  | k + 2 => simp [flat] at hj
theorem ra_bad {q : Int} {l : List Kv} {m v : ByteArray} (h : fndF l m ≠ 0) : raF q l m v = fndF l m ∧ raV q l m v = [] ∧ raS q l m = ByteArray.empty := by
  have h1 : setF l m v = fndF l m := by unfold setF; rw [if_pos h]
  have h2 : getF l m = fndF l m := by unfold getF; rw [if_pos h]
  have h3 : drpF l m = fndF l m := by unfold drpF; rw [if_pos h]
  refine ⟨?_, ?_, ?_⟩
  · unfold raF; rw [h1, h2, h3]; simp
  · unfold raV setV drpV; rw [h1, h3, if_pos h, if_pos h]; simp
  · unfold raS getV; rw [h2, if_pos h]; simp
theorem ra_none {q : Int} {l : List Kv} {m v : ByteArray} (h : fndF l m = 0) (hf : fnd l m = none) (hq : ¬ q = 1) : raF q l m v = 5 ∧ raV q l m v = [] ∧ raS q l m = ByteArray.empty := by
  have g0 : getF l m = 5 := by unfold getF; rw [h, hf]; simp
  have p0 : drpF l m = 5 := g0
  refine ⟨?_, ?_, ?_⟩
  · unfold raF; rw [if_neg hq, g0, p0]; simp
  · unfold raV drpV; rw [if_neg hq, p0]; simp
  · unfold raS getV; rw [g0]; simp
theorem ra_get {l : List Kv} {m v : ByteArray} {x : Kv} (h : fndF l m = 0) (hf : fnd l m = some x) : raF 0 l m v = 0 ∧ raV 0 l m v = [] ∧ raS 0 l m = x.v := by
  have g0 : getF l m = 0 := by unfold getF; rw [h, hf]; simp
  refine ⟨?_, ?_, ?_⟩
  · unfold raF; rw [g0]; simp
  · unfold raV; simp
  · unfold raS getV; rw [g0, hf]; simp
theorem ra_drp {q : Int} {l : List Kv} {m v : ByteArray} {x : Kv} (h : fndF l m = 0) (hf : fnd l m = some x) (hq : ¬ q = 1) (hq0 : ¬ q = 0) : raF q l m v = 0 ∧ raV q l m v = drpL l m ∧ raS q l m = ByteArray.empty := by
  have p0 : drpF l m = 0 := by unfold drpF; rw [h, hf]; simp
  refine ⟨?_, ?_, ?_⟩
  · unfold raF; rw [if_neg hq, if_neg hq0, p0]
  · unfold raV drpV; rw [if_neg hq, if_neg hq0, p0]; simp
  · unfold raS; rw [if_neg hq0]
theorem fold_succ {m v : ByteArray} {l : List Kv} {k : Nat} {x : Kv} (s : Rs) (h : l[k]? = some x) : (l.take (k + 1)).foldl (stepR m v) s = stepR m v ((l.take k).foldl (stepR m v) s) x := by
  rw [List.take_add_one, h, List.foldl_append]; rfl
theorem stepR_eq {m v : ByteArray} {s : Rs} {x : Kv} (h : x.n = m) : stepR m v s x = ⟨s.out, x.v, true, s.laid⟩ := by unfold stepR; rw [if_pos h]
theorem stepR_lay {m v : ByteArray} {s : Rs} {x : Kv} (h : ¬ x.n = m) (h1 : s.laid = false) (h2 : ltB m x.n = true) : stepR m v s x = ⟨(s.out ++ [⟨m, v⟩]) ++ [x], s.old, s.there, true⟩ := by unfold stepR; rw [if_neg h, if_pos ⟨h1, h2⟩]
theorem stepR_on {m v : ByteArray} {s : Rs} {x : Kv} (h : ¬ x.n = m) (h1 : ¬ (s.laid = false ∧ ltB m x.n = true)) : stepR m v s x = ⟨s.out ++ [x], s.old, s.there, s.laid⟩ := by unfold stepR; rw [if_neg h, if_neg h1]
theorem set_len {l : List Kv} {m v : ByteArray} (h : Srt l) (h4 : l.length ≤ 4) : (4 < (setL l m v).length ∧ fnd l m = none ∧ l.length = 4) ∨ ((setL l m v).length ≤ 4 ∧ ¬ (fnd l m = none ∧ l.length = 4)) := by
  have hp := len_parts m h
  have hs : (setL l m v).length = (lows l m).length + ((highs l m).length + 1) := by unfold setL; simp
  cases hf : fnd l m with
  | none => rw [hf] at hp; simp at hp; by_cases e : l.length = 4
            · exact .inl ⟨by omega, rfl, e⟩
            · exact .inr ⟨by omega, fun h => e h.2⟩
  | some x => rw [hf] at hp; simp at hp; exact .inr ⟨by omega, fun h => by cases h.1⟩
theorem drp_len {l : List Kv} {m : ByteArray} (h : Srt l) (h4 : l.length ≤ 4) : (drpL l m).length ≤ 4 := by
  have hp := len_parts m h
  unfold drpL; rw [List.length_append]; omega


set_option maxRecDepth 100000 in
set_option maxHeartbeats 1000000 in
theorem attrr_bad1 (q : Int) (a : Option Addr) (cap : Nat) (l : List Kv) (m v : ByteArray) (w : World) (hl : l.length ≤ 1000) (hlow : Low l) (h : Kvm w a l) (hc : chkA l ≠ 0) :
    Calls Try.prog 51 #[.int .i64 q, .slice a l.length cap, .string m, .string v] w fun e w' => Told w w' e (raV q l m v) (raS q l m) (raF q l m v) := by
  have HFN : Hid (fndF l m = chkA l) := by show _ = _; unfold fndF; rw [if_pos hc]
  obtain ⟨e1, e2, e3⟩ := ra_bad (q := q) (v := v) (show fndF l m ≠ 0 by rw [HFN.out]; exact hc)
  rw [HFN.out] at e1
  rw [e1, e2, e3]
  have hp := chkA_range l
  obtain ⟨c, hcc⟩ : ∃ c, chkA l = c := ⟨_, rfl⟩
  have HC : Hid (chkA l = c) := hcc
  rw [hcc] at hp hc ⊢
  have hpos : decide (0 < c) = true := decide_eq_true (by omega)
  clear hcc e1 e2 e3 HFN hc
  go_enter Try.func51, Try.ntmps51
  go_wp2_with fail
  refine (fault_any a cap l _ hl hlow h).mono ?_
  rintro e w1 ⟨rfl, hB⟩
  rw [HC.out]
  go_wp2
  go_ret3
  exact Told.none rfl rfl rfl hB

set_option maxRecDepth 100000 in
set_option maxHeartbeats 1000000 in
theorem attrr_bad2 (q : Int) (a : Option Addr) (cap : Nat) (l : List Kv) (m v : ByteArray) (w : World) (hl : l.length ≤ 1000) (hlow : Low l) (hm : m.size ≤ 1000) (h : Kvm w a l) (hc : chkA l = 0) (hcl : classB m = 0) :
    Calls Try.prog 51 #[.int .i64 q, .slice a l.length cap, .string m, .string v] w fun e w' => Told w w' e (raV q l m v) (raS q l m) (raF q l m v) := by
  have HFN : Hid (fndF l m = 4) := by show _ = _; unfold fndF; rw [if_neg (by simpa using hc), if_pos hcl]
  obtain ⟨e1, e2, e3⟩ := ra_bad (q := q) (v := v) (show fndF l m ≠ 0 by rw [HFN.out]; decide)
  rw [HFN.out] at e1
  rw [e1, e2, e3]
  have HC : Hid (chkA l = 0) := hc
  have HL : Hid (classB m = 0) := hcl
  clear hc hcl e1 e2 e3 HFN
  go_enter Try.func51, Try.ntmps51
  go_wp2_with fail
  refine (fault_any a cap l _ hl hlow h).mono ?_
  rintro e w1 ⟨rfl, hB⟩
  rw [HC.out]
  go_wp2_with fail
  refine (classr_any m _ hm).mono ?_
  rintro e w' ⟨rfl, rfl⟩
  rw [HL.out]
  go_wp2
  go_ret3
  exact Told.none rfl rfl rfl hB

set_option maxRecDepth 100000 in
set_option maxHeartbeats 1000000 in
theorem attrr_bad3 (a : Option Addr) (cap : Nat) (l : List Kv) (m v : ByteArray) (w : World) (hl : l.length ≤ 1000) (hlow : Low l) (hm : m.size ≤ 1000) (h : Kvm w a l) (hc : chkA l = 0) (hcl : classB m ≠ 0) (hv : 20 < v.size) :
    Calls Try.prog 51 #[.int .i64 1, .slice a l.length cap, .string m, .string v] w fun e w' => Told w w' e (setV l m v) ByteArray.empty (setF l m v) := by
  have HFN : Hid (fndF l m = 0) := by show _ = _; unfold fndF; rw [if_neg (by simpa using hc), if_neg hcl]
  have e1 : setF l m v = 1 := by unfold setF; rw [if_neg (by simpa using HFN.out), if_pos hv]
  have e2 : setV l m v = [] := by unfold setV; rw [if_pos (by rw [e1]; decide)]
  rw [e1, e2]
  have HC : Hid (chkA l = 0) := hc
  obtain ⟨c, hcc⟩ : ∃ c, classB m = c := ⟨_, rfl⟩
  have HL : Hid (classB m = c) := hcc
  rw [hcc] at hcl
  have bc : (c == 0) = false := by simpa using hcl
  have d20 : decide (20 < (v.size : Int)) = true := decide_eq_true (by omega)
  clear hc hcl hcc e1 e2 HFN
  go_enter Try.func51, Try.ntmps51
  go_wp2_with fail
  refine (fault_any a cap l _ hl hlow h).mono ?_
  rintro e w1 ⟨rfl, hB⟩
  rw [HC.out]
  go_wp2_with fail
  refine (classr_any m _ hm).mono ?_
  rintro e w' ⟨rfl, rfl⟩
  rw [HL.out]
  go_wp2
  go_ret3
  exact Told.none rfl rfl rfl hB

set_option maxRecDepth 100000 in
set_option maxHeartbeats 4000000 in
theorem attrr_set (a : Option Addr) (cap : Nat) (l : List Kv) (m v : ByteArray) (w : World) (hl : l.length ≤ 1000) (hlow : Low l) (hm : m.size ≤ 1000) (h : Kvm w a l) (hc : chkA l = 0) (hcl : classB m ≠ 0) (hv : v.size ≤ 20) :
    Calls Try.prog 51 #[.int .i64 1, .slice a l.length cap, .string m, .string v] w fun e w' => Told w w' e (setV l m v) ByteArray.empty (setF l m v) := by
  obtain ⟨i0, hi0, hz0, hz1, hz2⟩ := info_parts Try.info65
  have HFN : Hid (fndF l m = 0) := by show _ = _; unfold fndF; rw [if_neg (by simpa using hc), if_neg hcl]
  have hs : Srt l := ((good_iff l).1 hc).2.2
  have h4 : l.length ≤ 4 := ((good_iff l).1 hc).1
  have HC : Hid (chkA l = 0) := hc
  obtain ⟨c, hcc⟩ : ∃ c, classB m = c := ⟨_, rfl⟩
  have HL0 : Hid (classB m = c) := hcc
  rw [hcc] at hcl
  have bc : (c == 0) = false := by simpa using hcl
  have d20 : decide (20 < (v.size : Int)) = false := decide_eq_false (by omega)
  clear hc hcl hcc
  go_enter Try.func51, Try.ntmps51
  go_wp2_with fail
  refine (fault_any a cap l _ hl hlow h).mono ?_
  rintro e w1 ⟨rfl, hB0⟩
  rw [HC.out]
  go_wp2_with fail
  refine (classr_any m _ hm).mono ?_
  rintro e w' ⟨rfl, rfl⟩
  rw [HL0.out]
  go_wp2
  go_loopw [12, 13, 14, 15, 16] (fun o d t b i wr => ∃ (k : Nat) (s : Rs), k ≤ l.length ∧ i = .int .i64 k ∧ Hid ((l.take k).foldl (stepR m v) ⟨[], ByteArray.empty, false, false⟩ = s) ∧ s.out.length ≤ 2 * k ∧ d = .string s.old ∧ t = .bool s.there ∧ b = .bool s.laid ∧ wr.ownsRow w.heap.size 65 2 o s.out.length (flat s.out) ∧ Below w.heap.size w wr) (fun _ _ _ _ i _ => l.length - (intOf i).toNat)
  case atStart => exact ⟨0, ⟨[], ByteArray.empty, false, false⟩, Nat.zero_le _, rfl, rfl, Nat.le_refl _, rfl, rfl, rfl, World.ownsRow_nil _ _ _ _, hB0⟩
  case round =>
    obtain ⟨k, ⟨out, old, there, laid⟩, hk, rfl, HFO, hlen, rfl, rfl, rfl, hown, hB⟩ := hrel
    dsimp only at hlen hown
    by_cases hlt : k < l.length
    · rcases h with rfl | ⟨b, off, rfl, hcl⟩
      · simp at hlt
      obtain ⟨x, hx⟩ : ∃ x, l[k]? = some x := ⟨l[k], by simp [hlt]⟩
      obtain ⟨hc0, hc1⟩ := hcl k x hx
      have hbl : b < w.heap.size := World.block_lt_of_cell? _ _ hc0
      have hblr : b < wr.heap.size := Nat.lt_of_lt_of_le hbl hB.size
      have hki : (k : Int) < (l.length : Int) := by omega
      have q0 : wr.cell? ⟨b, off + k * 2, none⟩ = some (.string x.n) := (hB.cell (p := ⟨b, off + k * 2, none⟩) hbl).trans hc0
      have q1 : wr.cell? ⟨b, off + k * 2 + 1, none⟩ = some (.string x.v) := (hB.cell (p := ⟨b, off + k * 2 + 1, none⟩) hbl).trans hc1
      have HST : Hid ((l.take (k + 1)).foldl (stepR m v) ⟨[], ByteArray.empty, false, false⟩ = stepR m v ⟨out, old, there, laid⟩ x) := by show _ = _; rw [fold_succ _ hx, HFO.out]
      clear hcl hx
      by_cases hxm : x.n = m
      · have bn : (x.n.toList == m.toList) = true := by rw [hxm]; simp
        have HN : Hid ((l.take (k + 1)).foldl (stepR m v) ⟨[], ByteArray.empty, false, false⟩ = ⟨out, x.v, true, laid⟩) := HST.out.trans (stepR_eq hxm)
        clear hxm hc0 hc1
        go_wp2
        go_roundw
        case rel => exact ⟨k + 1, ⟨out, x.v, true, laid⟩, by omega, by go_num, HN.out, by dsimp only; omega, rfl, rfl, rfl, hown, hB⟩
        case measure => simp [intOf]; omega
      have bn : (x.n.toList == m.toList) = false := by simp; exact fun e => hxm (toList_inj e)
      obtain ⟨t, ht⟩ : ∃ t, ltB m x.n = t := ⟨_, rfl⟩
      have hlt2 : Op.bytesLess x.n.toList m.toList = !t := by
        rw [← ht]
        show ltB x.n m = _
        rcases ltB_total x.n m with e | e | e
        · rw [e, ltB_asymm e]; rfl
        · exact absurd e hxm
        · rw [e, ltB_asymm e]; rfl
      have HNE : Hid (¬ x.n = m) := hxm
      have HT : Hid (ltB m x.n = t) := ht
      clear hxm ht hc0 hc1
      have hor : (laid = false ∧ t = true) ∨ laid = true ∨ (laid = false ∧ t = false) := by cases laid <;> cases t <;> simp
      rcases hor with ⟨rfl, rfl⟩ | hor
      · have HN : Hid ((l.take (k + 1)).foldl (stepR m v) ⟨[], ByteArray.empty, false, false⟩ = ⟨(out ++ [⟨m, v⟩]) ++ [x], old, there, true⟩) := HST.out.trans (stepR_lay HNE.out rfl HT.out)
        have QQ0 : Hid (w.cell? ⟨b, off + k * 2, none⟩ = some (.string x.n)) := (hB.cell (p := ⟨b, off + k * 2, none⟩) hbl).symm.trans q0
        have QQ1 : Hid (w.cell? ⟨b, off + k * 2 + 1, none⟩ = some (.string x.v)) := (hB.cell (p := ⟨b, off + k * 2 + 1, none⟩) hbl).symm.trans q1
        have hol : out.length ≤ 1000 := by omega
        have hown_al := hown.alloc (.cells #[.string m, .string v] 65)
        have hB_al := hB.alloc hB.size (.cells #[.string m, .string v] 65)
        have b1 := hB_al.size
        go_wp2_with (at_builtin; refine wpList_append_src _ rfl (.tmp 63) (.tmp 67) 62 rfl w.heap.size 65 i0 (.agg #[.string ⟨#[]⟩, .string ⟨#[]⟩]) 2 32 Try.underlying62 hi0 hz0 hz1 hz2 rfl (by decide) _ out.length (flat out) rfl hown_al (some ⟨wr.heap.size, 0, none⟩) 1 1 (flat [⟨m, v⟩]) rfl rfl (.inr ⟨_, rfl, new2 wr _⟩) (flat_one _) (by unfold maxLen; omega) (by omega) b1 ?_)
        intro v1 wa hown2 g1 _
        have hBa := hB_al.grown g1 b1 (fun q e => (hown.lt q e).1)
        rw [← flat_append] at hown2
        clear g1 b1 hown_al hB_al
        have q2 : wa.cell? ⟨b, off + k * 2, none⟩ = some (.string x.n) := (hBa.cell (p := ⟨b, off + k * 2, none⟩) hbl).trans QQ0.out
        have q3 : wa.cell? ⟨b, off + k * 2 + 1, none⟩ = some (.string x.v) := (hBa.cell (p := ⟨b, off + k * 2 + 1, none⟩) hbl).trans QQ1.out
        have hbla : b < wa.heap.size := Nat.lt_of_lt_of_le hbl hBa.size
        have hlo : (out ++ [(⟨m, v⟩ : Kv)]).length = out.length + 1 := by simp
        have hown2' : wa.ownsRow w.heap.size 65 2 v1 (out ++ [(⟨m, v⟩ : Kv)]).length (flat (out ++ [⟨m, v⟩])) := by rw [hlo]; exact hown2
        clear hown2 hown hB q0 q1 hblr
        generalize hO : out ++ [(⟨m, v⟩ : Kv)] = O at hown2' hlo HN
        have hOl : O.length ≤ 1000 := by omega
        have hown2_al := hown2'.alloc (.cells #[.string x.n, .string x.v] 65)
        have hBa_al := hBa.alloc hBa.size (.cells #[.string x.n, .string x.v] 65)
        have b2 := hBa_al.size
        go_wp2_with (at_builtin; refine wpList_append_src _ rfl (.tmp 69) (.tmp 74) 62 rfl w.heap.size 65 i0 (.agg #[.string ⟨#[]⟩, .string ⟨#[]⟩]) 2 32 Try.underlying62 hi0 hz0 hz1 hz2 rfl (by decide) _ O.length (flat O) rfl hown2_al (some ⟨wa.heap.size, 0, none⟩) 1 1 (flat [x]) rfl rfl (.inr ⟨_, rfl, new2 wa _⟩) (flat_one _) (by unfold maxLen; omega) (by omega) b2 ?_)
        intro v2 wb hown3 g2 _
        have hBb := hBa_al.grown g2 b2 (fun q e => (hown2'.lt q e).1)
        rw [← flat_append] at hown3
        clear g2 b2 hown2_al hBa_al
        clear hown2' hBa q2 q3
        go_wp2
        go_roundw
        case rel => exact ⟨k + 1, ⟨O ++ [x], old, there, true⟩, by omega, by go_num, HN.out, by dsimp only; rw [List.length_append, hlo]; simp; omega, rfl, rfl, rfl, by dsimp only; rw [List.length_append, hlo]; exact hown3, hBb⟩
        case measure => simp [intOf]; omega
      · have HN : Hid ((l.take (k + 1)).foldl (stepR m v) ⟨[], ByteArray.empty, false, false⟩ = ⟨out ++ [x], old, there, laid⟩) := HST.out.trans (stepR_on HNE.out (by
          rw [HT.out]
          rcases hor with e | ⟨e1, e2⟩
          · rw [e]; simp
          · rw [e2]; simp))
        have hol : out.length ≤ 1000 := by omega
        rcases hor with rfl | ⟨rfl, rfl⟩
        all_goals
          have hown_al := hown.alloc (.cells #[.string x.n, .string x.v] 65)
          have hB_al := hB.alloc hB.size (.cells #[.string x.n, .string x.v] 65)
          have b2 := hB_al.size
          go_wp2_with (at_builtin; refine wpList_append_src _ rfl (.tmp 69) (.tmp 74) 62 rfl w.heap.size 65 i0 (.agg #[.string ⟨#[]⟩, .string ⟨#[]⟩]) 2 32 Try.underlying62 hi0 hz0 hz1 hz2 rfl (by decide) _ out.length (flat out) rfl hown_al (some ⟨wr.heap.size, 0, none⟩) 1 1 (flat [x]) rfl rfl (.inr ⟨_, rfl, new2 wr _⟩) (flat_one _) (by unfold maxLen; omega) (by omega) b2 ?_)
          intro v2 wb hown3 g2 _
          have hBb := hB_al.grown g2 b2 (fun q e => (hown.lt q e).1)
          rw [← flat_append] at hown3
          clear g2 b2 hown_al hB_al
          clear hown hB q0 q1
          go_wp2
          go_roundw
          case rel => exact ⟨k + 1, ⟨out ++ [x], old, there, _⟩, by omega, by go_num, HN.out, by dsimp only; rw [List.length_append]; simp; omega, rfl, rfl, rfl, by dsimp only; rw [List.length_append]; exact hown3, hBb⟩
          case measure => simp [intOf]; omega
    · have HL : Hid (l.foldl (stepR m v) ⟨[], ByteArray.empty, false, false⟩ = ⟨out, old, there, laid⟩) := by
        show _ = _
        rw [← HFO.out, List.take_of_length_le (by omega)]
      obtain ⟨f1, _⟩ := fold_set m v ⟨[], ByteArray.empty, false, false⟩ hs rfl
      rw [HL.out] at f1
      have hol : out.length ≤ 1000 := by omega
      have hz : (setL l m v).length ≤ 1000 := by have := set_len (m := m) (v := v) hs h4; rcases this with e | e <;> have := len_parts m hs <;> unfold setL <;> simp <;> omega
      cases laid
      · have HOUT : Hid (out ++ [⟨m, v⟩] = setL l m v) := by show _ = _; simpa [fin] using f1
        clear f1
        have hown_al := hown.alloc (.cells #[.string m, .string v] 65)
        have hB_al := hB.alloc hB.size (.cells #[.string m, .string v] 65)
        have b2 := hB_al.size
        go_wp2_with (at_builtin; refine wpList_append_src _ rfl (.tmp 78) (.tmp 82) 62 rfl w.heap.size 65 i0 (.agg #[.string ⟨#[]⟩, .string ⟨#[]⟩]) 2 32 Try.underlying62 hi0 hz0 hz1 hz2 rfl (by decide) _ out.length (flat out) rfl hown_al (some ⟨wr.heap.size, 0, none⟩) 1 1 (flat [⟨m, v⟩]) rfl rfl (.inr ⟨_, rfl, new2 wr _⟩) (flat_one _) (by unfold maxLen; omega) (by omega) b2 ?_)
        intro v2 wb hown3 g2 _
        have hBb := hB_al.grown g2 b2 (fun q e => (hown.lt q e).1)
        rw [← flat_append] at hown3
        clear g2 b2 hown_al hB_al
        rw [HOUT.out] at hown3
        have hll : (setL l m v).length = out.length + 1 := by rw [← HOUT.out]; simp
        rw [← hll] at hown3
        clear hown hB hll
        obtain ⟨ao, cp, rfl, z1, z2, hk3⟩ := kvm_of_owns hown3
        clear hown3
        rcases set_len (m := m) (v := v) hs h4 with ⟨g1, g2⟩ | ⟨g1, g2⟩
        · have d4 : decide (4 < ((setL l m v).length : Int)) = true := decide_eq_true (by omega)
          have e1 : Hid (setF l m v = 2) := by show _ = _; unfold setF; rw [if_neg (by simpa using HFN.out), if_neg (by omega), if_pos g2]
          have e2 : Hid (setV l m v = []) := by show _ = _; unfold setV; rw [if_pos (by rw [e1.out]; decide)]
          clear g1 g2
          go_wp2
          go_ret3
          exact Told.none e1.out e2.out rfl hBb
        · have d4 : decide (4 < ((setL l m v).length : Int)) = false := decide_eq_false (by omega)
          have e1 : Hid (setF l m v = 0) := by show _ = _; unfold setF; rw [if_neg (by simpa using HFN.out), if_neg (by omega), if_neg g2]
          have e2 : Hid (setV l m v = setL l m v) := by show _ = _; unfold setV; rw [if_neg (by rw [e1.out]; decide)]
          clear g1 g2
          go_wp2
          go_ret3
          exact Told.some e1.out e2.out rfl hk3 hBb
      · have HOUT : Hid (out = setL l m v) := by show _ = _; simpa [fin] using f1
        clear f1
        have hown3 := hown
        have hBb := hB
        rw [HOUT.out] at hown3
        clear hown hB
        have hO := HOUT.out
        subst hO
        obtain ⟨ao, cp, rfl, z1, z2, hk3⟩ := kvm_of_owns hown3
        clear hown3
        rcases set_len (m := m) (v := v) hs h4 with ⟨g1, g2⟩ | ⟨g1, g2⟩
        · have d4 : decide (4 < ((setL l m v).length : Int)) = true := decide_eq_true (by omega)
          have e1 : Hid (setF l m v = 2) := by show _ = _; unfold setF; rw [if_neg (by simpa using HFN.out), if_neg (by omega), if_pos g2]
          have e2 : Hid (setV l m v = []) := by show _ = _; unfold setV; rw [if_pos (by rw [e1.out]; decide)]
          clear g1 g2
          go_wp2
          go_ret3
          exact Told.none e1.out e2.out rfl hBb
        · have d4 : decide (4 < ((setL l m v).length : Int)) = false := decide_eq_false (by omega)
          have e1 : Hid (setF l m v = 0) := by show _ = _; unfold setF; rw [if_neg (by simpa using HFN.out), if_neg (by omega), if_neg g2]
          have e2 : Hid (setV l m v = setL l m v) := by show _ = _; unfold setV; rw [if_neg (by rw [e1.out]; decide)]
          clear g1 g2
          go_wp2
          go_ret3
          exact Told.some e1.out e2.out rfl hk3 hBb

set_option maxRecDepth 100000 in
set_option maxHeartbeats 4000000 in
theorem attrr_else (q : Int) (a : Option Addr) (cap : Nat) (l : List Kv) (m v : ByteArray) (w : World) (hl : l.length ≤ 1000) (hlow : Low l) (hm : m.size ≤ 1000) (h : Kvm w a l) (hc : chkA l = 0) (hcl : classB m ≠ 0) (hq : ¬ q = 1) :
    Calls Try.prog 51 #[.int .i64 q, .slice a l.length cap, .string m, .string v] w fun e w' => Told w w' e (raV q l m v) (raS q l m) (raF q l m v) := by
  obtain ⟨i0, hi0, hz0, hz1, hz2⟩ := info_parts Try.info65
  have HFN : Hid (fndF l m = 0) := by show _ = _; unfold fndF; rw [if_neg (by simpa using hc), if_neg hcl]
  have hs : Srt l := ((good_iff l).1 hc).2.2
  have h4 : l.length ≤ 4 := ((good_iff l).1 hc).1
  have HC : Hid (chkA l = 0) := hc
  obtain ⟨c, hcc⟩ : ∃ c, classB m = c := ⟨_, rfl⟩
  have HL0 : Hid (classB m = c) := hcc
  rw [hcc] at hcl
  have bc : (c == 0) = false := by simpa using hcl
  have dq : (q == 1) = false := by simpa using hq
  have dq' : (q != 1) = true := by simpa using hq
  clear hc hcl hcc
  go_enter Try.func51, Try.ntmps51
  go_wp2_with fail
  refine (fault_any a cap l _ hl hlow h).mono ?_
  rintro e w1 ⟨rfl, hB0⟩
  rw [HC.out]
  go_wp2_with fail
  refine (classr_any m _ hm).mono ?_
  rintro e w' ⟨rfl, rfl⟩
  rw [HL0.out]
  go_wp2
  go_loopw [12, 13, 14, 15, 16] (fun o d t b i wr => ∃ (k : Nat) (s : Rs), k ≤ l.length ∧ i = .int .i64 k ∧ Hid ((l.take k).foldl (stepR m v) ⟨[], ByteArray.empty, false, true⟩ = s) ∧ s.out.length ≤ 2 * k ∧ d = .string s.old ∧ t = .bool s.there ∧ b = .bool s.laid ∧ wr.ownsRow w.heap.size 65 2 o s.out.length (flat s.out) ∧ Below w.heap.size w wr) (fun _ _ _ _ i _ => l.length - (intOf i).toNat)
  case atStart => exact ⟨0, ⟨[], ByteArray.empty, false, true⟩, Nat.zero_le _, rfl, rfl, Nat.le_refl _, rfl, rfl, rfl, World.ownsRow_nil _ _ _ _, hB0⟩
  case round =>
    obtain ⟨k, ⟨out, old, there, laid⟩, hk, rfl, HFO, hlen, rfl, rfl, rfl, hown, hB⟩ := hrel
    dsimp only at hlen hown
    by_cases hlt : k < l.length
    · rcases h with rfl | ⟨b, off, rfl, hcl⟩
      · simp at hlt
      obtain ⟨x, hx⟩ : ∃ x, l[k]? = some x := ⟨l[k], by simp [hlt]⟩
      obtain ⟨hc0, hc1⟩ := hcl k x hx
      have hbl : b < w.heap.size := World.block_lt_of_cell? _ _ hc0
      have hblr : b < wr.heap.size := Nat.lt_of_lt_of_le hbl hB.size
      have hki : (k : Int) < (l.length : Int) := by omega
      have q0 : wr.cell? ⟨b, off + k * 2, none⟩ = some (.string x.n) := (hB.cell (p := ⟨b, off + k * 2, none⟩) hbl).trans hc0
      have q1 : wr.cell? ⟨b, off + k * 2 + 1, none⟩ = some (.string x.v) := (hB.cell (p := ⟨b, off + k * 2 + 1, none⟩) hbl).trans hc1
      have HST : Hid ((l.take (k + 1)).foldl (stepR m v) ⟨[], ByteArray.empty, false, true⟩ = stepR m v ⟨out, old, there, laid⟩ x) := by show _ = _; rw [fold_succ _ hx, HFO.out]
      clear hcl hx
      by_cases hxm : x.n = m
      · have bn : (x.n.toList == m.toList) = true := by rw [hxm]; simp
        have HN : Hid ((l.take (k + 1)).foldl (stepR m v) ⟨[], ByteArray.empty, false, true⟩ = ⟨out, x.v, true, laid⟩) := HST.out.trans (stepR_eq hxm)
        clear hxm hc0 hc1
        go_wp2
        go_roundw
        case rel => exact ⟨k + 1, ⟨out, x.v, true, laid⟩, by omega, by go_num, HN.out, by dsimp only; omega, rfl, rfl, rfl, hown, hB⟩
        case measure => simp [intOf]; omega
      have bn : (x.n.toList == m.toList) = false := by simp; exact fun e => hxm (toList_inj e)
      obtain ⟨t, ht⟩ : ∃ t, ltB m x.n = t := ⟨_, rfl⟩
      have hlt2 : Op.bytesLess x.n.toList m.toList = !t := by
        rw [← ht]
        show ltB x.n m = _
        rcases ltB_total x.n m with e | e | e
        · rw [e, ltB_asymm e]; rfl
        · exact absurd e hxm
        · rw [e, ltB_asymm e]; rfl
      have HNE : Hid (¬ x.n = m) := hxm
      have HT : Hid (ltB m x.n = t) := ht
      clear hxm ht hc0 hc1
      have hor : (laid = false ∧ t = true) ∨ laid = true ∨ (laid = false ∧ t = false) := by cases laid <;> cases t <;> simp
      rcases hor with ⟨rfl, rfl⟩ | hor
      · have HN : Hid ((l.take (k + 1)).foldl (stepR m v) ⟨[], ByteArray.empty, false, true⟩ = ⟨(out ++ [⟨m, v⟩]) ++ [x], old, there, true⟩) := HST.out.trans (stepR_lay HNE.out rfl HT.out)
        have QQ0 : Hid (w.cell? ⟨b, off + k * 2, none⟩ = some (.string x.n)) := (hB.cell (p := ⟨b, off + k * 2, none⟩) hbl).symm.trans q0
        have QQ1 : Hid (w.cell? ⟨b, off + k * 2 + 1, none⟩ = some (.string x.v)) := (hB.cell (p := ⟨b, off + k * 2 + 1, none⟩) hbl).symm.trans q1
        have hol : out.length ≤ 1000 := by omega
        have hown_al := hown.alloc (.cells #[.string m, .string v] 65)
        have hB_al := hB.alloc hB.size (.cells #[.string m, .string v] 65)
        have b1 := hB_al.size
        go_wp2_with (at_builtin; refine wpList_append_src _ rfl (.tmp 63) (.tmp 67) 62 rfl w.heap.size 65 i0 (.agg #[.string ⟨#[]⟩, .string ⟨#[]⟩]) 2 32 Try.underlying62 hi0 hz0 hz1 hz2 rfl (by decide) _ out.length (flat out) rfl hown_al (some ⟨wr.heap.size, 0, none⟩) 1 1 (flat [⟨m, v⟩]) rfl rfl (.inr ⟨_, rfl, new2 wr _⟩) (flat_one _) (by unfold maxLen; omega) (by omega) b1 ?_)
        intro v1 wa hown2 g1 _
        have hBa := hB_al.grown g1 b1 (fun q e => (hown.lt q e).1)
        rw [← flat_append] at hown2
        clear g1 b1 hown_al hB_al
        have q2 : wa.cell? ⟨b, off + k * 2, none⟩ = some (.string x.n) := (hBa.cell (p := ⟨b, off + k * 2, none⟩) hbl).trans QQ0.out
        have q3 : wa.cell? ⟨b, off + k * 2 + 1, none⟩ = some (.string x.v) := (hBa.cell (p := ⟨b, off + k * 2 + 1, none⟩) hbl).trans QQ1.out
        have hbla : b < wa.heap.size := Nat.lt_of_lt_of_le hbl hBa.size
        have hlo : (out ++ [(⟨m, v⟩ : Kv)]).length = out.length + 1 := by simp
        have hown2' : wa.ownsRow w.heap.size 65 2 v1 (out ++ [(⟨m, v⟩ : Kv)]).length (flat (out ++ [⟨m, v⟩])) := by rw [hlo]; exact hown2
        clear hown2 hown hB q0 q1 hblr
        generalize hO : out ++ [(⟨m, v⟩ : Kv)] = O at hown2' hlo HN
        have hOl : O.length ≤ 1000 := by omega
        have hown2_al := hown2'.alloc (.cells #[.string x.n, .string x.v] 65)
        have hBa_al := hBa.alloc hBa.size (.cells #[.string x.n, .string x.v] 65)
        have b2 := hBa_al.size
        go_wp2_with (at_builtin; refine wpList_append_src _ rfl (.tmp 69) (.tmp 74) 62 rfl w.heap.size 65 i0 (.agg #[.string ⟨#[]⟩, .string ⟨#[]⟩]) 2 32 Try.underlying62 hi0 hz0 hz1 hz2 rfl (by decide) _ O.length (flat O) rfl hown2_al (some ⟨wa.heap.size, 0, none⟩) 1 1 (flat [x]) rfl rfl (.inr ⟨_, rfl, new2 wa _⟩) (flat_one _) (by unfold maxLen; omega) (by omega) b2 ?_)
        intro v2 wb hown3 g2 _
        have hBb := hBa_al.grown g2 b2 (fun q e => (hown2'.lt q e).1)
        rw [← flat_append] at hown3
        clear g2 b2 hown2_al hBa_al
        clear hown2' hBa q2 q3
        go_wp2
        go_roundw
        case rel => exact ⟨k + 1, ⟨O ++ [x], old, there, true⟩, by omega, by go_num, HN.out, by dsimp only; rw [List.length_append, hlo]; simp; omega, rfl, rfl, rfl, by dsimp only; rw [List.length_append, hlo]; exact hown3, hBb⟩
        case measure => simp [intOf]; omega
      · have HN : Hid ((l.take (k + 1)).foldl (stepR m v) ⟨[], ByteArray.empty, false, true⟩ = ⟨out ++ [x], old, there, laid⟩) := HST.out.trans (stepR_on HNE.out (by
          rw [HT.out]
          rcases hor with e | ⟨e1, e2⟩
          · rw [e]; simp
          · rw [e2]; simp))
        have hol : out.length ≤ 1000 := by omega
        rcases hor with rfl | ⟨rfl, rfl⟩
        all_goals
          have hown_al := hown.alloc (.cells #[.string x.n, .string x.v] 65)
          have hB_al := hB.alloc hB.size (.cells #[.string x.n, .string x.v] 65)
          have b2 := hB_al.size
          go_wp2_with (at_builtin; refine wpList_append_src _ rfl (.tmp 69) (.tmp 74) 62 rfl w.heap.size 65 i0 (.agg #[.string ⟨#[]⟩, .string ⟨#[]⟩]) 2 32 Try.underlying62 hi0 hz0 hz1 hz2 rfl (by decide) _ out.length (flat out) rfl hown_al (some ⟨wr.heap.size, 0, none⟩) 1 1 (flat [x]) rfl rfl (.inr ⟨_, rfl, new2 wr _⟩) (flat_one _) (by unfold maxLen; omega) (by omega) b2 ?_)
          intro v2 wb hown3 g2 _
          have hBb := hB_al.grown g2 b2 (fun q e => (hown.lt q e).1)
          rw [← flat_append] at hown3
          clear g2 b2 hown_al hB_al
          clear hown hB q0 q1
          go_wp2
          go_roundw
          case rel => exact ⟨k + 1, ⟨out ++ [x], old, there, _⟩, by omega, by go_num, HN.out, by dsimp only; rw [List.length_append]; simp; omega, rfl, rfl, rfl, by dsimp only; rw [List.length_append]; exact hown3, hBb⟩
          case measure => simp [intOf]; omega
    · have HL : Hid (l.foldl (stepR m v) ⟨[], ByteArray.empty, false, true⟩ = ⟨out, old, there, laid⟩) := by
        show _ = _
        rw [← HFO.out, List.take_of_length_le (by omega)]
      have f1 := fold_laid m v ⟨[], ByteArray.empty, false, true⟩ hs rfl
      rw [HL.out] at f1
      have hol : out.length ≤ 1000 := by omega
      obtain ⟨rfl, rfl, rfl, rfl⟩ : out = drpL l m ∧ old = oldOf ByteArray.empty (fnd l m) ∧ there = (fnd l m).isSome ∧ laid = true := by
        injection f1 with f1 f2 f3 f4
        exact ⟨by rw [f1]; rfl, f2, by rw [f3]; rfl, f4⟩
      clear f1 HL HFO hlen
      obtain ⟨ao, cp, rfl, z1, z2, hk3⟩ := kvm_of_owns hown
      clear hown
      have hd4 := drp_len (m := m) hs h4
      have d4 : decide (4 < ((drpL l m).length : Int)) = false := decide_eq_false (by omega)
      cases hfd : fnd l m with
      | none =>
        have E := ra_none (v := v) HFN.out hfd hq
        have E3 : Hid _ := E
        clear E
        clear hfd
        go_wp2
        go_ret3
        exact Told.none E3.out.1 E3.out.2.1 E3.out.2.2 hB
      | some x =>
        by_cases hq0 : q = 0
        · subst hq0
          have E := ra_get (v := v) HFN.out hfd
          have E3 : Hid _ := E
          clear E
          clear hfd
          go_wp2
          go_ret3
          exact Told.none E3.out.1 E3.out.2.1 E3.out.2.2 hB
        · have E := ra_drp (v := v) HFN.out hfd hq hq0
          have E3 : Hid _ := E
          clear E
          have d0 : (q == 0) = false := by simpa using hq0
          clear hfd hq0
          go_wp2
          go_ret3
          exact Told.some E3.out.1 E3.out.2.1 E3.out.2.2 hk3 hB

end Go.Proofs.Ytpjhckjmahagnaa
