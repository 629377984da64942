/-
  WHAT attr.find DOES, by sort.Search: the walks.
-/
import Derived.Test.YtpjhckjmahagnaaAg
import Derived.Shelf.SlSorted.Search
namespace Go.Proofs
open Go.Shelf
def Try.searchRen : Go.Shelf.Ren := ⟨fun | 16 => 83 | n => n, fun | 35 => 92 | 38 => 104 | n => n, fun n => n⟩
theorem Try.searchLaid : SlLaysO.n16 Try.prog Try.searchRen := {
  mixed := by kernel_rfl
  f16 := Try.func83.trans (congrArg some (by kernel_rfl))
  t3 := Try.underlying3
  a3 := Try.isAgg3
  z3 := Try.sizeOf3
  v3 := Try.zeroValue3
  t4 := Try.underlying4
  a4 := Try.isAgg4
  z4 := Try.sizeOf4
  v4 := Try.zeroValue4
  t35 := Try.underlying92
  a35 := Try.isAgg92
  z35 := Try.sizeOf92
  v35 := Try.zeroValue92
  t38 := Try.underlying104
  a38 := Try.isAgg104
  z38 := Try.sizeOf104
  v38 := Try.zeroValue104 }
end Go.Proofs
namespace Go.Proofs.Ytpjhckjmahagnaa
open Go.RowKit Go.Sort

set_option maxRecDepth 100000 in
set_option maxHeartbeats 1000000 in
/-- The closure: is the k-th name not below? -/
theorem closure_any (b1 b2 b off n cap k : Nat) (x m : ByteArray) (w : World) (hk : k < n) (h1 : w.cell? ⟨b1, 0, none⟩ = some (.slice (some ⟨b, off, none⟩) n cap)) (h2 : w.cell? ⟨b2, 0, none⟩ = some (.string m)) (h3 : w.cell? ⟨b, off + k * 2, none⟩ = some (.string x)) :
    Calls Try.prog 84 (#[.int .i64 k] ++ #[.pointer (some ⟨b1, 0, none⟩), .pointer (some ⟨b2, 0, none⟩)]) w fun e w' => e = .returned (.bool !(ltB x m)) ∧ ∃ q, w' = w.drewN q := by
  have hki : (k : Int) < (n : Int) := by omega
  obtain ⟨t, ht⟩ : ∃ t, Op.bytesLess x.toList m.toList = t := ⟨_, rfl⟩
  have HT : Hid (ltB x m = t) := ht
  show Calls Try.prog 84 #[.int .i64 k, .pointer (some ⟨b1, 0, none⟩), .pointer (some ⟨b2, 0, none⟩)] _ _
  go_enter Try.func84, Try.ntmps84
  go_wp2
  go_quiet (fail)
  go_wp2
  go_ret
  exact ⟨ret_bool (by rw [HT.out]), _, rfl⟩

/-- Is the k-th name not below? -/
def notB (l : List Kv) (m : ByteArray) (k : Nat) : Bool := match l[k]? with
  | some x => !ltB x.n m
  | none => true
theorem count_plc (l : List Kv) (m : ByteArray) : (List.range l.length).countP (fun i => !notB l m i) = plc l m := by
  have e1 : plc l m = (l.map some).countP (fun o : Option Kv => match o with | some x => ltB x.n m | none => false) := by rw [List.countP_map]; rfl
  have e2 : l.map some = (List.range l.length).map (fun i => l[i]?) := by
    apply List.ext_getElem
    · simp
    · intro i h1 h2; simp at h1 h2 ⊢
  rw [e1, e2, List.countP_map]
  congr 1
  funext i
  simp only [Function.comp, notB]
  cases l[i]? <;> simp
theorem notB_mono {l : List Kv} (m : ByteArray) (h : Srt l) : ∀ a b, a ≤ b → b < l.length → notB l m a = true → notB l m b = true := by
  intro a b hab hb ha
  unfold notB at ha ⊢
  rw [List.getElem?_eq_getElem (by omega)] at ha ⊢
  simp only [Bool.not_eq_true'] at ha ⊢
  by_cases e : a = b
  · subst e; exact ha
  · have hlt := List.pairwise_iff_getElem.1 h a b (by omega) (by omega) (by omega)
    cases hq : ltB (l[b]).n m with
    | false => rfl
    | true => rw [ltB_trans hlt hq] at ha; cases ha

theorem search_any (b1 b2 cap : Nat) (a : Option Addr) (l : List Kv) (m : ByteArray) (w : World) (hl : l.length ≤ 1000) (hs : Srt l) (h : Kvm w a l) (h1 : w.cell? ⟨b1, 0, none⟩ = some (.slice a l.length cap)) (h2 : w.cell? ⟨b2, 0, none⟩ = some (.string m)) :
    Calls Try.prog 83 #[.int .i64 l.length, .func (.func 84) #[] #[.pointer (some ⟨b1, 0, none⟩), .pointer (some ⟨b2, 0, none⟩)]] w fun e w' => e = .returned (.int .i64 (plc l m)) ∧ Below w.heap.size w w' := by
  have eg : ∀ args w, (callFunc 84 args).run Try.prog w = .ok (.enter 84 args) w := enters_of Try.func84 (by kernel_rfl) rfl
  have hb1 : b1 < w.heap.size := World.block_lt_of_cell? _ _ h1
  have hb2 : b2 < w.heap.size := World.block_lt_of_cell? _ _ h2
  have hS := Any.sort_Search Try.searchLaid 84 #[.pointer (some ⟨b1, 0, none⟩), .pointer (some ⟨b2, 0, none⟩)] l.length (notB l m) w eg (by omega)
    (fun q os i hi => by
      rcases h with rfl | ⟨b, off, rfl, hc⟩
      · simp at hi
      · obtain ⟨x, hx⟩ : ∃ x, l[i]? = some x := ⟨l[i], by simp [hi]⟩
        obtain ⟨q0, _⟩ := hc i x hx
        have hbl : b < w.heap.size := World.block_lt_of_cell? _ _ q0
        have e : notB l m i = !(ltB x.n m) := by unfold notB; rw [hx]
        rw [e]
        exact (closure_any b1 b2 b off l.length cap i x.n m _ hi (cell_grown hb1 h1 q os) (cell_grown hb2 h2 q os) (cell_grown hbl q0 q os)).mono fun _ _ ⟨he, r, hr⟩ => ⟨he, r, #[], by rw [hr, grow_empty]⟩)
    (notB_mono m hs)
  rw [count_plc] at hS
  change Calls Try.prog 83 _ _ _ at hS
  refine hS.mono fun e w' ⟨he, q, os, hw⟩ => ⟨he, ?_⟩
  rw [hw]
  exact below_grown_sl _ w q os (Nat.le_refl _)

/-- Is what stands at the place the name's? -/
theorem there_at {l : List Kv} {m : ByteArray} (h : Srt l) : (plc l m < l.length ∧ ∃ x, l[plc l m]? = some x ∧ ((x.n = m ∧ fnd l m = some x) ∨ (x.n ≠ m ∧ fnd l m = none))) ∨ (plc l m = l.length ∧ fnd l m = none) := by
  cases hf : fnd l m with
  | some x =>
    obtain ⟨h1, _⟩ := at_plc m h hf
    exact .inl ⟨(List.getElem?_eq_some_iff.1 h1).1, x, h1, .inl ⟨(fnd_some hf).2, rfl⟩⟩
  | none =>
    obtain ⟨_, h2⟩ := at_plc_none m h hf
    by_cases hp : plc l m < l.length
    · exact .inl ⟨hp, l[plc l m], List.getElem?_eq_getElem _, .inr ⟨h2 _ (List.getElem?_eq_getElem _), rfl⟩⟩
    · exact .inr ⟨by have := plc_le l m; omega, rfl⟩

/-- What find answers. -/
def fplc (l : List Kv) (m : ByteArray) : Int := if fndF l m = 0 then (plc l m : Int) else 0
def fthr (l : List Kv) (m : ByteArray) : Bool := decide (fndF l m = 0) && (fnd l m).isSome
theorem ret_three {a a' : Int} {b b' : Bool} {e e' : Value} (h1 : a' = a) (h2 : b' = b) (h3 : e' = e) : Ending.returned (.tuple #[.int .i64 a, .bool b, e]) = .returned (.tuple #[.int .i64 a', .bool b', e']) := by rw [h1, h2, h3]

set_option maxRecDepth 100000 in
set_option maxHeartbeats 1000000 in
theorem find_any (a : Option Addr) (cap : Nat) (l : List Kv) (m : ByteArray) (w : World) (hl : l.length ≤ 1000) (hlow : Low l) (hm : m.size ≤ 1000) (h : Kvm w a l) :
    Calls Try.prog 77 #[.slice a l.length cap, .string m] w fun e w' => (e = .returned (.tuple #[.int .i64 (fplc l m), .bool (fthr l m), errV (fndF l m)])) ∧ Below w.heap.size w w' := by
  have hB0 : Below w.heap.size w ((w.alloc (.cells #[.slice a l.length cap] 62)).alloc (.cells #[.string m] 9)) := ((Below.refl _ w).alloc (Nat.le_refl _) _).alloc (by simp) _
  have c1 : ((w.alloc (.cells #[.slice a l.length cap] 62)).alloc (.cells #[.string m] 9)).cell? ⟨w.heap.size, 0, none⟩ = some (.slice a l.length cap) := cell_alloc_sl _ (cell_new_sl w _ _)
  have c2 : ((w.alloc (.cells #[.slice a l.length cap] 62)).alloc (.cells #[.string m] 9)).cell? ⟨w.heap.size + 1, 0, none⟩ = some (.string m) := by
    have := cell_new_sl (w.alloc (.cells #[.slice a l.length cap] 62)) (.string m) 9; rwa [World.size_alloc] at this
  by_cases hc : chkA l = 0
  rotate_left
  · have HF : Hid (fndF l m = chkA l) := by show _ = _; unfold fndF; rw [if_pos hc]
    have HC : Hid (chkA l ≠ 0) := hc
    clear c1 c2
    go_enter Try.func77, Try.ntmps77
    go_wp2_with fail
    refine (check_any a cap l _ hl hlow (h.below hB0)).mono ?_
    rintro e w1 ⟨rfl, hB1⟩
    rw [errV_of rfl HC.out]
    clear hc
    have hB2 := hB0.trans (hB1.mono hB0.size)
    clear hB0 hB1
    go_wp2
    go_ret3
    have HN : ¬ fndF l m = 0 := by rw [HF.out]; exact HC.out
    exact ⟨ret_three (by unfold fplc; rw [if_neg HN]) (by unfold fthr; rw [decide_eq_false HN]; rfl) (by rw [HF.out, errV_of rfl HC.out]; rfl), hB2⟩
  have HC : Hid (chkA l = 0) := hc
  clear hc
  obtain ⟨c, hcl⟩ : ∃ c, classB m = c := ⟨_, rfl⟩
  have HCL : Hid (classB m = c) := hcl
  clear hcl
  by_cases hc0 : c = 0
  · subst hc0
    have HF : Hid (fndF l m = 4) := by show _ = _; unfold fndF; rw [if_neg (by simpa using HC.out), if_pos HCL.out]
    have hk := h.below hB0
    have hz : ((w.alloc (.cells #[.slice a l.length cap] 62)).alloc (.cells #[.string m] 9)).heap.size = w.heap.size + 2 := by simp
    go_enter Try.func77, Try.ntmps77
    go_wp2_with fail
    refine (check_any a cap l _ hl hlow hk).mono ?_
    rintro e w1 ⟨rfl, hB1⟩
    rw [errV_nil HC.out]
    have d1 : w1.cell? ⟨w.heap.size, 0, none⟩ = some (.slice a l.length cap) := (hB1.cell (p := ⟨w.heap.size, 0, none⟩) (by rw [hz]; simp)).trans c1
    have d2 : w1.cell? ⟨w.heap.size + 1, 0, none⟩ = some (.string m) := (hB1.cell (p := ⟨w.heap.size + 1, 0, none⟩) (by rw [hz]; simp)).trans c2
    have hB2 := hB0.trans (hB1.mono hB0.size)
    clear hB0 hB1 c1 c2 hk hz
    go_wp2_with fail
    refine (class_any m _ hm).mono ?_
    rintro e w' ⟨rfl, nq, rfl⟩
    rw [HCL.out]
    go_wp2
    go_ret3
    have HN : ¬ fndF l m = 0 := by rw [HF.out]; decide
    exact ⟨ret_three (by unfold fplc; rw [if_neg HN]) (by unfold fthr; rw [decide_eq_false HN]; rfl) (by rw [HF.out]; rfl), below_drewN hB2 _⟩
  have HF : Hid (fndF l m = 0) := by show _ = _; unfold fndF; rw [if_neg (by simpa using HC.out), if_neg (by rw [HCL.out]; exact hc0)]
  have hs : Srt l := ((good_iff l).1 HC.out).2.2
  have hk := h.below hB0
  have hz : ((w.alloc (.cells #[.slice a l.length cap] 62)).alloc (.cells #[.string m] 9)).heap.size = w.heap.size + 2 := by simp
  have bc : (c == 0) = false := by simpa using hc0
  clear hc0
  obtain ⟨p, hp⟩ : ∃ p, plc l m = p := ⟨_, rfl⟩
  have HP : Hid (plc l m = p) := hp
  have hT := there_at (m := m) hs
  rw [hp] at hT
  clear hp
  go_enter Try.func77, Try.ntmps77
  go_wp2_with fail
  refine (check_any a cap l _ hl hlow hk).mono ?_
  rintro e w1 ⟨rfl, hB1⟩
  rw [errV_nil HC.out]
  have d1 : w1.cell? ⟨w.heap.size, 0, none⟩ = some (.slice a l.length cap) := (hB1.cell (p := ⟨w.heap.size, 0, none⟩) (by rw [hz]; simp)).trans c1
  have d2 : w1.cell? ⟨w.heap.size + 1, 0, none⟩ = some (.string m) := (hB1.cell (p := ⟨w.heap.size + 1, 0, none⟩) (by rw [hz]; simp)).trans c2
  have hB2 := hB0.trans (hB1.mono hB0.size)
  clear hB0 hB1 c1 c2 hk hz
  go_wp2_with fail
  refine (class_any m _ hm).mono ?_
  rintro e w' ⟨rfl, nq, rfl⟩
  rw [HCL.out]
  have hB3 := below_drewN hB2 nq
  have d3 : (w1.drewN nq).cell? ⟨w.heap.size, 0, none⟩ = some (.slice a l.length cap) := d1
  have d4 : (w1.drewN nq).cell? ⟨w.heap.size + 1, 0, none⟩ = some (.string m) := d2
  clear d1 d2 hB2
  generalize w1.drewN nq = w2 at hB3 d3 d4 ⊢
  generalize w.heap.size = b1 at d3 d4 ⊢
  go_wp2_with fail
  refine (search_any b1 (b1 + 1) cap a l m _ hl hs (h.below hB3) d3 d4).mono ?_
  rintro e w3 ⟨rfl, hB4⟩
  rw [HP.out]
  have d5 : w3.cell? ⟨b1, 0, none⟩ = some (.slice a l.length cap) := (hB4.cell (p := ⟨b1, 0, none⟩) (World.block_lt_of_cell? _ _ d3)).trans d3
  have d6 : w3.cell? ⟨b1 + 1, 0, none⟩ = some (.string m) := (hB4.cell (p := ⟨b1 + 1, 0, none⟩) (World.block_lt_of_cell? _ _ d4)).trans d4
  have hB5 := hB3.trans (hB4.mono hB3.size)
  have hk5 := h.below hB5
  clear d3 d4 hB4 hB3 h
  have HFP : Hid (fplc l m = p) := by show _ = _; unfold fplc; rw [if_pos HF.out, HP.out]
  have HFT : Hid (fthr l m = (fnd l m).isSome) := by show _ = _; unfold fthr; rw [decide_eq_true HF.out]; rfl
  rcases hT with ⟨hlt, x, hx, hT⟩ | ⟨heq, hT⟩
  · have hpi : (p : Int) < (l.length : Int) := by omega
    rcases hk5 with rfl | ⟨b, off, rfl, hcells⟩
    · simp at hlt
    obtain ⟨q0, _⟩ := hcells p x hx
    clear hcells hx
    rcases hT with ⟨hn, hf⟩ | ⟨hn, hf⟩
    · have bn : (x.n.toList == m.toList) = true := by rw [hn]; simp
      have HT : Hid (fthr l m = true) := by show _ = _; rw [HFT.out, hf]; rfl
      clear hn hf
      go_wp2
      go_quiet (fail)
      go_wp2
      go_ret3
      exact ⟨ret_three HFP.out HT.out (errV_nil HF.out), below_drewN hB5 _⟩
    · have bn : (x.n.toList == m.toList) = false := by simp; exact fun e => hn (toList_inj e)
      have HT : Hid (fthr l m = false) := by show _ = _; rw [HFT.out, hf]; rfl
      clear hn hf
      go_wp2
      go_quiet (fail)
      go_wp2
      go_ret3
      exact ⟨ret_three HFP.out HT.out (errV_nil HF.out), below_drewN hB5 _⟩
  · have hpi : decide ((p : Int) < (l.length : Int)) = false := decide_eq_false (by omega)
    have HT : Hid (fthr l m = false) := by show _ = _; rw [HFT.out, hT]; rfl
    have hge : ¬ p < l.length := by omega
    clear hT heq
    go_wp2
    go_quiet (fail)
    go_wp2
    go_ret3
    exact ⟨ret_three HFP.out HT.out (errV_nil HF.out), below_drewN hB5 _⟩
end Go.Proofs.Ytpjhckjmahagnaa
