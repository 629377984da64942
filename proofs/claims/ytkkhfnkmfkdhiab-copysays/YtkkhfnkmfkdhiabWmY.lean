/-
  WHAT place AND above DO, by slices.IndexFunc; slices.Grow AND slices.Concat OF KIDS: the walks.
-/
import Derived.Test.YtkkhfnkmfkdhiabWiY
import Derived.Lib.AppendZeros
import Derived.Test.YtkkhfnkmfkdhiabNaX
namespace Go.Proofs.Ytkkhfnkmfkdhiab
open Go.RowKit

/-- The first kid whose name is such. -/
def idxI (p : ByteArray → Bool) : Kds → Nat → Int
  | [], _ => -1
  | q :: l, i => if p q.1 = true then (i : Int) else idxI p l (i + 1)
theorem idxI_drop {p : ByteArray → Bool} {n : ByteArray} {ks : Kds} {j : Nat} {x : Nd} (h : ks[j]? = some (n, x)) : idxI p (ks.drop j) j = if p n = true then (j : Int) else idxI p (ks.drop (j + 1)) (j + 1) := by
  obtain ⟨hlt, he⟩ := List.getElem?_eq_some_iff.1 h
  rw [List.drop_eq_getElem_cons hlt, he, idxI]
theorem idxI_kid (m : ByteArray) : ∀ (ks : Kds) (i : Nat), idxI (fun n => decide (n = m)) ks i = kidI m ks i
  | [], i => rfl
  | q :: l, i => by rw [idxI, kidI, idxI_kid m l (i + 1)]; simp
theorem idxI_abv (m : ByteArray) : ∀ (ks : Kds) (i : Nat), (idxI (fun n => ltB m n) ks i = -1 ∧ abvN m ks = ks.length) ∨ (idxI (fun n => ltB m n) ks i = ((i + abvN m ks : Nat) : Int) ∧ abvN m ks < ks.length)
  | [], i => .inl ⟨rfl, rfl⟩
  | q :: l, i => by
    rw [idxI]
    have e : abvN m (q :: l) = if ltB m q.1 = true then 0 else abvN m l + 1 := by
      unfold abvN
      rw [List.findIdx_cons]
      cases ltB m q.1 <;> simp
    by_cases hq : ltB m q.1 = true
    · rw [if_pos hq, e, if_pos hq]; right; exact ⟨by simp, by simp⟩
    · rw [if_neg hq, e, if_neg hq]
      rcases idxI_abv m l (i + 1) with ⟨h1, h2⟩ | ⟨h1, h2⟩
      · left; exact ⟨h1, by simp [h2]⟩
      · right; exact ⟨by rw [h1]; congr 1; omega, by simp; omega⟩
theorem gtr_eq (a b : ByteArray) : (!Op.bytesLess a.toList b.toList && !(a.toList == b.toList)) = ltB b a := by
  have h := leq_eq a b
  have : (!Op.bytesLess a.toList b.toList && !(a.toList == b.toList)) = !(Op.bytesLess a.toList b.toList || a.toList == b.toList) := by cases Op.bytesLess a.toList b.toList <;> cases (a.toList == b.toList) <;> rfl
  rw [this, h]; simp
theorem eql_eq (a b : ByteArray) : (a.toList == b.toList) = decide (a = b) := by
  rw [Bool.eq_iff_iff]; simp
  exact ⟨toList_inj, fun e => by rw [e]⟩
/-- A kid's value. -/
def kdV (n : ByteArray) : Nd → Hd → Value
  | .mk k m u g o at_ d ks, h => .agg #[.string n, .int .i64 k, .int .i64 m, .int .i64 u, .int .i64 g, .bool o, .slice h.aa at_.length h.ca, .string d, .slice h.ak ks.length h.ck]
theorem KBx.newW (w : World) (n : ByteArray) (k m u g : Int) (o : Bool) (at_ : List Kv) (d : ByteArray) (ks : Kds) (h : Hd) (t : TypeId) :
    (w.alloc (.cells #[.string n, .int .i64 k, .int .i64 m, .int .i64 u, .int .i64 g, .bool o, .slice h.aa at_.length h.ca, .string d, .slice h.ak ks.length h.ck] t)).cell? ⟨w.heap.size, 0, none⟩ = some (.string n) := World.cell?_alloc_at _ _ _ _ rfl

set_option maxRecDepth 100000 in
set_option maxHeartbeats 1000000 in
theorem place1_any (n m : ByteArray) (x : Nd) (h : Hd) (bp : Nat) (w : World) (hc : w.cell? ⟨bp, 0, none⟩ = some (.string m)) :
    Calls Try.prog 107 #[kdV n x h, .pointer (some ⟨bp, 0, none⟩)] w fun e w' => e = .returned (.bool (decide (n = m))) ∧ Below w.heap.size w w' := by
  obtain ⟨k, mo, u, g, o, at_, d, ks⟩ := x
  have hB : Below w.heap.size w (w.alloc (.cells #[.string n, .int .i64 k, .int .i64 mo, .int .i64 u, .int .i64 g, .bool o, .slice h.aa at_.length h.ca, .string d, .slice h.ak ks.length h.ck] 102)) := (Below.refl _ _).alloc (Nat.le_refl _) _
  have c0 := KBx.newW w n k mo u g o at_ d ks h 102
  have c1 : (w.alloc (.cells #[.string n, .int .i64 k, .int .i64 mo, .int .i64 u, .int .i64 g, .bool o, .slice h.aa at_.length h.ca, .string d, .slice h.ak ks.length h.ck] 102)).cell? ⟨bp, 0, none⟩ = some (.string m) := (hB.cell (p := ⟨bp, 0, none⟩) (World.block_lt_of_cell? _ _ hc)).trans hc
  have hlt : bp < w.heap.size := World.block_lt_of_cell? _ _ hc
  show Calls Try.prog 107 #[.agg #[.string n, .int .i64 k, .int .i64 mo, .int .i64 u, .int .i64 g, .bool o, .slice h.aa at_.length h.ca, .string d, .slice h.ak ks.length h.ck], .pointer (some ⟨bp, 0, none⟩)] _ _
  go_enter Try.func107, Try.ntmps107
  go_wp2
  go_ret
  exact ⟨ret_bool (by rw [← eql_eq]), hB⟩

set_option maxRecDepth 100000 in
set_option maxHeartbeats 1000000 in
theorem placex_any (a : Option Addr) (cap bp : Nat) (ks : Kds) (m : ByteArray) (w : World) (hl : ks.length ≤ 1000) (h : KsV w.cell? a ks) (hc : w.cell? ⟨bp, 0, none⟩ = some (.string m)) :
    Calls Try.prog 106 #[.slice a ks.length cap, .func (.func 107) #[] #[.pointer (some ⟨bp, 0, none⟩)]] w fun e w' => e = .returned (.int .i64 (idxI (fun n => decide (n = m)) ks 0)) ∧ Below w.heap.size w w' := by
  obtain ⟨R, HR⟩ : ∃ R, Hid (idxI (fun n => decide (n = m)) ks 0 = R) := ⟨_, rfl⟩
  rw [HR.out]
  have HC : Hid (w.cell? ⟨bp, 0, none⟩ = some (.string m)) := hc
  have HK : Hid (KsV w.cell? a ks) := h
  have hbp : bp < w.heap.size := World.block_lt_of_cell? _ _ hc
  clear hc h
  by_cases hks : ks = []
  · subst hks
    have HR2 : Hid (R = -1) := HR.out.symm
    go_enter Try.func106, Try.ntmps106
    go_wp2
    go_loop [8] (fun i => i = .int .i64 0) (fun _ => 0)
    case atStart => rfl
    case round =>
      subst hrel
      go_wp2
      go_ret
      exact ⟨ret_num HR2.out.symm, Below.refl _ _⟩
  obtain ⟨b, off, rfl, f, hf⟩ : ∃ b off, a = some ⟨b, off, none⟩ ∧ ∃ f : Nat → Hd, ∀ i n x, ks[i]? = some (n, x) → KdAt w.cell? b (off + i * 9) n x (f i) := by
    rcases HK.out with e | ⟨b, off, e, f, hf⟩
    · exact absurd e hks
    · exact ⟨b, off, e, f, fun i n x hi => (hf i n x hi).1⟩
  have HF : Hid (∀ i n x, ks[i]? = some (n, x) → KdAt w.cell? b (off + i * 9) n x (f i)) := hf
  clear hf hks HK
  go_enter Try.func106, Try.ntmps106
  go_wp2
  go_loopw [8] (fun i wr => ∃ j : Nat, j ≤ ks.length ∧ i = .int .i64 j ∧ Hid (R = idxI (fun n => decide (n = m)) (ks.drop j) j) ∧ Below w.heap.size w wr) (fun i _ => ks.length - (intOf i).toNat)
  case atStart => exact ⟨0, Nat.zero_le _, rfl, HR.out.symm, Below.refl _ _⟩
  case round =>
    obtain ⟨j, hj, rfl, HJ, hB⟩ := hrel
    by_cases hjl : j < ks.length
    rotate_left
    · have hji : decide ((j : Int) < (ks.length : Int)) = false := decide_eq_false (by omega)
      have HR2 : Hid (R = -1) := by show _ = _; rw [HJ.out, List.drop_of_length_le (by omega), idxI]
      go_wp2
      go_ret
      exact ⟨ret_num HR2.out.symm, hB⟩
    have hji : (j : Int) < (ks.length : Int) := by omega
    obtain ⟨⟨n, x⟩, hx⟩ : ∃ x, ks[j]? = some x := ⟨ks[j], by simp [hjl]⟩
    have hK := (HF.out j n x hx).below hB
    have hc2 : wr.cell? ⟨bp, 0, none⟩ = some (.string m) := (hB.cell (p := ⟨bp, 0, none⟩) hbp).trans HC.out
    have HD : Hid (R = if (decide (n = m)) = true then (j : Int) else idxI (fun n => decide (n = m)) (ks.drop (j + 1)) (j + 1)) := HJ.out.trans (idxI_drop hx)
    clear hx HJ
    generalize f j = hd1 at hK
    have hcl := place1_any n m x hd1 bp wr hc2
    have HCL : Hid (Calls Try.prog 107 #[kdV n x hd1, .pointer (some ⟨bp, 0, none⟩)] wr fun e w' => e = .returned (.bool (decide (n = m))) ∧ Below wr.heap.size wr w') := hcl
    obtain ⟨t, ht⟩ : ∃ t, (decide (n = m)) = t := ⟨_, rfl⟩
    rw [ht] at HD HCL
    clear ht hcl hc2
    obtain ⟨k', m', u', g', o', at', d', ks'⟩ := x
    obtain ⟨p0, p1, p2, p3, p4, p5, p6, p7, p8⟩ := hK.nine
    clear hK
    go_wp2_with fail
    refine HCL.out.mono ?_
    rintro e w2 ⟨rfl, c2⟩
    have hB2 := hB.trans (c2.mono hB.size)
    clear p0 p1 p2 p3 p4 p5 p6 p7 p8 c2 hB HCL
    cases t
    · have HN : Hid (R = idxI (fun n => decide (n = m)) (ks.drop (j + 1)) (j + 1)) := by show _ = _; rw [HD.out, if_neg (by simp)]
      go_wp2
      go_roundw
      case rel => exact ⟨j + 1, by omega, by go_num, HN.out, hB2⟩
      case measure => simp [intOf]; omega
    · have HN : Hid (R = j) := by show _ = _; rw [HD.out, if_pos rfl]
      go_wp2
      go_ret
      exact ⟨ret_num HN.out.symm, hB2⟩

set_option maxRecDepth 100000 in
set_option maxHeartbeats 1000000 in
theorem above1_any (n m : ByteArray) (x : Nd) (h : Hd) (bp : Nat) (w : World) (hc : w.cell? ⟨bp, 0, none⟩ = some (.string m)) :
    Calls Try.prog 111 #[kdV n x h, .pointer (some ⟨bp, 0, none⟩)] w fun e w' => e = .returned (.bool (ltB m n)) ∧ Below w.heap.size w w' := by
  obtain ⟨k, mo, u, g, o, at_, d, ks⟩ := x
  have hB : Below w.heap.size w (w.alloc (.cells #[.string n, .int .i64 k, .int .i64 mo, .int .i64 u, .int .i64 g, .bool o, .slice h.aa at_.length h.ca, .string d, .slice h.ak ks.length h.ck] 102)) := (Below.refl _ _).alloc (Nat.le_refl _) _
  have c0 := KBx.newW w n k mo u g o at_ d ks h 102
  have c1 : (w.alloc (.cells #[.string n, .int .i64 k, .int .i64 mo, .int .i64 u, .int .i64 g, .bool o, .slice h.aa at_.length h.ca, .string d, .slice h.ak ks.length h.ck] 102)).cell? ⟨bp, 0, none⟩ = some (.string m) := (hB.cell (p := ⟨bp, 0, none⟩) (World.block_lt_of_cell? _ _ hc)).trans hc
  have hlt : bp < w.heap.size := World.block_lt_of_cell? _ _ hc
  show Calls Try.prog 111 #[.agg #[.string n, .int .i64 k, .int .i64 mo, .int .i64 u, .int .i64 g, .bool o, .slice h.aa at_.length h.ca, .string d, .slice h.ak ks.length h.ck], .pointer (some ⟨bp, 0, none⟩)] _ _
  go_enter Try.func111, Try.ntmps111
  go_wp2
  go_ret
  exact ⟨ret_bool (by rw [← gtr_eq]), hB⟩

set_option maxRecDepth 100000 in
set_option maxHeartbeats 1000000 in
theorem abovex_any (a : Option Addr) (cap bp : Nat) (ks : Kds) (m : ByteArray) (w : World) (hl : ks.length ≤ 1000) (h : KsV w.cell? a ks) (hc : w.cell? ⟨bp, 0, none⟩ = some (.string m)) :
    Calls Try.prog 106 #[.slice a ks.length cap, .func (.func 111) #[] #[.pointer (some ⟨bp, 0, none⟩)]] w fun e w' => e = .returned (.int .i64 (idxI (fun n => ltB m n) ks 0)) ∧ Below w.heap.size w w' := by
  obtain ⟨R, HR⟩ : ∃ R, Hid (idxI (fun n => ltB m n) ks 0 = R) := ⟨_, rfl⟩
  rw [HR.out]
  have HC : Hid (w.cell? ⟨bp, 0, none⟩ = some (.string m)) := hc
  have HK : Hid (KsV w.cell? a ks) := h
  have hbp : bp < w.heap.size := World.block_lt_of_cell? _ _ hc
  clear hc h
  by_cases hks : ks = []
  · subst hks
    have HR2 : Hid (R = -1) := HR.out.symm
    go_enter Try.func106, Try.ntmps106
    go_wp2
    go_loop [8] (fun i => i = .int .i64 0) (fun _ => 0)
    case atStart => rfl
    case round =>
      subst hrel
      go_wp2
      go_ret
      exact ⟨ret_num HR2.out.symm, Below.refl _ _⟩
  obtain ⟨b, off, rfl, f, hf⟩ : ∃ b off, a = some ⟨b, off, none⟩ ∧ ∃ f : Nat → Hd, ∀ i n x, ks[i]? = some (n, x) → KdAt w.cell? b (off + i * 9) n x (f i) := by
    rcases HK.out with e | ⟨b, off, e, f, hf⟩
    · exact absurd e hks
    · exact ⟨b, off, e, f, fun i n x hi => (hf i n x hi).1⟩
  have HF : Hid (∀ i n x, ks[i]? = some (n, x) → KdAt w.cell? b (off + i * 9) n x (f i)) := hf
  clear hf hks HK
  go_enter Try.func106, Try.ntmps106
  go_wp2
  go_loopw [8] (fun i wr => ∃ j : Nat, j ≤ ks.length ∧ i = .int .i64 j ∧ Hid (R = idxI (fun n => ltB m n) (ks.drop j) j) ∧ Below w.heap.size w wr) (fun i _ => ks.length - (intOf i).toNat)
  case atStart => exact ⟨0, Nat.zero_le _, rfl, HR.out.symm, Below.refl _ _⟩
  case round =>
    obtain ⟨j, hj, rfl, HJ, hB⟩ := hrel
    by_cases hjl : j < ks.length
    rotate_left
    · have hji : decide ((j : Int) < (ks.length : Int)) = false := decide_eq_false (by omega)
      have HR2 : Hid (R = -1) := by show _ = _; rw [HJ.out, List.drop_of_length_le (by omega), idxI]
      go_wp2
      go_ret
      exact ⟨ret_num HR2.out.symm, hB⟩
    have hji : (j : Int) < (ks.length : Int) := by omega
    obtain ⟨⟨n, x⟩, hx⟩ : ∃ x, ks[j]? = some x := ⟨ks[j], by simp [hjl]⟩
    have hK := (HF.out j n x hx).below hB
    have hc2 : wr.cell? ⟨bp, 0, none⟩ = some (.string m) := (hB.cell (p := ⟨bp, 0, none⟩) hbp).trans HC.out
    have HD : Hid (R = if (ltB m n) = true then (j : Int) else idxI (fun n => ltB m n) (ks.drop (j + 1)) (j + 1)) := HJ.out.trans (idxI_drop hx)
    clear hx HJ
    generalize f j = hd1 at hK
    have hcl := above1_any n m x hd1 bp wr hc2
    have HCL : Hid (Calls Try.prog 111 #[kdV n x hd1, .pointer (some ⟨bp, 0, none⟩)] wr fun e w' => e = .returned (.bool (ltB m n)) ∧ Below wr.heap.size wr w') := hcl
    obtain ⟨t, ht⟩ : ∃ t, (ltB m n) = t := ⟨_, rfl⟩
    rw [ht] at HD HCL
    clear ht hcl hc2
    obtain ⟨k', m', u', g', o', at', d', ks'⟩ := x
    obtain ⟨p0, p1, p2, p3, p4, p5, p6, p7, p8⟩ := hK.nine
    clear hK
    go_wp2_with fail
    refine HCL.out.mono ?_
    rintro e w2 ⟨rfl, c2⟩
    have hB2 := hB.trans (c2.mono hB.size)
    clear p0 p1 p2 p3 p4 p5 p6 p7 p8 c2 hB HCL
    cases t
    · have HN : Hid (R = idxI (fun n => ltB m n) (ks.drop (j + 1)) (j + 1)) := by show _ = _; rw [HD.out, if_neg (by simp)]
      go_wp2
      go_roundw
      case rel => exact ⟨j + 1, by omega, by go_num, HN.out, hB2⟩
      case measure => simp [intOf]; omega
    · have HN : Hid (R = j) := by show _ = _; rw [HD.out, if_pos rfl]
      go_wp2
      go_ret
      exact ⟨ret_num HN.out.symm, hB2⟩

set_option maxRecDepth 100000 in
set_option maxHeartbeats 1000000 in
theorem place_any (a : Option Addr) (cap : Nat) (ks : Kds) (m : ByteArray) (w : World) (hl : ks.length ≤ 1000) (h : KsV w.cell? a ks) :
    Calls Try.prog 68 #[.slice a ks.length cap, .string m] w fun e w' => e = .returned (.int .i64 (kidI m ks 0)) ∧ Below w.heap.size w w' := by
  have hB : Below w.heap.size w (w.alloc (.cells #[.string m] 9)) := (Below.refl _ _).alloc (Nat.le_refl _) _
  have c1 : (w.alloc (.cells #[.string m] 9)).cell? ⟨w.heap.size, 0, none⟩ = some (.string m) := World.cell?_alloc_at _ _ _ _ rfl
  have hP := placex_any a cap w.heap.size ks m _ hl (h.below hB) c1
  rw [idxI_kid] at hP
  have HP : Hid _ := hP
  clear hP
  go_enter Try.func68, Try.ntmps68
  go_wp2_with fail
  refine Calls.mono HP.out ?_
  rintro e w2 ⟨rfl, c2⟩
  have hB2 := hB.trans (c2.mono hB.size)
  clear c1 HP c2 hB
  obtain ⟨R, HR⟩ : ∃ R, Hid (kidI m ks 0 = R) := ⟨_, rfl⟩
  rw [HR.out]
  go_wp2
  go_ret
  exact ⟨ret_num HR.out.symm, hB2⟩

set_option maxRecDepth 100000 in
set_option maxHeartbeats 1000000 in
theorem above_any (a : Option Addr) (cap : Nat) (ks : Kds) (m : ByteArray) (w : World) (hl : ks.length ≤ 1000) (h : KsV w.cell? a ks) :
    Calls Try.prog 73 #[.slice a ks.length cap, .string m] w fun e w' => e = .returned (.int .i64 (abvN m ks)) ∧ Below w.heap.size w w' := by
  have hB : Below w.heap.size w (w.alloc (.cells #[.string m] 9)) := (Below.refl _ _).alloc (Nat.le_refl _) _
  have c1 : (w.alloc (.cells #[.string m] 9)).cell? ⟨w.heap.size, 0, none⟩ = some (.string m) := World.cell?_alloc_at _ _ _ _ rfl
  have hP := abovex_any a cap w.heap.size ks m _ hl (h.below hB) c1
  have HP : Hid _ := hP
  clear hP
  have HA := idxI_abv m ks 0
  rcases HA with ⟨h1, h2⟩ | ⟨h1, h2⟩
  · have H1 : Hid (idxI (fun n => ltB m n) ks 0 = -1) := h1
    have H2 : Hid (abvN m ks = ks.length) := h2
    clear h1 h2
    go_enter Try.func73, Try.ntmps73
    go_wp2_with fail
    refine Calls.mono HP.out ?_
    rintro e w2 ⟨rfl, c2⟩
    rw [H1.out]
    have hB2 := hB.trans (c2.mono hB.size)
    clear c1 HP c2 hB
    go_wp2
    go_ret
    exact ⟨ret_num (by rw [H2.out]), hB2⟩
  · rw [Nat.zero_add] at h1
    have H1 : Hid (idxI (fun n => ltB m n) ks 0 = (abvN m ks : Int)) := h1
    clear h1
    go_enter Try.func73, Try.ntmps73
    go_wp2_with fail
    refine Calls.mono HP.out ?_
    rintro e w2 ⟨rfl, c2⟩
    rw [H1.out]
    have hB2 := hB.trans (c2.mono hB.size)
    clear c1 HP c2 hB H1
    obtain ⟨R, HR⟩ : ∃ R, Hid (abvN m ks = R) := ⟨_, rfl⟩
    rw [HR.out] at h2 ⊢
    go_wp2
    go_ret
    exact ⟨ret_num (by rw [HR.out]), hB2⟩
end Go.Proofs.Ytkkhfnkmfkdhiab
