/-
  WHAT nodeFault DOES: the walk. 
-/
import Derived.Test.YtkkhfnkmfkdhiabWa
import Derived.Test.YtkkhfnkmfkdhiabNb
namespace Go.Proofs.Ytkkhfnkmfkdhiab
open Go.RowKit

set_option maxHeartbeats 400000 in
theorem isID_any (n : Int) (w : World) : Calls Try.prog 133 #[.int .i64 n] w fun e w' => e = .returned (.bool (idB n)) ∧ w = w' := by
  by_cases h : 0 ≤ n
  · have d : decide (0 ≤ n) = true := decide_eq_true h
    have HB : Hid (idB n = decide (n ≤ 65535)) := by show _ = _; unfold idB; rw [d]; rfl
    clear h
    go_enter Try.func133, Try.ntmps133
    go_wp2
    go_ret
    exact ⟨ret_bool HB.out.symm, rfl⟩
  · have d : decide (0 ≤ n) = false := decide_eq_false h
    have HB : Hid (idB n = false) := by show _ = _; unfold idB; rw [d]; rfl
    clear h
    go_enter Try.func133, Try.ntmps133
    go_wp2
    go_ret
    exact ⟨ret_bool HB.out.symm, rfl⟩
set_option maxRecDepth 100000 in
set_option maxHeartbeats 4000000 in
theorem nodeFault_any (k m u g : Int) (o : Bool) (at_ : List Kv) (d : ByteArray) (ks : List (ByteArray × Nd)) (h : Hd) (up root : Bool) (W : World) (hla : at_.length ≤ 1000) (hlow : Low at_) (ha : Kvm W.cell? h.aa at_) :
    Calls Try.prog 99 #[ndV (.mk k m u g o at_ d ks) h, .bool up, .bool root] W fun e W' => e = .returned (.int .i64 (nfF up root (.mk k m u g o at_ d ks))) ∧ Below W.heap.size W W' := by
  have HF : Hid (nfF up root (.mk k m u g o at_ d ks) = if k < 1 ∨ 3 < k then 3 else if m < 0 ∨ 4095 < m ∨ idB u = false ∨ idB g = false then 1 else if chkA at_ ≠ 0 then chkA at_ else nfR k m u g o at_.length d.size ks.length up root) := rfl
  show Calls Try.prog 99 #[.agg #[.int .i64 k, .int .i64 m, .int .i64 u, .int .i64 g, .bool o, .slice h.aa at_.length h.ca, .string d, .slice h.ak ks.length h.ck], .bool up, .bool root] _ _
  obtain ⟨R, HR⟩ : ∃ R, Hid (nfF up root (.mk k m u g o at_ d ks) = R) := ⟨_, rfl⟩
  rw [HR.out]
  rw [HR.out] at HF
  have NB := NBox.new W k m u g o at_ d ks h
  have hB1 : Below W.heap.size W (W.alloc (.cells #[.int .i64 k, .int .i64 m, .int .i64 u, .int .i64 g, .bool o, .slice h.aa at_.length h.ca, .string d, .slice h.ak ks.length h.ck] 25)) := (Below.refl _ _).alloc (Nat.le_refl _) _
  have hA1 := ha.below hB1
  by_cases h1 : k < 1
  · have d1 : decide (k < 1) = true := decide_eq_true h1
    have HN : Hid (R = 3) := by show _ = _; rw [HF.out, if_pos (.inl h1)]
    clear h1 NB hA1
    go_enter Try.func99, Try.ntmps99
    go_wp2
    go_ret
    exact ⟨ret_num HN.out.symm, hB1⟩
  have d1 : decide (k < 1) = false := decide_eq_false h1
  by_cases h2 : 3 < k
  · have d2 : decide (3 < k) = true := decide_eq_true h2
    have HN : Hid (R = 3) := by show _ = _; rw [HF.out, if_pos (.inr h2)]
    clear h1 h2 NB hA1
    go_enter Try.func99, Try.ntmps99
    go_wp2
    go_ret
    exact ⟨ret_num HN.out.symm, hB1⟩
  have d2 : decide (3 < k) = false := decide_eq_false h2
  have HF2 : Hid (R = if m < 0 ∨ 4095 < m ∨ idB u = false ∨ idB g = false then 1 else if chkA at_ ≠ 0 then chkA at_ else nfR k m u g o at_.length d.size ks.length up root) := by show _ = _; rw [HF.out, if_neg (by omega)]
  clear HF
  by_cases h3 : m < 0
  · have d3 : decide (m < 0) = true := decide_eq_true h3
    have HN : Hid (R = 1) := by show _ = _; rw [HF2.out, if_pos (.inl h3)]
    clear h1 h2 h3 NB hA1
    go_enter Try.func99, Try.ntmps99
    go_wp2
    go_ret
    exact ⟨ret_num HN.out.symm, hB1⟩
  have d3 : decide (m < 0) = false := decide_eq_false h3
  by_cases h4 : 4095 < m
  · have d4 : decide (4095 < m) = true := decide_eq_true h4
    have HN : Hid (R = 1) := by show _ = _; rw [HF2.out, if_pos (.inr (.inl h4))]
    clear h1 h2 h3 h4 NB hA1
    go_enter Try.func99, Try.ntmps99
    go_wp2
    go_ret
    exact ⟨ret_num HN.out.symm, hB1⟩
  have d4 : decide (4095 < m) = false := decide_eq_false h4
  obtain ⟨bu, hbu⟩ : ∃ t, idB u = t := ⟨_, rfl⟩
  obtain ⟨bg, hbg⟩ : ∃ t, idB g = t := ⟨_, rfl⟩
  have HU : Hid (idB u = bu) := hbu
  have HG : Hid (idB g = bg) := hbg
  rw [hbu, hbg] at HF2
  clear hbu hbg
  cases bu
  · have HN : Hid (R = 1) := by show _ = _; rw [HF2.out, if_pos (.inr (.inr (.inl rfl)))]
    clear h1 h2 h3 h4 hA1
    obtain ⟨y0, y1, y2, y3, y4, y5, y6, y7⟩ := NB
    go_enter Try.func99, Try.ntmps99
    go_wp2_with fail
    refine (isID_any u _).mono ?_
    rintro e w' ⟨rfl, rfl⟩
    rw [HU.out]
    go_wp2
    go_ret
    exact ⟨ret_num HN.out.symm, hB1⟩
  cases bg
  · have HN : Hid (R = 1) := by show _ = _; rw [HF2.out, if_pos (.inr (.inr (.inr rfl)))]
    clear h1 h2 h3 h4 hA1
    obtain ⟨y0, y1, y2, y3, y4, y5, y6, y7⟩ := NB
    go_enter Try.func99, Try.ntmps99
    go_wp2_with fail
    refine (isID_any u _).mono ?_
    rintro e w' ⟨rfl, rfl⟩
    rw [HU.out]
    go_wp2_with fail
    refine (isID_any g _).mono ?_
    rintro e w' ⟨rfl, rfl⟩
    rw [HG.out]
    go_wp2
    go_ret
    exact ⟨ret_num HN.out.symm, hB1⟩
  have HF3 : Hid (R = if chkA at_ ≠ 0 then chkA at_ else nfR k m u g o at_.length d.size ks.length up root) := by show _ = _; rw [HF2.out, if_neg (by simp; omega)]
  clear HF2
  have hcr := chkA_range at_
  obtain ⟨c, hcc⟩ : ∃ c, chkA at_ = c := ⟨_, rfl⟩
  have HC : Hid (chkA at_ = c) := hcc
  rw [hcc] at HF3 hcr
  clear hcc
  have iu : 0 ≤ u := by have := HU.out; simp [idB] at this; omega
  have ig : 0 ≤ g := by have := HG.out; simp [idB] at this; omega
  go_enter Try.func99, Try.ntmps99
  have NB2 := NB
  obtain ⟨y0, y1, y2, y3, y4, y5, y6, y7⟩ := NB2
  go_wp2_with fail
  refine (isID_any u _).mono ?_
  rintro e w' ⟨rfl, rfl⟩
  rw [HU.out]
  go_wp2_with fail
  refine (isID_any g _).mono ?_
  rintro e w' ⟨rfl, rfl⟩
  rw [HG.out]
  go_wp2_with fail
  refine (fault_any h.aa h.ca at_ _ hla hlow hA1).mono ?_
  rintro e w2 ⟨rfl, c2⟩
  rw [HC.out]
  have NB3 := NB.below c2
  have hB2 := hB1.trans (c2.mono hB1.size)
  clear y0 y1 y2 y3 y4 y5 y6 y7 NB c2 hB1 hA1
  obtain ⟨y0, y1, y2, y3, y4, y5, y6, y7⟩ := NB3
  by_cases hc0 : c = 0
  rotate_left
  · have dc : decide (0 < c) = true := decide_eq_true (by omega)
    have HN : Hid (R = c) := by show _ = _; rw [HF3.out, if_pos hc0]
    go_wp2
    go_ret
    exact ⟨ret_num HN.out.symm, hB2⟩
  subst hc0
  have HF4 : Hid (R = nfR k m u g o at_.length d.size ks.length up root) := by show _ = _; rw [HF3.out]; rfl
  clear HF3 HC HU HG d1 d2 d3 d4 hcr
  go_wp2
  all_goals
    go_ret
    refine ⟨ret_num ?_, hB2⟩
    rw [HF4.out]
    clear HF4 hB2 y0 y1 y2 y3 y4 y5 y6 y7
    unfold nfR
    cases up <;> cases root <;> cases o <;> first
      | contradiction
      | (try simp only [ne_eq, reduceCtorEq, false_or, true_or, or_true, or_false, and_true, true_and, false_and, ↓reduceIte]
         repeat' split
         all_goals first
           | omega
           | (have hb : (k != 2) = true := (by assumption); have := bne_iff_ne.1 hb; omega)
           | (have hb : (k != 1) = true := (by assumption); have := bne_iff_ne.1 hb; omega)
           | (have hb : ¬ (k != 2) = true := (by assumption); have : k = 2 := (by simpa using hb); omega)
           | (have hb : ¬ (k != 1) = true := (by assumption); have : k = 1 := (by simpa using hb); omega)
           | (have hb : (k != 2) = false := (by assumption); have : k = 2 := (by simpa using hb); omega)
           | (have hb : (k != 1) = false := (by assumption); have : k = 1 := (by simpa using hb); omega)
           | (have hb : (!true) = true := (by assumption); cases hb)
           | (have hb : (!false) = false := (by assumption); cases hb))
end Go.Proofs.Ytkkhfnkmfkdhiab
