/-
  WHAT beyond, bounds AND misshaped DO: the walks.
  WHAT bounds DOES: the walk.
  WHAT checker.kids, checker.node AND Check DO: the walks.
  WHAT checker.node AND Check DO: the walks.
  TopComes: what it needs beside the contracts; is: no walk but is's.
-/
import Derived.Test.YtlbabnffiibnpaaGreatWaY
import Derived.Test.YtlbabnffiibnpaaGreatApX
import Derived.Deep.RegionHeld3
import Derived.Test.YtlbabnffiibnpaaGreatHdX
import Derived.Test.YtlbabnffiibnpaaGreatUoY
import Derived.Test.YtlbabnffiibnpaaGreatNpX
import Derived.Deep.RegionLaw
import Derived.Deep.Cut
namespace Go.Proofs.YtlbabnffiibnpaaGreat
open Go.RowKit
/-- The bounds of a node's own fields. -/
def bdF : Nd → Int
  | .mk k m u g _ at_ d _ => if k < 1 ∨ 3 < k then 3 else if m < 0 ∨ 4095 < m ∨ idB u = false ∨ idB g = false then 1 else if chkA at_ ≠ 0 then chkA at_ else if 200 < d.size then 1 else 0
def misF (up top : Bool) : Nd → Bool
  | .mk k m u g o at_ d ks => (((k == 3 && ((((!up || m != 0) || u != 0) || g != 0) || decide (0 < at_.length))) || (k != 1 && !d.toList.isEmpty)) || (k != 2 && (decide (0 < ks.length) || o))) || (o && (top || !up))
theorem isEmpty_size (d : ByteArray) : d.toList.isEmpty = decide (d.size = 0) := by
  rw [Lib.toList_data, ← len_data]; cases d.data.toList <;> simp
theorem nfF_parts (up root : Bool) (x : Nd) : nfF up root x = if bdF x ≠ 0 then bdF x else if misF up root x = true then 3 else 0 := by
  obtain ⟨k, m, u, g, o, at_, d, ks⟩ := x
  rw [nfF, bdF]
  by_cases h1 : k < 1 ∨ 3 < k
  · rw [if_pos h1, if_pos h1]; rfl
  rw [if_neg h1, if_neg h1]
  by_cases h2 : m < 0 ∨ 4095 < m ∨ idB u = false ∨ idB g = false
  · rw [if_pos h2, if_pos h2]; rfl
  rw [if_neg h2, if_neg h2]
  by_cases h3 : chkA at_ ≠ 0
  · rw [if_pos h3, if_pos h3, if_pos h3]
  rw [if_neg h3, if_neg h3]
  by_cases h4 : 200 < d.size
  · rw [if_pos h4, nfR, if_pos h4]; rfl
  rw [if_neg h4, if_neg (by simp)]
  have hm : 0 ≤ m := by omega
  have hu : 0 ≤ u := by
    by_cases e : idB u = false
    · exact absurd (.inr (.inr (.inl e))) h2
    · simp [idB] at e; omega
  have hg : 0 ≤ g := by
    by_cases e : idB g = false
    · exact absurd (.inr (.inr (.inr e))) h2
    · simp [idB] at e; omega
  rw [nfR, if_neg h4, misF, isEmpty_size]
  have em : (m != 0) = decide (0 < m) := by rw [Bool.eq_iff_iff]; simp; omega
  have eu : (u != 0) = decide (0 < u) := by rw [Bool.eq_iff_iff]; simp; omega
  have eg : (g != 0) = decide (0 < g) := by rw [Bool.eq_iff_iff]; simp; omega
  have ed : (!decide (d.size = 0)) = decide (0 < d.size) := by rw [Bool.eq_iff_iff]; simp only [Bool.not_eq_true', decide_eq_false_iff_not, decide_eq_true_eq]; omega
  have e3 : (k == 3) = decide (k = 3) := by rw [Bool.eq_iff_iff]; simp
  have e1 : (k != 1) = decide (k ≠ 1) := by rw [Bool.eq_iff_iff]; simp
  have e2 : (k != 2) = decide (k ≠ 2) := by rw [Bool.eq_iff_iff]; simp
  rw [em, eu, eg, ed, e3, e1, e2]
  clear em eu eg ed e3 e1 e2 h2 h3 h4
  simp only [Bool.or_eq_true, Bool.and_eq_true, decide_eq_true_eq, Bool.not_eq_true']
  cases up <;> cases root <;> cases o <;> simp only [reduceCtorEq, false_or, or_false, true_or, or_true, and_true, true_and, and_false, false_and, ↓reduceIte, Bool.false_eq_true]
  all_goals
    repeat' split
    all_goals first
      | rfl
      | (exfalso; omega)
set_option maxHeartbeats 400000 in
theorem beyond_any (x most : Int) (w : World) : Calls Tryz.prog 42 #[.int .i64 x, .int .i64 most] w fun e w' => e = .returned (.bool (decide (x < 0) || decide (most < x))) ∧ w = w' := by
  by_cases h : x < 0
  · have d : decide (x < 0) = true := decide_eq_true h
    clear h
    go_enter Tryz.func42, Tryz.ntmps42
    go_wp2
    go_ret
    exact ⟨ret_bool (by rw [d]; rfl), rfl⟩
  · have d : decide (x < 0) = false := decide_eq_false h
    clear h
    go_enter Tryz.func42, Tryz.ntmps42
    go_wp2
    go_ret
    exact ⟨ret_bool (by rw [d]; rfl), rfl⟩
set_option maxRecDepth 100000 in
set_option maxHeartbeats 4000000 in
theorem misshaped_any (k m u g : Int) (o : Bool) (at_ : List Kv) (d : ByteArray) (ks : Kds) (h : Hd) (up top : Bool) (W : World) (hkk : 1 ≤ k ∧ k ≤ 3) :
    Calls Tryz.prog 24 #[ndV (.mk k m u g o at_ d ks) h, .bool up, .bool top] W fun e W' => e = .returned (.bool (misF up top (.mk k m u g o at_ d ks))) ∧ Below W.heap.size W W' := by
  have NB := NBox.new W k m u g o at_ d ks h
  have hB1 : Below W.heap.size W (W.alloc (.cells #[.int .i64 k, .int .i64 m, .int .i64 u, .int .i64 g, .bool o, .slice h.aa at_.length h.ca, .string d, .slice h.ak ks.length h.ck] 34)) := (Below.refl _ _).alloc (Nat.le_refl _) _
  obtain ⟨R, HR⟩ : ∃ R, Hid (misF up top (.mk k m u g o at_ d ks) = R) := ⟨_, rfl⟩
  rw [HR.out]
  obtain ⟨tm, hm⟩ : ∃ t, (m != 0) = t := ⟨_, rfl⟩
  obtain ⟨tu, hu⟩ : ∃ t, (u != 0) = t := ⟨_, rfl⟩
  obtain ⟨tg, hg⟩ : ∃ t, (g != 0) = t := ⟨_, rfl⟩
  obtain ⟨tl, hl⟩ : ∃ t, decide (0 < at_.length) = t := ⟨_, rfl⟩
  obtain ⟨tk, hk⟩ : ∃ t, decide (0 < ks.length) = t := ⟨_, rfl⟩
  obtain ⟨td, hd⟩ : ∃ t, d.toList.isEmpty = t := ⟨_, rfl⟩
  have HF : Hid (R = ((((k == 3 && ((((!up || tm) || tu) || tg) || tl)) || (k != 1 && !td)) || (k != 2 && (tk || o))) || (o && (top || !up)))) := by show _ = _; rw [← HR.out, misF, hm, hu, hg, hl, hk, hd]
  have hl' : decide (0 < (at_.length : Int)) = tl := by rw [← hl]; congr 1; simp only [eq_iff_iff]; omega
  have hk' : decide (0 < (ks.length : Int)) = tk := by rw [← hk]; congr 1; simp only [eq_iff_iff]; omega
  clear HR
  show Calls Tryz.prog 24 #[.agg #[.int .i64 k, .int .i64 m, .int .i64 u, .int .i64 g, .bool o, .slice h.aa at_.length h.ca, .string d, .slice h.ak ks.length h.ck], .bool up, .bool top] _ _
  by_cases k3 : k = 3
  · subst k3
    cases up
    · cases tk <;> cases o <;> cases top
      all_goals
        obtain ⟨y0, y1, y2, y3, y4, y5, y6, y7⟩ := NB
        go_enter Tryz.func24, Tryz.ntmps24
        go_wp2
        go_ret
        exact ⟨ret_bool HF.out.symm, (Below.refl _ _).alloc (Nat.le_refl _) _⟩
    · cases tm
      · cases tu
        · cases tg
          · cases tl
            · cases td <;> cases tk <;> cases o <;> cases top
              all_goals
                obtain ⟨y0, y1, y2, y3, y4, y5, y6, y7⟩ := NB
                go_enter Tryz.func24, Tryz.ntmps24
                go_wp2
                go_ret
                exact ⟨ret_bool HF.out.symm, (Below.refl _ _).alloc (Nat.le_refl _) _⟩
            · cases tk <;> cases o <;> cases top
              all_goals
                obtain ⟨y0, y1, y2, y3, y4, y5, y6, y7⟩ := NB
                go_enter Tryz.func24, Tryz.ntmps24
                go_wp2
                go_ret
                exact ⟨ret_bool HF.out.symm, (Below.refl _ _).alloc (Nat.le_refl _) _⟩
          · cases tk <;> cases o <;> cases top
            all_goals
              obtain ⟨y0, y1, y2, y3, y4, y5, y6, y7⟩ := NB
              go_enter Tryz.func24, Tryz.ntmps24
              go_wp2
              go_ret
              exact ⟨ret_bool HF.out.symm, (Below.refl _ _).alloc (Nat.le_refl _) _⟩
        · cases tk <;> cases o <;> cases top
          all_goals
            obtain ⟨y0, y1, y2, y3, y4, y5, y6, y7⟩ := NB
            go_enter Tryz.func24, Tryz.ntmps24
            go_wp2
            go_ret
            exact ⟨ret_bool HF.out.symm, (Below.refl _ _).alloc (Nat.le_refl _) _⟩
      · cases tk <;> cases o <;> cases top
        all_goals
          obtain ⟨y0, y1, y2, y3, y4, y5, y6, y7⟩ := NB
          go_enter Tryz.func24, Tryz.ntmps24
          go_wp2
          go_ret
          exact ⟨ret_bool HF.out.symm, (Below.refl _ _).alloc (Nat.le_refl _) _⟩
  by_cases k2 : k = 2
  · subst k2
    cases td <;> cases o <;> cases top <;> cases up
    all_goals
      obtain ⟨y0, y1, y2, y3, y4, y5, y6, y7⟩ := NB
      go_enter Tryz.func24, Tryz.ntmps24
      go_wp2
      go_ret
      exact ⟨ret_bool HF.out.symm, (Below.refl _ _).alloc (Nat.le_refl _) _⟩
  have k1 : k = 1 := by omega
  subst k1
  cases tk <;> cases o <;> cases top <;> cases up
  all_goals
    obtain ⟨y0, y1, y2, y3, y4, y5, y6, y7⟩ := NB
    go_enter Tryz.func24, Tryz.ntmps24
    go_wp2
    go_ret
    exact ⟨ret_bool HF.out.symm, (Below.refl _ _).alloc (Nat.le_refl _) _⟩
end Go.Proofs.YtlbabnffiibnpaaGreat
namespace Go.Proofs.YtlbabnffiibnpaaGreat
open Go.RowKit
theorem beyond_id (u : Int) : (decide (u < 0) || decide (65535 < u)) = !idB u := by
  unfold idB
  rw [Bool.eq_iff_iff]; simp
set_option maxRecDepth 100000 in
set_option maxHeartbeats 2000000 in
theorem bounds_any (k m u g : Int) (o : Bool) (at_ : List Kv) (d : ByteArray) (ks : Kds) (h : Hd) (W : World) (hla : at_.length ≤ 1000) (hlow : Low at_) (ha : Kvm W.cell? h.aa at_) :
    Calls Tryz.prog 23 #[ndV (.mk k m u g o at_ d ks) h] W fun e W' => e = .returned (errV (bdF (.mk k m u g o at_ d ks))) ∧ Below W.heap.size W W' := by
  have HF : Hid (bdF (.mk k m u g o at_ d ks) = if k < 1 ∨ 3 < k then 3 else if m < 0 ∨ 4095 < m ∨ idB u = false ∨ idB g = false then 1 else if chkA at_ ≠ 0 then chkA at_ else if 200 < d.size then 1 else 0) := rfl
  obtain ⟨R, HR⟩ : ∃ R, Hid (bdF (.mk k m u g o at_ d ks) = R) := ⟨_, rfl⟩
  rw [HR.out]
  rw [HR.out] at HF
  have NB := NBox.new W k m u g o at_ d ks h
  have hB1 : Below W.heap.size W (W.alloc (.cells #[.int .i64 k, .int .i64 m, .int .i64 u, .int .i64 g, .bool o, .slice h.aa at_.length h.ca, .string d, .slice h.ak ks.length h.ck] 34)) := (Below.refl _ _).alloc (Nat.le_refl _) _
  have hA1 := ha.below hB1
  show Calls Tryz.prog 23 #[.agg #[.int .i64 k, .int .i64 m, .int .i64 u, .int .i64 g, .bool o, .slice h.aa at_.length h.ca, .string d, .slice h.ak ks.length h.ck]] _ _
  by_cases hk : k < 1 ∨ 3 < k
  · have b1 : (k != 1) = true := bne_iff_ne.2 (by omega)
    have b2 : (k != 2) = true := bne_iff_ne.2 (by omega)
    have b3 : (k != 3) = true := bne_iff_ne.2 (by omega)
    have HN : Hid (R = 3) := by show _ = _; rw [HF.out, if_pos hk]
    clear hk hA1 HF HR
    obtain ⟨y0, y1, y2, y3, y4, y5, y6, y7⟩ := NB
    go_enter Tryz.func23, Tryz.ntmps23
    go_wp2
    go_ret
    exact ⟨ret_val (errV_of HN.out (by decide)).symm, hB1⟩
  have HF2 : Hid (R = if m < 0 ∨ 4095 < m ∨ idB u = false ∨ idB g = false then 1 else if chkA at_ ≠ 0 then chkA at_ else if 200 < d.size then 1 else 0) := by show _ = _; rw [HF.out, if_neg hk]
  clear HF HR
  obtain ⟨t1, b1⟩ : ∃ t, (k != 1) = t := ⟨_, rfl⟩
  obtain ⟨t2, b2⟩ : ∃ t, (k != 2) = t := ⟨_, rfl⟩
  obtain ⟨t3, b3⟩ : ∃ t, (k != 3) = t := ⟨_, rfl⟩
  have hkk : (t1 = false) ∨ (t1 = true ∧ t2 = false) ∨ (t1 = true ∧ t2 = true ∧ t3 = false) := by
    have : k = 1 ∨ k = 2 ∨ k = 3 := by omega
    rcases this with rfl | rfl | rfl
    · left; rw [← b1]; rfl
    · right; left; rw [← b1, ← b2]; exact ⟨rfl, rfl⟩
    · right; right; rw [← b1, ← b2, ← b3]; exact ⟨rfl, rfl, rfl⟩
  clear hk
  obtain ⟨tm, hm⟩ : ∃ t, (decide (m < 0) || decide (4095 < m)) = t := ⟨_, rfl⟩
  have HM : Hid ((decide (m < 0) || decide (4095 < m)) = tm) := hm
  obtain ⟨tu, hu⟩ : ∃ t, idB u = t := ⟨_, rfl⟩
  obtain ⟨tg, hg⟩ : ∃ t, idB g = t := ⟨_, rfl⟩
  have HU : Hid ((decide (u < 0) || decide (65535 < u)) = !tu) := by show _ = _; rw [beyond_id, hu]
  have HG : Hid ((decide (g < 0) || decide (65535 < g)) = !tg) := by show _ = _; rw [beyond_id, hg]
  have HF3 : Hid (R = if tm = true ∨ tu = false ∨ tg = false then 1 else if chkA at_ ≠ 0 then chkA at_ else if 200 < d.size then 1 else 0) := by
    show _ = _
    rw [HF2.out, hu, hg]
    congr 1
    rw [← hm]
    simp only [Bool.or_eq_true, decide_eq_true_eq, or_assoc]
  clear HF2 hm hu hg
  have hcr := chkA_range at_
  obtain ⟨c, hcc⟩ : ∃ c, chkA at_ = c := ⟨_, rfl⟩
  have HC : Hid (chkA at_ = c) := hcc
  rw [hcc] at HF3 hcr
  clear hcc
  have key : ∀ (fr : Prop), fr → fr := fun _ h => h
  clear key
  rcases hkk with e1 | ⟨e1, e2⟩ | ⟨e1, e2, e3⟩
  all_goals
    subst e1
    try subst e2
    try subst e3
    have NB2 := NB
    obtain ⟨y0, y1, y2, y3, y4, y5, y6, y7⟩ := NB2
    go_enter Tryz.func23, Tryz.ntmps23
    go_wp2_with fail
    refine (beyond_any m 4095 _).mono ?_
    rintro e w' ⟨rfl, rfl⟩
    rw [HM.out]
    cases tm
    rotate_left
    · have HN : Hid (R = 1) := by show _ = _; rw [HF3.out, if_pos (.inl rfl)]
      go_wp2
      go_ret
      exact ⟨ret_val (errV_of HN.out (by decide)).symm, hB1⟩
    go_wp2_with fail
    refine (beyond_any u 65535 _).mono ?_
    rintro e w' ⟨rfl, rfl⟩
    rw [HU.out]
    cases tu
    · have HN : Hid (R = 1) := by show _ = _; rw [HF3.out, if_pos (.inr (.inl rfl))]
      go_wp2
      go_ret
      exact ⟨ret_val (errV_of HN.out (by decide)).symm, hB1⟩
    go_wp2_with fail
    refine (beyond_any g 65535 _).mono ?_
    rintro e w' ⟨rfl, rfl⟩
    rw [HG.out]
    cases tg
    · have HN : Hid (R = 1) := by show _ = _; rw [HF3.out, if_pos (.inr (.inr rfl))]
      go_wp2
      go_ret
      exact ⟨ret_val (errV_of HN.out (by decide)).symm, hB1⟩
    have HF4 : Hid (R = if c ≠ 0 then c else if 200 < d.size then 1 else 0) := by show _ = _; rw [HF3.out, if_neg (by simp)]
    clear HF3
    go_wp2_with fail
    refine (check_any h.aa h.ca at_ _ hla hlow hA1).mono ?_
    rintro e w2 ⟨rfl, c2⟩
    rw [HC.out]
    have NB3 := NB.below c2
    have hB2 := hB1.trans (c2.mono hB1.size)
    clear y0 y1 y2 y3 y4 y5 y6 y7 NB c2 hB1 hA1
    obtain ⟨y0, y1, y2, y3, y4, y5, y6, y7⟩ := NB3
    by_cases hc0 : c = 0
    rotate_left
    · rw [errV_of rfl hc0]
      have HN : Hid (R = c) := by show _ = _; rw [HF4.out, if_pos hc0]
      have HZ : Hid (c ≠ 0) := hc0
      clear hc0
      go_wp2
      go_ret
      exact ⟨ret_val (errV_of HN.out HZ.out).symm, hB2⟩
    subst hc0
    rw [errV_nil rfl]
    have HF5 : Hid (R = if 200 < d.size then 1 else 0) := by show _ = _; rw [HF4.out, if_neg (by simp)]
    clear HF4 HC
    by_cases hd : 200 < d.size
    · have dd : decide (200 < (d.size : Int)) = true := decide_eq_true (by omega)
      have HN : Hid (R = 1) := by show _ = _; rw [HF5.out, if_pos hd]
      clear hd
      go_wp2
      go_ret
      exact ⟨ret_val (errV_of HN.out (by decide)).symm, hB2⟩
    · have dd : decide (200 < (d.size : Int)) = false := decide_eq_false (by omega)
      have HN : Hid (R = 0) := by show _ = _; rw [HF5.out, if_neg hd]
      clear hd
      go_wp2
      go_ret
      exact ⟨ret_val (errV_nil HN.out).symm, hB2⟩
end Go.Proofs.YtlbabnffiibnpaaGreat
namespace Go.Proofs.YtlbabnffiibnpaaGreat
open Go.RowKit
/-- A kid's box. -/
def KBx (w : World) (b : Nat) (n : ByteArray) : Nd → Hd → Prop
  | .mk k m u g o at_ d ks, h => w.cell? ⟨b, 0, none⟩ = some (.string n) ∧ w.cell? ⟨b, 1, none⟩ = some (.int .i64 k) ∧ w.cell? ⟨b, 2, none⟩ = some (.int .i64 m) ∧ w.cell? ⟨b, 3, none⟩ = some (.int .i64 u) ∧ w.cell? ⟨b, 4, none⟩ = some (.int .i64 g) ∧
    w.cell? ⟨b, 5, none⟩ = some (.bool o) ∧ w.cell? ⟨b, 6, none⟩ = some (.slice h.aa at_.length h.ca) ∧ w.cell? ⟨b, 7, none⟩ = some (.string d) ∧ w.cell? ⟨b, 8, none⟩ = some (.slice h.ak ks.length h.ck)
theorem KBx.new (w : World) (n : ByteArray) (k m u g : Int) (o : Bool) (at_ : List Kv) (d : ByteArray) (ks : Kds) (h : Hd) (t : TypeId) :
    KBx (w.alloc (.cells #[.string n, .int .i64 k, .int .i64 m, .int .i64 u, .int .i64 g, .bool o, .slice h.aa at_.length h.ca, .string d, .slice h.ak ks.length h.ck] t)) w.heap.size n (.mk k m u g o at_ d ks) h :=
  ⟨World.cell?_alloc_at _ _ _ _ rfl, World.cell?_alloc_at _ _ _ _ rfl, World.cell?_alloc_at _ _ _ _ rfl, World.cell?_alloc_at _ _ _ _ rfl, World.cell?_alloc_at _ _ _ _ rfl, World.cell?_alloc_at _ _ _ _ rfl, World.cell?_alloc_at _ _ _ _ rfl, World.cell?_alloc_at _ _ _ _ rfl, World.cell?_alloc_at _ _ _ _ rfl⟩
/-- What checker.node answers of a tree. -/
def NodeSays (up : Bool) (w : World) (bc : Nat) (x : Nd) (h : Hd) : Prop := ∀ (W : World) (deep seen : Nat), But bc w W → TBox W bc (.bool up) (.int .i64 seen) → deep ≤ 7 → seen ≤ 60 →
    Calls Tryz.prog 12 #[.pointer (some ⟨bc, 0, none⟩), ndV x h, .int .i64 deep] W fun e W' => e = .returned (errV (wlkN up x deep seen).1) ∧ But bc W W' ∧ TBox W' bc (.bool up) (.int .i64 (wlkN up x deep seen).2)
set_option maxRecDepth 100000 in
set_option maxHeartbeats 4000000 in
theorem tkids_any (up : Bool) {w : World} {bc : Nat} (ak : Option Addr) (cap b off : Nat) (f : Nat → Hd) (ks : Kds) (hak : ks = [] ∨ ak = some ⟨b, off, none⟩) (hlen : ks.length ≤ 1000) (hnm : ∀ (i : Nat) (n : ByteArray) (x : Nd), ks[i]? = some (n, x) → n.size ≤ 255)
    (hc : ∀ i n x, ks[i]? = some (n, x) → KdAt (offB w.cell? bc) b (off + i * 9) n x (f i)) (hi : ∀ i n x, ks[i]? = some (n, x) → NodeSays up w bc x (f i)) (W : World) (deep seen : Nat) (hW : But bc w W) (hT : TBox W bc (.bool up) (.int .i64 seen)) (hdeep : deep ≤ 7) (hseen : seen ≤ 60) :
    Calls Tryz.prog 25 #[.pointer (some ⟨bc, 0, none⟩), .slice ak ks.length cap, .int .i64 deep] W fun e W' => e = .returned (errV (wlkL up none ks deep seen).1) ∧ But bc W W' ∧ TBox W' bc (.bool up) (.int .i64 (wlkL up none ks deep seen).2) := by
  obtain ⟨R, HR⟩ : ∃ R, Hid (wlkL up none ks deep seen = R) := ⟨_, rfl⟩
  rw [HR.out]
  have HC : Hid (∀ i n x, ks[i]? = some (n, x) → KdAt (offB w.cell? bc) b (off + i * 9) n x (f i)) := hc
  have HI : Hid (∀ i n x, ks[i]? = some (n, x) → NodeSays up w bc x (f i)) := hi
  have HNM : Hid (∀ (i : Nat) (n : ByteArray) (x : Nd), ks[i]? = some (n, x) → n.size ≤ 255) := hnm
  have HAK : Hid (ks = [] ∨ ak = some ⟨b, off, none⟩) := hak
  clear hc hi hnm hak
  go_enter Tryz.func25, Tryz.ntmps25
  go_wp2
  go_loopw [12] (fun i wr => ∃ (j s : Nat), j ≤ ks.length ∧ i = .int .i64 j ∧ s ≤ 60 ∧ Hid (R = wlkL up (ahead ks j) (ks.drop j) deep s) ∧ TBox wr bc (.bool up) (.int .i64 s) ∧ But bc W wr) (fun i _ => ks.length - (intOf i).toNat)
  case atStart => exact ⟨0, seen, Nat.zero_le _, rfl, hseen, HR.out.symm, hT, But.refl _ _⟩
  case round =>
    obtain ⟨j, s, hj, rfl, hs, HJ, hTr, hBr⟩ := hrel
    clear HR hT
    by_cases hjl : j < ks.length
    rotate_left
    · have hji : decide ((j : Int) < (ks.length : Int)) = false := decide_eq_false (by omega)
      have HE : Hid (R = (0, s)) := by show _ = _; rw [HJ.out, List.drop_of_length_le (by omega), wlkL]
      go_wp2
      go_ret
      exact ⟨ret_val (errV_nil (by rw [HE.out])).symm, hBr, by rw [HE.out]; exact hTr⟩
    have hji : (j : Int) < (ks.length : Int) := by omega
    obtain ⟨⟨n, x⟩, hx⟩ : ∃ x, ks[j]? = some x := ⟨ks[j], by simp [hjl]⟩
    have hWr : But bc w wr := hW.trans hBr
    have hK : KdAt wr.cell? b (off + j * 9) n x (f j) := ((HC.out j n x hx).on hWr.mle).on (offB_le _ _)
    have HRD : Hid (R = if nameB n = false then (4, s) else if upB (ahead ks j) n = false then (3, s) else if (wlkN up x deep s).1 ≠ 0 then wlkN up x deep s else wlkL up (ahead ks (j + 1)) (ks.drop (j + 1)) deep (wlkN up x deep s).2) := HJ.out.trans (wlkL_drop hx)
    have HI2 : Hid (NodeSays up w bc x (f j)) := HI.out j n x hx
    have hrg := wlkN_range up x deep s hs
    have hn60 : n.size ≤ 255 := HNM.out j n x hx
    have HX : Hid (ks[j]? = some (n, x)) := hx
    clear hx HJ
    rcases HAK.out with hnil | rfl
    · rw [hnil] at hjl; simp at hjl
    generalize f j = hd1 at hK HI2
    have HI3 : Hid (∀ (W : World), But bc w W → TBox W bc (.bool up) (.int .i64 s) → Calls Tryz.prog 12 #[.pointer (some ⟨bc, 0, none⟩), ndV x hd1, .int .i64 deep] W fun e W' => e = .returned (errV (wlkN up x deep s).1) ∧ But bc W W' ∧ TBox W' bc (.bool up) (.int .i64 (wlkN up x deep s).2)) := fun W q1 q2 => HI2.out W deep s q1 q2 hdeep hs
    clear HI2
    obtain ⟨RX, HRX⟩ : ∃ RX, Hid (wlkN up x deep s = RX) := ⟨_, rfl⟩
    rw [HRX.out] at HRD HI3 hrg
    obtain ⟨fx, sx⟩ := RX
    dsimp only at HRD HI3 hrg
    obtain ⟨t, ht⟩ : ∃ t, nameB n = t := ⟨_, rfl⟩
    have HT : Hid (nameB n = t) := ht
    rw [ht] at HRD
    clear ht HRX
    obtain ⟨k', m', u', g', o', at', d', ks'⟩ := x
    obtain ⟨p0, p1, p2, p3, p4, p5, p6, p7, p8⟩ := hK.nine
    clear hK
    have KB := KBx.new wr n k' m' u' g' o' at' d' ks' hd1 61
    have hB1 : Below wr.heap.size wr (wr.alloc (.cells #[.string n, .int .i64 k', .int .i64 m', .int .i64 u', .int .i64 g', .bool o', .slice hd1.aa at'.length hd1.ca, .string d', .slice hd1.ak ks'.length hd1.ck] 61)) := (Below.refl _ _).alloc (Nat.le_refl _) _
    go_wp2_with fail
    refine (name_any n _).mono ?_
    rintro e w' ⟨rfl, rfl⟩
    rw [HT.out]
    have hT1 := hTr.below hB1
    have hW1 := hWr.then hB1
    have hBW := hBr.then hB1
    have Hq : Hid (∀ i pn px, ks[i]? = some (pn, px) → (wr.alloc (.cells #[.string n, .int .i64 k', .int .i64 m', .int .i64 u', .int .i64 g', .bool o', .slice hd1.aa at'.length hd1.ca, .string d', .slice hd1.ak ks'.length hd1.ck] 61)).cell? ⟨b, off + i * 9, none⟩ = some (.string pn)) :=
      fun i pn px hp => (((HC.out i pn px hp).on hW1.mle).on (offB_le _ _)).1
    clear p0 p1 p2 p3 p4 p5 p6 p7 p8 hB1 hTr hWr hBr
    generalize wr.alloc (.cells #[.string n, .int .i64 k', .int .i64 m', .int .i64 u', .int .i64 g', .bool o', .slice hd1.aa at'.length hd1.ca, .string d', .slice hd1.ak ks'.length hd1.ck] 61) = w1 at KB hT1 hW1 hBW Hq ⊢
    generalize wr.heap.size = rb at KB ⊢
    obtain ⟨y0, y1, y2, y3, y4, y5, y6, y7, y8⟩ := KB
    cases t
    · have HN : Hid (R = (4, s)) := by show _ = _; rw [HRD.out, if_pos rfl]
      go_wp2
      go_ret
      exact ⟨ret_val (errV_of (by rw [HN.out]) (by decide)).symm, hBW, by rw [HN.out]; exact hT1⟩
    have HRD2 : Hid (R = if upB (ahead ks j) n = false then (3, s) else if fx ≠ 0 then (fx, sx) else wlkL up (ahead ks (j + 1)) (ks.drop (j + 1)) deep sx) := by show _ = _; rw [HRD.out, if_neg (by simp)]
    clear HRD HT
    by_cases hj0 : j = 0
    · subst hj0
      have HR3 : Hid (R = if fx ≠ 0 then (fx, sx) else wlkL up (ahead ks (0 + 1)) (ks.drop (0 + 1)) deep sx) := by show _ = _; rw [HRD2.out, if_neg (by simp [ahead, upB])]
      clear HRD2 Hq
      go_wp2
      go_quiet (fail)
      have hT5 : TBox (w1.drewN nq) bc (.bool up) (.int .i64 s) := hT1
      have hW5 : But bc w (w1.drewN nq) := hW1.drewN nq
      have hB5 : But bc W (w1.drewN nq) := hBW.drewN nq
      change (w1.drewN nq).cell? _ = _ at y1
      change (w1.drewN nq).cell? _ = _ at y2
      change (w1.drewN nq).cell? _ = _ at y3
      change (w1.drewN nq).cell? _ = _ at y4
      change (w1.drewN nq).cell? _ = _ at y5
      change (w1.drewN nq).cell? _ = _ at y6
      change (w1.drewN nq).cell? _ = _ at y7
      change (w1.drewN nq).cell? _ = _ at y8
      clear hT1 hW1 hBW y0
      generalize w1.drewN nq = w5 at hT5 hW5 hB5 y1 y2 y3 y4 y5 y6 y7 y8 ⊢
      go_wp2_with fail
      refine (HI3.out _ hW5 hT5).mono ?_
      rintro e w6 ⟨rfl, c6, hT6⟩
      have hB6 := hB5.trans c6
      clear y1 y2 y3 y4 y5 y6 y7 y8 c6 hT5 hW5 hB5
      by_cases e : fx = 0
      · rw [errV_nil e]
        have HN : Hid (R = wlkL up (ahead ks (0 + 1)) (ks.drop (0 + 1)) deep sx) := by show _ = _; rw [HR3.out, if_neg (by simp [e])]
        clear e HR3
        go_wp2
        go_roundw
        case rel => exact ⟨0 + 1, sx, by omega, by go_num, hrg.2, HN.out, hT6, hB6⟩
        case measure => simp [intOf]; omega
      · rw [errV_of rfl e]
        have HN : Hid (R = (fx, sx)) := by show _ = _; rw [HR3.out, if_pos e]
        have HZ : Hid (fx ≠ 0) := e
        clear e HR3
        go_wp2
        go_ret
        exact ⟨ret_val (errV_of (by rw [HN.out]) HZ.out).symm, hB6, by rw [HN.out]; exact hT6⟩
    · obtain ⟨i, hi⟩ : ∃ i, j = i + 1 := ⟨j - 1, by omega⟩
      obtain ⟨⟨pn, px⟩, hp⟩ : ∃ p, ks[i]? = some p := ⟨ks[i]'(by omega), List.getElem?_eq_getElem _⟩
      have q0 := Hq.out i pn px hp
      have HA : Hid (ahead ks j = some pn) := by show _ = _; rw [hi]; simp [ahead, hp]
      rw [HA.out] at HRD2
      have d0 : decide (0 < j) = true := decide_eq_true (by omega)
      have dw : IntKind.i64.wrap ((j : Int) - 1) = (i : Int) := (wrap_small (by omega) (by omega)).trans (by omega)
      have dj : (j : Int) - 1 = (i : Int) := by omega
      have dl : (i : Int) < (ks.length : Int) := by omega
      obtain ⟨t, ht⟩ : ∃ t, ltB pn n = t := ⟨_, rfl⟩
      have hle : (Op.bytesLess n.toList pn.toList || n.toList == pn.toList) = !t := by rw [leq_eq, ht]
      have HU : Hid (upB (some pn) n = t) := ht
      rw [HU.out] at HRD2
      have hip : 0 < j := by omega
      clear hi hp ht HA HU hj0 Hq
      cases t
      · have HN : Hid (R = (3, s)) := by show _ = _; rw [HRD2.out, if_pos rfl]
        go_wp2
        go_quiet (fail)
        go_wp2
        go_ret
        exact ⟨ret_val (errV_of (by rw [HN.out]) (by decide)).symm, hBW.drewN _, by rw [HN.out]; exact hT1⟩
      have HR3 : Hid (R = if fx ≠ 0 then (fx, sx) else wlkL up (ahead ks (j + 1)) (ks.drop (j + 1)) deep sx) := by show _ = _; rw [HRD2.out, if_neg (by simp)]
      clear HRD2
      go_wp2
      go_quiet (fail)
      clear q0
      have hT5 : TBox (w1.drewN nq) bc (.bool up) (.int .i64 s) := hT1
      have hW5 : But bc w (w1.drewN nq) := hW1.drewN nq
      have hB5 : But bc W (w1.drewN nq) := hBW.drewN nq
      change (w1.drewN nq).cell? _ = _ at y1
      change (w1.drewN nq).cell? _ = _ at y2
      change (w1.drewN nq).cell? _ = _ at y3
      change (w1.drewN nq).cell? _ = _ at y4
      change (w1.drewN nq).cell? _ = _ at y5
      change (w1.drewN nq).cell? _ = _ at y6
      change (w1.drewN nq).cell? _ = _ at y7
      change (w1.drewN nq).cell? _ = _ at y8
      clear hT1 hW1 hBW y0
      generalize w1.drewN nq = w5 at hT5 hW5 hB5 y1 y2 y3 y4 y5 y6 y7 y8 ⊢
      go_wp2_with fail
      refine (HI3.out _ hW5 hT5).mono ?_
      rintro e w6 ⟨rfl, c6, hT6⟩
      have hB6 := hB5.trans c6
      clear y1 y2 y3 y4 y5 y6 y7 y8 c6 hT5 hW5 hB5
      by_cases e : fx = 0
      · rw [errV_nil e]
        have HN : Hid (R = wlkL up (ahead ks (j + 1)) (ks.drop (j + 1)) deep sx) := by show _ = _; rw [HR3.out, if_neg (by simp [e])]
        clear e HR3
        go_wp2
        go_roundw
        case rel => exact ⟨j + 1, sx, by omega, by go_num, hrg.2, HN.out, hT6, hB6⟩
        case measure => simp [intOf]; omega
      · rw [errV_of rfl e]
        have HN : Hid (R = (fx, sx)) := by show _ = _; rw [HR3.out, if_pos e]
        have HZ : Hid (fx ≠ 0) := e
        clear e HR3
        go_wp2
        go_ret
        exact ⟨ret_val (errV_of (by rw [HN.out]) HZ.out).symm, hB6, by rw [HN.out]; exact hT6⟩
end Go.Proofs.YtlbabnffiibnpaaGreat
namespace Go.Proofs.YtlbabnffiibnpaaGreat
open Go.RowKit
/-- A node's box, and the checker's first cell. -/
def NUp (w : World) (nb bc : Nat) (up : Bool) : Nd → Hd → Prop
  | .mk k m u g o at_ d ks, h => w.cell? ⟨nb, 0, none⟩ = some (.int .i64 k) ∧ w.cell? ⟨nb, 1, none⟩ = some (.int .i64 m) ∧ w.cell? ⟨nb, 2, none⟩ = some (.int .i64 u) ∧ w.cell? ⟨nb, 3, none⟩ = some (.int .i64 g) ∧
    w.cell? ⟨nb, 4, none⟩ = some (.bool o) ∧ w.cell? ⟨nb, 5, none⟩ = some (.slice h.aa at_.length h.ca) ∧ w.cell? ⟨nb, 6, none⟩ = some (.string d) ∧ w.cell? ⟨nb, 7, none⟩ = some (.slice h.ak ks.length h.ck) ∧ w.cell? ⟨bc, 0, none⟩ = some (.bool up)
theorem NUp.of {w : World} {nb bc : Nat} {up : Bool} {s : Value} {x : Nd} {h : Hd} (h1 : NBox w nb x h) (h2 : TBox w bc (.bool up) s) : NUp w nb bc up x h := by
  obtain ⟨k, m, u, g, o, at_, d, ks⟩ := x
  obtain ⟨e0, e1, e2, e3, e4, e5, e6, e7⟩ := h1
  exact ⟨e0, e1, e2, e3, e4, e5, e6, e7, h2.1⟩
set_option maxRecDepth 100000 in
set_option maxHeartbeats 4000000 in
theorem node_any (up : Bool) {w : World} {bc : Nat} (_hbc : bc < w.heap.size) {x : Nd} {h : Hd} (hN : NdV (offB w.cell? bc) x h) : Lil x → cnt x ≤ 1000 → NodeSays up w bc x h := by
  induction hN with
  | @mk k m u g o at_ d ks h b off f ha hca hck hak hc hr ih =>
    intro hlil hcnt W deep seen hW hT hdeep hseen
    rw [Lil] at hlil
    rw [cnt] at hcnt
    obtain ⟨hla, hld, hlk⟩ := hlil
    obtain ⟨hl8, hlow⟩ := hla
    have hlen : ks.length ≤ 1000 := by have := cntL_len ks; omega
    have hbW : bc < W.heap.size := hT.lt
    have HF : Hid (wlkN up (.mk k m u g o at_ d ks) deep seen = if 60 ≤ seen ∨ 6 < deep then (2, seen) else if nfF up (decide (deep = 0)) (.mk k m u g o at_ d ks) ≠ 0 then (nfF up (decide (deep = 0)) (.mk k m u g o at_ d ks), seen + 1) else wlkL up none ks (deep + 1) (seen + 1)) := by show _ = _; rw [wlkN]
    obtain ⟨R, HR⟩ : ∃ R, Hid (wlkN up (.mk k m u g o at_ d ks) deep seen = R) := ⟨_, rfl⟩
    rw [HR.out] at HF
    rw [HR.out]
    have HKA : Hid (∀ (W : World) (deep seen : Nat), But bc w W → TBox W bc (.bool up) (.int .i64 seen) → deep ≤ 7 → seen ≤ 60 → Calls Tryz.prog 25 #[.pointer (some ⟨bc, 0, none⟩), .slice h.ak ks.length h.ck, .int .i64 deep] W fun e W' => e = .returned (errV (wlkL up none ks deep seen).1) ∧ But bc W W' ∧ TBox W' bc (.bool up) (.int .i64 (wlkL up none ks deep seen).2)) :=
      fun W deep seen q1 q2 q3 q4 => tkids_any up h.ak h.ck b off f ks hak hlen (fun i n x hi => (lilL_get hlk hi).1) hc (fun i n x hi => ih i n x hi (lilL_get hlk hi).2 (by have := cntL_get hi; omega)) W deep seen q1 q2 q3 q4
    clear hc hr ih hak hlk hcnt hld
    show Calls Tryz.prog 12 #[.pointer (some ⟨bc, 0, none⟩), .agg #[.int .i64 k, .int .i64 m, .int .i64 u, .int .i64 g, .bool o, .slice h.aa at_.length h.ca, .string d, .slice h.ak ks.length h.ck], .int .i64 deep] _ _
    by_cases hmany : 60 ≤ seen ∨ 6 < deep
    · have HN : Hid (R = (2, seen)) := by show _ = _; rw [HF.out, if_pos hmany]
      have HM : Hid (60 ≤ seen ∨ 6 < deep) := hmany
      have hB1 : But bc W (W.alloc (.cells #[.int .i64 k, .int .i64 m, .int .i64 u, .int .i64 g, .bool o, .slice h.aa at_.length h.ca, .string d, .slice h.ak ks.length h.ck] 34)) := (But.refl _ _).alloc _
      have hT1 := hT.below ((Below.refl _ _).alloc (Nat.le_refl _) (.cells #[.int .i64 k, .int .i64 m, .int .i64 u, .int .i64 g, .bool o, .slice h.aa at_.length h.ca, .string d, .slice h.ak ks.length h.ck] 34))
      have hT2 := hT1
      obtain ⟨t0, t1, t2, t3⟩ := hT2
      clear hmany
      by_cases h60 : seen = 60
      · subst h60
        go_enter Tryz.func12, Tryz.ntmps12
        go_wp2
        go_ret
        exact ⟨ret_val (errV_of (by rw [HN.out]) (by decide)).symm, hB1, by rw [HN.out]; exact hT1⟩
      · have d60 : ((seen : Int) == 60) = false := by simp; omega
        have d6 : decide (6 < (deep : Int)) = true := decide_eq_true (by rcases HM.out with e | e <;> omega)
        clear h60
        go_enter Tryz.func12, Tryz.ntmps12
        go_wp2
        go_ret
        exact ⟨ret_val (errV_of (by rw [HN.out]) (by decide)).symm, hB1, by rw [HN.out]; exact hT1⟩
    have hs60 : seen < 60 := by omega
    have hd6 : deep ≤ 6 := by omega
    have d60 : ((seen : Int) == 60) = false := by simp; omega
    have dd : decide (6 < (deep : Int)) = false := decide_eq_false (by omega)
    obtain ⟨rt, hrt⟩ : ∃ rt, ((deep : Int) == 0) = rt := ⟨_, rfl⟩
    have HRT : Hid (decide (deep = 0) = rt) := by
      show _ = _
      rw [← hrt]
      by_cases e : deep = 0
      · subst e; rfl
      · rw [decide_eq_false e]; symm; simpa using e
    have HF2 : Hid (R = if nfF up rt (.mk k m u g o at_ d ks) ≠ 0 then (nfF up rt (.mk k m u g o at_ d ks), seen + 1) else wlkL up none ks (deep + 1) (seen + 1)) := by
      show _ = _
      rw [HF.out, if_neg hmany, HRT.out]
    have HPT : Hid (nfF up rt (.mk k m u g o at_ d ks) = if bdF (.mk k m u g o at_ d ks) ≠ 0 then bdF (.mk k m u g o at_ d ks) else if misF up rt (.mk k m u g o at_ d ks) = true then 3 else 0) := nfF_parts up rt _
    clear HF hmany HR HRT
    obtain ⟨c, HC0⟩ : ∃ c, Hid (bdF (.mk k m u g o at_ d ks) = c) := ⟨_, rfl⟩
    rw [HC0.out] at HPT
    have HKK : Hid (c = 0 → 1 ≤ k ∧ k ≤ 3) := by
      intro e
      have := HC0.out
      rw [e, bdF] at this
      by_cases q : k < 1 ∨ 3 < k
      · rw [if_pos q] at this; cases this
      · omega
    -- the worlds
    have hTs := hT.set1 (.int .i64 ((seen : Int) + 1))
    have hBs : But bc W (W.setCell ⟨bc, 1, none⟩ (.int .i64 ((seen : Int) + 1))) := (But.refl _ _).setCell 1 none _
    have NB := NBox.new (W.setCell ⟨bc, 1, none⟩ (.int .i64 ((seen : Int) + 1))) k m u g o at_ d ks h
    rw [World.size_setCell] at NB
    have hB1 : Below (W.setCell ⟨bc, 1, none⟩ (.int .i64 ((seen : Int) + 1))).heap.size (W.setCell ⟨bc, 1, none⟩ (.int .i64 ((seen : Int) + 1))) ((W.setCell ⟨bc, 1, none⟩ (.int .i64 ((seen : Int) + 1))).alloc (.cells #[.int .i64 k, .int .i64 m, .int .i64 u, .int .i64 g, .bool o, .slice h.aa at_.length h.ca, .string d, .slice h.ak ks.length h.ck] 34)) := (Below.refl _ _).alloc (Nat.le_refl _) _
    have hT1 := hTs.below hB1
    have hBW := hBs.then hB1
    have hA1 := (ha.on (hW.trans hBW).mle).on (offB_le _ _)
    have hT0 := hT.below ((Below.refl _ _).alloc (Nat.le_refl _) (.cells #[.int .i64 k, .int .i64 m, .int .i64 u, .int .i64 g, .bool o, .slice h.aa at_.length h.ca, .string d, .slice h.ak ks.length h.ck] 34))
    obtain ⟨s0, s1, s2, s3⟩ := hT
    obtain ⟨t0, t1, t2, t3⟩ := hT0
    have NB2 := NB
    obtain ⟨y0, y1, y2, y3, y4, y5, y6, y7⟩ := NB2
    clear hTs hBs
    go_enter Tryz.func12, Tryz.ntmps12
    go_wp2_with fail
    refine (bounds_any k m u g o at_ d ks h _ (by omega) hlow hA1).mono ?_
    rintro e w2 ⟨rfl, c2⟩
    rw [HC0.out]
    have NB3 := NB.below c2
    have hT3 := hT1.below c2
    have hB3 := hBW.then c2
    clear y0 y1 y2 y3 y4 y5 y6 y7 s0 s1 s2 s3 t0 t1 t2 t3 NB hT1 hBW c2 hB1 hA1
    generalize hnb : W.heap.size = nb at NB3 ⊢
    have hTn : TBox w2 bc (.bool up) (.int .i64 ((seen + 1 : Nat) : Int)) := by
      have e : ((seen + 1 : Nat) : Int) = (seen : Int) + 1 := by omega
      rw [e]; exact hT3
    by_cases hc0 : c = 0
    rotate_left
    · have HN : Hid (R = (c, seen + 1)) := by show _ = _; rw [HF2.out, HPT.out, if_pos hc0, if_pos hc0]
      have HZ : Hid (c ≠ 0) := hc0
      rw [errV_of rfl hc0]
      clear hc0
      go_wp2
      go_ret
      exact ⟨ret_val (errV_of (by rw [HN.out]) HZ.out).symm, hB3, by rw [HN.out]; exact hTn⟩
    have hkk := HKK.out hc0
    subst hc0
    rw [errV_nil rfl]
    have HPT2 : Hid (nfF up rt (.mk k m u g o at_ d ks) = if misF up rt (.mk k m u g o at_ d ks) = true then 3 else 0) := by show _ = _; rw [HPT.out, if_neg (by simp)]
    obtain ⟨tm, htm⟩ : ∃ t, misF up rt (.mk k m u g o at_ d ks) = t := ⟨_, rfl⟩
    have HTM : Hid (misF up rt (.mk k m u g o at_ d ks) = tm) := htm
    rw [htm] at HPT2
    clear htm HPT HC0 HKK hT3
    have hNU := NUp.of NB3 hTn
    have hq5 : Below w2.heap.size w2 w2.drew := below_drewN (Below.refl _ _) 1
    have T5 : NUp w2.drew nb bc up (.mk k m u g o at_ d ks) h := NUp.of (NB3.below hq5) (hTn.below hq5)
    have NB5 := NB3.below hq5
    have hTn5 := hTn.below hq5
    have hB5 := hB3.then hq5
    obtain ⟨y0, y1, y2, y3, y4, y5, y6, y7, y8⟩ := hNU
    go_wp2
    go_region_held3 (fun w' => w'.cell? ⟨nb, 0, none⟩ = some (.int .i64 k) ∧ w'.cell? ⟨nb, 1, none⟩ = some (.int .i64 m) ∧ w'.cell? ⟨nb, 2, none⟩ = some (.int .i64 u) ∧ w'.cell? ⟨nb, 3, none⟩ = some (.int .i64 g) ∧ w'.cell? ⟨nb, 4, none⟩ = some (.bool o) ∧ w'.cell? ⟨nb, 5, none⟩ = some (.slice h.aa at_.length h.ca) ∧ w'.cell? ⟨nb, 6, none⟩ = some (.string d) ∧ w'.cell? ⟨nb, 7, none⟩ = some (.slice h.ak ks.length h.ck) ∧ w'.cell? ⟨bc, 0, none⟩ = some (.bool up)) (first | exact T5 | exact T6) (first | (go_at_call 24; refine (misshaped_any k m u g o at_ d ks h up rt _ hkk).mono ?_; rintro e w6 ⟨rfl, c6⟩; have T6 := NUp.of (NB5.below c6) (hTn5.below c6)))
    all_goals
      have NB6 := NB5.below c6
      have hT6 := hTn5.below c6
      have hB6 := hB5.then c6
      have hW6 : But bc w w6 := hW.trans hB6
      rw [HTM.out]
      clear y0 y1 y2 y3 y4 y5 y6 y7 y8 c6 NB5 hTn5 hB5 T5 NB3 hTn hB3 hq5
      cases tm
      · have HN : Hid (R = wlkL up none ks (deep + 1) (seen + 1)) := by show _ = _; rw [HF2.out, HPT2.out]; rfl
        clear HF2 HPT2
        obtain ⟨y0, y1, y2, y3, y4, y5, y6, y7⟩ := NB6
        go_wp2_with fail
        refine (HKA.out _ (deep + 1) (seen + 1) hW6 hT6 (by omega) (by omega)).mono ?_
        rintro e w7 ⟨rfl, c7, hT7⟩
        have hB7 := hB6.trans c7
        rw [← HN.out] at hT7 ⊢
        clear y0 y1 y2 y3 y4 y5 y6 y7 c7 hB6 hT6 hW6
        go_wp2
        go_ret
        exact ⟨rfl, hB7, hT7⟩
      · have HN : Hid (R = (3, seen + 1)) := by show _ = _; rw [HF2.out, HPT2.out]; rfl
        go_wp2
        go_ret
        exact ⟨ret_val (errV_of (by rw [HN.out]) (by decide)).symm, hB6, by rw [HN.out]; exact hT6⟩
set_option maxRecDepth 100000 in
set_option maxHeartbeats 1000000 in
theorem tcheck_any (up : Bool) {w : World} {x : Nd} {h : Hd} (hN : NdV w.cell? x h) (hlil : Lil x) (hcnt : cnt x ≤ 1000) :
    Calls Tryz.prog 5 #[ndV x h, .bool up] w fun e W' => e = .returned (errV (tfF up x)) ∧ Below w.heap.size w W' := by
  obtain ⟨R, HR⟩ : ∃ R, Hid (tfF up x = R) := ⟨_, rfl⟩
  rw [HR.out]
  obtain ⟨k, m, u, g, o, at_, d, ks⟩ := x
  have HF : Hid (R = if k ≠ 2 then 7 else (wlkN up (.mk k m u g o at_ d ks) 0 0).1) := by show _ = _; rw [← HR.out, tfF]
  have NB := NBox.new w k m u g o at_ d ks h
  have hB1 : Below w.heap.size w (w.alloc (.cells #[.int .i64 k, .int .i64 m, .int .i64 u, .int .i64 g, .bool o, .slice h.aa at_.length h.ca, .string d, .slice h.ak ks.length h.ck] 34)) := (Below.refl _ _).alloc (Nat.le_refl _) _
  by_cases hk : k = 2
  rotate_left
  · have bk : (k != 2) = true := bne_iff_ne.2 hk
    have HN : Hid (R = 7) := by show _ = _; rw [HF.out, if_pos hk]
    clear hk
    show Calls Tryz.prog 5 #[.agg #[.int .i64 k, .int .i64 m, .int .i64 u, .int .i64 g, .bool o, .slice h.aa at_.length h.ca, .string d, .slice h.ak ks.length h.ck], .bool up] _ _
    obtain ⟨y0, y1, y2, y3, y4, y5, y6, y7⟩ := NB
    go_enter Tryz.func5, Tryz.ntmps5
    go_wp2
    go_ret
    exact ⟨ret_val (errV_of HN.out (by decide)).symm, hB1⟩
  subst hk
  have HN : Hid (R = (wlkN up (.mk 2 m u g o at_ d ks) 0 0).1) := by show _ = _; rw [HF.out, if_neg (by decide)]
  clear HF HR
  have hB2 : Below w.heap.size w ((w.alloc (.cells #[.int .i64 2, .int .i64 m, .int .i64 u, .int .i64 g, .bool o, .slice h.aa at_.length h.ca, .string d, .slice h.ak ks.length h.ck] 34)).alloc (.cells #[.bool up, .int .i64 0] 46)) := hB1.alloc hB1.size _
  have hT := TBox.new (w.alloc (.cells #[.int .i64 2, .int .i64 m, .int .i64 u, .int .i64 g, .bool o, .slice h.aa at_.length h.ca, .string d, .slice h.ak ks.length h.ck] 34)) (.bool up) (.int .i64 0) 46
  rw [World.size_alloc] at hT
  have NB2 := NB.below ((Below.refl _ _).alloc (Nat.le_refl _) (.cells #[.bool up, .int .i64 0] 46))
  have HO : Hid (∀ W', But (w.heap.size + 1) ((w.alloc (.cells #[.int .i64 2, .int .i64 m, .int .i64 u, .int .i64 g, .bool o, .slice h.aa at_.length h.ca, .string d, .slice h.ak ks.length h.ck] 34)).alloc (.cells #[.bool up, .int .i64 0] 46)) W' → TBox W' (w.heap.size + 1) (.bool up) (.int .i64 0) → Calls Tryz.prog 12 #[.pointer (some ⟨w.heap.size + 1, 0, none⟩), ndV (.mk 2 m u g o at_ d ks) h, .int .i64 0] W' fun e W2 => e = .returned (errV (wlkN up (.mk 2 m u g o at_ d ks) 0 0).1) ∧ But (w.heap.size + 1) W' W2 ∧ TBox W2 (w.heap.size + 1) (.bool up) (.int .i64 (wlkN up (.mk 2 m u g o at_ d ks) 0 0).2)) :=
    fun W' q1 q2 => node_any up (w := ((w.alloc (.cells #[.int .i64 2, .int .i64 m, .int .i64 u, .int .i64 g, .bool o, .slice h.aa at_.length h.ca, .string d, .slice h.ak ks.length h.ck] 34)).alloc (.cells #[.bool up, .int .i64 0] 46))) (bc := w.heap.size + 1) hT.lt (hN.on (mle_off hB2 (by omega))) hlil hcnt W' 0 0 q1 q2 (by omega) (by omega)
  clear hN hlil hcnt
  show Calls Tryz.prog 5 #[.agg #[.int .i64 2, .int .i64 m, .int .i64 u, .int .i64 g, .bool o, .slice h.aa at_.length h.ca, .string d, .slice h.ak ks.length h.ck], .bool up] _ _
  obtain ⟨y0, y1, y2, y3, y4, y5, y6, y7⟩ := NB
  obtain ⟨z0, z1, z2, z3, z4, z5, z6, z7⟩ := NB2
  go_enter Tryz.func5, Tryz.ntmps5
  go_wp2_with fail
  refine (HO.out _ (But.refl _ _) hT).mono ?_
  rintro e w2 ⟨rfl, c2, _⟩
  have hB3 := hB2.trans (c2.below (B := w.heap.size) (by omega) (by simp; omega))
  clear y0 y1 y2 y3 y4 y5 y6 y7 z0 z1 z2 z3 z4 z5 z6 z7 c2 hB2 hT hB1
  rw [← HN.out]
  go_wp2
  go_ret
  exact ⟨rfl, hB3⟩
end Go.Proofs.YtlbabnffiibnpaaGreat
namespace Go.Proofs.YtlbabnffiibnpaaGreat
open Go.RowKit
theorem assertIs (W : World) (n : Int) : (Instr.typeAssert (.iface 44 (.int .i64 n)) 29 44 true).run Tryz.prog W = .ok (.tuple #[.int .i64 n, .bool true]) W := by kernel_rfl
set_option maxHeartbeats 400000 in
theorem is_yes (n : Int) (hn : 0 < n) (w : World) : Calls Tryz.prog 7 #[.iface 44 (.int .i64 n), .int .i64 n] w fun e w' => e = .returned (.bool true) ∧ w = w' := by
  have ha := assertIs
  go_enter Tryz.func7, Tryz.ntmps7
  go_wp2
  go_ret
  exact ⟨rfl, rfl⟩
set_option maxHeartbeats 400000 in
theorem is_115 (w : World) : Calls Tryz.prog 7 #[.iface 44 (.int .i64 11), .int .i64 5] w fun e w' => e = .returned (.bool false) ∧ w = w' := by
  have ha := assertIs
  go_enter Tryz.func7, Tryz.ntmps7
  go_wp2
  go_ret
  exact ⟨rfl, rfl⟩
theorem src_ns {c : Mem} {b : Nat} : ∀ (ys : List Nd) (off : Nat) (f : Nat → Hd), (∀ i x, ys[i]? = some x → NAt c b (off + i * 8) x (f i) ∧ NdV c x (f i)) →
    ∃ L : List Fl, L.map Fl.x = ys ∧ (∀ j u, (flN L)[j]? = some u → c ⟨b, off + j, none⟩ = some u) ∧ ∀ z ∈ L, NdV c z.x z.h
  | [], off, f, _ => ⟨[], rfl, fun j u h => by simp [flN] at h, fun z hz => by cases hz⟩
  | x :: ys, off, f, h => by
    obtain ⟨L, h1, h2, h3⟩ := src_ns ys (off + 8) (fun i => f (i + 1)) fun i y hi => by
      have := h (i + 1) y (by simpa using hi)
      rw [show off + (i + 1) * 8 = off + 8 + i * 8 by omega] at this
      exact this
    obtain ⟨g1, g2⟩ := h 0 x rfl
    refine ⟨⟨x, f 0, 0⟩ :: L, by rw [List.map_cons, h1], fun j u hj => ?_, fun z hz => ?_⟩
    · rw [flN] at hj
      by_cases hj8 : j < 8
      · rw [List.getElem?_append_left (by simp [ndL_length]; omega)] at hj
        have := nat_iff.1 g1 j u hj
        rwa [Nat.zero_mul, Nat.add_zero] at this
      · rw [List.getElem?_append_right (by simp [ndL_length]; omega), ndL_length] at hj
        have := h2 (j - 8) u hj
        rwa [show off + 8 + (j - 8) = off + j by omega] at this
    · rcases List.mem_cons.1 hz with e | e
      · rw [e]; exact g2
      · exact h3 z e
theorem flN_one : ∀ (A : List Fl), ∀ u ∈ flN A, u.oneCell' = true
  | [], u, h => by simp [flN] at h
  | f :: r, u, hu => by
    rw [flN] at hu
    rcases List.mem_append.1 hu with e | e
    · exact ndL_one _ _ u e
    · exact flN_one r u e
theorem CpI.apps {w : World} {v v' : Value} {L : List Fl} {wr w' : World} (h : CpI w v L wr) {L2 : List Fl} (hf : ∀ f ∈ L2, NdV (offS wr.cell? (fun k => v.ownBlock == some k)) f.x f.h) (hown : w'.ownsRow w.heap.size 34 8 v' (L ++ L2).length (flN (L ++ L2))) (hg : wr.grownBy w' v.ownBlock) (ho : v'.ownBlock = v.ownBlock ∨ v'.ownBlock = some wr.heap.size) : CpI w v' (L ++ L2) w' := by
  have hm : MLe (offS wr.cell? (fun k => v.ownBlock == some k)) (offS w'.cell? (fun k => v'.ownBlock == some k)) := mle_step fun k hk hs => by
    simp at hs
    refine ⟨?_, hg.block k hk (fun e => hs e.symm)⟩
    simp
    rcases ho with e | e
    · rw [e]; exact hs
    · rw [e]; intro e2; cases e2; omega
  refine ⟨h.low.grown hg h.low.size (fun g e => (h.row.lt g e).1), hown, fun f' hf' => ?_⟩
  rcases List.mem_append.1 hf' with e | e
  · exact (h.nd f' e).on hm
  · exact (hf f' e).on hm
theorem lightsE {xs : List Nd} (h : lightsB xs = true) : xs.length ≤ 5 ∧ ∀ x ∈ xs, Lil x ∧ cnt x ≤ 80 := by
  unfold lightsB at h
  rw [Bool.and_eq_true] at h
  refine ⟨of_decide_eq_true h.1, fun x hx => ?_⟩
  have e2 := of_decide_eq_true (List.all_eq_true.1 h.2 x hx)
  have e3 := light_lil x 80 e2
  exact ⟨e3.1, by omega⟩
theorem tot_bound {N : Nat} : ∀ {xs : List Nd}, (∀ x ∈ xs, cnt x ≤ N) → tot (layP xs) ≤ xs.length * N
  | [], _ => by show (0 : Nat) ≤ _; omega
  | x :: xs, h => by
    rw [tot_lay]
    have h1 := tot_bound fun y hy => h y (List.mem_cons_of_mem _ hy)
    have h2 := h x (List.mem_cons_self ..)
    rw [List.length_cons, Nat.succ_mul]
    omega
theorem laysE {xs : List Nd} (h5 : xs.length ≤ 5) (h : ∀ x ∈ xs, Lil x ∧ cnt x ≤ 100) (hi : ∀ x ∈ xs, IdN x) : LaysOk xs := by
  refine ⟨fun x hx => (h x hx).1, ?_, hi⟩
  have := tot_bound (N := 100) fun x hx => (h x hx).2
  have : xs.length * 100 ≤ 5 * 100 := Nat.mul_le_mul_right _ h5
  omega
/-- All that has been looked at is right. -/
def Chk (xs : List Nd) (j : Nat) : Prop := ∀ t x, t < j → xs[t]? = some x → tfF (decide (t = 0)) x = 0
theorem Chk.vv {xs : List Nd} (h : Chk xs xs.length) : (∀ x ∈ xs, VV x ∧ cnt x ≤ 60) ∧ ∀ x, xs[0]? = some x → x.kind = 2 := by
  constructor
  · intro x hx
    obtain ⟨t, ht⟩ := List.getElem?_of_mem hx
    have hl := (List.getElem?_eq_some_iff.1 ht).1
    have := (tf_val _ x).1 (h t x hl ht)
    exact ⟨⟨_, 0, this.2.1⟩, this.2.2⟩
  · intro x hx
    exact ((tf_val _ x).1 (h 0 x (List.getElem?_eq_some_iff.1 hx).1 hx)).1
end Go.Proofs.YtlbabnffiibnpaaGreat
