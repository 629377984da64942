/-
  WHAT beyond, bounds AND misshaped DO: the walks.
-/
import Derived.Test.YtkkhfnkmfkdhiabWc
import Derived.Test.YtkkhfnkmfkdhiabBt
namespace Go.Proofs.Ytkkhfnkmfkdhiab
open Go.RowKit

/-- The bounds of a node's own fields. -/
def bdF : Nd → Int
  | .mk k m u g _ at_ d _ => if k < 1 ∨ 3 < k then 3 else if m < 0 ∨ 4095 < m ∨ idB u = false ∨ idB g = false then 1 else if chkA at_ ≠ 0 then chkA at_ else if 200 < d.size then 1 else 0
def misF (up top : Bool) : Nd → Bool
  | .mk k m u g o at_ d ks => (((k == 3 && ((((!up || m != 0) || u != 0) || g != 0) || decide (0 < at_.length))) || (k != 1 && !d.toList.isEmpty)) || (k != 2 && (decide (0 < ks.length) || o))) || (o && (top || !up))
theorem bdF_range (x : Nd) : 0 ≤ bdF x ∧ bdF x ≤ 4 := by
  obtain ⟨k, m, u, g, o, at_, d, ks⟩ := x
  rw [bdF]
  have h1 := chkA_range at_
  repeat' split
  all_goals omega
theorem isEmpty_size (d : ByteArray) : d.toList.isEmpty = decide (d.size = 0) := by
  rw [Lib.toList_data, ← len_data]; cases d.data.toList <;> simp
theorem nfF_parts (up root : Bool) (x : Nd) : nfF up root x = if bdF x ≠ 0 then bdF x else if misF up root x = true then 3 else 0 := by
  obtain ⟨k, m, u, g, o, at_, d, ks⟩ := x
  rw [nfF, bdF]
  by_cases h1 : k < 1 ∨ 3 < k
  · rw [if_pos h1, if_pos h1]; rfl
  rw [if_neg h1, if_neg h1]
  by_cases h2 : m < 0 ∨ 4095 < m ∨ idB u = false ∨ idB g = false
  · rw [if_pos h2, if_pos h2]; rfl
  rw [if_neg h2, if_neg h2]
  by_cases h3 : chkA at_ ≠ 0
  · rw [if_pos h3, if_pos h3, if_pos h3]
  rw [if_neg h3, if_neg h3]
  by_cases h4 : 200 < d.size
  · rw [if_pos h4, nfR, if_pos h4]; rfl
  rw [if_neg h4, if_neg (by simp)]
  have hm : 0 ≤ m := by omega
  have hu : 0 ≤ u := by
    by_cases e : idB u = false
    · exact absurd (.inr (.inr (.inl e))) h2
    · simp [idB] at e; omega
  have hg : 0 ≤ g := by
    by_cases e : idB g = false
    · exact absurd (.inr (.inr (.inr e))) h2
    · simp [idB] at e; omega
  rw [nfR, if_neg h4, misF, isEmpty_size]
  have em : (m != 0) = decide (0 < m) := by rw [Bool.eq_iff_iff]; simp; omega
  have eu : (u != 0) = decide (0 < u) := by rw [Bool.eq_iff_iff]; simp; omega
  have eg : (g != 0) = decide (0 < g) := by rw [Bool.eq_iff_iff]; simp; omega
  have ed : (!decide (d.size = 0)) = decide (0 < d.size) := by rw [Bool.eq_iff_iff]; simp only [Bool.not_eq_true', decide_eq_false_iff_not, decide_eq_true_eq]; omega
  have e3 : (k == 3) = decide (k = 3) := by rw [Bool.eq_iff_iff]; simp
  have e1 : (k != 1) = decide (k ≠ 1) := by rw [Bool.eq_iff_iff]; simp
  have e2 : (k != 2) = decide (k ≠ 2) := by rw [Bool.eq_iff_iff]; simp
  rw [em, eu, eg, ed, e3, e1, e2]
  clear em eu eg ed e3 e1 e2 h2 h3 h4
  simp only [Bool.or_eq_true, Bool.and_eq_true, decide_eq_true_eq, Bool.not_eq_true']
  cases up <;> cases root <;> cases o <;> simp only [reduceCtorEq, false_or, or_false, true_or, or_true, and_true, true_and, and_false, false_and, ↓reduceIte, Bool.false_eq_true]
  all_goals
    repeat' split
    all_goals first
      | rfl
      | (exfalso; omega)

set_option maxHeartbeats 400000 in
theorem beyond_any (x most : Int) (w : World) : Calls Try.prog 135 #[.int .i64 x, .int .i64 most] w fun e w' => e = .returned (.bool (decide (x < 0) || decide (most < x))) ∧ w = w' := by
  by_cases h : x < 0
  · have d : decide (x < 0) = true := decide_eq_true h
    clear h
    go_enter Try.func135, Try.ntmps135
    go_wp2
    go_ret
    exact ⟨ret_bool (by rw [d]; rfl), rfl⟩
  · have d : decide (x < 0) = false := decide_eq_false h
    clear h
    go_enter Try.func135, Try.ntmps135
    go_wp2
    go_ret
    exact ⟨ret_bool (by rw [d]; rfl), rfl⟩

set_option maxRecDepth 100000 in
set_option maxHeartbeats 4000000 in
theorem misshaped_any (k m u g : Int) (o : Bool) (at_ : List Kv) (d : ByteArray) (ks : Kds) (h : Hd) (up top : Bool) (W : World) (hkk : 1 ≤ k ∧ k ≤ 3) :
    Calls Try.prog 104 #[ndV (.mk k m u g o at_ d ks) h, .bool up, .bool top] W fun e W' => e = .returned (.bool (misF up top (.mk k m u g o at_ d ks))) ∧ Below W.heap.size W W' := by
  have NB := NBox.new W k m u g o at_ d ks h
  have hB1 : Below W.heap.size W (W.alloc (.cells #[.int .i64 k, .int .i64 m, .int .i64 u, .int .i64 g, .bool o, .slice h.aa at_.length h.ca, .string d, .slice h.ak ks.length h.ck] 25)) := (Below.refl _ _).alloc (Nat.le_refl _) _
  obtain ⟨R, HR⟩ : ∃ R, Hid (misF up top (.mk k m u g o at_ d ks) = R) := ⟨_, rfl⟩
  rw [HR.out]
  obtain ⟨tm, hm⟩ : ∃ t, (m != 0) = t := ⟨_, rfl⟩
  obtain ⟨tu, hu⟩ : ∃ t, (u != 0) = t := ⟨_, rfl⟩
  obtain ⟨tg, hg⟩ : ∃ t, (g != 0) = t := ⟨_, rfl⟩
  obtain ⟨tl, hl⟩ : ∃ t, decide (0 < at_.length) = t := ⟨_, rfl⟩
  obtain ⟨tk, hk⟩ : ∃ t, decide (0 < ks.length) = t := ⟨_, rfl⟩
  obtain ⟨td, hd⟩ : ∃ t, d.toList.isEmpty = t := ⟨_, rfl⟩
  have HF : Hid (R = ((((k == 3 && ((((!up || tm) || tu) || tg) || tl)) || (k != 1 && !td)) || (k != 2 && (tk || o))) || (o && (top || !up)))) := by show _ = _; rw [← HR.out, misF, hm, hu, hg, hl, hk, hd]
  have hl' : decide (0 < (at_.length : Int)) = tl := by rw [← hl]; congr 1; simp only [eq_iff_iff]; omega
  have hk' : decide (0 < (ks.length : Int)) = tk := by rw [← hk]; congr 1; simp only [eq_iff_iff]; omega
  clear HR
  show Calls Try.prog 104 #[.agg #[.int .i64 k, .int .i64 m, .int .i64 u, .int .i64 g, .bool o, .slice h.aa at_.length h.ca, .string d, .slice h.ak ks.length h.ck], .bool up, .bool top] _ _
  by_cases k3 : k = 3
  · subst k3
    cases up
    · cases tk <;> cases o <;> cases top
      all_goals
        obtain ⟨y0, y1, y2, y3, y4, y5, y6, y7⟩ := NB
        go_enter Try.func104, Try.ntmps104
        go_wp2
        go_ret
        exact ⟨ret_bool HF.out.symm, (Below.refl _ _).alloc (Nat.le_refl _) _⟩
    · cases tm
      · cases tu
        · cases tg
          · cases tl
            · cases td <;> cases tk <;> cases o <;> cases top
              all_goals
                obtain ⟨y0, y1, y2, y3, y4, y5, y6, y7⟩ := NB
                go_enter Try.func104, Try.ntmps104
                go_wp2
                go_ret
                exact ⟨ret_bool HF.out.symm, (Below.refl _ _).alloc (Nat.le_refl _) _⟩
            · cases tk <;> cases o <;> cases top
              all_goals
                obtain ⟨y0, y1, y2, y3, y4, y5, y6, y7⟩ := NB
                go_enter Try.func104, Try.ntmps104
                go_wp2
                go_ret
                exact ⟨ret_bool HF.out.symm, (Below.refl _ _).alloc (Nat.le_refl _) _⟩
          · cases tk <;> cases o <;> cases top
            all_goals
              obtain ⟨y0, y1, y2, y3, y4, y5, y6, y7⟩ := NB
              go_enter Try.func104, Try.ntmps104
              go_wp2
              go_ret
              exact ⟨ret_bool HF.out.symm, (Below.refl _ _).alloc (Nat.le_refl _) _⟩
        · cases tk <;> cases o <;> cases top
          all_goals
            obtain ⟨y0, y1, y2, y3, y4, y5, y6, y7⟩ := NB
            go_enter Try.func104, Try.ntmps104
            go_wp2
            go_ret
            exact ⟨ret_bool HF.out.symm, (Below.refl _ _).alloc (Nat.le_refl _) _⟩
      · cases tk <;> cases o <;> cases top
        all_goals
          obtain ⟨y0, y1, y2, y3, y4, y5, y6, y7⟩ := NB
          go_enter Try.func104, Try.ntmps104
          go_wp2
          go_ret
          exact ⟨ret_bool HF.out.symm, (Below.refl _ _).alloc (Nat.le_refl _) _⟩
  by_cases k2 : k = 2
  · subst k2
    cases td <;> cases o <;> cases top <;> cases up
    all_goals
      obtain ⟨y0, y1, y2, y3, y4, y5, y6, y7⟩ := NB
      go_enter Try.func104, Try.ntmps104
      go_wp2
      go_ret
      exact ⟨ret_bool HF.out.symm, (Below.refl _ _).alloc (Nat.le_refl _) _⟩
  have k1 : k = 1 := by omega
  subst k1
  cases tk <;> cases o <;> cases top <;> cases up
  all_goals
    obtain ⟨y0, y1, y2, y3, y4, y5, y6, y7⟩ := NB
    go_enter Try.func104, Try.ntmps104
    go_wp2
    go_ret
    exact ⟨ret_bool HF.out.symm, (Below.refl _ _).alloc (Nat.le_refl _) _⟩
end Go.Proofs.Ytkkhfnkmfkdhiab
