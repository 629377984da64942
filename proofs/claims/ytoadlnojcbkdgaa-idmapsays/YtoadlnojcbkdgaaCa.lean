/-
  WHAT THE SMALL FUNCTIONS OF PACKAGES cred AND idshiftref DO: the walks of isID, bit, Can, Has, for creds of whatever numbers and groups.
-/
import Derived.Test.YtoadlnojcbkdgaaRows
import Derived.WalkKit
import Derived.WalkSpells
import Derived.WalkLawsBesides
namespace Go.Proofs.Ytoadlnojcbkdgaa
open Go.RowKit

/-- May a number be an id? -/
def idB (x : Int) : Bool := decide (0 ≤ x) && decide (x ≤ 65535)

/-- A slice of ints, its elements zs: nothing is asked of an empty one's address. -/
def Ints (w : World) (a : Option Addr) (zs : List Int) : Prop :=
  zs = [] ∨ ∃ b off, a = some ⟨b, off, none⟩ ∧ ∀ i, i < zs.length → w.cell? ⟨b, off + i, none⟩ = some (.int .i64 (zs.getD i 0))

theorem Ints.below {w w' : World} {a : Option Addr} {zs : List Int} (h : Ints w a zs) (hb : Below w.heap.size w w') : Ints w' a zs := by
  rcases h with h | ⟨b, off, ha, hc⟩
  · exact .inl h
  · exact .inr ⟨b, off, ha, fun i hi => by
      have := hc i hi
      have hlt := World.block_lt_of_cell? _ _ this
      rw [hb.cell (p := ⟨b, off + i, none⟩) hlt]; exact this⟩

theorem bcell {W w1 : World} (hb : Below W.heap.size W w1) : (∀ b o, b < W.heap.size → w1.cell? ⟨b, o, none⟩ = W.cell? ⟨b, o, none⟩) ∧ (∀ b o, b < W.heap.size → w1.frozen? ⟨b, o, none⟩ = W.frozen? ⟨b, o, none⟩) :=
  ⟨fun b o h => hb.cell (p := ⟨b, o, none⟩) h, fun b o h => hb.frozen (p := ⟨b, o, none⟩) h⟩

theorem ret_bool {a b : Bool} (h : a = b) : Ending.returned (.bool a) = .returned (.bool b) := by rw [h]

set_option maxHeartbeats 400000 in
theorem isID_any (x : Int) (w : World) : Calls Try.prog 47 #[.int .i64 x] w fun e w' => e = .returned (.bool (idB x)) ∧ w = w' := by
  by_cases h : 0 ≤ x
  · go_enter Try.func47, Try.ntmps47
    go_wp2
    go_ret
    exact ⟨ret_bool (by simp [idB, h]), rfl⟩
  · have hd : decide (0 ≤ x) = false := by simpa using h
    go_enter Try.func47, Try.ntmps47
    go_wp2
    go_ret
    exact ⟨ret_bool (by simp [idB, hd]), rfl⟩

set_option maxHeartbeats 400000 in
theorem isIDr_any (x : Int) (w : World) : Calls Try.prog 49 #[.int .i64 x] w fun e w' => e = .returned (.bool (idB x)) ∧ w = w' := by
  by_cases h : 0 ≤ x
  · go_enter Try.func49, Try.ntmps49
    go_wp2
    go_ret
    exact ⟨ret_bool (by simp [idB, h]), rfl⟩
  · have hd : decide (0 ≤ x) = false := by simpa using h
    go_enter Try.func49, Try.ntmps49
    go_wp2
    go_ret
    exact ⟨ret_bool (by simp [idB, hd]), rfl⟩

theorem take_no {zs : List Int} {k : Nat} {x : Int} (hlt : k < zs.length) (hno : (zs.take k).contains x = false) (he : ¬ zs[k] = x) : (zs.take (k + 1)).contains x = false := by
  have h1 : ¬ x ∈ zs.take k := by simpa using hno
  have h2 : ¬ x ∈ zs.take (k + 1) := by
    rw [List.take_succ_eq_append_getElem hlt, List.mem_append]
    rintro (h | h)
    · exact h1 h
    · exact he (by simpa using (List.mem_singleton.1 h).symm)
  simpa using h2

/-- In one of its groups? -/
def hasB (g : Int) (zs : List Int) (x : Int) : Bool := (x == g) || zs.contains x

set_option maxHeartbeats 400000 in
theorem has_any (u g x c : Int) (a : Option Addr) (cap : Nat) (zs : List Int) (w : World) (hl : zs.length ≤ 8) (h : Ints w a zs) :
    Calls Try.prog 26 #[.agg #[.int .i64 u, .int .i64 g, .slice a zs.length cap, .int .i64 c], .int .i64 x] w fun e w' =>
      e = .returned (.bool (hasB g zs x)) ∧ Below w.heap.size w w' := by
  by_cases hx : x = g
  · subst hx
    go_enter Try.func26, Try.ntmps26
    go_wp2
    go_ret
    exact ⟨ret_bool (by simp [hasB]), (Below.refl _ _).alloc (Nat.le_refl _) _⟩
  · have hxf : (x == g) = false := by simpa using hx
    go_enter Try.func26, Try.ntmps26
    go_wp2
    go_loop [14] (fun i => ∃ k : Nat, k ≤ zs.length ∧ i = .int .i64 k ∧ (zs.take k).contains x = false) (fun i => zs.length - (intOf i).toNat)
    case atStart => exact ⟨0, Nat.zero_le _, rfl, rfl⟩
    case round =>
      obtain ⟨k, hk, rfl, hno⟩ := hrel
      by_cases hlt : k < zs.length
      · rcases h with rfl | ⟨b, off, rfl, hc⟩
        · simp at hlt
        · have hck := hc k hlt
          have hbl : b < w.heap.size := World.block_lt_of_cell? _ _ hck
          by_cases he : zs[k] = x
          · have heb : (zs[k] == x) = true := by simpa using he
            go_wp2
            go_ret
            exact ⟨ret_bool (by simp [hasB, ← he]), (Below.refl _ _).alloc (Nat.le_refl _) _⟩
          · have heb : (zs[k] == x) = false := by simpa using he
            go_wp2
            go_round
            case rel => exact ⟨k + 1, by omega, by go_num, take_no hlt hno he⟩
            case measure => simp [intOf]; omega
      · go_wp2
        go_ret
        rw [List.take_of_length_le (by omega)] at hno
        exact ⟨ret_bool (by simp [hasB, hxf]; simpa using hno), (Below.refl _ _).alloc (Nat.le_refl _) _⟩

/-! ### Can -/
theorem ret_val {a b : Value} (h : a = b) : Ending.returned a = .returned b := by rw [h]

set_option maxHeartbeats 400000 in
theorem can_any (u g c x : Int) (v : Value) (w : World) :
    Calls Try.prog 28 #[.agg #[.int .i64 u, .int .i64 g, v, .int .i64 c], .int .i64 x] w fun e w' =>
      e = .returned (.bool (bits .and .i64 c x == x)) ∧ Below w.heap.size w w' := by
  go_enter Try.func28, Try.ntmps28
  go_wp2
  go_ret
  exact ⟨rfl, (Below.refl _ _).alloc (Nat.le_refl _) _⟩

/-! ### What is wrong with a cred -/
/-- Of the group at place k: 1: no id; 3: it doesn't rise. -/
def stepF (zs : List Int) (k : Nat) : Int := if idB (zs.getD k 0) = false then 1 else if 0 < k ∧ zs.getD k 0 ≤ zs.getD (k - 1) 0 then 3 else 0
/-- The first wrong group from place k on, of so many. -/
def gF (zs : List Int) : Nat → Nat → Int
  | _, 0 => 0
  | k, n + 1 => if stepF zs k = 0 then gF zs (k + 1) n else stepF zs k
/-- What is wrong with a cred (0: nothing). -/
def credF (u g : Int) (zs : List Int) (c : Int) : Int :=
  if idB u = false ∨ idB g = false ∨ c < 0 ∨ 15 < c then 1 else if 4 < zs.length then 2 else gF zs 0 zs.length
/-- An error, by its number. -/
def errV (n : Int) : Value := if n = 0 then .nilIface else .iface 60 (.int .i64 n)

theorem gF_ok {zs : List Int} {k n : Nat} (h : stepF zs k = 0) : gF zs k (n + 1) = gF zs (k + 1) n := by simp [gF, h]
theorem gF_bad {zs : List Int} {k n : Nat} (h : ¬ stepF zs k = 0) : gF zs k (n + 1) = stepF zs k := by simp [gF, h]
theorem stepF_id {zs : List Int} {k : Nat} (h : idB (zs.getD k 0) = false) : stepF zs k = 1 := by unfold stepF; rw [if_pos h]
theorem stepF_sh {zs : List Int} {k : Nat} (h : idB (zs.getD k 0) = true) (hk : 0 < k) (hle : zs.getD k 0 ≤ zs.getD (k - 1) 0) : stepF zs k = 3 := by
  unfold stepF; rw [if_neg (by rw [h]; decide), if_pos ⟨hk, hle⟩]
theorem stepF_ok0 {zs : List Int} (h : idB (zs.getD 0 0) = true) : stepF zs 0 = 0 := by
  unfold stepF; rw [if_neg (by rw [h]; decide), if_neg (by omega)]
theorem stepF_ok {zs : List Int} {k : Nat} (h : idB (zs.getD k 0) = true) (hle : ¬ zs.getD k 0 ≤ zs.getD (k - 1) 0) : stepF zs k = 0 := by
  unfold stepF; rw [if_neg (by rw [h]; decide), if_neg (by intro hh; exact hle hh.2)]
theorem credF_len {u g c : Int} {zs : List Int} (h1 : idB u = true) (h2 : idB g = true) (h3 : ¬ c < 0) (h4 : ¬ 15 < c) (h5 : ¬ 4 < zs.length) : credF u g zs c = gF zs 0 zs.length := by
  unfold credF; rw [if_neg (by simp [h1, h2]; omega), if_neg h5]
theorem credF_many {u g c : Int} {zs : List Int} (h1 : idB u = true) (h2 : idB g = true) (h3 : ¬ c < 0) (h4 : ¬ 15 < c) (h5 : 4 < zs.length) : credF u g zs c = 2 := by
  unfold credF; rw [if_neg (by simp [h1, h2]; omega), if_pos h5]
theorem credF_one {u g c : Int} {zs : List Int} (h : idB u = false ∨ idB g = false ∨ c < 0 ∨ 15 < c) : credF u g zs c = 1 := by unfold credF; rw [if_pos h]
theorem errV_of {n m : Int} (h : n = m) (hm : m ≠ 0) : errV n = .iface 60 (.int .i64 m) := by subst h; simp [errV, hm]
theorem errV_nil {n : Int} (h : n = 0) : errV n = .nilIface := by subst h; rfl

set_option maxHeartbeats 1000000 in
theorem check_any (u g c : Int) (a : Option Addr) (cap : Nat) (zs : List Int) (w : World) (hl : zs.length ≤ 8) (h : Ints w a zs) :
    Calls Try.prog 24 #[.agg #[.int .i64 u, .int .i64 g, .slice a zs.length cap, .int .i64 c]] w fun e w' =>
      e = .returned (errV (credF u g zs c)) ∧ Below w.heap.size w w' := by
  by_cases hu : idB u = false
  · go_enter Try.func24, Try.ntmps24
    go_wp2_with (go_at_call 47; refine (isID_any _ _).mono ?_; rintro e w' ⟨rfl, rfl⟩)
    go_ret
    exact ⟨ret_val (errV_of (credF_one (.inl hu)) (by decide)).symm, (Below.refl _ _).alloc (Nat.le_refl _) _⟩
  have hu' : idB u = true := by simpa using hu
  clear hu
  by_cases hg : idB g = false
  · go_enter Try.func24, Try.ntmps24
    go_wp2_with (go_at_call 47; refine (isID_any _ _).mono ?_; rintro e w' ⟨rfl, rfl⟩)
    go_ret
    exact ⟨ret_val (errV_of (credF_one (.inr (.inl hg))) (by decide)).symm, (Below.refl _ _).alloc (Nat.le_refl _) _⟩
  have hg' : idB g = true := by simpa using hg
  clear hg
  by_cases hc0 : c < 0
  · go_enter Try.func24, Try.ntmps24
    go_wp2_with (go_at_call 47; refine (isID_any _ _).mono ?_; rintro e w' ⟨rfl, rfl⟩)
    go_ret
    exact ⟨ret_val (errV_of (credF_one (.inr (.inr (.inl hc0)))) (by decide)).symm, (Below.refl _ _).alloc (Nat.le_refl _) _⟩
  have hd0 : decide (c < 0) = false := by simpa using hc0
  by_cases hc1 : 15 < c
  · go_enter Try.func24, Try.ntmps24
    go_wp2_with (go_at_call 47; refine (isID_any _ _).mono ?_; rintro e w' ⟨rfl, rfl⟩)
    go_ret
    exact ⟨ret_val (errV_of (credF_one (.inr (.inr (.inr hc1)))) (by decide)).symm, (Below.refl _ _).alloc (Nat.le_refl _) _⟩
  have hd1 : decide (15 < c) = false := by simpa using hc1
  by_cases hn : 4 < zs.length
  · have HM : Hid (credF u g zs c = 2) := credF_many hu' hg' hc0 hc1 hn
    go_enter Try.func24, Try.ntmps24
    go_wp2_with (go_at_call 47; refine (isID_any _ _).mono ?_; rintro e w' ⟨rfl, rfl⟩)
    go_ret
    exact ⟨ret_val (errV_of HM.out (by decide)).symm, (Below.refl _ _).alloc (Nat.le_refl _) _⟩
  have HF : Hid (credF u g zs c = gF zs 0 zs.length) := credF_len hu' hg' hc0 hc1 hn
  go_enter Try.func24, Try.ntmps24
  go_wp2_with (go_at_call 47; refine (isID_any _ _).mono ?_; rintro e w' ⟨rfl, rfl⟩)
  go_loop [34] (fun i => ∃ k : Nat, k ≤ zs.length ∧ i = .int .i64 k ∧ Hid (gF zs 0 zs.length = gF zs k (zs.length - k))) (fun i => zs.length - (intOf i).toNat)
  case atStart => exact ⟨0, Nat.zero_le _, rfl, rfl⟩
  case round =>
    obtain ⟨k, hk, rfl, HR⟩ := hrel
    by_cases hlt : k < zs.length
    · rcases h with rfl | ⟨b, off, rfl, hc⟩
      · simp at hlt
      · have hck := hc k hlt
        have hbl : b < w.heap.size := World.block_lt_of_cell? _ _ hck
        have HS : Hid (gF zs k (zs.length - k) = gF zs k ((zs.length - (k + 1)) + 1)) := by show _ = _; congr 1; omega
        by_cases hi : idB (zs.getD k 0) = false
        · have hi2 : idB zs[k] = false := by simpa [hlt] using hi
          go_wp2_with (go_at_call 47; refine (isID_any _ _).mono ?_; rintro e w' ⟨rfl, rfl⟩)
          go_ret
          exact ⟨ret_val (errV_of (by rw [HF.out, HR.out, HS.out, gF_bad (by rw [stepF_id hi]; decide), stepF_id hi]) (by decide)).symm, (Below.refl _ _).alloc (Nat.le_refl _) _⟩
        · have hi1 : idB (zs.getD k 0) = true := by simpa using hi
          have hi2 : idB zs[k] = true := by simpa [hlt] using hi1
          clear hi
          rcases k with _ | j
          · have HN : Hid (gF zs 0 (zs.length - 0) = gF zs 1 (zs.length - 1)) := HS.out.trans (gF_ok (stepF_ok0 hi1))
            have hck0 : w.cell? ⟨b, off, none⟩ = some (.int .i64 (zs.getD 0 0)) := by simpa using hck
            clear hi1 HS hck
            go_wp2_with (go_at_call 47; refine (isID_any _ _).mono ?_; rintro e w' ⟨rfl, rfl⟩)
            go_round
            case rel => exact ⟨1, by omega, rfl, HR.out.trans HN.out⟩
            case measure => simp [intOf]; omega
          · have hcj := hc j (by omega)
            have hjl : j < zs.length := by omega
            by_cases hle : zs.getD (j + 1) 0 ≤ zs.getD j 0
            · have HN : Hid (gF zs (j + 1) (zs.length - (j + 1)) = 3) := HS.out.trans ((gF_bad (by rw [stepF_sh hi1 (by omega) hle]; decide)).trans (stepF_sh hi1 (by omega) hle))
              have hle2 : zs[j + 1] ≤ zs[j] := by simpa [hlt, hjl] using hle
              clear hi1 HS hle
              go_wp2_with (go_at_call 47; refine (isID_any _ _).mono ?_; rintro e w' ⟨rfl, rfl⟩)
              go_ret
              exact ⟨ret_val (errV_of (by rw [HF.out, HR.out, HN.out]) (by decide)).symm, (Below.refl _ _).alloc (Nat.le_refl _) _⟩
            · have HN : Hid (gF zs (j + 1) (zs.length - (j + 1)) = gF zs (j + 2) (zs.length - (j + 2))) := HS.out.trans (gF_ok (stepF_ok hi1 hle))
              have hle2 : ¬ zs[j + 1] ≤ zs[j] := by simpa [hlt, hjl] using hle
              have hle3 : decide (zs[j + 1] ≤ zs[j]) = false := by simpa using hle2
              clear hi1 HS hle
              go_wp2_with (go_at_call 47; refine (isID_any _ _).mono ?_; rintro e w' ⟨rfl, rfl⟩)
              go_round
              case rel => exact ⟨j + 2, by omega, by go_num, HR.out.trans HN.out⟩
              case measure => simp [intOf]; omega
    · have e0 : zs.length - k = 0 := by omega
      go_wp2
      go_ret
      exact ⟨ret_val (errV_nil (by rw [HF.out, HR.out, e0]; rfl)).symm, (Below.refl _ _).alloc (Nat.le_refl _) _⟩
end Go.Proofs.Ytoadlnojcbkdgaa
