/-
  WHAT cred.Has, cred.Can AND PACKAGE perm DO: the walks, for creds and things of whatever numbers.
-/
import Derived.Test.YtoojeehgkejeeaaRows
import Derived.WalkKit
import Derived.WalkSpells
import Derived.WalkLawsBesides
namespace Go.Proofs.Ytoojeehgkejeeaa
open Go.RowKit

/-- A slice of ints, its elements zs: nothing is asked of an empty one's address. -/
def Ints (w : World) (a : Option Addr) (zs : List Int) : Prop :=
  zs = [] ∨ ∃ b off, a = some ⟨b, off, none⟩ ∧ ∀ i, i < zs.length → w.cell? ⟨b, off + i, none⟩ = some (.int .i64 (zs.getD i 0))

theorem Ints.below {w w' : World} {a : Option Addr} {zs : List Int} (h : Ints w a zs) (hb : Below w.heap.size w w') : Ints w' a zs := by
  rcases h with h | ⟨b, off, ha, hc⟩
  · exact .inl h
  · exact .inr ⟨b, off, ha, fun i hi => by
      have := hc i hi
      have hlt := World.block_lt_of_cell? _ _ this
      rw [hb.cell (p := ⟨b, off + i, none⟩) hlt]; exact this⟩
theorem Ints.alloc {w : World} {a : Option Addr} {zs : List Int} (h : Ints w a zs) (o : Obj) : Ints (w.alloc o) a zs := h.below ((Below.refl _ _).alloc (Nat.le_refl _) _)

theorem ret_bool {a b : Bool} (h : a = b) : Ending.returned (.bool a) = .returned (.bool b) := by rw [h]
theorem ret_int {a b : Int} (h : a = b) : Ending.returned (.int .i64 a) = .returned (.int .i64 b) := by rw [h]

theorem take_no {zs : List Int} {k : Nat} {x : Int} (hlt : k < zs.length) (hno : (zs.take k).contains x = false) (he : ¬ zs[k] = x) : (zs.take (k + 1)).contains x = false := by
  have h1 : ¬ x ∈ zs.take k := by simpa using hno
  have h2 : ¬ x ∈ zs.take (k + 1) := by
    rw [List.take_succ_eq_append_getElem hlt, List.mem_append]
    rintro (h | h)
    · exact h1 h
    · exact he (by simpa using (List.mem_singleton.1 h).symm)
  simpa using h2

/-- In one of its groups? -/
def hasB (g : Int) (zs : List Int) (x : Int) : Bool := (x == g) || zs.contains x

/-- A cred, as a value. -/
abbrev credV (u g : Int) (a : Option Addr) (n cap : Nat) (c : Int) : Value := .agg #[.int .i64 u, .int .i64 g, .slice a n cap, .int .i64 c]
/-- A thing, as a value. -/
abbrev thingV (d : Bool) (m tu tg : Int) (mp : Bool) : Value := .agg #[.bool d, .int .i64 m, .int .i64 tu, .int .i64 tg, .bool mp]

set_option maxHeartbeats 400000 in
theorem has_any (u g x c : Int) (a : Option Addr) (cap : Nat) (zs : List Int) (w : World) (hl : zs.length ≤ 9223372036854775807) (h : Ints w a zs) :
    Calls Try.prog 28 #[.agg #[.int .i64 u, .int .i64 g, .slice a zs.length cap, .int .i64 c], .int .i64 x] w fun e w' =>
      e = .returned (.bool (hasB g zs x)) ∧ Below w.heap.size w w' := by
  by_cases hx : x = g
  · subst hx
    go_enter Try.func28, Try.ntmps28
    go_wp2
    go_ret
    exact ⟨ret_bool (by simp [hasB]), (Below.refl _ _).alloc (Nat.le_refl _) _⟩
  · have hxf : (x == g) = false := by simpa using hx
    go_enter Try.func28, Try.ntmps28
    go_wp2
    go_loop [14] (fun i => ∃ k : Nat, k ≤ zs.length ∧ i = .int .i64 k ∧ (zs.take k).contains x = false) (fun i => zs.length - (intOf i).toNat)
    case atStart => exact ⟨0, Nat.zero_le _, rfl, rfl⟩
    case round =>
      obtain ⟨k, hk, rfl, hno⟩ := hrel
      by_cases hlt : k < zs.length
      · rcases h with rfl | ⟨b, off, rfl, hc⟩
        · simp at hlt
        · have hck := hc k hlt
          have hbl : b < w.heap.size := World.block_lt_of_cell? _ _ hck
          by_cases he : zs[k] = x
          · have heb : (zs[k] == x) = true := by simpa using he
            go_wp2
            go_ret
            exact ⟨ret_bool (by simp [hasB, ← he]), (Below.refl _ _).alloc (Nat.le_refl _) _⟩
          · have heb : (zs[k] == x) = false := by simpa using he
            go_wp2
            go_round
            case rel => exact ⟨k + 1, by omega, by go_num, take_no hlt hno he⟩
            case measure => simp [intOf]; omega
      · go_wp2
        go_ret
        rw [List.take_of_length_le (by omega)] at hno
        exact ⟨ret_bool (by simp [hasB, hxf]; simpa using hno), (Below.refl _ _).alloc (Nat.le_refl _) _⟩

set_option maxHeartbeats 400000 in
theorem can_any (u g c x : Int) (v : Value) (w : World) :
    Calls Try.prog 30 #[.agg #[.int .i64 u, .int .i64 g, v, .int .i64 c], .int .i64 x] w fun e w' =>
      e = .returned (.bool (bits .and .i64 c x == x)) ∧ Below w.heap.size w w' := by
  go_enter Try.func30, Try.ntmps30
  go_wp2
  go_ret
  exact ⟨rfl, (Below.refl _ _).alloc (Nat.le_refl _) _⟩

/-- Is one its user? -/
def isU (u : Int) (tu : Int) (mp : Bool) : Bool := mp && tu == u

set_option maxHeartbeats 400000 in
theorem isUsers_any (u g c : Int) (v : Value) (d : Bool) (m tu tg : Int) (mp : Bool) (w : World) :
    Calls Try.prog 63 #[.agg #[.int .i64 u, .int .i64 g, v, .int .i64 c], .agg #[.bool d, .int .i64 m, .int .i64 tu, .int .i64 tg, .bool mp]] w fun e w' =>
      e = .returned (.bool (isU u tu mp)) ∧ Below w.heap.size w w' := by
  cases mp
  · go_enter Try.func63, Try.ntmps63
    go_wp2
    go_ret
    exact ⟨rfl, ((Below.refl _ _).alloc (Nat.le_refl _) _).alloc (by simp) _⟩
  · go_enter Try.func63, Try.ntmps63
    go_wp2
    go_ret
    exact ⟨ret_bool (by simp [isU]), ((Below.refl _ _).alloc (Nat.le_refl _) _).alloc (by simp) _⟩
end Go.Proofs.Ytoojeehgkejeeaa
