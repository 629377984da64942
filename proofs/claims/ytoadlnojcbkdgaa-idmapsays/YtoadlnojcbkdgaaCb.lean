/-
  WHAT own, SameNumbers, SameCred, is AND same DO: the walks, for lists of whatever ints.
-/
import Derived.Test.YtoadlnojcbkdgaaCa
import Derived.Deep.OwnRows
import Derived.Laws.CopyOwn
import Derived.Deep.QuietTactic
import Derived.BigQuiet
namespace Go.Proofs.Ytoadlnojcbkdgaa
open Go.RowKit

theorem Try.info3 : (Try.prog.info? 3).map (fun i => (i.zero, i.size, i.bytes)) = some (some (.int .i64 0), 1, 8) := by kernel_rfl
theorem Try.size3 : (Try.prog.info? 3).map (·.size) = some 1 := by kernel_rfl

theorem splice_all {α : Type} (n : Nat) (z : α) (cs : List α) (h : cs.length = n) : splice (List.replicate n z) 0 cs = cs := by
  subst h; simp [splice]

theorem ints_own {w : World} {g : Nat} {zs : List Int} {t : TypeId} (h : w.heap[g]? = some (.cells (zs.map (Value.int .i64)).toArray t (0, 0))) : Ints w (some ⟨g, 0, none⟩) zs := by
  refine .inr ⟨g, 0, rfl, fun i hi => ?_⟩
  simp [World.cell?, h, hi]

theorem src_ints {w : World} {a : Option Addr} {zs : List Int} (h : Ints w a zs) (o : Obj) : 0 < (zs.map (Value.int .i64)).length → ∃ ad, a = some ad ∧ ∀ j v, (zs.map (Value.int .i64))[j]? = some v → (w.alloc o).cell? (ad.add j) = some v := by
  intro hp
  rcases h with rfl | ⟨b, off, rfl, hc⟩
  · simp at hp
  · refine ⟨_, rfl, fun j v hj => ?_⟩
    have hjl : j < zs.length := by have := (List.getElem?_eq_some_iff.1 hj).1; simpa using this
    have hc' := hc j hjl
    have hv : v = .int .i64 (zs.getD j 0) := by simp [hjl] at hj; simp [hjl, hj]
    subst hv
    have hbl : b < w.heap.size := World.block_lt_of_cell? _ _ hc'
    have h2 : (w.alloc o).cell? ⟨b, off + j, none⟩ = w.cell? ⟨b, off + j, none⟩ := World.cell?_alloc_lt _ _ _ hbl
    have e : (⟨b, off, none⟩ : Addr).add j = ⟨b, off + j, none⟩ := by by_cases hj0 : j = 0 <;> simp [Addr.add, hj0]
    rw [e]; exact h2.trans hc'

set_option maxHeartbeats 400000 in
theorem own_any (a : Option Addr) (cap : Nat) (zs : List Int) (w : World) (hl : zs.length ≤ 8) (h : Ints w a zs) :
    Calls Try.prog 48 #[.slice a zs.length cap] w fun e w' =>
      ∃ g, e = .returned (.slice (some ⟨g, 0, none⟩) zs.length zs.length) ∧ g = w.heap.size ∧ g < w'.heap.size ∧ Ints w' (some ⟨g, 0, none⟩) zs ∧ Below w.heap.size w w' := by
  have hmk := run_make_row' (P := Try.prog) 38 3 (.int .i64 0) 8 Try.underlying38 Try.info3 rfl .i64 .i64 zs.length (by omega) (by omega)
  go_enter Try.func48, Try.ntmps48
  go_wp2_with (refine wpList_copy_splice rfl (.tmp 7) (.tmp 8) 38 38 rfl 3 Try.underlying38 Try.size3 (some ⟨w.heap.size, 0, none⟩) a zs.length zs.length zs.length cap rfl rfl w.heap.size 0 (List.replicate zs.length (.int .i64 0)) 3 ?q1 (zs.map (Value.int .i64)) ?q2 (fun hp => ⟨rfl, src_ints h _ hp⟩) ?q4 ?q5 w.heap.size w ?q6 (Nat.le_refl _) ?q7)
  case q1 =>
    rw [show madeCells #[Value.int .i64 0] zs.length = (List.replicate zs.length (Value.int .i64 0)).toArray from by rw [← toList_madeCells_one]]
    show (w.heap.push _)[w.heap.size]? = _; simp
  case q2 => simp
  case q4 => simp
  case q5 => intro v hv; simp at hv; obtain ⟨z, _, rfl⟩ := hv; rfl
  case q6 => exact (Below.refl _ _).alloc (Nat.le_refl _) _
  case q7 =>
    intro w1 hg hb
    go_wp2
    go_ret
    have hg' := hg.out
    rw [splice_all _ _ _ (by simp)] at hg'
    exact ⟨_, rfl, rfl, (Array.getElem?_eq_some_iff.1 hg').1, ints_own hg', hb⟩

theorem take_eq_succ {zs ys : List Int} {k : Nat} (h1 : k < zs.length) (h2 : k < ys.length) (h : zs.take k = ys.take k) (he : zs[k] = ys[k]) : zs.take (k + 1) = ys.take (k + 1) := by
  rw [List.take_succ_eq_append_getElem h1, List.take_succ_eq_append_getElem h2, h, he]

set_option maxHeartbeats 400000 in
theorem sameNumbers_any (a b : Option Addr) (c1 c2 n m : Nat) (zs ys : List Int) (w : World) (hn : zs.length = n) (hm : ys.length = m) (hl : n ≤ 8) (hl2 : m ≤ 8) (h : Ints w a zs) (h' : Ints w b ys) :
    Calls Try.prog 51 #[.slice a n c1, .slice b m c2] w fun e w' => e = .returned (.bool (decide (zs = ys))) ∧ Below w.heap.size w w' := by
  by_cases hnm : n = m
  · subst hnm
    have hne : ((n : Int) != (n : Int)) = false := by simp
    go_enter Try.func51, Try.ntmps51
    go_wp2
    go_loopw [5] (fun i wr => ∃ k : Nat, k ≤ n ∧ i = .int .i64 k ∧ Hid (zs.take k = ys.take k) ∧ Below w.heap.size w wr) (fun i _ => n - (intOf i).toNat)
    case atStart => exact ⟨0, Nat.zero_le _, rfl, rfl, Below.refl _ _⟩
    case round =>
      obtain ⟨k, hk, rfl, HR, hb⟩ := hrel
      by_cases hlt : k < n
      · rcases h with rfl | ⟨ba, oa, rfl, hc⟩
        · simp at hn; omega
        · rcases h' with rfl | ⟨bb, ob, rfl, hc'⟩
          · simp at hm; omega
          · have hkz : k < zs.length := by omega
            have hky : k < ys.length := by omega
            have h1 := hc k hkz
            have h2 := hc' k hky
            have q1 : wr.cell? ⟨ba, oa + k, none⟩ = some (.int .i64 zs[k]) := by
              rw [hb.cell (p := ⟨ba, oa + k, none⟩) (World.block_lt_of_cell? _ _ h1), h1]; simp [hkz]
            have q2 : wr.cell? ⟨bb, ob + k, none⟩ = some (.int .i64 ys[k]) := by
              rw [hb.cell (p := ⟨bb, ob + k, none⟩) (World.block_lt_of_cell? _ _ h2), h2]; simp [hky]
            have hki : (k : Int) < (n : Int) := by omega
            clear h1 h2 hc hc'
            by_cases he : zs[k] = ys[k]
            · have HE : Hid (zs[k] = ys[k]) := he
              have heb : (zs[k] != ys[k]) = false := by simpa using he
              clear he
              go_wp2
              go_quiet (fail)
              go_wp2
              go_roundw
              case rel => exact ⟨k + 1, by omega, by go_num, take_eq_succ hkz hky HR.out HE.out, below_drewN hb _⟩
              case measure => simp [intOf]; omega
            · have heb : (zs[k] != ys[k]) = true := by simpa using he
              go_wp2
              go_quiet (fail)
              go_wp2
              go_ret
              exact ⟨ret_bool (by symm; simp; intro e; subst e; exact he rfl), below_drewN hb _⟩
      · go_wp2
        go_ret
        have e1 := HR.out
        rw [List.take_of_length_le (by omega), List.take_of_length_le (by omega)] at e1
        exact ⟨ret_bool (by simp [e1]), hb⟩
  · have hne : ((n : Int) != (m : Int)) = true := by simp; omega
    go_enter Try.func51, Try.ntmps51
    go_wp2
    go_ret
    exact ⟨ret_bool (by symm; simp; intro e; rw [e] at hn; omega), Below.refl _ _⟩

/-! ### SameCred -/
set_option maxHeartbeats 400000 in
theorem sameCred_yes (u g c : Int) (a b : Option Addr) (c1 c2 n : Nat) (zs : List Int) (w : World) (hn : zs.length = n) (hl : n ≤ 8) (h : Ints w a zs) (h' : Ints w b zs) :
    Calls Try.prog 29 #[.agg #[.int .i64 u, .int .i64 g, .slice a n c1, .int .i64 c], .agg #[.int .i64 u, .int .i64 g, .slice b n c2, .int .i64 c]] w fun e w' =>
      e = .returned (.bool true) ∧ Below w.heap.size w w' := by
  have hd : decide (zs = zs) = true := by simp
  go_enter Try.func29, Try.ntmps29
  go_wp2_with fail
  refine (sameNumbers_any a b c1 c2 n n zs zs _ hn hn hl hl ?_ ?_).mono ?_
  · exact h.below (((Below.refl _ _).alloc (Nat.le_refl _) _).alloc (by simp) _)
  · exact h'.below (((Below.refl _ _).alloc (Nat.le_refl _) _).alloc (by simp) _)
  · rintro e w1 ⟨rfl, hb⟩
    go_wp2
    go_ret
    exact ⟨rfl, (((Below.refl _ _).alloc (Nat.le_refl _) _).alloc (by simp) _).trans (hb.mono (by simp; omega))⟩

/-! ### is, same: an error by its number -/
theorem assert60 (W : World) (n : Int) : (Instr.typeAssert (.iface 60 (.int .i64 n)) 30 60 true).run Try.prog W = .ok (.tuple #[.int .i64 n, .bool true]) W := by kernel_rfl

set_option maxHeartbeats 400000 in
theorem is_nil (w : World) : Calls Try.prog 34 #[.nilIface, .int .i64 0] w fun e w' => e = .returned (.bool true) ∧ w = w' := by
  go_enter Try.func34, Try.ntmps34
  go_wp2
  go_ret
  exact ⟨rfl, rfl⟩
set_option maxHeartbeats 400000 in
theorem same_nil (w : World) : Calls Try.prog 14 #[.nilIface, .int .i64 0] w fun e w' => e = .returned (.bool true) ∧ w = w' := by
  go_enter Try.func14, Try.ntmps14
  go_wp2
  go_ret
  exact ⟨rfl, rfl⟩
set_option maxHeartbeats 400000 in
theorem same_err (n : Int) (hn : 0 < n) (w : World) : Calls Try.prog 14 #[.iface 60 (.int .i64 n), .int .i64 n] w fun e w' => e = .returned (.bool true) ∧ w = w' := by
  have ha := assert60
  go_enter Try.func14, Try.ntmps14
  go_wp2
  go_ret
  exact ⟨rfl, rfl⟩

end Go.Proofs.Ytoadlnojcbkdgaa
