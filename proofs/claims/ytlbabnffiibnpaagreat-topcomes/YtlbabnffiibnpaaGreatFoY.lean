/-
  slices.Backward OF PLACES: the walk.
-/
import Derived.Test.YtlbabnffiibnpaaGreatFiY
namespace Go.Proofs.YtlbabnffiibnpaaGreat
open Go.RowKit Go.Shelf
attribute [local go_sem] Oper.semAt_some
theorem back_any (w : World) (a : Option Addr) (n cap : Nat) :
    Calls Tryz.prog 38 #[.slice a n cap] w fun e w' => e = .returned (.func (.func 63) #[] #[.pointer (some ⟨w.heap.size, 0, none⟩)]) ∧ w' = w.alloc (.cells #[.slice a n cap] 88) := by
  go_enter Tryz.func38, Tryz.ntmps38
  go_wp2
  go_ret
  exact ⟨rfl, rfl⟩
set_option maxRecDepth 100000 in
set_option maxHeartbeats 2000000 in
theorem back1_any (bd : Nat) (va : Option Addr) (cap : Nat) (G : List Pe) (hlen : G.length ≤ 1000) (l : Nat) (J : Nat → World → Prop) (W : World)
    (hJ : ∀ i A, J i A → A.cell? ⟨bd, 0, none⟩ = some (.slice va G.length cap) ∧ (G = [] ∨ ∃ b, va = some ⟨b, 0, none⟩ ∧ ∀ (i : Nat) e, G[i]? = some e → A.cell? ⟨b, i * 2, none⟩ = some (.string e.n) ∧ A.cell? ⟨b, i * 2 + 1, none⟩ = some (.slice e.a e.L.length e.c)))
    (hY : ∀ (i : Nat) e A, G[i]? = some e → J (i + 1) A → YieldAt Fence.wide 0 Tryz.prog l #[.int .i64 i, .agg #[.string e.n, .slice e.a e.L.length e.c]] A fun e B => e = .returned (.bool true) ∧ J i B)
    (h0 : J G.length W) :
    CallsIn Fence.wide 0 Tryz.prog 63 #[.func (.yield l) #[] #[], .pointer (some ⟨bd, 0, none⟩)] W fun e B => (∃ v, e = .returned v) ∧ J 0 B := by
  refine callsIn_of_wp Tryz.func63 rfl trivial ?_ rfl
  simp only [Tryz.ntmps63, List.size_toArray, List.length_cons, List.length_nil, Nat.reduceAdd, Nat.reduceSub, Array.replicate_succ, Array.replicate_zero, List.push_toArray, List.append_toArray, List.nil_append, List.cons_append]
  have hcW := (hJ _ _ h0).1
  have HJ : Hid _ := hJ
  have HY : Hid _ := hY
  obtain ⟨N, HN⟩ : ∃ N, Hid (G.length = N) := ⟨_, rfl⟩
  rw [HN.out] at hcW hlen h0 HJ
  have iw : IntKind.i64.wrap ((N : Int) - 1) = (N : Int) - 1 := wrap_small (by omega) (by omega)
  clear hJ hY
  gi_wp2
  clear hcW iw
  gi_loopw [3] (fun i wr => ∃ j : Nat, j ≤ N ∧ i = .int .i64 ((j : Int) - 1) ∧ J j wr) (fun i _ => (intOf i + 1).toNat)
  case atStart => exact ⟨N, Nat.le_refl _, rfl, h0⟩
  case round =>
    clear h0
    obtain ⟨j, hj, rfl, hJj⟩ := hrel
    cases j with
    | zero =>
      have hb : decide ((0 : Int) ≤ -1) = false := by decide
      gi_wp2
      go_end0
      exact ⟨⟨_, rfl⟩, hJj⟩
    | succ j =>
      obtain ⟨e, he⟩ : ∃ e, G[j]? = some e := ⟨_, List.getElem?_eq_getElem (by rw [HN.out]; omega)⟩
      obtain ⟨c0, hr⟩ := HJ.out _ _ hJj
      obtain ⟨b, rfl, hrow⟩ : ∃ b, va = some ⟨b, 0, none⟩ ∧ ∀ (i : Nat) e, G[i]? = some e → wr.cell? ⟨b, i * 2, none⟩ = some (.string e.n) ∧ wr.cell? ⟨b, i * 2 + 1, none⟩ = some (.slice e.a e.L.length e.c) := by
        rcases hr with q | q
        · rw [q] at he; simp at he
        · exact q
      obtain ⟨r0, r1⟩ := hrow j e he
      have e1 : ((j + 1 : Nat) : Int) - 1 = (j : Int) := by omega
      have hjN : (j : Int) < (N : Int) := by omega
      have hj0 : decide ((0 : Int) ≤ (j : Int)) = true := decide_eq_true (by omega)
      obtain ⟨fn, tmps, assign, body, hyy, hRR⟩ := HY.out j e wr he hJj
      have HRR : Hid _ := hRR
      rw [e1]
      clear hRR he hrow hr e1
      gi_wp2
      refine ⟨rfl, RoundIn.mono HRR.out ?_⟩
      rintro x W3 ⟨rfl, hJ3⟩
      have iw : IntKind.i64.wrap ((j : Int) - 1) = (j : Int) - 1 := wrap_small (by omega) (by omega)
      gi_wp2
      go_roundw
      case rel => exact ⟨j, by omega, rfl, hJ3⟩
      case measure => (simp [intOf]; try omega)
end Go.Proofs.YtlbabnffiibnpaaGreat
