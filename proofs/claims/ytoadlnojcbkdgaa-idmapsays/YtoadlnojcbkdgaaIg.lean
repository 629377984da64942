/-
  WHAT Canon, Turn AND SameMap DO: the walks.
-/
import Derived.Test.YtoadlnojcbkdgaaIf
namespace Go.Proofs.Ytoadlnojcbkdgaa
open Go.RowKit

def sortL (L : List Rg) : List Rg := L.foldl insR []
def canonL (L : List Rg) : List Rg := joinL (sortL L)
def turnR (r : Rg) : Rg := ⟨r.o, r.i, r.n⟩
theorem sortL_snoc (L : List Rg) (r : Rg) : sortL (L ++ [r]) = insR (sortL L) r := by simp [sortL]
theorem insR_length (L : List Rg) (r : Rg) : (insR L r).length = L.length + 1 := by
  induction L with
  | nil => rfl
  | cons p l ih => unfold insR; split <;> simp [ih]
theorem sortL_length (L : List Rg) : (sortL L).length = L.length := by
  have key : ∀ (M out : List Rg), (M.foldl insR out).length = out.length + M.length := by
    intro M
    induction M with
    | nil => intro out; simp
    | cons r l ih => intro out; simp [ih, insR_length]; omega
  simpa [sortL] using key L []
theorem insR_mem {L : List Rg} {r p : Rg} : p ∈ insR L r ↔ p = r ∨ p ∈ L := by
  induction L with
  | nil => simp [insR]
  | cons q l ih =>
    unfold insR
    split
    · simp [ih]
      constructor
      · rintro (h | h | h) <;> simp [h]
      · rintro (h | h | h) <;> simp [h]
    · simp
theorem sortL_mem {L : List Rg} {p : Rg} : p ∈ sortL L ↔ p ∈ L := by
  have key : ∀ (M out : List Rg), p ∈ M.foldl insR out ↔ p ∈ out ∨ p ∈ M := by
    intro M
    induction M with
    | nil => intro out; simp
    | cons r l ih =>
      intro out
      simp only [List.foldl_cons, ih, insR_mem, List.mem_cons]
      constructor
      · rintro ((h | h) | h) <;> simp [h]
      · rintro (h | h | h) <;> simp [h]
  simpa [sortL] using key L []

theorem owns_base {w : World} {base base' : Nat} {e : TypeId} {size : Nat} {v : Value} {n : Nat} {xs : List Value} (h : w.ownsRow base e size v n xs) (hb : base' ≤ base) : w.ownsRow base' e size v n xs := by
  refine ⟨h.1, ?_⟩
  rcases h.2 with h2 | ⟨g, cap, cur, hv, hg, r⟩
  · exact .inl h2
  · exact .inr ⟨g, cap, cur, hv, Nat.le_trans hb hg, r⟩
/-- A list of ranges, and an error. -/
def errL (n : Int) : Value := .tuple #[.slice none 0 0, errV n]

set_option maxRecDepth 100000 in
set_option maxHeartbeats 1000000 in
theorem canon_bad (a : Option Addr) (cap : Nat) (rs : List Rg) (w : World) (hl : rs.length ≤ 100) (hcap : rs.length ≤ cap) (hok : ∀ r ∈ rs, r.ok) (h : Rgs w a rs) (n : Int) (HN : Hid (mapF rs = n)) (hn0 : n ≠ 0) :
    Calls Try.prog 16 #[.slice a rs.length cap] w fun e w' => e = .returned (errL n) ∧ Below w.heap.size w w' := by
  go_enter Try.func16, Try.ntmps16
  go_wp2_with fail
  refine (checkM_any a cap rs _ hl hcap hok h).mono ?_
  rintro e w1 ⟨rfl, hB1⟩
  rw [errV_of HN.out hn0]
  go_wp2
  go_ret2
  exact ⟨by simp [errL, errV, hn0], hB1⟩

set_option maxRecDepth 100000 in
set_option maxHeartbeats 1000000 in
theorem canon_good (a : Option Addr) (cap : Nat) (rs : List Rg) (w : World) (hl : rs.length ≤ 100) (hcap : rs.length ≤ cap) (hok : ∀ r ∈ rs, r.ok) (h : Rgs w a rs) (HN : Hid (mapF rs = 0)) :
    Calls Try.prog 16 #[.slice a rs.length cap] w fun e w' => ∃ v', e = .returned (.tuple #[v', .nilIface]) ∧ w'.ownsRow w.heap.size 53 3 v' (canonL rs).length (flat (canonL rs)) ∧ Below w.heap.size w w' := by
  go_enter Try.func16, Try.ntmps16
  go_wp2_with fail
  refine (checkM_any a cap rs _ hl hcap hok h).mono ?_
  rintro e w1 ⟨rfl, hB1⟩
  rw [errV_nil HN.out]
  go_wp2_with fail
  go_loopw [5, 15] (fun v i wr => ∃ k : Nat, k ≤ rs.length ∧ i = .int .i64 k ∧ wr.ownsRow w.heap.size 53 3 v (sortL (rs.take k)).length (flat (sortL (rs.take k))) ∧ Below w.heap.size w wr) (fun _ i _ => rs.length - (intOf i).toNat)
  case atStart => exact ⟨0, Nat.zero_le _, rfl, World.ownsRow_nil _ _ _ _, hB1⟩
  case round =>
    obtain ⟨k, hk, rfl, hown, hB⟩ := hrel
    clear hB1
    by_cases hlt : k < rs.length
    · rcases h with rfl | ⟨b, off, rfl, hc⟩
      · simp at hlt
      · obtain ⟨r, hr⟩ : ∃ r, rs[k]? = some r := ⟨rs[k], by simp [hlt]⟩
        obtain ⟨hc0, hc1, hc2⟩ := hc k r hr
        have hbl : b < w.heap.size := World.block_lt_of_cell? _ _ hc0
        have hblr : b < wr.heap.size := Nat.lt_of_lt_of_le hbl hB.size
        have hki : (k : Int) < (rs.length : Int) := by omega
        have HJ : Hid (sortL (rs.take (k + 1)) = insR (sortL (rs.take k)) r) := by show _ = _; rw [take_snoc_get hr, sortL_snoc]
        have hSl : (sortL (rs.take k)).length ≤ 100 := by rw [sortL_length]; exact Nat.le_trans (List.length_take_le _ _) (by omega)
        obtain ⟨ri, ro, rn⟩ := r
        dsimp only at hc0 hc1 hc2
        have q0 : wr.cell? ⟨b, off + k * 3, none⟩ = some (.int .i64 ri) := (hB.cell (p := ⟨b, off + k * 3, none⟩) hbl).trans hc0
        have q1 : wr.cell? ⟨b, off + k * 3 + 1, none⟩ = some (.int .i64 ro) := (hB.cell (p := ⟨b, off + k * 3 + 1, none⟩) hbl).trans hc1
        have q2 : wr.cell? ⟨b, off + k * 3 + 2, none⟩ = some (.int .i64 rn) := (hB.cell (p := ⟨b, off + k * 3 + 2, none⟩) hbl).trans hc2
        have hown1 := hown.alloc (.cells #[.int .i64 ri, .int .i64 ro, .int .i64 rn] 53)
        have hB1 := hB.alloc hB.size (.cells #[.int .i64 ri, .int .i64 ro, .int .i64 rn] 53)
        clear hc0 hc1 hc2 hr hc
        generalize sortL (rs.take k) = J at hown hown1 HJ hSl
        go_wp2_with fail
        refine (lay_any w.heap.size _ J ⟨ri, ro, rn⟩ _ hSl hown1 hB1.size).mono ?_
        rintro e w2 ⟨v2, rfl, hown2, hB2, _, _⟩
        have hB3 := hB1.trans hB2
        clear q0 q1 q2 hown hown1 hB1 hB2 hB
        go_wp2
        go_roundw
        case rel => exact ⟨k + 1, by omega, by go_num, by rw [HJ.out, insR_length]; exact hown2, hB3⟩
        case measure => simp [intOf]; omega
    · rw [List.take_of_length_le (by omega)] at hown
      obtain ⟨a2, cap2, hv, hlc, hcm, hR⟩ := rgs_of_owns0 hown
      subst hv
      have hSl : (sortL rs).length ≤ 100 := by rw [sortL_length]; omega
      have hbd : ∀ r ∈ sortL rs, r.bd := fun r hr => mapF_bd HN.out r (sortL_mem.1 hr)
      have HC : Hid (joinL (sortL rs) = canonL rs) := rfl
      clear hown hlc hcm
      generalize sortL rs = J at hR hSl hbd HC
      go_wp2_with fail
      refine (join_any a2 cap2 J _ hSl hbd hR).mono ?_
      rintro e w2 ⟨v2, rfl, hown2, hB2⟩
      have hB3 := hB.trans (hB2.mono hB.size)
      have hown3 := owns_base hown2 hB.size
      clear hown2 hB2 hB hR hbd
      go_wp2
      go_ret2
      exact ⟨_, rfl, by rw [← HC.out]; exact hown3, hB3⟩
end Go.Proofs.Ytoadlnojcbkdgaa
