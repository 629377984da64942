/-
  WHAT grows DOES: the walk.
-/
import Derived.Test.YtkkhfnkmfkdhiabWt
import Derived.Test.YtkkhfnkmfkdhiabNd
namespace Go.Proofs.Ytkkhfnkmfkdhiab
open Go.RowKit

def sA : ByteArray := ⟨#[97]⟩
def sX : ByteArray := ⟨#[120]⟩
def gN : Nd := .mk 2 0 0 0 false [] ⟨#[]⟩ []
def gX : Nd := .mk 1 0 0 0 false [] sX []
def gR : Nd := .mk 2 0 0 0 false [] ⟨#[]⟩ [(sA, gX)]
theorem grows_put : chgF (some gX) [sA] gN = .ok gR := by
  rw [chg_one, if_neg (by simp [gN, Nd.kind])]
  have h : nameB sA = true := by decide
  simp [lastG, h, gN, Nd.kids, fk, insk, Except.map, Nd.with, gR]
theorem grows_find : findF [sA] gR = some gX := find_put grows_put
theorem gN_in (c : Mem) : NdV c gN zH := ndV_iff.2 ⟨.inl rfl, ⟨Nat.le_refl _, by show (0 : Nat) ≤ _; omega⟩, ⟨Nat.le_refl _, by show (0 : Nat) ≤ _; omega⟩, .inl rfl⟩
theorem gX_in (c : Mem) : NdV c gX zH := ndV_iff.2 ⟨.inl rfl, ⟨Nat.le_refl _, by show (0 : Nat) ≤ _; omega⟩, ⟨Nat.le_refl _, by show (0 : Nat) ≤ _; omega⟩, .inl rfl⟩
theorem gR_lim : Lim gR ∧ cnt gR ≤ 1000 := by
  refine ⟨lim_at gR ?_ ?_, ?_⟩
  · simp [gR, gX, At1, At1L]
  · simp [gR, gX, cnt, cntL]
  · simp [gR, gX, cnt, cntL]
theorem strs_one (w : World) (s : ByteArray) (t : TypeId) : Strs (w.alloc (.cells #[.string s] t)).cell? (some ⟨w.heap.size, 0, none⟩) [s] := by
  refine .inr ⟨_, _, rfl, fun i s' hi => ?_⟩
  cases i with
  | zero => simp at hi; subst hi; exact World.cell?_alloc_at _ _ _ _ rfl
  | succ i => simp at hi

set_option maxRecDepth 100000 in
set_option maxHeartbeats 2000000 in
theorem grows_any (W : World) : Calls Try.prog 10 #[] W fun e W' => e = .returned (.bool true) ∧ Below W.heap.size W W' := by
  have hB1 : Below W.heap.size W (W.alloc (.cells #[.string sA] 9)) := (Below.refl _ _).alloc (Nat.le_refl _) _
  have hp : Calls Try.prog 23 #[.agg #[.int .i64 2, .int .i64 0, .int .i64 0, .int .i64 0, .bool false, .slice none 0 0, .string ⟨#[]⟩, .slice none 0 0], .slice (some ⟨W.heap.size, 0, none⟩) 1 1, .agg #[.int .i64 1, .int .i64 0, .int .i64 0, .int .i64 0, .bool false, .slice none 0 0, .string ⟨#[120]⟩, .slice none 0 0]] (W.alloc (.cells #[.string sA] 9)) fun e W' => NdR (W.alloc (.cells #[.string sA] 9)) W' e (chgF (some gX) [sA] gN) :=
    tput_any (gN_in _) (some ⟨W.heap.size, 0, none⟩) 1 [sA] (strs_one W sA 9) (by simp) ⟨by simp, by omega⟩ (by simp [gN, cnt, cntL]) gX zH (gX_in _) (fun r hr => by
      rw [grows_put] at hr
      simp only [Except.ok.injEq] at hr
      subst hr
      exact gR_lim)
  rw [grows_put] at hp
  have HP : Hid _ := hp
  clear hp
  have hf : ∀ (w : World) (h' : Hd), NdV w.cell? gR h' → Calls Try.prog 21 #[ndV gR h', .slice (some ⟨w.heap.size, 0, none⟩) 1 1] (w.alloc (.cells #[.string sA] 9)) fun e W' => (∃ h2, e = .returned (.tuple #[ndV ((findF [sA] gR).getD zN) h2, .bool (findF [sA] gR).isSome]) ∧ NdV W'.cell? ((findF [sA] gR).getD zN) h2) ∧ Below (w.alloc (.cells #[.string sA] 9)).heap.size (w.alloc (.cells #[.string sA] 9)) W' :=
    fun w h' hN => by
      have hb : Below w.heap.size w (w.alloc (.cells #[.string sA] 9)) := (Below.refl _ _).alloc (Nat.le_refl _) _
      have hc : cnt gR ≤ 800 := by simp [gR, gX, cnt, cntL]
      exact tfind_any (W := w.alloc (.cells #[.string sA] 9)) (x0 := gR) (h := h') (hN.ab hb) (some ⟨w.heap.size, 0, none⟩) 1 [sA] (strs_one w sA 9) (by simp) hc gR_lim.1
  rw [grows_find] at hf
  have HF : Hid (∀ (w : World) h', NdV w.cell? gR h' → Calls Try.prog 21 #[ndV gR h', .slice (some ⟨w.heap.size, 0, none⟩) 1 1] (w.alloc (.cells #[.string sA] 9)) fun e W' => (∃ h2, e = .returned (.tuple #[ndV gX h2, .bool true]) ∧ NdV W'.cell? gX h2) ∧ Below (w.alloc (.cells #[.string sA] 9)).heap.size (w.alloc (.cells #[.string sA] 9)) W') := hf
  clear hf
  go_enter Try.func10, Try.ntmps10
  go_wp2_with fail
  refine Calls.mono HP.out ?_
  rintro e w2 ⟨⟨h2, rfl, N2⟩, c2⟩
  have hB2 := hB1.trans (c2.mono hB1.size)
  have e1 : ndV (xNd (.ok gR)) h2 = .agg #[.int .i64 2, .int .i64 0, .int .i64 0, .int .i64 0, .bool false, .slice h2.aa 0 h2.ca, .string ⟨#[]⟩, .slice h2.ak 1 h2.ck] := rfl
  rw [e1, show errV (xErr (.ok gR)) = .nilIface from rfl]
  have B2 := NBox.new w2 2 0 0 0 false [] ⟨#[]⟩ [(sA, gX)] h2
  have c3 : Below w2.heap.size w2 (w2.alloc (.cells #[.int .i64 2, .int .i64 0, .int .i64 0, .int .i64 0, .bool false, .slice h2.aa 0 h2.ca, .string ⟨#[]⟩, .slice h2.ak 1 h2.ck] 25)) := (Below.refl _ _).alloc (Nat.le_refl _) _
  have N3 : NdV (w2.alloc (.cells #[.int .i64 2, .int .i64 0, .int .i64 0, .int .i64 0, .bool false, .slice h2.aa 0 h2.ca, .string ⟨#[]⟩, .slice h2.ak 1 h2.ck] 25)).cell? gR h2 := N2.ab c3
  have hB3 := hB2.trans (c3.mono hB2.size)
  have hf3 := HF.out _ h2 N3
  have HF3 : Hid (Calls Try.prog 21 #[.agg #[.int .i64 2, .int .i64 0, .int .i64 0, .int .i64 0, .bool false, .slice h2.aa 0 h2.ca, .string ⟨#[]⟩, .slice h2.ak 1 h2.ck], .slice (some ⟨(w2.alloc (.cells #[.int .i64 2, .int .i64 0, .int .i64 0, .int .i64 0, .bool false, .slice h2.aa 0 h2.ca, .string ⟨#[]⟩, .slice h2.ak 1 h2.ck] 25)).heap.size, 0, none⟩) 1 1] ((w2.alloc (.cells #[.int .i64 2, .int .i64 0, .int .i64 0, .int .i64 0, .bool false, .slice h2.aa 0 h2.ca, .string ⟨#[]⟩, .slice h2.ak 1 h2.ck] 25)).alloc (.cells #[.string sA] 9)) fun e W' => (∃ h2, e = .returned (.tuple #[ndV gX h2, .bool true]) ∧ NdV W'.cell? gX h2) ∧ Below ((w2.alloc (.cells #[.int .i64 2, .int .i64 0, .int .i64 0, .int .i64 0, .bool false, .slice h2.aa 0 h2.ca, .string ⟨#[]⟩, .slice h2.ak 1 h2.ck] 25)).alloc (.cells #[.string sA] 9)).heap.size ((w2.alloc (.cells #[.int .i64 2, .int .i64 0, .int .i64 0, .int .i64 0, .bool false, .slice h2.aa 0 h2.ca, .string ⟨#[]⟩, .slice h2.ak 1 h2.ck] 25)).alloc (.cells #[.string sA] 9)) W') := hf3
  rw [World.size_alloc] at HF3
  have hB4 : Below W.heap.size W ((w2.alloc (.cells #[.int .i64 2, .int .i64 0, .int .i64 0, .int .i64 0, .bool false, .slice h2.aa 0 h2.ca, .string ⟨#[]⟩, .slice h2.ak 1 h2.ck] 25)).alloc (.cells #[.string sA] 9)) := hB3.alloc hB3.size _
  obtain ⟨y0, y1, y2, y3, y4, y5, y6, y7⟩ := B2
  clear hf3 HF HP c2 c3 hB1 hB2 e1 N2 N3
  go_wp2_with fail
  refine Calls.mono HF3.out ?_
  rintro e w5 ⟨⟨h5, rfl, _⟩, c5⟩
  have hB5 := hB4.trans (c5.mono hB4.size)
  have e2 : ndV gX h5 = .agg #[.int .i64 1, .int .i64 0, .int .i64 0, .int .i64 0, .bool false, .slice h5.aa 0 h5.ca, .string ⟨#[120]⟩, .slice h5.ak 0 h5.ck] := rfl
  rw [e2]
  have B5 := NBox.new w5 1 0 0 0 false [] ⟨#[120]⟩ [] h5
  have c6 : Below w5.heap.size w5 (w5.alloc (.cells #[.int .i64 1, .int .i64 0, .int .i64 0, .int .i64 0, .bool false, .slice h5.aa 0 h5.ca, .string ⟨#[120]⟩, .slice h5.ak 0 h5.ck] 25)) := (Below.refl _ _).alloc (Nat.le_refl _) _
  have hB6 := hB5.trans (c6.mono hB5.size)
  obtain ⟨x0, x1, x2, x3, x4, x5, x6, x7⟩ := B5
  clear y0 y1 y2 y3 y4 y5 y6 y7 HF3 c5 e2 c6 hB5
  go_wp2_with fail
  refine (same_nil _).mono ?_
  rintro e w' ⟨rfl, rfl⟩
  have bx : ((⟨#[120]⟩ : ByteArray).toList == [120]) = true := by rw [Lib.toList_data]; rfl
  go_wp2
  go_ret
  exact ⟨rfl, hB6⟩
end Go.Proofs.Ytkkhfnkmfkdhiab
