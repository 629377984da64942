/-
  MergeSays: the walk.
  WHAT few DOES: the walk.
-/
import Derived.Test.YtgmeecfdkcbggaaGhY
import Derived.Test.YtgmeecfdkcbggaaGeX
import Derived.Test.YtgmeecfdkcbggaaGkY
import Derived.Test.YtgmeecfdkcbggaaTmY
import Derived.Test.YtgmeecfdkcbggaaGdX
namespace Go.Proofs.Ytgmeecfdkcbggaa
open Go.RowKit
/-- A node whose user is its layer. -/
def layF : Nd → Nat → Nd
  | .mk k m _ g o at_ d ks, ly => .mk k m ly g o at_ d ks
set_option maxRecDepth 100000 in
theorem ms1_any {W : World} {S : Nat → Bool} (hS : ∀ k, S k = true → k < W.heap.size) {k m u g : Int} {o : Bool} {at_ : List Kv} {d : ByteArray} {aa : Option Addr} {ca ly : Nat} (h1 : at_.length ≤ ca) (h2 : ca ≤ 9223372036854775807) (h3 : at_.length ≤ 1000) (hk : Kvm (offS W.cell? S) aa at_) :
    Calls Try.prog 19 #[bv k m u g o at_ d aa ca, .int .i64 ly] W (MadeR (layF (.mk k m u g o at_ d []) ly) S W) := by
  have NX := NBw.new W k m u g o at_ d [] ⟨aa, ca, none, 0⟩
  have a1 := alloc_bel2 W (.cells #[.int .i64 k, .int .i64 m, .int .i64 u, .int .i64 g, .bool o, .slice aa at_.length ca, .string d, .slice none 0 0] 31)
  have NR := NBw.zero (W.alloc (.cells #[.int .i64 k, .int .i64 m, .int .i64 u, .int .i64 g, .bool o, .slice aa at_.length ca, .string d, .slice none 0 0] 31))
  have a2 := alloc_bel2 (W.alloc (.cells #[.int .i64 k, .int .i64 m, .int .i64 u, .int .i64 g, .bool o, .slice aa at_.length ca, .string d, .slice none 0 0] 31)) (.cells #[.int .i64 0, .int .i64 0, .int .i64 0, .int .i64 0, .bool false, .slice none 0 0, .string ⟨#[]⟩, .slice none 0 0] 31)
  have hB := a1.trans (a2.mono a1.size)
  replace NX := NX.below a2
  rw [World.size_alloc] at NR
  have HK : Hid (Kvm (offS W.cell? S) aa at_) := hk
  have HS : Hid (∀ k, S k = true → k < W.heap.size) := hS
  clear a1 a2 hk hS
  show Calls Try.prog 19 #[.agg #[.int .i64 k, .int .i64 m, .int .i64 u, .int .i64 g, .bool o, .slice aa at_.length ca, .string d, .slice none 0 0], .int .i64 ly] W _
  go_enter Try.func19, Try.ntmps19
  obtain ⟨⟨y0, y1, y2, y3, y4, y5, y6, y7⟩, yf⟩ := id NX
  obtain ⟨⟨r0, r1, r2, r3, r4, r5, r6, r7⟩, rf⟩ := id NR
  have x2 := yf 2
  have z0 := rf 0
  have z1 := rf 1
  have z2 := rf 2
  have z3 := rf 3
  have z4 := rf 4
  have z5 := rf 5
  have z6 := rf 6
  have z7 := rf 7
  clear y0 y1 y2 y3 y4 y5 y6 y7 yf r0 r1 r2 r3 r4 r5 r6 r7 rf x2 z0 z1 z2 z3 z4 z5 z6 z7 NX NR hB
  have N2 := NBw.new (W.alloc (.cells #[.int .i64 k, .int .i64 m, .int .i64 ly, .int .i64 g, .bool o, .slice aa at_.length ca, .string d, .slice none 0 0] 31)) k m ly g o at_ d [] ⟨aa, ca, none, 0⟩
  rw [World.size_alloc] at N2
  obtain ⟨s0, s1, s2, s3, s4, s5, s6, s7⟩ := N2.1
  simp only [List.length_nil] at s0 s1 s2 s3 s4 s5 s6 s7
  have a1 := alloc_bel2 W (.cells #[.int .i64 k, .int .i64 m, .int .i64 ly, .int .i64 g, .bool o, .slice aa at_.length ca, .string d, .slice none 0 0] 31)
  have a2 := alloc_bel2 (W.alloc (.cells #[.int .i64 k, .int .i64 m, .int .i64 ly, .int .i64 g, .bool o, .slice aa at_.length ca, .string d, .slice none 0 0] 31)) (.cells #[.int .i64 k, .int .i64 m, .int .i64 ly, .int .i64 g, .bool o, .slice aa at_.length ca, .string d, .slice none 0 0] 31)
  have hB := a1.trans (a2.mono a1.size)
  clear a1 a2 N2
  go_wp2
  refine bodyPost_ret (v := bv k m ly g o at_ d aa ca) (by simp [results, Try.results19, go_sem, bv, s0, s1, s2, s3, s4, s5, s6, s7]) rfl ?_
  exact ⟨k, m, ly, g, o, at_, d, aa, ca, rfl, rfl, h1, h2, h3, Kvm.on HK.out (mle_S hB), hB⟩
theorem shP_first {l : Fls} {q : Nd × Nat} {r : Fls} (h : shP l = q :: r) : ∃ r', l = q :: r' := by
  cases l with
  | nil => cases h
  | cons p l =>
    rw [shP] at h
    split at h
    · cases h; exact ⟨_, rfl⟩
    · rw [dirP] at h
      split at h
      · cases h
      · split at h
        · cases h; exact ⟨_, rfl⟩
        · cases h; exact ⟨_, rfl⟩
theorem lay_user {xs : List Nd} : ∃ k m g o at_ d ks, flatD layF (shP (layP xs)) = .mk k m 0 g o at_ d ks := by
  cases h : shP (layP xs) with
  | nil => exact ⟨0, 0, 0, false, [], ⟨#[]⟩, [], rfl⟩
  | cons q r =>
    obtain ⟨r', h1⟩ := shP_first h
    obtain ⟨x, ly⟩ := q
    obtain ⟨k, m, u, g, o, at_, d, ks⟩ := x
    have hz : ly = 0 := by
      unfold layP at h1
      cases xs with
      | nil => cases h1
      | cons y ys => rw [List.zipIdx_cons] at h1; cases h1; rfl
    subst hz
    rw [flatD_cons]
    exact ⟨k, m, g, false, at_, d, _, rfl⟩
end Go.Proofs.Ytgmeecfdkcbggaa
namespace Go.Proofs.Ytgmeecfdkcbggaa
open Go.RowKit
def fewB (l : List ByteArray) : Bool := decide (l.length ≤ 12) && l.all (fun s => decide (s.size ≤ 60))
theorem few_drop {l : List ByteArray} {j : Nat} {s : ByteArray} (h : l[j]? = some s) : (l.drop j).all (fun s => decide (s.size ≤ 60)) = (decide (s.size ≤ 60) && (l.drop (j + 1)).all (fun s => decide (s.size ≤ 60))) := by
  obtain ⟨q1, q2⟩ := List.getElem?_eq_some_iff.1 h
  rw [List.drop_eq_getElem_cons q1, q2, List.all_cons]
set_option maxRecDepth 100000 in
set_option maxHeartbeats 1000000 in
theorem few_any (a : Option Addr) (cl : Nat) (l : List ByteArray) (W : World) (hSt : Strs W.cell? a l) (hll : l.length ≤ 9223372036854775807) :
    Calls Try.prog 7 #[.slice a l.length cl] W fun e W' => e = .returned (.bool (fewB l)) ∧ W' = W := by
  obtain ⟨RR, HRR⟩ : ∃ RR, Hid (fewB l = RR) := ⟨_, rfl⟩
  rw [HRR.out]
  by_cases hl : l.length ≤ 12
  rotate_left
  · have d1 : decide ((12 : Int) < (l.length : Int)) = true := decide_eq_true (by omega)
    have d2 : decide (12 < l.length) = true := decide_eq_true (by omega)
    have HE : Hid (RR = false) := by show _ = _; rw [← HRR.out, fewB, decide_eq_false hl]; rfl
    clear hl hSt HRR
    go_enter Try.func7, Try.ntmps7
    go_wp2
    go_ret
    exact ⟨ret_bool HE.out.symm, rfl⟩
  have d1 : decide ((12 : Int) < (l.length : Int)) = false := decide_eq_false (by omega)
  have d2 : decide (12 < l.length) = false := decide_eq_false (by omega)
  have HN : Hid (RR = (l.drop 0).all (fun s => decide (s.size ≤ 60))) := by show _ = _; rw [← HRR.out, fewB, decide_eq_true hl]; rfl
  have HST : Hid (∀ i s, l[i]? = some s → ∃ b off, a = some ⟨b, off, none⟩ ∧ W.cell? ⟨b, off + i, none⟩ = some (.string s)) := by
    intro i s hi
    rcases hSt with e | ⟨b, off, e, hc⟩
    · rw [e] at hi; simp at hi
    · exact ⟨b, off, e, hc i s hi⟩
  clear hSt HRR
  go_enter Try.func7, Try.ntmps7
  go_wp2
  go_loop [3] (fun i => ∃ j : Nat, j ≤ l.length ∧ i = .int .i64 j ∧ Hid (RR = (l.drop j).all (fun s => decide (s.size ≤ 60)))) (fun i => l.length - (intOf i).toNat)
  case atStart => exact ⟨0, Nat.zero_le _, rfl, HN.out⟩
  case round =>
    obtain ⟨j, hj, rfl, HJ⟩ := hrel
    clear d1 d2
    by_cases hjl : j < l.length
    · have hji : (j : Int) < (l.length : Int) := by omega
      obtain ⟨s, hs⟩ : ∃ s, l[j]? = some s := ⟨l[j], List.getElem?_eq_getElem _⟩
      obtain ⟨b, off, rfl, c0⟩ := HST.out j s hs
      have HD : Hid (RR = (decide (s.size ≤ 60) && (l.drop (j + 1)).all (fun s => decide (s.size ≤ 60)))) := by show _ = _; rw [HJ.out, few_drop hs]
      clear hs
      by_cases h6 : s.size ≤ 60
      · have e1 : decide ((60 : Int) < (s.size : Int)) = false := decide_eq_false (by omega)
        have e2 : decide (60 < s.size) = false := decide_eq_false (by omega)
        have HR3 : Hid (RR = (l.drop (j + 1)).all (fun s => decide (s.size ≤ 60))) := by show _ = _; rw [HD.out, decide_eq_true h6, Bool.true_and]
        clear h6 HD
        go_wp2
        go_round
        case rel => exact ⟨j + 1, by omega, by go_num, HR3.out⟩
        case measure => simp [intOf]; omega
      · have e1 : decide ((60 : Int) < (s.size : Int)) = true := decide_eq_true (by omega)
        have e2 : decide (60 < s.size) = true := decide_eq_true (by omega)
        have HR3 : Hid (RR = false) := by show _ = _; rw [HD.out, decide_eq_false h6, Bool.false_and]
        clear h6 HD
        go_wp2
        go_ret
        exact ⟨ret_bool HR3.out.symm, rfl⟩
    · have hji : decide ((j : Int) < (l.length : Int)) = false := decide_eq_false (by omega)
      have HR3 : Hid (RR = true) := by show _ = _; rw [HJ.out, List.drop_of_length_le (by omega)]; rfl
      go_wp2
      go_ret
      exact ⟨ret_bool HR3.out.symm, rfl⟩
end Go.Proofs.Ytgmeecfdkcbggaa
