/-
  WHAT attr.Get, attr.Set AND attr.Drop DO: the walks.
-/
import Derived.Test.YtpjhckjmahagnaaAj
import Derived.Deep.RegionHeld3
namespace Go.Proofs.Ytpjhckjmahagnaa
open Go.RowKit

theorem Kvm.take {w : World} {a : Option Addr} {l : List Kv} (h : Kvm w a l) (k : Nat) : Kvm w a (l.take k) := by
  rcases h with rfl | ⟨b, off, ha, hc⟩
  · exact .inl (by simp)
  · refine .inr ⟨b, off, ha, fun i x hi => hc i x ?_⟩
    rw [List.getElem?_take] at hi
    split at hi
    · exact hi
    · cases hi
theorem Kvm.drop {w : World} {a : Option Addr} {l : List Kv} (h : Kvm w a l) (k : Nat) : Kvm w (a.map (·.add (k * 2))) (l.drop k) := by
  rcases h with rfl | ⟨b, off, rfl, hc⟩
  · exact .inl (by simp)
  · refine .inr ⟨b, off + k * 2, ?_, fun i x hi => ?_⟩
    · by_cases hk : k * 2 = 0 <;> simp [Addr.add, hk]
    · rw [List.getElem?_drop] at hi
      obtain ⟨h1, h2⟩ := hc _ x hi
      have e : off + (k + i) * 2 = off + k * 2 + i * 2 := by omega
      rw [e] at h1 h2
      exact ⟨h1, h2⟩
theorem Kvm.none {w : World} {a : Option Addr} {l : List Kv} (h : l.length = 0) : Kvm w a l := .inl (List.eq_nil_of_length_eq_zero h)

theorem ret_str {s s' : ByteArray} {e e' : Value} (h1 : s' = s) (h3 : e' = e) : Ending.returned (.tuple #[.string s, e]) = .returned (.tuple #[.string s', e']) := by rw [h1, h3]
set_option maxRecDepth 100000 in
set_option maxHeartbeats 1000000 in
theorem get_any (a : Option Addr) (cap : Nat) (l : List Kv) (m : ByteArray) (w : World) (hl : l.length ≤ 1000) (hlow : Low l) (hm : m.size ≤ 1000) (h : Kvm w a l) :
    Calls Try.prog 48 #[.slice a l.length cap, .string m] w fun e w' => e = .returned (.tuple #[.string (getV l m), errV (getF l m)]) ∧ Below w.heap.size w w' := by
  obtain ⟨P, HP⟩ : ∃ P, Hid (fplc l m = P) := ⟨_, rfl⟩
  obtain ⟨T, HT⟩ : ∃ P, Hid (fthr l m = P) := ⟨_, rfl⟩
  by_cases hf : fndF l m = 0
  rotate_left
  · have HF : Hid (fndF l m ≠ 0) := hf
    have HG : Hid (getF l m = fndF l m) := by show _ = _; unfold getF; rw [if_pos HF.out]
    have HV : Hid (getV l m = ByteArray.empty) := by show _ = _; unfold getV; rw [if_pos (by rw [HG.out]; exact HF.out)]
    clear hf
    go_enter Try.func48, Try.ntmps48
    go_wp2_with fail
    refine (find_any a cap l m _ hl hlow hm h).mono ?_
    rintro e w1 ⟨rfl, hB⟩
    rw [HP.out, HT.out, errV_of rfl HF.out]
    go_wp2
    go_ret2
    exact ⟨ret_str HV.out (by rw [HG.out, errV_of rfl HF.out]; rfl), hB⟩
  have HF : Hid (fndF l m = 0) := hf
  have hs : Srt l := (fndF_zero.1 hf).1.2.2
  clear hf
  cases hfd : fnd l m with
  | none =>
    have HG : Hid (getF l m = 5) := by show _ = _; unfold getF; rw [if_neg (by simpa using HF.out), hfd, if_pos rfl]
    have HV : Hid (getV l m = ByteArray.empty) := by show _ = _; unfold getV; rw [if_pos (by rw [HG.out]; decide)]
    have HT2 : Hid (fthr l m = false) := by show _ = _; unfold fthr; rw [hfd]; simp
    clear hfd HT
    go_enter Try.func48, Try.ntmps48
    go_wp2_with fail
    refine (find_any a cap l m _ hl hlow hm h).mono ?_
    rintro e w1 ⟨rfl, hB⟩
    rw [HP.out, HT2.out, errV_nil HF.out]
    go_wp2
    go_ret2
    exact ⟨ret_str HV.out (by rw [HG.out]; rfl), hB⟩
  | some x =>
    obtain ⟨hx, _⟩ := at_plc m hs hfd
    have HG : Hid (getF l m = 0) := by show _ = _; unfold getF; rw [if_neg (by simpa using HF.out), hfd, if_neg (by simp)]
    have HV : Hid (getV l m = x.v) := by show _ = _; unfold getV; rw [if_neg (by simpa using HG.out), hfd]
    have HT2 : Hid (fthr l m = true) := by show _ = _; unfold fthr; rw [hfd, decide_eq_true HF.out]; rfl
    have HP2 : Hid (fplc l m = plc l m) := by show _ = _; unfold fplc; rw [if_pos HF.out]
    have hlt := (List.getElem?_eq_some_iff.1 hx).1
    clear hfd HT HP
    generalize plc l m = p at HP2 hx hlt
    have hpi : (p : Int) < (l.length : Int) := by omega
    have h' := h
    rcases h' with rfl | ⟨b, off, rfl, hc⟩
    · simp at hlt
    obtain ⟨q0, q1⟩ := hc p x hx
    have hbl : b < w.heap.size := World.block_lt_of_cell? _ _ q0
    clear hc hx
    go_enter Try.func48, Try.ntmps48
    go_wp2_with fail
    refine (find_any _ cap l m _ hl hlow hm h).mono ?_
    rintro e w1 ⟨rfl, hB⟩
    rw [HP2.out, HT2.out, errV_nil HF.out]
    have q2 : w1.cell? ⟨b, off + p * 2 + 1, none⟩ = some (.string x.v) := (hB.cell (p := ⟨b, off + p * 2 + 1, none⟩) hbl).trans q1
    clear q0 q1 h
    go_wp2
    go_ret2
    exact ⟨ret_str HV.out (errV_nil HG.out), hB⟩

/-- Three parts, and two. -/
theorem concat3 (bs : Nat) (A B C : Pt) (L : List Kv) (w : World) (hL : L = A.l ++ (B.l ++ C.l)) (hl : L.length ≤ 1000)
    (h0 : w.cell? ⟨bs, 0, none⟩ = some (.slice A.a A.l.length A.c)) (h1 : w.cell? ⟨bs, 1, none⟩ = some (.slice B.a B.l.length B.c)) (h2 : w.cell? ⟨bs, 2, none⟩ = some (.slice C.a C.l.length C.c))
    (k0 : Kvm w A.a A.l) (k1 : Kvm w B.a B.l) (k2 : Kvm w C.a C.l) :
    Calls Try.prog 78 #[.slice (some ⟨bs, 0, none⟩) 3 3] w fun e w' => (∃ ao cp, e = .returned (.slice ao L.length cp) ∧ L.length ≤ cp ∧ cp ≤ 9223372036854775807 ∧ Kvm w' ao L) ∧ Below w.heap.size w w' := by
  have hp : parts [A, B, C] = L := by rw [hL]; simp [parts]
  refine (concat_any bs 3 [A, B, C] w (by simp) (by rw [hp]; exact hl) ?_).mono ?_
  · intro i p hi
    match i with
    | 0 => simp at hi; subst hi; exact ⟨h0, k0⟩
    | 1 => simp at hi; subst hi; exact ⟨h1, k1⟩
    | 2 => simp at hi; subst hi; exact ⟨h2, k2⟩
    | j + 3 => simp at hi
  · rintro e w' ⟨⟨v, rfl, hown⟩, hB⟩
    rw [hp] at hown
    obtain ⟨a, cap, hv, g1, g2, g3⟩ := kvm_of_owns hown
    exact ⟨⟨a, cap, by rw [hv], g1, by unfold maxLen at g2; omega, g3⟩, hB⟩
theorem concat2 (bs : Nat) (A B : Pt) (L : List Kv) (w : World) (hL : L = A.l ++ B.l) (hl : L.length ≤ 1000)
    (h0 : w.cell? ⟨bs, 0, none⟩ = some (.slice A.a A.l.length A.c)) (h1 : w.cell? ⟨bs, 1, none⟩ = some (.slice B.a B.l.length B.c))
    (k0 : Kvm w A.a A.l) (k1 : Kvm w B.a B.l) :
    Calls Try.prog 78 #[.slice (some ⟨bs, 0, none⟩) 2 2] w fun e w' => (∃ ao cp, e = .returned (.slice ao L.length cp) ∧ L.length ≤ cp ∧ cp ≤ 9223372036854775807 ∧ Kvm w' ao L) ∧ Below w.heap.size w w' := by
  have hp : parts [A, B] = L := by rw [hL]; simp [parts]
  refine (concat_any bs 2 [A, B] w (by simp) (by rw [hp]; exact hl) ?_).mono ?_
  · intro i p hi
    match i with
    | 0 => simp at hi; subst hi; exact ⟨h0, k0⟩
    | 1 => simp at hi; subst hi; exact ⟨h1, k1⟩
    | j + 2 => simp at hi
  · rintro e w' ⟨⟨v, rfl, hown⟩, hB⟩
    rw [hp] at hown
    obtain ⟨a, cap, hv, g1, g2, g3⟩ := kvm_of_owns hown
    exact ⟨⟨a, cap, by rw [hv], g1, by unfold maxLen at g2; omega, g3⟩, hB⟩
end Go.Proofs.Ytpjhckjmahagnaa
