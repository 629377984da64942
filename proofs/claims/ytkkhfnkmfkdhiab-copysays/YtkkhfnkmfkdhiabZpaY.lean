/-
  WHAT THE DOCUMENT's Put DOES: all cases together; bounds of what TreeSays handles.
-/
import Derived.Test.YtkkhfnkmfkdhiabZgX
import Derived.Test.YtkkhfnkmfkdhiabZiX
import Derived.Test.YtkkhfnkmfkdhiabZjY
import Derived.Test.YtkkhfnkmfkdhiabZoY
import Derived.Test.YtkkhfnkmfkdhiabZnY
import Derived.Test.YtkkhfnkmfkdhiabZfY
import Derived.Test.YtkkhfnkmfkdhiabNcX
namespace Go.Proofs.Ytkkhfnkmfkdhiab
open Go.RowKit

theorem chg_kind7 {c : Option Nd} {l : List ByteArray} {x : Nd} (hk : x.kind ≠ 2) : chgF c l x = .error 7 := by
  match l with
  | [] => rw [chgF]
  | [m] => rw [chgF, if_pos hk]
  | m :: m' :: l => rw [chgF, if_pos hk]
theorem cnt_kid {x z : Nd} {nm : ByteArray} {p : Nat} (h : x.kids[p]? = some (nm, z)) : cnt z ≤ cnt x := by
  have h1 : ∀ (ks : Kds) (p : Nat), ks[p]? = some (nm, z) → cnt z ≤ cntL ks := by
    intro ks
    induction ks with
    | nil => intro p h; simp at h
    | cons e t ih =>
      intro p h
      obtain ⟨n, y⟩ := e
      rw [cntL]
      cases p with
      | zero =>
        simp at h
        obtain ⟨_, rfl⟩ := h
        omega
      | succ p =>
        have := ih p (by simpa using h)
        omega
  have := h1 _ _ h
  have e := cnt_nd x
  omega
/-- One name. -/
theorem rput_one {W : World} {S : Nat → Bool} (hS0 : ∀ k, S k = true → k < W.heap.size) {x0 : Nd} {h : Hd} (hN : NdV (offS W.cell? S) x0 h) {xp : Nd} {hx : Hd} (hXN : NdV (offS W.cell? S) xp hx) (cut : Bool) (b off cl : Nat) (nm : ByteArray) (hnm : W.cell? ⟨b, off, none⟩ = some (.string nm)) (hk2 : x0.kind = 2) (hcnt : cnt x0 ≤ 800) (hsz : nm.size ≤ 1000) :
    Calls Try.prog 92 #[ndV x0 h, .slice (some ⟨b, off, none⟩) 1 cl, ndV xp hx, .bool cut] W fun e W' => RdE W W' S e (chgF (cutO cut xp) [nm] x0) := by
  cases cut with
  | true =>
    by_cases hA : kidI nm x0.kids 0 < 0
    · have e : chgF (cutO true xp) [nm] x0 = .error 5 := by rw [chgF, if_neg (fun q => q hk2)]; show (lastF none nm x0.kids).map _ = _; rw [lastF, if_pos hA]; rfl
      rw [e]
      exact rput_miss hS0 hN hXN true rfl b off 1 cl nm hnm rfl hk2 hcnt hsz hA
    · have e : chgF (cutO true xp) [nm] x0 = .ok (x0.with (cutK nm x0.kids)) := by rw [chgF, if_neg (fun q => q hk2)]; show (lastF none nm x0.kids).map _ = _; rw [lastF, if_neg hA]; rfl
      rw [e]
      exact rput_cut1 hS0 hN hXN true rfl b off 1 cl nm hnm rfl hk2 hcnt hsz hA
  | false =>
    cases hok : nameB nm with
    | false =>
      have e : chgF (cutO false xp) [nm] x0 = .error 4 := by rw [chgF, if_neg (fun q => q hk2)]; show (lastF (some xp) nm x0.kids).map _ = _; rw [lastF, if_pos hok]; rfl
      rw [e]
      exact rput_bad hS0 hN hXN false rfl b off 1 cl nm hnm rfl hk2 hcnt hsz hok
    | true =>
      have e : chgF (cutO false xp) [nm] x0 = .ok (x0.with (putK nm xp x0.kids)) := by rw [chgF, if_neg (fun q => q hk2)]; show (lastF (some xp) nm x0.kids).map _ = _; rw [lastF, if_neg (by rw [hok]; decide)]; rfl
      rw [e]
      by_cases hA : kidI nm x0.kids 0 < 0
      · exact rput_putN hS0 hN hXN false rfl b off 1 cl nm hnm rfl hk2 hcnt hsz hok hA
      · exact rput_putA hS0 hN hXN false rfl b off 1 cl nm hnm rfl hk2 hcnt hsz hok (by omega)
theorem rput_any (cut : Bool) {xp : Nd} {hx : Hd} : ∀ (l : List ByteArray) (W : World) (S : Nat → Bool), (∀ k, S k = true → k < W.heap.size) → ∀ (x0 : Nd) (h : Hd), NdV (offS W.cell? S) x0 h → NdV (offS W.cell? S) xp hx → ∀ (a : Option Addr) (cl : Nat), Strs W.cell? a l → l.length ≤ 1000 → l.length ≤ cl → cnt x0 ≤ 800 → (∀ s ∈ l, s.size ≤ 1000) →
    Calls Try.prog 92 #[ndV x0 h, .slice a l.length cl, ndV xp hx, .bool cut] W fun e W' => RdE W W' S e (chgF (cutO cut xp) l x0)
  | [], W, S, hS0, x0, h, hN, hXN, a, cl, hSt, hll, hcl, hcnt, hsz => by
    rw [chgF]
    exact rput_zero x0 h xp hx cut a 0 cl (by decide) (.inl rfl)
  | [m], W, S, hS0, x0, h, hN, hXN, a, cl, hSt, hll, hcl, hcnt, hsz => by
    by_cases hk : x0.kind = 2
    · rcases hSt with e | ⟨b, off, rfl, hc⟩
      · cases e
      · exact rput_one hS0 hN hXN cut b off cl m (by have := hc 0 m rfl; rwa [Nat.add_zero] at this) hk hcnt (hsz m (by simp))
    · rw [chg_kind7 hk]
      exact rput_zero x0 h xp hx cut a _ cl hll (.inr hk)
  | m :: m' :: l, W, S, hS0, x0, h, hN, hXN, a, cl, hSt, hll, hcl, hcnt, hsz => by
    by_cases hk : x0.kind = 2
    · rcases hSt with e | ⟨b, off, rfl, hc⟩
      · cases e
      have hm : W.cell? ⟨b, off, none⟩ = some (.string m) := by have := hc 0 m rfl; rwa [Nat.add_zero] at this
      have hlen : (m :: m' :: l).length = l.length + 1 + 1 := rfl
      rcases kidI_at m x0.kids 0 with ⟨hA, _⟩ | ⟨p, z, hA, hz, _⟩
      · have e : chgF (cutO cut xp) (m :: m' :: l) x0 = .error 5 := by rw [chgF, if_neg (fun q => q hk), if_pos (by rw [hA]; decide)]
        rw [e]
        exact rput_lost hS0 hN hXN cut b off _ cl m hm (by rw [hlen]; omega) hll hk hcnt hA
      · rw [Nat.zero_add] at hA
        rw [chg_step hk hA hz]
        have IH : ∀ (W1 : World) (S1 : Nat → Bool), (∀ k, S1 k = true → k < W1.heap.size) → Below W.heap.size W W1 → ∀ hz', NdV (offS W1.cell? S1) z hz' → NdV (offS W1.cell? S1) xp hx → Calls Try.prog 92 #[ndV z hz', .slice (some ⟨b, off + 1, none⟩) ((m :: m' :: l).length - 1) (cl - 1), ndV xp hx, .bool cut] W1 fun e W' => RdE W1 W' S1 e (chgF (cutO cut xp) (m' :: l) z) := by
          intro W1 S1 h1 h2 hz' h3 h4
          have e1 : (m :: m' :: l).length - 1 = (m' :: l).length := rfl
          rw [e1]
          refine rput_any cut (m' :: l) W1 S1 h1 z hz' h3 h4 (some ⟨b, off + 1, none⟩) (cl - 1) (.inr ⟨b, off + 1, rfl, fun i s hi => ?_⟩) (by rw [hlen] at hll; show l.length + 1 ≤ _; omega) (by rw [hlen] at hcl; show l.length + 1 ≤ _; omega) (Nat.le_trans (cnt_kid hz) hcnt) (fun s hs => hsz s (List.mem_cons_of_mem _ hs))
          have h5 := hc (i + 1) s (by simpa using hi)
          rw [show off + (i + 1) = off + 1 + i by omega] at h5
          exact (h2.cell (p := ⟨b, off + 1 + i, none⟩) (World.block_lt_of_cell? _ _ h5)).trans h5
        cases hR : chgF (cutO cut xp) (m' :: l) z with
        | error f =>
          rw [hR] at IH
          exact rput_downE hS0 hN hXN cut b off _ cl m hm (by rw [hlen]; omega) hll hcl hk hcnt p z hA hz f (chg_err7 hR).1 IH
        | ok y =>
          rw [hR] at IH
          exact rput_downO hS0 hN hXN cut b off _ cl m hm (by rw [hlen]; omega) hll hcl hk hcnt p z hA hz y IH
    · rw [chg_kind7 hk]
      exact rput_zero x0 h xp hx cut a _ cl hll (.inr hk)

theorem few_facts {l : List ByteArray} (h : fewB l = true) : l.length ≤ 12 ∧ ∀ s ∈ l, s.size ≤ 60 := by
  unfold fewB at h
  rw [Bool.and_eq_true] at h
  refine ⟨of_decide_eq_true h.1, fun s hs => ?_⟩
  have := List.all_eq_true.1 h.2 s hs
  exact of_decide_eq_true this
theorem zN_lim : Lim zN := lim_at zN (by unfold zN; rw [At1]; exact ⟨Nat.zero_le _, trivial⟩) (by unfold zN; rw [cnt, cntL]; omega)
end Go.Proofs.Ytkkhfnkmfkdhiab
