/-
  WHAT says AND AttrSays DO: the walks.
-/
import Derived.Test.YtpjhckjmahagnaaAn
namespace Go.Proofs.Ytpjhckjmahagnaa
open Go.RowKit

theorem attrr_get (a : Option Addr) (cap : Nat) (l : List Kv) (m v : ByteArray) (w : World) (hl : l.length ≤ 1000) (hlow : Low l) (hm : m.size ≤ 1000) (h : Kvm w a l) :
    Calls Try.prog 51 #[.int .i64 0, .slice a l.length cap, .string m, .string v] w fun e w' => Told w w' e [] (getV l m) (getF l m) := by
  have e1 : raV 0 l m v = [] := by unfold raV; simp
  have e2 : raS 0 l m = getV l m := by unfold raS; simp
  have e3 : raF 0 l m v = getF l m := by unfold raF; simp
  rw [← e1, ← e2, ← e3]
  by_cases hc : chkA l = 0
  · by_cases hcl : classB m = 0
    · exact attrr_bad2 0 a cap l m v w hl hlow hm h hc hcl
    · exact attrr_else 0 a cap l m v w hl hlow hm h hc hcl (by decide)
  · exact attrr_bad1 0 a cap l m v w hl hlow h hc
theorem attrr_drop (a : Option Addr) (cap : Nat) (l : List Kv) (m v : ByteArray) (w : World) (hl : l.length ≤ 1000) (hlow : Low l) (hm : m.size ≤ 1000) (h : Kvm w a l) :
    Calls Try.prog 51 #[.int .i64 2, .slice a l.length cap, .string m, .string v] w fun e w' => Told w w' e (drpV l m) ByteArray.empty (drpF l m) := by
  have e1 : raV 2 l m v = drpV l m := by unfold raV; simp
  have e2 : raS 2 l m = ByteArray.empty := by unfold raS; simp
  have e3 : raF 2 l m v = drpF l m := by unfold raF; simp
  rw [← e1, ← e2, ← e3]
  by_cases hc : chkA l = 0
  · by_cases hcl : classB m = 0
    · exact attrr_bad2 2 a cap l m v w hl hlow hm h hc hcl
    · exact attrr_else 2 a cap l m v w hl hlow hm h hc hcl (by decide)
  · exact attrr_bad1 2 a cap l m v w hl hlow h hc
theorem attrr_set1 (a : Option Addr) (cap : Nat) (l : List Kv) (m v : ByteArray) (w : World) (hl : l.length ≤ 1000) (hlow : Low l) (hm : m.size ≤ 1000) (h : Kvm w a l) :
    Calls Try.prog 51 #[.int .i64 1, .slice a l.length cap, .string m, .string v] w fun e w' => Told w w' e (setV l m v) ByteArray.empty (setF l m v) := by
  have e1 : raV 1 l m v = setV l m v := by unfold raV; simp
  have e2 : raS 1 l m = ByteArray.empty := by unfold raS; simp
  have e3 : raF 1 l m v = setF l m v := by unfold raF; simp
  by_cases hc : chkA l = 0
  · by_cases hcl : classB m = 0
    · rw [← e1, ← e2, ← e3]; exact attrr_bad2 1 a cap l m v w hl hlow hm h hc hcl
    · by_cases hv : 20 < v.size
      · exact attrr_bad3 a cap l m v w hl hlow hm h hc hcl hv
      · exact attrr_set a cap l m v w hl hlow hm h hc hcl (by omega)
  · rw [← e1, ← e2, ← e3]; exact attrr_bad1 1 a cap l m v w hl hlow h hc

theorem says_fact : setF [] ⟨#[117, 46, 97]⟩ ⟨#[120]⟩ = 0 := by decide +kernel
theorem says_list : setV [] ⟨#[117, 46, 97]⟩ ⟨#[120]⟩ = [⟨⟨#[117, 46, 97]⟩, ⟨#[120]⟩⟩] := by
  unfold setV; rw [says_fact]; rfl
set_option maxRecDepth 100000 in
set_option maxHeartbeats 1000000 in
theorem says_any (w : World) : Calls Try.prog 46 #[] w fun e w' => e = .returned (.bool true) ∧ Below w.heap.size w w' := by
  have HS : Hid (setF [] ⟨#[117, 46, 97]⟩ ⟨#[120]⟩ = 0) := says_fact
  have HL : Hid (setV [] ⟨#[117, 46, 97]⟩ ⟨#[120]⟩ = [⟨⟨#[117, 46, 97]⟩, ⟨#[120]⟩⟩]) := says_list
  go_enter Try.func46, Try.ntmps46
  go_wp2_with fail
  refine (set_any none 0 [] ⟨#[117, 46, 97]⟩ ⟨#[120]⟩ _ (by simp) (by simp) (by simp) (by intro x hx; cases hx) (by decide) (.inl rfl)).mono ?_
  rintro e w1 ⟨⟨ao, cp, rfl, g1, g2, g3⟩, hB⟩
  rw [HS.out, HL.out, errV_nil rfl]
  rw [HL.out] at g3
  rcases g3 with g3 | ⟨b, off, rfl, hc⟩
  · cases g3
  obtain ⟨q0, q1⟩ := hc 0 _ rfl
  rw [show off + 0 * 2 = off by omega] at q0 q1
  clear hc HS HL g1
  go_wp2_with fail
  refine (same_nil _).mono ?_
  rintro e w' ⟨rfl, rfl⟩
  go_wp2
  go_ret
  exact ⟨by simp, hB⟩
end Go.Proofs.Ytpjhckjmahagnaa
