/-
  WHAT attr.Drop DOES: the walk.
-/
import Derived.Test.YtpjhckjmahagnaaAl
namespace Go.Proofs.Ytpjhckjmahagnaa
open Go.RowKit

set_option maxRecDepth 100000 in
set_option maxHeartbeats 2000000 in
theorem drop_any (a : Option Addr) (cap : Nat) (l : List Kv) (m : ByteArray) (w : World) (hl : l.length ≤ 1000) (hcap : l.length ≤ cap) (hcm : cap ≤ 9223372036854775807) (hlow : Low l) (hm : m.size ≤ 1000) (h : Kvm w a l) :
    Calls Try.prog 50 #[.slice a l.length cap, .string m] w fun e w' => Made w w' e (drpV l m) (drpF l m) := by
  obtain ⟨P, HP⟩ : ∃ P, Hid (fplc l m = P) := ⟨_, rfl⟩
  obtain ⟨T, HT⟩ : ∃ P, Hid (fthr l m = P) := ⟨_, rfl⟩
  obtain ⟨V, HVV⟩ : ∃ V, Hid (drpV l m = V) := ⟨_, rfl⟩
  obtain ⟨G, HGG⟩ : ∃ V, Hid (drpF l m = V) := ⟨_, rfl⟩
  rw [HVV.out, HGG.out]
  have HBAD : Hid (G ≠ 0 → V = []) := fun hg => by rw [← HVV.out]; unfold drpV; rw [if_pos (by rw [HGG.out]; exact hg)]
  have HGD : Hid (G = 0 → V = drpL l m) := fun hg => by rw [← HVV.out]; unfold drpV; rw [if_neg (by rw [HGG.out]; simpa using hg)]
  by_cases hf : fndF l m = 0
  rotate_left
  · have HF : Hid (fndF l m ≠ 0) := hf
    have HG : Hid (G = fndF l m) := by show _ = _; rw [← HGG.out]; unfold drpF; rw [if_pos HF.out]
    clear hf
    go_enter Try.func50, Try.ntmps50
    go_wp2_with fail
    refine (find_any a cap l m _ hl hlow hm h).mono ?_
    rintro e w1 ⟨rfl, hB⟩
    rw [HP.out, HT.out, errV_of rfl HF.out]
    go_wp2
    go_ret2
    exact Made.bad HG.out HF.out (HBAD.out (by rw [HG.out]; exact HF.out)) hB
  have HF : Hid (fndF l m = 0) := hf
  have hs : Srt l := (fndF_zero.1 hf).1.2.2
  clear hf
  have HP2 : Hid (fplc l m = plc l m) := by show _ = _; unfold fplc; rw [if_pos HF.out]
  have HTK : Hid (l.take (plc l m) = lows l m) := take_plc m hs
  clear HP
  cases hfd : fnd l m with
  | none =>
    have HT2 : Hid (fthr l m = false) := by show _ = _; unfold fthr; rw [hfd]; simp
    have HG : Hid (G = 5) := by show _ = _; rw [← HGG.out]; unfold drpF; rw [if_neg (by simpa using HF.out), if_pos hfd]
    clear HT hfd HTK HGD
    generalize plc l m = p at HP2
    go_enter Try.func50, Try.ntmps50
    go_wp2_with fail
    refine (find_any a cap l m _ hl hlow hm h).mono ?_
    rintro e w1 ⟨rfl, hB⟩
    rw [HP2.out, HT2.out, errV_nil HF.out]
    go_wp2
    go_ret2
    exact Made.bad HG.out (by decide) (HBAD.out (by rw [HG.out]; decide)) hB
  | some x =>
    have HT2 : Hid (fthr l m = true) := by show _ = _; unfold fthr; rw [hfd, decide_eq_true HF.out]; rfl
    obtain ⟨hx, hdr⟩ := at_plc m hs hfd
    have HDR : Hid (l.drop (plc l m + 1) = highs l m) := hdr
    have hlt := (List.getElem?_eq_some_iff.1 hx).1
    have HG : Hid (G = 0) := by show _ = _; rw [← HGG.out]; unfold drpF; rw [if_neg (by simpa using HF.out), if_neg (by rw [hfd]; simp)]
    clear hdr hx
    generalize plc l m = p at HP2 HTK HDR hlt
    have p1 : (0 : Int) ≤ (p : Int) := by omega
    have p2 : (p : Int) ≤ (l.length : Int) := by omega
    have p3 : (p : Int) ≤ (cap : Int) := by omega
    have p4 : (p : Int) + 1 ≤ (l.length : Int) := by omega
    have p5 : (0 : Int) ≤ (p : Int) + 1 := by omega
    have p6 : IntKind.i64.wrap ((p : Int) + 1) = (p : Int) + 1 := wrap_small (by omega) (by omega)
    have HL : Hid ((drpL l m).length ≤ 1000) := by
      show _ ≤ _
      unfold drpL
      have := congrArg List.length HTK.out
      have := congrArg List.length HDR.out
      simp at *; omega
    have htl : (l.take p).length = p := by simp; omega
    clear HT hfd
    have HCC : Hid (∀ (W : World) (bs : Nat), Kvm W a l → W.cell? ⟨bs, 0, none⟩ = some (.slice a p cap) → W.cell? ⟨bs, 1, none⟩ = some (.slice (if cap = p + 1 then a else a.map (·.add ((p + 1) * 2))) (l.length - (p + 1)) (cap - (p + 1))) → Calls Try.prog 78 #[.slice (some ⟨bs, 0, none⟩) 2 2] W fun e w' => (∃ ao cp, e = .returned (.slice ao (drpL l m).length cp) ∧ (drpL l m).length ≤ cp ∧ cp ≤ 9223372036854775807 ∧ Kvm w' ao (drpL l m)) ∧ Below W.heap.size W w') := by
      intro W bs hk h0 h1
      have hk2 : Kvm W (if cap = p + 1 then a else a.map (·.add ((p + 1) * 2))) (l.drop (p + 1)) := by
        split
        · exact Kvm.none (by simp; omega)
        · exact hk.drop (p + 1)
      exact concat2 bs ⟨a, cap, l.take p⟩ ⟨if cap = p + 1 then a else a.map (·.add ((p + 1) * 2)), cap - (p + 1), l.drop (p + 1)⟩ (drpL l m) W (by show drpL l m = l.take p ++ l.drop (p + 1); rw [HTK.out, HDR.out]; rfl) HL.out (by rw [htl]; exact h0) (by rw [show (l.drop (p + 1)).length = l.length - (p + 1) by simp]; exact h1) (hk.take p) hk2
    clear HTK HDR htl
    go_enter Try.func50, Try.ntmps50
    go_wp2_with fail
    refine (find_any a cap l m _ hl hlow hm h).mono ?_
    rintro e w1 ⟨rfl, hB⟩
    rw [HP2.out, HT2.out, errV_nil HF.out]
    have hk1 := h.below hB
    have c0 : (w1.drew.alloc (.cells #[.slice a p cap, .slice (if cap = p + 1 then a else a.map (·.add ((p + 1) * 2))) (l.length - (p + 1)) (cap - (p + 1))] 62)).cell? ⟨w1.heap.size, 0, none⟩ = some (.slice a p cap) := World.cell?_alloc_at _ _ _ _ rfl
    have c1 : (w1.drew.alloc (.cells #[.slice a p cap, .slice (if cap = p + 1 then a else a.map (·.add ((p + 1) * 2))) (l.length - (p + 1)) (cap - (p + 1))] 62)).cell? ⟨w1.heap.size, 1, none⟩ = some (.slice (if cap = p + 1 then a else a.map (·.add ((p + 1) * 2))) (l.length - (p + 1)) (cap - (p + 1))) := World.cell?_alloc_at _ _ _ _ rfl
    have hB1 : Below w.heap.size w (w1.drew.alloc (.cells #[.slice a p cap, .slice (if cap = p + 1 then a else a.map (·.add ((p + 1) * 2))) (l.length - (p + 1)) (cap - (p + 1))] 62)) := (below_drewN hB 1).alloc hB.size _
    have hk2 := h.below hB1
    go_wp2_with fail
    go_region_held3 (fun _ => True) (trivial) (first | (go_at_call 78; refine (HCC.out _ _ hk2 c0 c1).mono ?_; rintro e w2 ⟨⟨ao, cp, rfl, g1, g2, g3⟩, hB4⟩; generalize (if cap = p + 1 then a else a.map (·.add ((p + 1) * 2))) = AD at hk2 c0 c1 hB1 hB4 ⊢))
    all_goals
      have hB5 := hB1.trans (hB4.mono hB1.size)
      clear hB1 hB4 hB hk1 hk2 c0 c1 HCC
    
      go_wp2
      go_ret2
      exact Made.good HG.out (HGD.out HG.out) g1 g2 g3 hB5
end Go.Proofs.Ytpjhckjmahagnaa
