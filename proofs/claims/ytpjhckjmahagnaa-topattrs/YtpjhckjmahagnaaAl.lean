/-
  WHAT attr.Set DOES: the walk.
-/
import Derived.Test.YtpjhckjmahagnaaAk
namespace Go.Proofs.Ytpjhckjmahagnaa
open Go.RowKit

theorem new_at (w1 : World) (X : Obj) (us : Array Value) (t : TypeId) (i : Nat) (u : Value) (h : us[i]? = some u) : ((w1.alloc X).alloc (.cells us t)).cell? ⟨w1.heap.size + 1, i, none⟩ = some u := by
  have e : ((w1.alloc X).alloc (.cells us t)).cell? ⟨(w1.alloc X).heap.size, i, none⟩ = us[i]? := World.cell?_alloc_at _ _ _ _ rfl
  rw [World.size_alloc] at e
  rw [e, h]
/-- What a list that was made is. -/
def Made (w w' : World) (e : Ending) (L : List Kv) (f : Int) : Prop :=
  (∃ ao cp, e = .returned (.tuple #[.slice ao L.length cp, errV f]) ∧ L.length ≤ cp ∧ cp ≤ 9223372036854775807 ∧ Kvm w' ao L) ∧ Below w.heap.size w w'
theorem Made.bad {w w' : World} {L : List Kv} {f n : Int} (hf : f = n) (hn : n ≠ 0) (hL : L = []) (hB : Below w.heap.size w w') : Made w w' (.returned (.tuple #[.slice none 0 0, .iface 87 (.int .i64 n)])) L f := by
  subst hL hf
  exact ⟨⟨none, 0, by rw [errV_of rfl hn]; rfl, by simp, by simp, .inl rfl⟩, hB⟩
theorem Made.good {w w' : World} {L M : List Kv} {f : Int} {ao : Option Addr} {cp : Nat} (hf : f = 0) (hM : M = L) (h1 : L.length ≤ cp) (h2 : cp ≤ 9223372036854775807) (hk : Kvm w' ao L) (hB : Below w.heap.size w w') : Made w w' (.returned (.tuple #[.slice ao L.length cp, .nilIface])) M f := by
  subst hM hf
  exact ⟨⟨ao, cp, rfl, h1, h2, hk⟩, hB⟩

set_option maxRecDepth 100000 in
set_option maxHeartbeats 2000000 in
theorem set_any (a : Option Addr) (cap : Nat) (l : List Kv) (m v : ByteArray) (w : World) (hl : l.length ≤ 1000) (hcap : l.length ≤ cap) (hcm : cap ≤ 9223372036854775807) (hlow : Low l) (hm : m.size ≤ 1000) (h : Kvm w a l) :
    Calls Try.prog 49 #[.slice a l.length cap, .string m, .string v] w fun e w' => Made w w' e (setV l m v) (setF l m v) := by
  obtain ⟨P, HP⟩ : ∃ P, Hid (fplc l m = P) := ⟨_, rfl⟩
  obtain ⟨T, HT⟩ : ∃ P, Hid (fthr l m = P) := ⟨_, rfl⟩
  obtain ⟨V, HVV⟩ : ∃ V, Hid (setV l m v = V) := ⟨_, rfl⟩
  obtain ⟨G, HGG⟩ : ∃ V, Hid (setF l m v = V) := ⟨_, rfl⟩
  rw [HVV.out, HGG.out]
  have HBAD : Hid (G ≠ 0 → V = []) := fun hg => by rw [← HVV.out]; unfold setV; rw [if_pos (by rw [HGG.out]; exact hg)]
  have HGD : Hid (G = 0 → V = setL l m v) := fun hg => by rw [← HVV.out]; unfold setV; rw [if_neg (by rw [HGG.out]; simpa using hg)]
  by_cases hf : fndF l m = 0
  rotate_left
  · have HF : Hid (fndF l m ≠ 0) := hf
    have HG : Hid (G = fndF l m) := by show _ = _; rw [← HGG.out]; unfold setF; rw [if_pos HF.out]
    clear hf
    go_enter Try.func49, Try.ntmps49
    go_wp2_with fail
    refine (find_any a cap l m _ hl hlow hm h).mono ?_
    rintro e w1 ⟨rfl, hB⟩
    rw [HP.out, HT.out, errV_of rfl HF.out]
    go_wp2
    go_ret2
    exact Made.bad HG.out HF.out (HBAD.out (by rw [HG.out]; exact HF.out)) hB
  have HF : Hid (fndF l m = 0) := hf
  have hs : Srt l := (fndF_zero.1 hf).1.2.2
  have h4 : l.length ≤ 4 := (fndF_zero.1 hf).1.1
  clear hf
  by_cases h20 : 20 < v.size
  · have HG : Hid (G = 1) := by show _ = _; rw [← HGG.out]; unfold setF; rw [if_neg (by simpa using HF.out), if_pos h20]
    have d20 : decide (20 < (v.size : Int)) = true := decide_eq_true (by omega)
    go_enter Try.func49, Try.ntmps49
    go_wp2_with fail
    refine (find_any a cap l m _ hl hlow hm h).mono ?_
    rintro e w1 ⟨rfl, hB⟩
    rw [HP.out, HT.out, errV_nil HF.out]
    go_wp2
    go_ret2
    exact Made.bad HG.out (by decide) (HBAD.out (by rw [HG.out]; decide)) hB
  have d20 : decide (20 < (v.size : Int)) = false := decide_eq_false (by omega)
  have HP2 : Hid (fplc l m = plc l m) := by show _ = _; unfold fplc; rw [if_pos HF.out]
  have HTK : Hid (l.take (plc l m) = lows l m) := take_plc m hs
  have hple := plc_le l m
  clear HP
  cases hfd : fnd l m with
  | none =>
    have HT2 : Hid (fthr l m = false) := by show _ = _; unfold fthr; rw [hfd]; simp
    have HDR : Hid (l.drop (plc l m) = highs l m) := (at_plc_none m hs hfd).1
    generalize plc l m = p at HP2 HTK hple HDR
    have p1 : (0 : Int) ≤ (p : Int) := by omega
    have p2 : (p : Int) ≤ (l.length : Int) := by omega
    have p3 : (p : Int) ≤ (cap : Int) := by omega
    clear HT
    by_cases he : l.length = 4
    · have HG : Hid (G = 2) := by show _ = _; rw [← HGG.out]; unfold setF; rw [if_neg (by simpa using HF.out), if_neg h20, if_pos ⟨hfd, he⟩]
      have de : ((l.length : Int) == 4) = true := by rw [he]; rfl
      clear hfd HDR HTK HGD he
      by_cases hcp : cap = p
      · subst hcp
        go_enter Try.func49, Try.ntmps49
        go_wp2_with fail
        refine (find_any a cap l m _ hl hlow hm h).mono ?_
        rintro e w1 ⟨rfl, hB⟩
        rw [HP2.out, HT2.out, errV_nil HF.out]
        go_wp2
        go_ret2
        exact Made.bad HG.out (by decide) (HBAD.out (by rw [HG.out]; decide)) hB
      · go_enter Try.func49, Try.ntmps49
        go_wp2_with fail
        refine (find_any a cap l m _ hl hlow hm h).mono ?_
        rintro e w1 ⟨rfl, hB⟩
        rw [HP2.out, HT2.out, errV_nil HF.out]
        go_wp2
        go_ret2
        exact Made.bad HG.out (by decide) (HBAD.out (by rw [HG.out]; decide)) hB
    · have HG : Hid (G = 0) := by show _ = _; rw [← HGG.out]; unfold setF; rw [if_neg (by simpa using HF.out), if_neg h20, if_neg (fun e => he e.2)]
      have de : ((l.length : Int) == 4) = false := by simp; omega
      clear hfd he
      by_cases hcp : cap = p
      · subst hcp
        have HN : Hid (highs l m = []) := by show _ = _; rw [← HDR.out]; exact List.drop_of_length_le (by omega)
        have hlen : (setL l m v).length ≤ 1000 := by
          unfold setL
          have := congrArg List.length HTK.out
          have := congrArg List.length HDR.out
          simp at *; omega
        go_enter Try.func49, Try.ntmps49
        go_wp2_with fail
        refine (find_any a cap l m _ hl hlow hm h).mono ?_
        rintro e w1 ⟨rfl, hB⟩
        rw [HP2.out, HT2.out, errV_nil HF.out]
        have hk1 := h.below hB
        go_wp2_with fail
        have hB2 : Below w.heap.size w ((w1.alloc (.cells #[.string m, .string v] 65)).alloc (.cells #[.slice a cap cap, .slice (some ⟨w1.heap.size, 0, none⟩) 1 1, .slice a 0 0] 62)) := (hB.alloc hB.size _).alloc (by have := hB.size; simp; omega) _
        have hB3 : Below w1.heap.size w1 ((w1.alloc (.cells #[.string m, .string v] 65)).alloc (.cells #[.slice a cap cap, .slice (some ⟨w1.heap.size, 0, none⟩) 1 1, .slice a 0 0] 62)) := ((Below.refl _ _).alloc (Nat.le_refl _) _).alloc (by simp) _
        have kb : KBox ((w1.alloc (.cells #[.string m, .string v] 65)).alloc (.cells #[.slice a cap cap, .slice (some ⟨w1.heap.size, 0, none⟩) 1 1, .slice a 0 0] 62)) w1.heap.size ⟨m, v⟩ := by
          have k := KBox.new w1 ⟨m, v⟩
          have hb := (Below.refl _ (w1.alloc (.cells #[.string m, .string v] 65))).alloc (Nat.le_refl _) (.cells #[.slice a cap cap, .slice (some ⟨w1.heap.size, 0, none⟩) 1 1, .slice a 0 0] 62)
          exact ⟨(hb.cell (p := ⟨w1.heap.size, 0, none⟩) (by simp)).trans k.1, (hb.cell (p := ⟨w1.heap.size, 1, none⟩) (by simp)).trans k.2⟩
        refine (concat3 _ ⟨a, cap, l.take cap⟩ ⟨some ⟨w1.heap.size, 0, none⟩, 1, [⟨m, v⟩]⟩ ⟨a, 0, []⟩ (setL l m v) _ ?_ hlen ?_ ?_ ?_ ?_ ?_ ?_).mono ?_
        · show setL l m v = l.take cap ++ ([⟨m, v⟩] ++ [])
          rw [HTK.out]; unfold setL; rw [HN.out]; rfl
        · rw [show (l.take cap).length = cap by simp; omega]; exact new_at _ _ _ _ _ _ rfl
        · exact new_at _ _ _ _ _ _ rfl
        · exact new_at _ _ _ _ _ _ rfl
        · exact (hk1.below hB3).take cap
        · refine .inr ⟨w1.heap.size, 0, rfl, fun k x hkx => ?_⟩
          match k with
          | 0 => simp at hkx; subst hkx; exact kb
          | j + 1 => simp at hkx
        · exact Or.inl rfl
        rintro e w2 ⟨⟨ao, cp, rfl, g1, g2, g3⟩, hB4⟩
        have hB5 := hB2.trans (hB4.mono hB2.size)
        clear hB2 hB3 hB4 kb hB hk1
        go_wp2
        go_ret2
        exact Made.good HG.out (HGD.out HG.out) g1 g2 g3 hB5
      · have HK : Hid (∀ W : World, Kvm W a l → Kvm W (a.map (·.add (p * 2))) (l.drop p)) := fun W hk => hk.drop p
        have hlen : (setL l m v).length ≤ 1000 := by
          unfold setL
          have := congrArg List.length HTK.out
          have := congrArg List.length HDR.out
          simp at *; omega
        go_enter Try.func49, Try.ntmps49
        go_wp2_with fail
        refine (find_any a cap l m _ hl hlow hm h).mono ?_
        rintro e w1 ⟨rfl, hB⟩
        rw [HP2.out, HT2.out, errV_nil HF.out]
        have hk1 := h.below hB
        go_wp2_with fail
        have hB2 : Below w.heap.size w ((w1.alloc (.cells #[.string m, .string v] 65)).alloc (.cells #[.slice a p cap, .slice (some ⟨w1.heap.size, 0, none⟩) 1 1, .slice (a.map (·.add (p * 2))) (l.length - p) (cap - p)] 62)) := (hB.alloc hB.size _).alloc (by have := hB.size; simp; omega) _
        have hB3 : Below w1.heap.size w1 ((w1.alloc (.cells #[.string m, .string v] 65)).alloc (.cells #[.slice a p cap, .slice (some ⟨w1.heap.size, 0, none⟩) 1 1, .slice (a.map (·.add (p * 2))) (l.length - p) (cap - p)] 62)) := ((Below.refl _ _).alloc (Nat.le_refl _) _).alloc (by simp) _
        have kb : KBox ((w1.alloc (.cells #[.string m, .string v] 65)).alloc (.cells #[.slice a p cap, .slice (some ⟨w1.heap.size, 0, none⟩) 1 1, .slice (a.map (·.add (p * 2))) (l.length - p) (cap - p)] 62)) w1.heap.size ⟨m, v⟩ := by
          have k := KBox.new w1 ⟨m, v⟩
          have hb := (Below.refl _ (w1.alloc (.cells #[.string m, .string v] 65))).alloc (Nat.le_refl _) (.cells #[.slice a p cap, .slice (some ⟨w1.heap.size, 0, none⟩) 1 1, .slice (a.map (·.add (p * 2))) (l.length - p) (cap - p)] 62)
          exact ⟨(hb.cell (p := ⟨w1.heap.size, 0, none⟩) (by simp)).trans k.1, (hb.cell (p := ⟨w1.heap.size, 1, none⟩) (by simp)).trans k.2⟩
        refine (concat3 _ ⟨a, cap, l.take p⟩ ⟨some ⟨w1.heap.size, 0, none⟩, 1, [⟨m, v⟩]⟩ ⟨a.map (·.add (p * 2)), cap - p, l.drop p⟩ (setL l m v) _ ?_ hlen ?_ ?_ ?_ ?_ ?_ ?_).mono ?_
        · show setL l m v = l.take p ++ ([⟨m, v⟩] ++ l.drop p)
          rw [HTK.out, HDR.out]; rfl
        · rw [show (l.take p).length = p by simp; omega]; exact new_at _ _ _ _ _ _ rfl
        · exact new_at _ _ _ _ _ _ rfl
        · rw [show (l.drop p).length = l.length - p by simp]; exact new_at _ _ _ _ _ _ rfl
        · exact (hk1.below hB3).take p
        · refine .inr ⟨w1.heap.size, 0, rfl, fun k x hkx => ?_⟩
          match k with
          | 0 => simp at hkx; subst hkx; exact kb
          | j + 1 => simp at hkx
        · exact HK.out _ (hk1.below hB3)
        rintro e w2 ⟨⟨ao, cp, rfl, g1, g2, g3⟩, hB4⟩
        have hB5 := hB2.trans (hB4.mono hB2.size)
        clear hB2 hB3 hB4 kb hB hk1
        go_wp2
        go_ret2
        exact Made.good HG.out (HGD.out HG.out) g1 g2 g3 hB5
  | some x =>
    have HT2 : Hid (fthr l m = true) := by show _ = _; unfold fthr; rw [hfd, decide_eq_true HF.out]; rfl
    obtain ⟨hx, hdr⟩ := at_plc m hs hfd
    have HDR : Hid (l.drop (plc l m + 1) = highs l m) := hdr
    have hlt := (List.getElem?_eq_some_iff.1 hx).1
    have HG : Hid (G = 0) := by show _ = _; rw [← HGG.out]; unfold setF; rw [if_neg (by simpa using HF.out), if_neg h20, if_neg (fun e => by rw [hfd] at e; cases e.1)]
    clear hdr hx
    generalize plc l m = p at HP2 HTK hple HDR hlt
    have p1 : (0 : Int) ≤ (p : Int) := by omega
    have p2 : (p : Int) ≤ (l.length : Int) := by omega
    have p3 : (p : Int) ≤ (cap : Int) := by omega
    have p4 : (p : Int) + 1 ≤ (l.length : Int) := by omega
    have p5 : ¬ cap = p := by omega
    clear HT hfd
    by_cases hcp : cap = p + 1
    · subst hcp
      have HN : Hid (highs l m = []) := by show _ = _; rw [← HDR.out]; exact List.drop_of_length_le (by omega)
      have hlen : (setL l m v).length ≤ 1000 := by
        unfold setL
        have := congrArg List.length HTK.out
        have := congrArg List.length HDR.out
        simp at *; omega
      go_enter Try.func49, Try.ntmps49
      go_wp2_with fail
      refine (find_any a (p + 1) l m _ hl hlow hm h).mono ?_
      rintro e w1 ⟨rfl, hB⟩
      rw [HP2.out, HT2.out, errV_nil HF.out]
      have hk1 := h.below hB
      go_wp2_with fail
      have hB2 : Below w.heap.size w ((w1.alloc (.cells #[.string m, .string v] 65)).alloc (.cells #[.slice a p (p + 1), .slice (some ⟨w1.heap.size, 0, none⟩) 1 1, .slice a 0 0] 62)) := (hB.alloc hB.size _).alloc (by have := hB.size; simp; omega) _
      have hB3 : Below w1.heap.size w1 ((w1.alloc (.cells #[.string m, .string v] 65)).alloc (.cells #[.slice a p (p + 1), .slice (some ⟨w1.heap.size, 0, none⟩) 1 1, .slice a 0 0] 62)) := ((Below.refl _ _).alloc (Nat.le_refl _) _).alloc (by simp) _
      have kb : KBox ((w1.alloc (.cells #[.string m, .string v] 65)).alloc (.cells #[.slice a p (p + 1), .slice (some ⟨w1.heap.size, 0, none⟩) 1 1, .slice a 0 0] 62)) w1.heap.size ⟨m, v⟩ := by
        have k := KBox.new w1 ⟨m, v⟩
        have hb := (Below.refl _ (w1.alloc (.cells #[.string m, .string v] 65))).alloc (Nat.le_refl _) (.cells #[.slice a p (p + 1), .slice (some ⟨w1.heap.size, 0, none⟩) 1 1, .slice a 0 0] 62)
        exact ⟨(hb.cell (p := ⟨w1.heap.size, 0, none⟩) (by simp)).trans k.1, (hb.cell (p := ⟨w1.heap.size, 1, none⟩) (by simp)).trans k.2⟩
      refine (concat3 _ ⟨a, (p + 1), l.take p⟩ ⟨some ⟨w1.heap.size, 0, none⟩, 1, [⟨m, v⟩]⟩ ⟨a, 0, []⟩ (setL l m v) _ ?_ hlen ?_ ?_ ?_ ?_ ?_ ?_).mono ?_
      · show setL l m v = l.take p ++ ([⟨m, v⟩] ++ [])
        rw [HTK.out]; unfold setL; rw [HN.out]; rfl
      · rw [show (l.take p).length = p by simp; omega]; exact new_at _ _ _ _ _ _ rfl
      · exact new_at _ _ _ _ _ _ rfl
      · exact new_at _ _ _ _ _ _ rfl
      · exact (hk1.below hB3).take p
      · refine .inr ⟨w1.heap.size, 0, rfl, fun k x hkx => ?_⟩
        match k with
        | 0 => simp at hkx; subst hkx; exact kb
        | j + 1 => simp at hkx
      · exact Or.inl rfl
      rintro e w2 ⟨⟨ao, cp, rfl, g1, g2, g3⟩, hB4⟩
      have hB5 := hB2.trans (hB4.mono hB2.size)
      clear hB2 hB3 hB4 kb hB hk1
      go_wp2
      go_ret2
      exact Made.good HG.out (HGD.out HG.out) g1 g2 g3 hB5
    · have HK : Hid (∀ W : World, Kvm W a l → Kvm W (a.map (·.add ((p + 1) * 2))) (l.drop (p + 1))) := fun W hk => hk.drop (p + 1)
      have hlen : (setL l m v).length ≤ 1000 := by
        unfold setL
        have := congrArg List.length HTK.out
        have := congrArg List.length HDR.out
        simp at *; omega
      go_enter Try.func49, Try.ntmps49
      go_wp2_with fail
      refine (find_any a cap l m _ hl hlow hm h).mono ?_
      rintro e w1 ⟨rfl, hB⟩
      rw [HP2.out, HT2.out, errV_nil HF.out]
      have hk1 := h.below hB
      go_wp2_with fail
      have hB2 : Below w.heap.size w ((w1.alloc (.cells #[.string m, .string v] 65)).alloc (.cells #[.slice a p cap, .slice (some ⟨w1.heap.size, 0, none⟩) 1 1, .slice (a.map (·.add ((p + 1) * 2))) (l.length - (p + 1)) (cap - (p + 1))] 62)) := (hB.alloc hB.size _).alloc (by have := hB.size; simp; omega) _
      have hB3 : Below w1.heap.size w1 ((w1.alloc (.cells #[.string m, .string v] 65)).alloc (.cells #[.slice a p cap, .slice (some ⟨w1.heap.size, 0, none⟩) 1 1, .slice (a.map (·.add ((p + 1) * 2))) (l.length - (p + 1)) (cap - (p + 1))] 62)) := ((Below.refl _ _).alloc (Nat.le_refl _) _).alloc (by simp) _
      have kb : KBox ((w1.alloc (.cells #[.string m, .string v] 65)).alloc (.cells #[.slice a p cap, .slice (some ⟨w1.heap.size, 0, none⟩) 1 1, .slice (a.map (·.add ((p + 1) * 2))) (l.length - (p + 1)) (cap - (p + 1))] 62)) w1.heap.size ⟨m, v⟩ := by
        have k := KBox.new w1 ⟨m, v⟩
        have hb := (Below.refl _ (w1.alloc (.cells #[.string m, .string v] 65))).alloc (Nat.le_refl _) (.cells #[.slice a p cap, .slice (some ⟨w1.heap.size, 0, none⟩) 1 1, .slice (a.map (·.add ((p + 1) * 2))) (l.length - (p + 1)) (cap - (p + 1))] 62)
        exact ⟨(hb.cell (p := ⟨w1.heap.size, 0, none⟩) (by simp)).trans k.1, (hb.cell (p := ⟨w1.heap.size, 1, none⟩) (by simp)).trans k.2⟩
      refine (concat3 _ ⟨a, cap, l.take p⟩ ⟨some ⟨w1.heap.size, 0, none⟩, 1, [⟨m, v⟩]⟩ ⟨a.map (·.add ((p + 1) * 2)), cap - (p + 1), l.drop (p + 1)⟩ (setL l m v) _ ?_ hlen ?_ ?_ ?_ ?_ ?_ ?_).mono ?_
      · show setL l m v = l.take p ++ ([⟨m, v⟩] ++ l.drop (p + 1))
        rw [HTK.out, HDR.out]; rfl
      · rw [show (l.take p).length = p by simp; omega]; exact new_at _ _ _ _ _ _ rfl
      · exact new_at _ _ _ _ _ _ rfl
      · rw [show (l.drop (p + 1)).length = l.length - (p + 1) by simp]; exact new_at _ _ _ _ _ _ rfl
      · exact (hk1.below hB3).take p
      · refine .inr ⟨w1.heap.size, 0, rfl, fun k x hkx => ?_⟩
        match k with
        | 0 => simp at hkx; subst hkx; exact kb
        | j + 1 => simp at hkx
      · exact HK.out _ (hk1.below hB3)
      rintro e w2 ⟨⟨ao, cp, rfl, g1, g2, g3⟩, hB4⟩
      have hB5 := hB2.trans (hB4.mono hB2.size)
      clear hB2 hB3 hB4 kb hB hk1
      go_wp2
      go_ret2
      exact Made.good HG.out (HGD.out HG.out) g1 g2 g3 hB5
end Go.Proofs.Ytpjhckjmahagnaa
