/-
  THE DOCUMENT's POOL: Give: the walk.
-/
import Derived.Test.YtkkhfnkmfkdhiabQc
namespace Go.Proofs.Ytkkhfnkmfkdhiab
open Go.RowKit Go.Maps

theorem take_src {w : World} {g : Nat} {xs : List Value} (hc : ∀ k u, xs[k]? = some u → w.cell? ⟨g, k, none⟩ = some u) (j : Nat) : ∀ k u, (xs.take j)[k]? = some u → w.cell? ((⟨g, 0, none⟩ : Addr).add k) = some u := by
  intro k u hk
  rw [addr_add, Nat.zero_add]
  refine hc k u ?_
  by_cases hkj : k < j
  · rwa [List.getElem?_take_of_lt hkj] at hk
  · rw [List.getElem?_eq_none (by simp; omega)] at hk; cases hk
theorem drop_src {w : World} {g cap n j : Nat} {xs : List Value} (hc : ∀ k u, xs[k]? = some u → w.cell? ⟨g, k, none⟩ = some u) (hn : xs.length = n) (hle : n ≤ cap) {AD : Option Addr} (hAD : (if cap = j + 1 then some (⟨g, 0, none⟩ : Addr) else some ⟨g, j + 1, none⟩) = AD) :
    (AD = none ∧ n - (j + 1) = 0) ∨ ∃ ad, AD = some ad ∧ ∀ k u, (xs.drop (j + 1))[k]? = some u → w.cell? (ad.add k) = some u := by
  right
  split at hAD
  · rename_i e
    refine ⟨_, hAD.symm, fun k u hk => ?_⟩
    rw [List.getElem?_eq_none (by simp; omega)] at hk; cases hk
  · refine ⟨_, hAD.symm, fun k u hk => ?_⟩
    rw [addr_add]
    rw [List.getElem?_drop] at hk
    exact hc _ u hk
theorem cut_who {w : World} {b j : Nat} {v : Value} {L : Ppl} (h : w.ownsRow b 3 1 v (j + (L.length - (j + 1))) ([] ++ (whoC L).take j ++ (whoC L).drop (j + 1))) (hj : j < L.length) : w.ownsRow b 3 1 v (cutI L j).length (whoC (cutI L j)) := by
  have e1 : ([] ++ (whoC L).take j ++ (whoC L).drop (j + 1)) = whoC (cutI L j) := by simp [whoC, cutI]
  have e2 : j + (L.length - (j + 1)) = (cutI L j).length := by rw [cutI_len hj]; omega
  rwa [e1, e2] at h
theorem cut_num {w : World} {b j : Nat} {v : Value} {L : Ppl} (h : w.ownsRow b 3 1 v (j + (L.length - (j + 1))) ([] ++ (numC L).take j ++ (numC L).drop (j + 1))) (hj : j < L.length) : w.ownsRow b 3 1 v (cutI L j).length (numC (cutI L j)) := by
  have e1 : ([] ++ (numC L).take j ++ (numC L).drop (j + 1)) = numC (cutI L j) := by simp [numC, cutI]
  have e2 : j + (L.length - (j + 1)) = (cutI L j).length := by rw [cutI_len hj]; omega
  rwa [e1, e2] at h
theorem row_cells {w : World} {b g n cap : Nat} {xs : List Value} (h : w.ownsRow b 3 1 (.slice (some ⟨g, 0, none⟩) n cap) n xs) : ∀ k u, xs[k]? = some u → w.cell? ⟨g, k, none⟩ = some u := by
  obtain ⟨a, c, e, _, _, hf⟩ := owns_cells h
  simp only [Value.slice.injEq] at e
  obtain ⟨rfl, _, _⟩ := e
  rcases hf with ⟨e, _⟩ | ⟨g', e, _, _, hc, _⟩
  · cases e
  · cases e; exact hc
theorem giv_mid {W w5 w6 : World} {qb n5 : Nat} {xs5 : List Value} {v5 v6 x y z : Value} (hb : B3 W qb x y z) (hg5 : W.drew.grownBy w5 none) (ho5 : w5.ownsRow (qb + 1) 3 1 v5 n5 xs5) (hn5 : v5.ownBlock = none ∨ v5.ownBlock = some W.heap.size) (hg6 : w5.grownBy w6 v5.ownBlock) (hn6 : v6.ownBlock = v5.ownBlock ∨ v6.ownBlock = some w5.heap.size) :
    B3 w6 qb x y z ∧ (∀ s, v6.ownBlock = some s → W.heap.size ≤ s) ∧ Mv (fun k => k = qb) W w6 ∧ ∀ (v : Value) (n : Nat) (xs : List Value), W.ownsRow (qb + 1) 3 1 v n xs → w6.ownsRow (qb + 1) 3 1 v n xs := by
  have hl := hb.lt
  have hs : W.heap.size ≤ w5.heap.size := hg5.size
  have hbd : B3 W.drew qb x y z := hb
  refine ⟨(hbd.kept hg5 (by simp)).kept hg6 (row_ne ho5), fun s e => ?_, ?_, fun v n xs hr => ?_⟩
  · rcases hn6 with q | q
    · rcases hn5 with q5 | q5
      · rw [q, q5] at e; cases e
      · rw [q, q5] at e; cases e; exact Nat.le_refl _
    · rw [q] at e; cases e; exact hs
  · have h1 : Mv (fun k => k = qb) W w5 := (Mv.refl _ W).drew.grown hg5 (fun k e => by cases e)
    refine ⟨hg6.os.trans h1.os, hg6.tape.trans h1.tape, hg6.output.trans h1.output, Nat.le_trans h1.size hg6.size, fun k hk hs2 => ?_⟩
    refine (hg6.block k (Nat.lt_of_lt_of_le hk h1.size) ?_).trans (h1.block k hk hs2)
    intro e
    rcases hn5 with q5 | q5
    · rw [q5] at e; cases e
    · rw [q5] at e; cases e; omega
  · have hd : W.drew.ownsRow (qb + 1) 3 1 v n xs := hr.drew
    refine (hd.kept hg5 ?_).kept hg6 ?_
    · cases hv : v.ownBlock with
      | none => exact .inl rfl
      | some q => exact .inr (by simp)
    · cases hv : v.ownBlock with
      | none => exact .inl rfl
      | some q =>
        refine .inr (fun e => ?_)
        rcases hn5 with q5 | q5
        · rw [q5] at e; cases e
        · rw [q5] at e
          have := (hr.lt q hv).2
          cases e
          omega
theorem grownBy_none {w w' : World} (h : w.grownBy w' none) : Below w.heap.size w w' := ⟨h.os, h.tape, h.output, h.size, fun k hk => h.block k hk (by simp)⟩

set_option maxRecDepth 100000 in
set_option maxHeartbeats 2000000 in
theorem rgive_any {W : World} {qb : Nat} {room : Int} {L : Ppl} {vw vn : Value} (h : QB W qb room L vw vn) (who : Int) (hL : L.length ≤ 1000) :
    Calls Try.prog 54 #[.pointer (some ⟨qb, 0, none⟩), .int .i64 who] W fun e w' => e = .returned (.int .i64 (gvF L who)) ∧ Mv (fun k => k = qb) W w' ∧ ∃ vw' vn', QB w' qb room (gvL L who) vw' vn' := by
  have HC1 : Hid (Calls Try.prog 93 #[.pointer (some ⟨qb, 0, none⟩), .int .i64 who] W fun e w' => e = .returned (.int .i64 (atF L who)) ∧ W = w') := rat_any h who hL
  obtain ⟨i0, hi0, hz0, hz1, hz2⟩ := info_three Try.infoI
  have HI0 : Hid _ := hi0
  have HZ0 : Hid _ := hz0
  have HZ1 : Hid _ := hz1
  have HZ2 : Hid _ := hz2
  have HQ : Hid (QB W qb room L vw vn) := h
  clear hi0 hz0 hz1 hz2 h
  go_enter Try.func54, Try.ntmps54
  go_wp2_with fail
  refine Calls.mono HC1.out ?_
  rintro e w' ⟨rfl, rfl⟩
  clear HC1
  cases hf : fnd L who with
  | none =>
    have ea : atF L who = -1 := by unfold atF; rw [hf]; rfl
    have HE : Hid (gvF L who = 5 ∧ gvL L who = L) := ⟨by unfold gvF; rw [hf]; rfl, by unfold gvL; rw [hf]; rfl⟩
    rw [ea]
    clear ea hf
    go_wp2
    go_ret
    exact ⟨by rw [HE.out.1]; rfl, Mv.refl _ _, vw, vn, by rw [HE.out.2]; exact HQ.out⟩
  | some z =>
    have ea : atF L who = (ix L who : Int) := by unfold atF; rw [hf]; rfl
    have hx := ix_get hf
    have hxl := (List.getElem?_eq_some_iff.1 hx).1
    have HE : Hid (gvF L who = 0 ∧ gvL L who = cutI L (ix L who)) := ⟨by unfold gvF; rw [hf]; rfl, by unfold gvL; rw [hf]; rfl⟩
    rw [ea]
    generalize ix L who = j at hx hxl HE ⊢
    have hj0 : decide ((j : Int) < 0) = false := decide_eq_false (by omega)
    have HX : Hid (L[j]? = some (who, z)) := hx
    clear ea hf hx
    obtain ⟨h0, h1, h2, h3, h4⟩ := HQ.out.b3
    obtain ⟨a1, cap1, e1, hle1, hcap1, hf1⟩ := owns_cells HQ.out.r1
    obtain ⟨a2, cap2, e2, hle2, hcap2, hf2⟩ := owns_cells HQ.out.r2
    subst e1
    subst e2
    rcases hf1 with ⟨_, e0, _⟩ | ⟨g1, rfl, hg1, hg1', hc1, _⟩
    · omega
    rcases hf2 with ⟨_, e0, _⟩ | ⟨g2, rfl, hg2, hg2', hc2, _⟩
    · omega
    have HC1 : Hid _ := hc1
    have HC2 : Hid _ := hc2
    clear hc1 hc2
    have hjc1 : j ≤ cap1 := by omega
    have hjc2 : j ≤ cap2 := by omega
    have hjd1 : j + 1 ≤ cap1 := by omega
    have hjd2 : j + 1 ≤ cap2 := by omega
    have hw1 : IntKind.i64.wrap ((j : Int) + 1) = (j : Int) + 1 := wrap_small (by omega) (by omega)
    have HQLA : Hid (qb + 1 ≤ W.heap.size) := HQ.out.lt
    have hjj0 : 0 ≤ (j : Int) + 1 := by omega
    have hjj1 : (j : Int) + 1 ≤ (L.length : Int) := by omega
    go_upto_region 4 with fail
    have HSA : Hid (∀ k u, ((whoC L).take j)[k]? = some u → W.drew.cell? ((⟨g1, 0, none⟩ : Addr).add k) = some u) := take_src (w := W.drew) HC1.out j
    obtain ⟨ADA, hADA⟩ : ∃ AD, (if cap1 = j + 1 then some (⟨g1, 0, none⟩ : Addr) else some ⟨g1, j + 1, none⟩) = AD := ⟨_, rfl⟩
    have HTA : Hid ((ADA = none ∧ L.length - (j + 1) = 0) ∨ ∃ ad, ADA = some ad ∧ ∀ k u, ((whoC L).drop (j + 1))[k]? = some u → W.drew.cell? (ad.add k) = some u) := drop_src (w := W.drew) HC1.out (by simp [whoC]) (by omega) hADA
    have hlA : ((whoC L).take j).length = j * 1 := by simp [whoC]; omega
    have hmA : ((whoC L).drop (j + 1)).length = (L.length - (j + 1)) * 1 := by simp [whoC]
    have hoA : (∀ u ∈ (whoC L).take j, u.oneCell' = true) ∧ (∀ u ∈ (whoC L).drop (j + 1), u.oneCell' = true) := ⟨fun u hu => whoC_one L u (List.mem_of_mem_take hu), fun u hu => whoC_one L u (List.mem_of_mem_drop hu)⟩
    have HOOA : Hid _ := hoA
    have HLLA : Hid _ := And.intro hlA hmA
    clear hoA hlA hmA
    have hbWA : qb + 1 ≤ W.drew.heap.size := HQLA.out
    go_region_law (first | (refine step_append_src W.drew (by rfl) (.const (.slice none 0 0)) (.tmp 17) 80 (by rfl) (qb + 1) 3 i0 (.int .i64 0) 1 8 Try.underlying80 HI0.out HZ0.out HZ1.out HZ2.out rfl (by decide) (.slice none 0 0) 0 [] (by rfl) (World.ownsRow_nil _ _ _ _) (some ⟨g1, 0, none⟩) j cap1 ((whoC L).take j) (by rfl) HLLA.out.1 (.inr ⟨_, rfl, HSA.out⟩) HOOA.out.1 (by unfold maxLen; omega) (by omega) hbWA ?_; intro v5 w5 hown5 hgr5 ho5; have hbl5 : Below W.drew.heap.size W.drew w5 := grownBy_none hgr5; have k1 := hgr5.cell (a := ⟨qb, 1, none⟩) h1 (by simp [Value.ownBlock]); have k3 : w5.frozen? ⟨qb, 1, none⟩ = false := (hbl5.frozen (p := ⟨qb, 1, none⟩) hbWA).trans h3; have HU : Hid ((ADA = none ∧ L.length - (j + 1) = 0) ∨ ∃ ad, ADA = some ad ∧ ∀ k u, ((whoC L).drop (j + 1))[k]? = some u → w5.cell? (ad.add k) = some u) := HTA.out.imp id (fun ⟨ad, e, hc⟩ => ⟨ad, e, fun k u hk => hgr5.cell (hc k u hk) (by simp [Value.ownBlock])⟩); have HO5 : Hid (w5.ownsRow (qb + 1) 3 1 v5 (0 + j) ([] ++ (whoC L).take j)) := hown5; have HN5 : Hid (v5.ownBlock = none ∨ v5.ownBlock = some W.heap.size) := ho5; have HG5 : Hid (W.drew.grownBy w5 none) := hgr5; clear hown5 hgr5 ho5 hbl5) | (refine step_append_src w5 (by rfl) (.tmp 18) (.tmp 25) 80 (by rfl) (qb + 1) 3 i0 (.int .i64 0) 1 8 Try.underlying80 HI0.out HZ0.out HZ1.out HZ2.out rfl (by decide) v5 (0 + j) ([] ++ (whoC L).take j) (by rfl) HO5.out ADA (L.length - (j + 1)) (cap1 - (j + 1)) ((whoC L).drop (j + 1)) (by rfl) HLLA.out.2 HU.out HOOA.out.2 (by unfold maxLen; omega) (by omega) (Nat.le_trans hbWA HG5.out.size) ?_; intro v6 w6 hown6 hgr6 ho6; obtain ⟨a6, cap6, rfl, _, _, _⟩ := owns_cells hown6; have hq6 : some qb ≠ v5.ownBlock := row_ne HO5.out; have l1 := hgr6.cell k1 hq6; have l3 : w6.frozen? ⟨qb, 1, none⟩ = false := (World.frozen?_of_block (w := w5) (hgr6.block qb (Nat.lt_of_lt_of_le hbWA HG5.out.size) hq6)).trans k3; have HO6 : Hid (w6.ownsRow (qb + 1) 3 1 (.slice a6 (0 + j + (L.length - (j + 1))) cap6) (0 + j + (L.length - (j + 1))) ([] ++ (whoC L).take j ++ (whoC L).drop (j + 1))) := hown6; have HG6 : Hid (w5.grownBy w6 v5.ownBlock) := hgr6; have HN6 : Hid ((Value.slice a6 (0 + j + (L.length - (j + 1))) cap6).ownBlock = v5.ownBlock ∨ (Value.slice a6 (0 + j + (L.length - (j + 1))) cap6).ownBlock = some w5.heap.size) := ho6; clear hown6 hgr6 ho6 hq6))
    all_goals
      simp only [Nat.zero_add] at HO6 HN6
      obtain ⟨M1, M2, M3, M4⟩ := giv_mid (v6 := (Value.slice a6 (j + (L.length - (j + 1))) cap6)) HQ.out.b3 HG5.out HO5.out HN5.out HG6.out HN6.out
      have HB7 : Hid (B3 (w6.setCell ⟨qb, 1, none⟩ (Value.slice a6 (j + (L.length - (j + 1))) cap6)) qb (.int .i64 room) (Value.slice a6 (j + (L.length - (j + 1))) cap6) (.slice (some ⟨g2, 0, none⟩) L.length cap2)) := M1.set1 _
      have HR7 : Hid ((w6.setCell ⟨qb, 1, none⟩ (Value.slice a6 (j + (L.length - (j + 1))) cap6)).ownsRow (qb + 1) 3 1 (Value.slice a6 (j + (L.length - (j + 1))) cap6) (cutI L j).length (whoC (cutI L j))) := ownsRow_setCell_below (cut_who HO6.out hxl) (by show qb < qb + 1; omega) _
      have HN7 : Hid ((w6.setCell ⟨qb, 1, none⟩ (Value.slice a6 (j + (L.length - (j + 1))) cap6)).ownsRow (qb + 1) 3 1 (.slice (some ⟨g2, 0, none⟩) L.length cap2) L.length (numC L)) := ownsRow_setCell_below (M4 _ _ _ HQ.out.r2) (by show qb < qb + 1; omega) _
      have HL7 : Hid (Mv (fun k => k = qb) W (w6.setCell ⟨qb, 1, none⟩ (Value.slice a6 (j + (L.length - (j + 1))) cap6))) := M3.setCell rfl _
      clear M1 M2 M3 M4 HO6 HN6 HG6 HO5 HN5 HG5 HU k1 k3 l1 l3 HSA hADA HTA HOOA HLLA hbWA h0 h1 h2 h3 h4 HQ HQLA HC1 HC2
      have HC7 : Hid _ := row_cells HN7.out
      have HQLB : Hid (qb + 1 ≤ (w6.setCell ⟨qb, 1, none⟩ (Value.slice a6 (j + (L.length - (j + 1))) cap6)).heap.size) := HB7.out.lt
      obtain ⟨h0, h1, h2, h3, h4⟩ := HB7.out
      go_upto_region 5 with fail
      generalize w6.setCell ⟨qb, 1, none⟩ (Value.slice a6 (j + (L.length - (j + 1))) cap6) = w7 at HB7 HR7 HN7 HL7 HC7 HQLB h0 h1 h2 h3 h4 ⊢
      generalize (Value.slice a6 (j + (L.length - (j + 1))) cap6) = v6 at HB7 HR7 h1 ⊢
      have HSB : Hid (∀ k u, ((numC L).take j)[k]? = some u → w7.drew.cell? ((⟨g2, 0, none⟩ : Addr).add k) = some u) := take_src (w := w7.drew) HC7.out j
      obtain ⟨ADB, hADB⟩ : ∃ AD, (if cap2 = j + 1 then some (⟨g2, 0, none⟩ : Addr) else some ⟨g2, j + 1, none⟩) = AD := ⟨_, rfl⟩
      have HTB : Hid ((ADB = none ∧ L.length - (j + 1) = 0) ∨ ∃ ad, ADB = some ad ∧ ∀ k u, ((numC L).drop (j + 1))[k]? = some u → w7.drew.cell? (ad.add k) = some u) := drop_src (w := w7.drew) HC7.out (by simp [numC]) (by omega) hADB
      have hlB : ((numC L).take j).length = j * 1 := by simp [numC]; omega
      have hmB : ((numC L).drop (j + 1)).length = (L.length - (j + 1)) * 1 := by simp [numC]
      have hoB : (∀ u ∈ (numC L).take j, u.oneCell' = true) ∧ (∀ u ∈ (numC L).drop (j + 1), u.oneCell' = true) := ⟨fun u hu => numC_one L u (List.mem_of_mem_take hu), fun u hu => numC_one L u (List.mem_of_mem_drop hu)⟩
      have HOOB : Hid _ := hoB
      have HLLB : Hid _ := And.intro hlB hmB
      clear hoB hlB hmB
      have hbWB : qb + 1 ≤ w7.drew.heap.size := HQLB.out
      go_region_law (first | (refine step_append_src w7.drew (by rfl) (.const (.slice none 0 0)) (.tmp 35) 80 (by rfl) (qb + 1) 3 i0 (.int .i64 0) 1 8 Try.underlying80 HI0.out HZ0.out HZ1.out HZ2.out rfl (by decide) (.slice none 0 0) 0 [] (by rfl) (World.ownsRow_nil _ _ _ _) (some ⟨g2, 0, none⟩) j cap2 ((numC L).take j) (by rfl) HLLB.out.1 (.inr ⟨_, rfl, HSB.out⟩) HOOB.out.1 (by unfold maxLen; omega) (by omega) hbWB ?_; intro v5 w5 hown5 hgr5 ho5; have hbl5 : Below w7.drew.heap.size w7.drew w5 := grownBy_none hgr5; have k1 := hgr5.cell (a := ⟨qb, 2, none⟩) h2 (by simp [Value.ownBlock]); have k3 : w5.frozen? ⟨qb, 2, none⟩ = false := (hbl5.frozen (p := ⟨qb, 2, none⟩) hbWB).trans h4; have HU : Hid ((ADB = none ∧ L.length - (j + 1) = 0) ∨ ∃ ad, ADB = some ad ∧ ∀ k u, ((numC L).drop (j + 1))[k]? = some u → w5.cell? (ad.add k) = some u) := HTB.out.imp id (fun ⟨ad, e, hc⟩ => ⟨ad, e, fun k u hk => hgr5.cell (hc k u hk) (by simp [Value.ownBlock])⟩); have HO5 : Hid (w5.ownsRow (qb + 1) 3 1 v5 (0 + j) ([] ++ (numC L).take j)) := hown5; have HN5 : Hid (v5.ownBlock = none ∨ v5.ownBlock = some w7.heap.size) := ho5; have HG5 : Hid (w7.drew.grownBy w5 none) := hgr5; clear hown5 hgr5 ho5 hbl5) | (refine step_append_src w5 (by rfl) (.tmp 36) (.tmp 43) 80 (by rfl) (qb + 1) 3 i0 (.int .i64 0) 1 8 Try.underlying80 HI0.out HZ0.out HZ1.out HZ2.out rfl (by decide) v5 (0 + j) ([] ++ (numC L).take j) (by rfl) HO5.out ADB (L.length - (j + 1)) (cap2 - (j + 1)) ((numC L).drop (j + 1)) (by rfl) HLLB.out.2 HU.out HOOB.out.2 (by unfold maxLen; omega) (by omega) (Nat.le_trans hbWB HG5.out.size) ?_; intro v6 w6 hown6 hgr6 ho6; obtain ⟨a8, cap8, rfl, _, _, _⟩ := owns_cells hown6; have hq6 : some qb ≠ v5.ownBlock := row_ne HO5.out; have l1 := hgr6.cell k1 hq6; have l3 : w6.frozen? ⟨qb, 2, none⟩ = false := (World.frozen?_of_block (w := w5) (hgr6.block qb (Nat.lt_of_lt_of_le hbWB HG5.out.size) hq6)).trans k3; have HO6 : Hid (w6.ownsRow (qb + 1) 3 1 (.slice a8 (0 + j + (L.length - (j + 1))) cap8) (0 + j + (L.length - (j + 1))) ([] ++ (numC L).take j ++ (numC L).drop (j + 1))) := hown6; have HG6 : Hid (w5.grownBy w6 v5.ownBlock) := hgr6; have HN6 : Hid ((Value.slice a8 (0 + j + (L.length - (j + 1))) cap8).ownBlock = v5.ownBlock ∨ (Value.slice a8 (0 + j + (L.length - (j + 1))) cap8).ownBlock = some w5.heap.size) := ho6; clear hown6 hgr6 ho6 hq6))
      all_goals
        simp only [Nat.zero_add] at HO6 HN6
        obtain ⟨M1, M2, M3, M4⟩ := giv_mid (v6 := (Value.slice a8 (j + (L.length - (j + 1))) cap8)) HB7.out HG5.out HO5.out HN5.out HG6.out HN6.out
        have HFin : Hid (QB (w6.setCell ⟨qb, 2, none⟩ (Value.slice a8 (j + (L.length - (j + 1))) cap8)) qb room (cutI L j) v6 (Value.slice a8 (j + (L.length - (j + 1))) cap8)) := by
          refine QB.of (M1.set2 _) (ownsRow_setCell_below (M4 _ _ _ HR7.out) (by show qb < qb + 1; omega) _) (ownsRow_setCell_below (cut_num HO6.out hxl) (by show qb < qb + 1; omega) _) ?_
          cases hv : ((Value.slice a8 (j + (L.length - (j + 1))) cap8)).ownBlock with
          | none => exact .inl rfl
          | some q =>
            refine .inr (fun e => ?_)
            have q1 := M2 q hv
            have q2 := (HR7.out.lt q e.symm).2
            omega
        have HLF : Hid (Mv (fun k => k = qb) W (w6.setCell ⟨qb, 2, none⟩ (Value.slice a8 (j + (L.length - (j + 1))) cap8))) := (HL7.out.trans M3).setCell rfl _
        clear M1 M2 M3 M4 HO6 HN6 HG6 HO5 HN5 HG5 HU k1 k3 l1 l3 HSB hADB HTB HOOB HLLB hbWB h0 h1 h2 h3 h4
        go_wp2
        go_ret
        exact ⟨by rw [HE.out.1]; rfl, HLF.out, v6, _, by rw [HE.out.2]; exact HFin.out⟩
end Go.Proofs.Ytkkhfnkmfkdhiab
