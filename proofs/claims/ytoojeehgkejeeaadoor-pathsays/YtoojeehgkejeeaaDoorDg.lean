/-
  WHAT THE DOCUMENT's OWN Split DOES: the walk.
-/
import Derived.Test.YtoojeehgkejeeaaDoorDf
import Derived.Test.YtoojeehgkejeeaaDoorAp
namespace Go.Proofs.YtoojeehgkejeeaaDoor
open Go.RowKit

theorem Tryd.info9 : (Tryd.prog.info? 9).map (fun i => (i.zero, i.size, i.bytes)) = some (some (.string ⟨#[]⟩), 1, 16) := by kernel_rfl
theorem info_parts {o : Option TypeInfo} {z : Value} {s b : Nat} (h : o.map (fun i => (i.zero, i.size, i.bytes)) = some (some z, s, b)) : ∃ i, o = some i ∧ i.zero = some z ∧ i.size = s ∧ i.bytes = b := by
  cases o with
  | none => cases h
  | some i => simp at h; exact ⟨i, rfl, h.1, h.2.1, h.2.2⟩
theorem one_str (x : ByteArray) : ∀ u ∈ [Value.string x], u.oneCell' = true := by intro u hu; simp at hu; subst hu; rfl
theorem new1 (w : World) (x : Value) : ∀ j u, [x][j]? = some u → (w.alloc (.cells #[x] 9)).cell? ((⟨w.heap.size, 0, none⟩ : Addr).add j) = some u := by
  intro j u hj
  have hjl : j = 0 := by have := (List.getElem?_eq_some_iff.1 hj).1; simpa using this
  subst hjl
  simp at hj
  subst hj
  rw [show (⟨w.heap.size, 0, none⟩ : Addr).add 0 = ⟨w.heap.size, 0, none⟩ from rfl, World.cell?_alloc_at _ _ _ _ rfl]
  rfl
theorem strs_of_owns {w : World} {base : Nat} {v : Value} {n : Nat} {xs : List ByteArray} (h : w.ownsRow base 9 1 v n (xs.map Value.string)) : ∃ a cap, v = .slice a n cap ∧ n ≤ cap ∧ cap ≤ maxLen ∧ Strs w a xs := by
  obtain ⟨a, cap, hv, h1, h2, hf⟩ := ownsRow_form h
  refine ⟨a, cap, hv, h1, h2, ?_⟩
  rcases hf with ⟨_, _, hx, _⟩ | ⟨g, cur, ha, _, hg, _, hx⟩
  · left; simpa using hx
  · refine .inr ⟨g, 0, ha, fun k x hk => ?_⟩
    rw [Nat.zero_add]
    refine ownsRow_cell hg hx ?_
    simp [hk]

/-- What is still to come, at place k, the piece begun at f. -/
def restL (L : List UInt8) (f k : Nat) : List (List UInt8) := if k ≤ L.length then splitP ((L.drop f).take (k - f)) (L.drop k) else []
theorem rest_on {L : List UInt8} {f k : Nat} {c : UInt8} (hc : L[k]? = some c) (hne : c ≠ 47) (hf : f ≤ k) : restL L f k = restL L f (k + 1) := by
  have hk := (List.getElem?_eq_some_iff.1 hc).1
  unfold restL
  rw [if_pos (by omega), if_pos (by omega)]
  have e1 : L.drop k = c :: L.drop (k + 1) := by rw [List.drop_eq_getElem_cons hk]; congr 1; simpa [hk] using hc
  have e2 : (L.drop f).take (k + 1 - f) = (L.drop f).take (k - f) ++ [c] := by
    rw [show k + 1 - f = (k - f) + 1 by omega, List.take_add_one, List.getElem?_drop, show f + (k - f) = k by omega, hc]; rfl
  rw [e1, e2, splitP_on _ _ _ hne]
theorem rest_slash {L : List UInt8} {f k : Nat} (hc : L[k]? = some 47) : restL L f k = (L.drop f).take (k - f) :: restL L (k + 1) (k + 1) := by
  have hk := (List.getElem?_eq_some_iff.1 hc).1
  unfold restL
  rw [if_pos (by omega), if_pos (by omega)]
  have e1 : L.drop k = 47 :: L.drop (k + 1) := by rw [List.drop_eq_getElem_cons hk]; congr 1; simpa [hk] using hc
  rw [e1, splitP_slash, Nat.sub_self, List.take_zero, splitP_none]
theorem rest_end {L : List UInt8} {f : Nat} : restL L f L.length = (L.drop f).take (L.length - f) :: restL L (L.length + 1) (L.length + 1) := by
  unfold restL
  rw [if_pos (Nat.le_refl _), if_neg (by omega), List.drop_length, splitP_end]

theorem chk_four {xs : List ByteArray} {x : ByteArray} (hm : x ∈ xs) (hx : nameB x = false) : chkF xs = 4 := by
  unfold chkF
  rw [if_neg]
  intro h
  rw [List.all_eq_true] at h
  rw [h x hm] at hx
  cases hx

set_option maxRecDepth 100000 in
set_option maxHeartbeats 2000000 in
theorem splitr_any (p : ByteArray) (w : World) (hps : p.size ≤ 9223372036854775807) :
    Calls Tryd.prog 12 #[.string p] w fun e w' => (∃ ao cp, e = .returned (.tuple #[.slice ao (spL p.data.toList).length cp, .int .i64 (spF p.data.toList)]) ∧ Strs w' ao (spL p.data.toList)) ∧ Below w.heap.size w w' := by
  have bad : spF p.data.toList = 4 → ∀ w' : World, Below w.heap.size w w' → (∃ ao cp, Ending.returned (.tuple #[.slice none 0 0, .int .i64 4]) = .returned (.tuple #[.slice ao (spL p.data.toList).length cp, .int .i64 (spF p.data.toList)]) ∧ Strs w' ao (spL p.data.toList)) ∧ Below w.heap.size w w' := by
    intro h4 w' hb
    have hL : spL p.data.toList = [] := by unfold spL; rw [if_neg (by rw [h4]; simp)]
    rw [hL, h4]
    exact ⟨⟨none, 0, rfl, .inl rfl⟩, hb⟩
  obtain ⟨t, ht2⟩ : ∃ t, (p.toList == [47]) = t := ⟨_, rfl⟩
  cases t
  rotate_left
  · have hl : p.data.toList = [47] := by rw [← Lib.toList_data]; simpa using ht2
    have HS : Hid (spF p.data.toList = 0) := by show _ = _; unfold spF; rw [hl]; rfl
    have HL : Hid (spL p.data.toList = []) := by show _ = _; unfold spL; rw [if_neg (by rw [hl]; simp)]
    clear hl
    go_enter Tryd.func12, Tryd.ntmps12
    go_wp2
    go_ret2
    rw [HL.out, HS.out]
    exact ⟨⟨none, 0, rfl, .inl rfl⟩, Below.refl _ _⟩
  have hne : ¬ p.data.toList = [47] := by rw [← Lib.toList_data]; simpa using ht2
  by_cases h79 : 79 < p.size
  · have d79 : decide (79 < (p.size : Int)) = true := decide_eq_true (by omega)
    have HS : Hid (spF p.data.toList = 4) := by show _ = _; unfold spF; rw [if_pos (.inr (.inl (by rw [len_data]; exact h79)))]
    go_enter Tryd.func12, Tryd.ntmps12
    go_wp2
    go_ret2
    exact bad HS.out _ (Below.refl _ _)
  have d79 : decide (79 < (p.size : Int)) = false := decide_eq_false (by omega)
  by_cases h0 : p.size = 0
  · have e0 : p.toList.isEmpty = true := by rw [empty_data]; simpa using h0
    have HS : Hid (spF p.data.toList = 4) := by show _ = _; unfold spF; rw [if_pos (.inl (List.eq_nil_of_length_eq_zero (by rw [len_data]; exact h0)))]
    go_enter Tryd.func12, Tryd.ntmps12
    go_wp2
    go_ret2
    exact bad HS.out _ (Below.refl _ _)
  have e0 : p.toList.isEmpty = false := by rw [empty_data]; simpa using h0
  have hp : 0 < p.size := by omega
  obtain ⟨t, ht⟩ : ∃ t, ((p[0].toNat : Int) != 47) = t := ⟨_, rfl⟩
  cases t
  rotate_left
  · have HS : Hid (spF p.data.toList = 4) := by
      show _ = _; unfold spF
      refine if_pos (.inr (.inr ?_))
      rw [head_data hp]
      intro e
      have e2 : p[0] = 47 := by simpa using e
      have e3 : (p[0].toNat : Int) = 47 := by rw [e2]; rfl
      have e4 : (p[0].toNat : Int) ≠ 47 := bne_iff_ne.1 ht
      exact e4 e3
    go_enter Tryd.func12, Tryd.ntmps12
    go_wp2
    go_ret2
    exact bad HS.out _ (Below.refl _ _)
  have hhd : p.data.toList.head? = some 47 := by
    rw [head_data hp]
    have : (p[0].toNat : Int) = 47 := by simpa using ht
    have h2 : p[0].toNat = (47 : UInt8).toNat := by have : p[0].toNat = 47 := by omega
                                                    rw [this]; rfl
    rw [UInt8.toNat_inj.1 h2]
  have hnb : ¬ (p.data.toList = [] ∨ 79 < p.data.toList.length ∨ p.data.toList.head? ≠ some 47) := by
    rw [len_data]
    rintro (e | e | e)
    · rw [e] at hhd; cases hhd
    · exact h79 e
    · exact e hhd
  have HS : Hid (spF p.data.toList = chkF (pcsL (p.data.toList.drop 1))) := by show _ = _; unfold spF; rw [if_neg hnb, if_neg hne]
  have HLL : Hid (p.data.toList.length = p.size) := len_data p
  have HW : Hid (∀ f k : Nat, f ≤ k → k ≤ p.size → (p.extract f k).data.toList = (p.data.toList.drop f).take (k - f)) := fun f k _ _ => by
    rw [Lib.extract_data]
  have HG : Hid (∀ k (h : k < p.size), p.data.toList[k]? = some p[k]) := fun k h => get_data p k h
  clear hhd hnb
  have HR0 : Hid (splitL (p.data.toList.drop 1) = [] ++ restL p.data.toList 1 1) := by
    show _ = _
    unfold restL
    rw [HLL.out, if_pos (by omega), Nat.sub_self, List.take_zero, splitP_none]; rfl
  obtain ⟨i0, hi0, hz0, hz1, hz2⟩ := info_parts Tryd.info9
  go_enter Tryd.func12, Tryd.ntmps12
  go_wp2
  go_loopw [4, 5, 6] (fun v f i wr => ∃ (out : List ByteArray) (fk k : Nat), fk ≤ k ∧ 1 ≤ k ∧ k ≤ p.size + 1 ∧ out.length ≤ k ∧ f = .int .i64 fk ∧ i = .int .i64 k ∧ Hid (splitL (p.data.toList.drop 1) = out.map (·.data.toList) ++ restL p.data.toList fk k) ∧ Hid (out.all nameB = true) ∧ wr.ownsRow w.heap.size 9 1 v out.length (out.map Value.string) ∧ Below w.heap.size w wr) (fun _ _ i _ => p.size + 1 - (intOf i).toNat)
  case atStart => exact ⟨[], 1, 1, Nat.le_refl _, Nat.le_refl _, by omega, by simp, rfl, rfl, HR0, rfl, World.ownsRow_nil _ _ _ _, Below.refl _ _⟩
  case round =>
    obtain ⟨out, fk, k, hfk, hk1, hk, hol, rfl, rfl, HI, HA, hown, hB⟩ := hrel
    by_cases hlt : k < p.size
    · have hG := HG.out k hlt
      have HGk : Hid (p.data.toList[k]? = some p[k]) := hG
      clear hG
      have dk1 : decide ((k : Int) ≤ (p.size : Int)) = true := decide_eq_true (by omega)
      have dk2 : decide ((k : Int) < (p.size : Int)) = true := decide_eq_true (by omega)
      obtain ⟨t, htk⟩ : ∃ t, ((p[k].toNat : Int) != 47) = t := ⟨_, rfl⟩
      cases t
      · have HP : Hid (restL p.data.toList fk k = (p.extract fk k).data.toList :: restL p.data.toList (k + 1) (k + 1)) := by
          show _ = _
          rw [Lib.extract_data]
          refine rest_slash ?_
          rw [HGk.out]
          have e1 : (p[k].toNat : Int) = 47 := by simpa using htk
          have e2 : p[k].toNat = (47 : UInt8).toNat := by
            have e3 : p[k].toNat = 47 := by omega
            rw [e3]; rfl
          rw [UInt8.toNat_inj.1 e2]
        have hpc : (p.extract fk k).size ≤ 79 := by rw [ByteArray.size_extract]; omega
        obtain ⟨tb, htb⟩ : ∃ t, nameB (p.extract fk k) = t := ⟨_, rfl⟩
        have HT : Hid (nameB (p.extract fk k) = tb) := htb
        clear htb
        go_wp2_with fail
        refine (namer_any (p.extract fk k) _ (by omega)).mono ?_
        rintro e w' ⟨rfl, rfl⟩
        rw [HT.out]
        cases tb
        · have HS4 : Hid (spF p.data.toList = 4) := by
            show _ = _
            rw [HS.out]
            exact chk_four (x := p.extract fk k) (by unfold pcsL; rw [HI.out, HP.out]; exact List.mem_map.2 ⟨_, List.mem_append.2 (.inr List.mem_cons_self), data_mkB _⟩) HT.out
          go_wp2
          go_ret2
          exact bad HS4.out _ hB
        · have hown1 := hown.alloc (.cells #[.string (p.extract fk k)] 9)
          have hB1 := hB.alloc hB.size (.cells #[.string (p.extract fk k)] 9)
          have hb1 := hB1.size
          go_wp2_with (at_builtin; refine wpList_append_src _ rfl (.tmp 45) (.tmp 50) 31 rfl w.heap.size 9 i0 (.string ⟨#[]⟩) 1 16 Tryd.underlying31 hi0 hz0 hz1 hz2 rfl (by decide) _ out.length (out.map Value.string) rfl hown1 (some ⟨wr.heap.size, 0, none⟩) 1 1 [.string (p.extract fk k)] rfl rfl (.inr ⟨_, rfl, new1 wr _⟩) (one_str _) (by unfold maxLen; omega) (by omega) hb1 ?_)
          intro v2 w4 hown4 hgrow4 _
          have hB4 := hB1.grown hgrow4 hb1 (fun q e => (hown.lt q e).1)
          clear hgrow4 hown hown1 hB hB1 hb1
          go_wp2
          go_roundw
          case rel =>
            refine ⟨out ++ [p.extract fk k], k + 1, k + 1, Nat.le_refl _, by omega, by omega, by simp; omega, by go_num, by go_num, ?_, ?_, ?_, hB4⟩
            · show _ = _
              rw [HI.out, HP.out, List.map_append, List.append_assoc]; rfl
            · show _ = _
              rw [List.all_append, HA.out]; simp [HT.out]
            · rw [List.length_append, List.map_append]; exact hown4
          case measure => simp [intOf]; omega
      · have HP : Hid (restL p.data.toList fk k = restL p.data.toList fk (k + 1)) := rest_on HGk.out (fun e => by
          have e1 : (p[k].toNat : Int) = 47 := by rw [e]; rfl
          exact (bne_iff_ne.1 htk) e1) hfk
        go_wp2
        go_roundw
        case rel => exact ⟨out, fk, k + 1, by omega, by omega, by omega, by omega, by go_num, by go_num, HI.out.trans (by rw [HP.out]), HA, hown, hB⟩
        case measure => simp [intOf]; omega
    · by_cases hke : k = p.size
      · have dk1 : decide ((k : Int) ≤ (p.size : Int)) = true := decide_eq_true (by omega)
        have dk2 : decide ((k : Int) < (p.size : Int)) = false := decide_eq_false (by omega)
        have HP : Hid (restL p.data.toList fk k = (p.extract fk k).data.toList :: restL p.data.toList (k + 1) (k + 1)) := by
          show _ = _
          rw [Lib.extract_data]
          have := rest_end (L := p.data.toList) (f := fk)
          rw [HLL.out, ← hke] at this
          exact this
        have hkle : k ≤ p.size := by omega
        clear hke
        have hpc : (p.extract fk k).size ≤ 79 := by rw [ByteArray.size_extract]; omega
        obtain ⟨tb, htb⟩ : ∃ t, nameB (p.extract fk k) = t := ⟨_, rfl⟩
        have HT : Hid (nameB (p.extract fk k) = tb) := htb
        clear htb
        go_wp2_with fail
        refine (namer_any (p.extract fk k) _ (by omega)).mono ?_
        rintro e w' ⟨rfl, rfl⟩
        rw [HT.out]
        cases tb
        · have HS4 : Hid (spF p.data.toList = 4) := by
            show _ = _
            rw [HS.out]
            exact chk_four (x := p.extract fk k) (by unfold pcsL; rw [HI.out, HP.out]; exact List.mem_map.2 ⟨_, List.mem_append.2 (.inr List.mem_cons_self), data_mkB _⟩) HT.out
          go_wp2
          go_ret2
          exact bad HS4.out _ hB
        · have hown1 := hown.alloc (.cells #[.string (p.extract fk k)] 9)
          have hB1 := hB.alloc hB.size (.cells #[.string (p.extract fk k)] 9)
          have hb1 := hB1.size
          go_wp2_with (at_builtin; refine wpList_append_src _ rfl (.tmp 45) (.tmp 50) 31 rfl w.heap.size 9 i0 (.string ⟨#[]⟩) 1 16 Tryd.underlying31 hi0 hz0 hz1 hz2 rfl (by decide) _ out.length (out.map Value.string) rfl hown1 (some ⟨wr.heap.size, 0, none⟩) 1 1 [.string (p.extract fk k)] rfl rfl (.inr ⟨_, rfl, new1 wr _⟩) (one_str _) (by unfold maxLen; omega) (by omega) hb1 ?_)
          intro v2 w4 hown4 hgrow4 _
          have hB4 := hB1.grown hgrow4 hb1 (fun q e => (hown.lt q e).1)
          clear hgrow4 hown hown1 hB hB1 hb1
          go_wp2
          go_roundw
          case rel =>
            refine ⟨out ++ [p.extract fk k], k + 1, k + 1, Nat.le_refl _, by omega, by omega, by simp; omega, by go_num, by go_num, ?_, ?_, ?_, hB4⟩
            · show _ = _
              rw [HI.out, HP.out, List.map_append, List.append_assoc]; rfl
            · show _ = _
              rw [List.all_append, HA.out]; simp [HT.out]
            · rw [List.length_append, List.map_append]; exact hown4
          case measure => simp [intOf]; omega
      · have dk1 : decide ((k : Int) ≤ (p.size : Int)) = false := decide_eq_false (by omega)
        have HO : Hid (pcsL (p.data.toList.drop 1) = out) := by
          show _ = _
          have h1 := HI.out
          unfold restL at h1
          rw [HLL.out, if_neg (by omega), List.append_nil] at h1
          exact (map_mkB h1.symm).symm
        rw [HO.out] at HS
        by_cases h6 : 6 < out.length
        · have d6 : decide (6 < (out.length : Int)) = true := decide_eq_true (by omega)
          have HC : Hid (spF p.data.toList = 2) := by show _ = _; rw [HS.out]; unfold chkF; rw [if_pos HA.out, if_pos h6]
          have HL : Hid (spL p.data.toList = []) := by show _ = _; unfold spL; rw [if_neg (by rw [HC.out]; simp)]
          obtain ⟨av, cv, hv, _, _, _⟩ := strs_of_owns hown
          subst hv
          go_wp2
          go_ret2
          rw [HL.out, HC.out]
          exact ⟨⟨none, 0, rfl, .inl rfl⟩, hB⟩
        · have d6 : decide (6 < (out.length : Int)) = false := decide_eq_false (by omega)
          have HC : Hid (spF p.data.toList = 0) := by show _ = _; rw [HS.out]; unfold chkF; rw [if_pos HA.out, if_neg h6]
          have HL : Hid (spL p.data.toList = out) := by show _ = _; unfold spL; rw [if_pos ⟨HC.out, hne⟩, HO.out]
          obtain ⟨av, cv, hv, _, _, hR⟩ := strs_of_owns hown
          subst hv
          go_wp2
          go_ret2
          rw [HL.out, HC.out]
          exact ⟨⟨_, _, rfl, hR⟩, hB⟩
end Go.Proofs.YtoojeehgkejeeaaDoor
