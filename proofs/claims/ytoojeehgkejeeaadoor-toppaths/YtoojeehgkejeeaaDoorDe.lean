/-
  WHAT path.Split AND path.Join DO: the walks.
-/
import Derived.Test.YtoojeehgkejeeaaDoorDd
namespace Go.Proofs.YtoojeehgkejeeaaDoor
open Go.RowKit

theorem strs_pieces (w : World) (l : List ByteArray) : Strs (w.alloc (.cells (l.map Value.string).toArray 9)) (some ⟨w.heap.size, 0, none⟩) l := by
  refine .inr ⟨_, _, rfl, fun i x hi => ?_⟩
  rw [World.cell?_alloc_at _ _ _ _ (by rfl)]
  simp [hi]
theorem head_data {p : ByteArray} (h : 0 < p.size) : p.data.toList.head? = some p[0] := by
  rw [List.head?_eq_getElem?]; exact get_data p 0 h
theorem empty_data (p : ByteArray) : p.toList.isEmpty = decide (p.size = 0) := by rw [Lib.toList_data, ← len_data]; cases p.data.toList <;> simp

set_option maxRecDepth 100000 in
set_option maxHeartbeats 1000000 in
theorem split_any (p : ByteArray) (w : World) (m : Int) (hm : w.cell? ⟨1, 0, none⟩ = some (.int .i64 m)) :
    Calls Tryd.prog 11 #[.string p] w fun e w' => (∃ ao cp, e = .returned (.tuple #[.slice ao (spL p.data.toList).length cp, errV (spF p.data.toList)]) ∧ (spL p.data.toList).length ≤ cp ∧ cp ≤ 9223372036854775807 ∧ Strs w' ao (spL p.data.toList)) ∧ Below w.heap.size w w' := by
  have bad : spF p.data.toList = 4 → ∀ w' : World, Below w.heap.size w w' → (∃ ao cp, Ending.returned (.tuple #[.slice none 0 0, .iface 23 (.int .i64 4)]) = .returned (.tuple #[.slice ao (spL p.data.toList).length cp, errV (spF p.data.toList)]) ∧ (spL p.data.toList).length ≤ cp ∧ cp ≤ 9223372036854775807 ∧ Strs w' ao (spL p.data.toList)) ∧ Below w.heap.size w w' := by
    intro h4 w' hb
    have hL : spL p.data.toList = [] := by unfold spL; rw [if_neg (by rw [h4]; simp)]
    rw [hL, h4]
    exact ⟨⟨none, 0, by simp [errV], by simp, by simp, .inl rfl⟩, hb⟩
  by_cases h0 : p.size = 0
  · have e0 : p.toList.isEmpty = true := by rw [empty_data]; simpa using h0
    have HS : Hid (spF p.data.toList = 4) := by show _ = _; unfold spF; rw [if_pos (.inl (List.eq_nil_of_length_eq_zero (by rw [len_data]; exact h0)))]
    go_enter Tryd.func11, Tryd.ntmps11
    go_wp2
    go_ret2
    exact bad HS.out _ (Below.refl _ _)
  have e0 : p.toList.isEmpty = false := by rw [empty_data]; simpa using h0
  by_cases h79 : 79 < p.size
  · have d79 : decide (79 < (p.size : Int)) = true := decide_eq_true (by omega)
    have HS : Hid (spF p.data.toList = 4) := by show _ = _; unfold spF; rw [if_pos (.inr (.inl (by rw [len_data]; exact h79)))]
    go_enter Tryd.func11, Tryd.ntmps11
    go_wp2
    go_ret2
    exact bad HS.out _ (Below.refl _ _)
  have d79 : decide (79 < (p.size : Int)) = false := decide_eq_false (by omega)
  have hp : 0 < p.size := by omega
  obtain ⟨t, ht⟩ : ∃ t, ((p[0].toNat : Int) != 47) = t := ⟨_, rfl⟩
  cases t
  rotate_left
  · have HS : Hid (spF p.data.toList = 4) := by
      show _ = _; unfold spF
      refine if_pos (.inr (.inr ?_))
      rw [head_data hp]
      intro e
      have e2 : p[0] = 47 := by simpa using e
      have e3 : (p[0].toNat : Int) = 47 := by rw [e2]; rfl
      have e4 : (p[0].toNat : Int) ≠ 47 := bne_iff_ne.1 ht
      exact e4 e3
    go_enter Tryd.func11, Tryd.ntmps11
    go_wp2
    go_ret2
    exact bad HS.out _ (Below.refl _ _)
  have hhd : p.data.toList.head? = some 47 := by
    rw [head_data hp]
    have : (p[0].toNat : Int) = 47 := by simpa using ht
    have h2 : p[0].toNat = (47 : UInt8).toNat := by have : p[0].toNat = 47 := by omega
                                                    rw [this]; rfl
    rw [UInt8.toNat_inj.1 h2]
  have hnb : ¬ (p.data.toList = [] ∨ 79 < p.data.toList.length ∨ p.data.toList.head? ≠ some 47) := by
    rw [len_data]
    rintro (e | e | e)
    · rw [e] at hhd; cases hhd
    · exact h79 e
    · exact e hhd
  obtain ⟨t, ht2⟩ : ∃ t, (p.toList == [47]) = t := ⟨_, rfl⟩
  cases t
  rotate_left
  · have hl : p.data.toList = [47] := by rw [← Lib.toList_data]; simpa using ht2
    have HS : Hid (spF p.data.toList = 0) := by show _ = _; unfold spF; rw [if_neg hnb, if_pos hl]
    have HL : Hid (spL p.data.toList = []) := by show _ = _; unfold spL; rw [if_neg (by rw [hl]; simp)]
    clear hl
    go_enter Tryd.func11, Tryd.ntmps11
    go_wp2
    go_ret2
    rw [HL.out, HS.out]
    exact ⟨⟨none, 0, by simp [errV], by simp, by simp, .inl rfl⟩, Below.refl _ _⟩
  have hne : ¬ p.data.toList = [47] := by rw [← Lib.toList_data]; simpa using ht2
  have HS : Hid (spF p.data.toList = chkF (pcsL (p.data.toList.drop 1))) := by show _ = _; unfold spF; rw [if_neg hnb, if_neg hne]
  have HD : Hid ((p.extract 1 p.size).data.toList = p.data.toList.drop 1) := Lib.extract_to_end p 1
  have hsz : (p.extract 1 p.size).size < 4294967281 := by rw [ByteArray.size_extract]; omega
  clear hhd hnb
  go_enter Tryd.func11, Tryd.ntmps11
  go_wp2_with fail
  refine (Tryd.strings_Split _ ⟨#[47]⟩ m _ hsz hm (by decide)).mono ?_
  rintro e w1 ⟨rfl, rfl⟩
  rw [splitB_eq, ← pcsL_length, HD.out]
  have hR := strs_pieces w (pcsL (p.data.toList.drop 1))
  have hB : Below w.heap.size w (w.alloc (.cells ((pcsL (p.data.toList.drop 1)).map Value.string).toArray 9)) := (Below.refl _ _).alloc (Nat.le_refl _) _
  have hlen : (pcsL (p.data.toList.drop 1)).length ≤ 80 := by
    have := splitL_length (p.data.toList.drop 1)
    have h2 := len_data p
    simp [pcsL] at this ⊢; omega
  have HL : Hid (chkF (pcsL (p.data.toList.drop 1)) = 0 → spL p.data.toList = pcsL (p.data.toList.drop 1)) := fun h => by unfold spL; rw [if_pos ⟨by rw [HS.out]; exact h, hne⟩]
  have HL2 : Hid (chkF (pcsL (p.data.toList.drop 1)) ≠ 0 → spL p.data.toList = []) := fun h => by unfold spL; rw [if_neg (by rintro ⟨e, _⟩; rw [HS.out] at e; exact h e)]
  generalize w.alloc (.cells ((pcsL (p.data.toList.drop 1)).map Value.string).toArray 9) = W at hR hB ⊢
  generalize pcsL (p.data.toList.drop 1) = ps at HS hR hlen HL HL2 ⊢
  clear HD hsz
  go_wp2_with fail
  refine (check_any _ _ ps _ (by omega) hR).mono ?_
  rintro e w' ⟨rfl, rfl⟩
  by_cases hc : chkF ps = 0
  · have HL' : Hid (spL p.data.toList = ps) := HL.out hc
    have HS' : Hid (spF p.data.toList = 0) := HS.out.trans hc
    rw [errV_nil hc]
    clear HL HL2 HS hc
    go_wp2
    go_ret2
    rw [HL'.out, HS'.out]
    exact ⟨⟨_, _, by simp [errV], Nat.le_refl _, by omega, hR⟩, hB⟩
  · have HL' : Hid (spL p.data.toList = []) := HL2.out hc
    have HC : Hid (chkF ps ≠ 0) := hc
    rw [errV_of rfl hc]
    clear HL HL2 hc
    go_wp2
    go_ret2
    rw [HL'.out, HS.out, errV_of rfl HC.out]
    exact ⟨⟨none, 0, by simp, by simp, by simp, .inl rfl⟩, hB⟩
end Go.Proofs.YtoojeehgkejeeaaDoor
