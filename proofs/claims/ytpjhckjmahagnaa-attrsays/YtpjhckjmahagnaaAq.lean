/-
  WHAT AttrSays DOES: the walk.
-/
import Derived.Test.YtpjhckjmahagnaaAo
namespace Go.Proofs.Ytpjhckjmahagnaa
open Go.RowKit

set_option maxRecDepth 100000 in
set_option maxHeartbeats 1000000 in
theorem attrSays_not (a : Option Addr) (cap : Nat) (l : List Kv) (m v : ByteArray) (w : World) (h : Kvm w a l) (hn : lightB l = false ∨ (lightB l = true ∧ 60 < m.size) ∨ (lightB l = true ∧ m.size ≤ 60 ∧ 60 < v.size)) :
    Calls Try.prog 9 #[.slice a l.length cap, .string m, .string v] w fun e w' => e = .returned (.bool true) ∧ Below w.heap.size w w' := by
  obtain ⟨t, ht⟩ : ∃ t, lightB l = t := ⟨_, rfl⟩
  have HT : Hid (lightB l = t) := ht
  rw [ht] at hn
  clear ht
  rcases hn with rfl | ⟨rfl, hm⟩ | ⟨rfl, hm, hv⟩
  · go_enter Try.func9, Try.ntmps9
    go_wp2_with fail
    refine (says_any _).mono ?_
    rintro e w1 ⟨rfl, hB⟩
    go_wp2_with fail
    refine (light_any a cap l _ (h.below hB)).mono ?_
    rintro e w' ⟨rfl, rfl⟩
    rw [HT.out]
    go_wp2
    go_ret
    exact ⟨rfl, hB⟩
  · have d1 : decide (60 < (m.size : Int)) = true := decide_eq_true (by omega)
    go_enter Try.func9, Try.ntmps9
    go_wp2_with fail
    refine (says_any _).mono ?_
    rintro e w1 ⟨rfl, hB⟩
    go_wp2_with fail
    refine (light_any a cap l _ (h.below hB)).mono ?_
    rintro e w' ⟨rfl, rfl⟩
    rw [HT.out]
    go_wp2
    go_ret
    exact ⟨rfl, hB⟩
  · have d1 : decide (60 < (m.size : Int)) = false := decide_eq_false (by omega)
    have d2 : decide (60 < (v.size : Int)) = true := decide_eq_true (by omega)
    go_enter Try.func9, Try.ntmps9
    go_wp2_with fail
    refine (says_any _).mono ?_
    rintro e w1 ⟨rfl, hB⟩
    go_wp2_with fail
    refine (light_any a cap l _ (h.below hB)).mono ?_
    rintro e w' ⟨rfl, rfl⟩
    rw [HT.out]
    go_wp2
    go_ret
    exact ⟨rfl, hB⟩

set_option maxRecDepth 100000 in
set_option maxHeartbeats 4000000 in
theorem attrSays_good (a : Option Addr) (cap : Nat) (l : List Kv) (m v : ByteArray) (w : World) (h : Kvm w a l) (hlt : lightB l = true) (hm : m.size ≤ 60) (hv : v.size ≤ 60) :
    Calls Try.prog 9 #[.slice a l.length cap, .string m, .string v] w fun e w' => e = .returned (.bool true) ∧ Below w.heap.size w w' := by
  obtain ⟨i0, hi0, hz0, hz1, hz2⟩ := info_parts Try.info65
  obtain ⟨hl8, hlow⟩ := light_low hlt
  have HT : Hid (lightB l = true) := hlt
  have hl : l.length ≤ 1000 := by omega
  have d1 : decide (60 < (m.size : Int)) = false := decide_eq_false (by omega)
  have d2 : decide (60 < (v.size : Int)) = false := decide_eq_false (by omega)
  have hm' : m.size ≤ 1000 := by omega
  have hg0 := (getF_range l m).1
  have hs0 := (setF_range l m v).1
  have hp0 := (drpF_range l m).1
  have hc0 := (chkA_range l).1
  have HLS : Hid ((setV l m v).length ≤ 1000) := by
    show _ ≤ _
    unfold setV setL
    split
    · simp
    · have := List.length_filter_le (fun x => ltB x.n m) l
      have := List.length_filter_le (fun x => ltB m x.n) l
      simp [lows, highs]; omega
  have HLD : Hid ((drpV l m).length ≤ 1000) := by
    show _ ≤ _
    unfold drpV drpL
    split
    · simp
    · have := List.length_filter_le (fun x => ltB x.n m) l
      have := List.length_filter_le (fun x => ltB m x.n) l
      simp [lows, highs]; omega
  obtain ⟨gv, Hgv⟩ : ∃ t, Hid (getV l m = t) := ⟨_, rfl⟩
  obtain ⟨gf, Hgf⟩ : ∃ t, Hid (getF l m = t) := ⟨_, rfl⟩
  obtain ⟨sv, Hsv⟩ : ∃ t, Hid (setV l m v = t) := ⟨_, rfl⟩
  obtain ⟨sf, Hsf⟩ : ∃ t, Hid (setF l m v = t) := ⟨_, rfl⟩
  obtain ⟨pv, Hpv⟩ : ∃ t, Hid (drpV l m = t) := ⟨_, rfl⟩
  obtain ⟨pf, Hpf⟩ : ∃ t, Hid (drpF l m = t) := ⟨_, rfl⟩
  obtain ⟨cf, Hcf⟩ : ∃ t, Hid (chkA l = t) := ⟨_, rfl⟩
  obtain ⟨cl, Hcl⟩ : ∃ t, Hid (classB m = t) := ⟨_, rfl⟩
  rw [Hgf.out] at hg0
  rw [Hsf.out] at hs0
  rw [Hpf.out] at hp0
  rw [Hcf.out] at hc0
  rw [Hsv.out] at HLS
  rw [Hpv.out] at HLD
  clear hlt
  go_enter Try.func9, Try.ntmps9
  go_wp2_with fail
  refine (says_any _).mono ?_
  rintro e w1 ⟨rfl, B1⟩
  have K1 := h.below B1
  go_wp2_with fail
  refine (light_any a cap l _ K1).mono ?_
  rintro e w' ⟨rfl, rfl⟩
  rw [HT.out]
  have b1 := B1.size
  go_wp2_with (at_builtin; refine wpList_append_src _ rfl (.const (.slice none 0 0)) (.tmp 43) 62 rfl w.heap.size 65 i0 (.agg #[.string ⟨#[]⟩, .string ⟨#[]⟩]) 2 32 Try.underlying62 hi0 hz0 hz1 hz2 rfl (by decide) _ 0 [] rfl (World.ownsRow_nil _ _ _ _) a l.length cap (flat l) rfl (flat_length l) (src_of_kvm K1) (flat_one _) (by unfold maxLen; omega) (by omega) b1 ?_)
  intro v1 w2 hown1 g1 _
  have hf1 : w1.heap.size ≤ w2.heap.size := g1.size
  have B2 : Below w.heap.size w w2 := B1.grown g1 b1 (fun q e => by simp [Value.ownBlock] at e)
  have hown1a := hown1.alloc (.cells #[.string ⟨#[109, 97, 114, 107]⟩, .string ⟨#[]⟩] 65)
  have B2a := B2.alloc B2.size (.cells #[.string ⟨#[109, 97, 114, 107]⟩, .string ⟨#[]⟩] 65)
  have b2 := B2a.size
  clear g1
  go_wp2_with (at_builtin; refine wpList_append_src _ rfl (.tmp 44) (.tmp 46) 62 rfl w.heap.size 65 i0 (.agg #[.string ⟨#[]⟩, .string ⟨#[]⟩]) 2 32 Try.underlying62 hi0 hz0 hz1 hz2 rfl (by decide) _ l.length (flat l) rfl hown1a (some ⟨w2.heap.size, 0, none⟩) 1 1 (flat [⟨⟨#[109, 97, 114, 107]⟩, ⟨#[]⟩⟩]) rfl rfl (.inr ⟨_, rfl, new2 w2 ⟨⟨#[109, 97, 114, 107]⟩, ⟨#[]⟩⟩⟩) (flat_one _) (by unfold maxLen; omega) (by omega) b2 ?_)
  intro v2 w3 hown3 g2 _
  have B3 := B2a.grown g2 b2 (fun q e => (hown1.lt q e).1)
  rw [← flat_append] at hown3
  obtain ⟨go, cg, hvv, hlc, hcm, hR⟩ := kvm_of_owns hown3
  subst hvv
  have K0 : Kvm w3 go l := by
    rcases hR with e | ⟨b, off, rfl, hc⟩
    · simp at e
    · exact .inr ⟨b, off, rfl, fun k r hk => hc k r (by rw [List.getElem?_append_left (List.getElem?_eq_some_iff.1 hk).1]; exact hk)⟩
  have K1 := h.below B3
  clear hown1 hown1a hown3 g2 B1 B2 B2a b1 b2 hR hf1 hi0 hz0 hz1 hz2
  unfold maxLen at hcm
  have hcg : l.length ≤ cg := by omega
  go_wp2_with fail
  refine (get_any go cg l m _ hl hlow hm' K0).mono ?_
  rintro e w4 ⟨rfl, c3⟩
  rw [Hgv.out, Hgf.out]
  have B4 := B3.trans (c3.mono B3.size)
  replace K0 := K0.below c3
  replace K1 := K1.below c3
  clear c3 B3
  go_wp2_with fail
  refine (set_any go cg l m v _ hl hcg (by omega) hlow hm' K0).mono ?_
  rintro e w5 ⟨⟨ae, cs, rfl, _, _, K2⟩, c4⟩
  rw [Hsv.out, Hsf.out]
  have B5 := B4.trans (c4.mono B4.size)
  replace K0 := K0.below c4
  replace K1 := K1.below c4
  clear c4 B4
  rw [Hsv.out] at K2
  go_wp2_with fail
  refine (drop_any go cg l m _ hl hcg (by omega) hlow hm' K0).mono ?_
  rintro e w6 ⟨⟨ad, cd, rfl, _, _, K3⟩, c5⟩
  rw [Hpv.out, Hpf.out]
  have B6 := B5.trans (c5.mono B5.size)
  replace K0 := K0.below c5
  replace K1 := K1.below c5
  replace K2 := K2.below c5
  clear c5 B5
  rw [Hpv.out] at K3
  go_wp2_with fail
  refine (attrr_get a cap l m v _ hl hlow hm' K1).mono ?_
  rintro e w7 ⟨⟨a0, c0, rfl, _⟩, c6⟩
  rw [Hgv.out, Hgf.out]
  have B7 := B6.trans (c6.mono B6.size)
  replace K0 := K0.below c6
  replace K1 := K1.below c6
  replace K2 := K2.below c6
  replace K3 := K3.below c6
  clear c6 B6
  go_wp2_with fail
  refine (attrr_set1 a cap l m v _ hl hlow hm' K1).mono ?_
  rintro e w8 ⟨⟨ax, cx, rfl, K4⟩, c7⟩
  rw [Hsv.out, Hsf.out]
  have B8 := B7.trans (c7.mono B7.size)
  replace K0 := K0.below c7
  replace K1 := K1.below c7
  replace K2 := K2.below c7
  replace K3 := K3.below c7
  clear c7 B7
  rw [Hsv.out] at K4
  go_wp2_with fail
  refine (attrr_drop a cap l m v _ hl hlow hm' K1).mono ?_
  rintro e w9 ⟨⟨ay, cy, rfl, K5⟩, c8⟩
  rw [Hpv.out, Hpf.out]
  have B9 := B8.trans (c8.mono B8.size)
  replace K0 := K0.below c8
  replace K1 := K1.below c8
  replace K2 := K2.below c8
  replace K3 := K3.below c8
  replace K4 := K4.below c8
  clear c8 B8
  rw [Hpv.out] at K5
  go_wp2_with fail
  refine (class_any m _ hm').mono ?_
  rintro e w' ⟨rfl, nq9, rfl⟩
  rw [Hcl.out]
  have c9 : Below w9.heap.size w9 (w9.drewN nq9) := below_drewN (Below.refl _ _) _
  have B10 := B9.trans (c9.mono B9.size)
  replace K0 := K0.below c9
  replace K1 := K1.below c9
  replace K2 := K2.below c9
  replace K3 := K3.below c9
  replace K4 := K4.below c9
  replace K5 := K5.below c9
  clear c9 B9
  generalize w9.drewN nq9 = w10 at B10 K0 K1 K2 K3 K4 K5 ⊢
  go_wp2_with fail
  refine (classr_any m _ hm').mono ?_
  rintro e w' ⟨rfl, rfl⟩
  rw [Hcl.out]
  go_wp2_with fail
  refine (check_any go cg l _ hl hlow K0).mono ?_
  rintro e w11 ⟨rfl, c10⟩
  rw [Hcf.out]
  have B11 := B10.trans (c10.mono B10.size)
  replace K0 := K0.below c10
  replace K1 := K1.below c10
  replace K2 := K2.below c10
  replace K3 := K3.below c10
  replace K4 := K4.below c10
  replace K5 := K5.below c10
  clear c10 B10
  go_wp2_with fail
  refine (fault_any a cap l _ hl hlow K1).mono ?_
  rintro e w12 ⟨rfl, c11⟩
  rw [Hcf.out]
  have B12 := B11.trans (c11.mono B11.size)
  replace K0 := K0.below c11
  replace K1 := K1.below c11
  replace K2 := K2.below c11
  replace K3 := K3.below c11
  replace K4 := K4.below c11
  replace K5 := K5.below c11
  clear c11 B11
  go_wp2_with fail
  refine (same_errV cf hc0 _).mono ?_
  rintro e w' ⟨rfl, rfl⟩
  go_wp2_with fail
  refine (sameAttrs_yes go a cg cap l.length l _ rfl hl K0 K1).mono ?_
  rintro e w13 ⟨rfl, c12⟩
  have B13 := B12.trans (c12.mono B12.size)
  replace K0 := K0.below c12
  replace K1 := K1.below c12
  replace K2 := K2.below c12
  replace K3 := K3.below c12
  replace K4 := K4.below c12
  replace K5 := K5.below c12
  clear c12 B12
  go_wp2_with fail
  refine (same_errV gf hg0 _).mono ?_
  rintro e w' ⟨rfl, rfl⟩
  go_wp2_with fail
  refine (sameAttrs_yes ae ax cs cx sv.length sv _ rfl HLS.out K2 K4).mono ?_
  rintro e w14 ⟨rfl, c13⟩
  have B14 := B13.trans (c13.mono B13.size)
  replace K0 := K0.below c13
  replace K1 := K1.below c13
  replace K2 := K2.below c13
  replace K3 := K3.below c13
  replace K4 := K4.below c13
  replace K5 := K5.below c13
  clear c13 B13
  go_wp2_with fail
  refine (same_errV sf hs0 _).mono ?_
  rintro e w' ⟨rfl, rfl⟩
  go_wp2_with fail
  refine (sameAttrs_yes ad ay cd cy pv.length pv _ rfl HLD.out K3 K5).mono ?_
  rintro e w15 ⟨rfl, c14⟩
  have B15 := B14.trans (c14.mono B14.size)
  replace K0 := K0.below c14
  replace K1 := K1.below c14
  replace K2 := K2.below c14
  replace K3 := K3.below c14
  replace K4 := K4.below c14
  replace K5 := K5.below c14
  clear c14 B14
  go_wp2_with fail
  refine (same_errV pf hp0 _).mono ?_
  rintro e w' ⟨rfl, rfl⟩
  go_wp2
  go_ret
  exact ⟨by simp, B15⟩
theorem attrSays_any (a : Option Addr) (cap : Nat) (l : List Kv) (m v : ByteArray) (w : World) (h : Kvm w a l) :
    Calls Try.prog 9 #[.slice a l.length cap, .string m, .string v] w fun e w' => e = .returned (.bool true) ∧ Below w.heap.size w w' := by
  cases hlt : lightB l with
  | false => exact attrSays_not a cap l m v w h (.inl hlt)
  | true =>
    by_cases hm : m.size ≤ 60
    · by_cases hv : v.size ≤ 60
      · exact attrSays_good a cap l m v w h hlt hm hv
      · exact attrSays_not a cap l m v w h (.inr (.inr ⟨hlt, hm, by omega⟩))
    · exact attrSays_not a cap l m v w h (.inr (.inl ⟨hlt, by omega⟩))
end Go.Proofs.Ytpjhckjmahagnaa
