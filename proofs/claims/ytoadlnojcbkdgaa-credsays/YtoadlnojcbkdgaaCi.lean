/-
  WHAT THE DOCUMENT's OWN Become DOES: the walk.
-/
import Derived.Test.YtoadlnojcbkdgaaCh
import Derived.Test.YtoadlnojcbkdgaaAp
namespace Go.Proofs.Ytoadlnojcbkdgaa
open Go.RowKit

/-- The zero cred, and the number of an error. -/
def rbadV (n : Int) : Value := .tuple #[.agg #[.int .i64 0, .int .i64 0, .slice none 0 0, .int .i64 0], .int .i64 n]
/-- The cred that is made, and 0. -/
def rgoodV (user group c : Int) (v : Value) : Value := .tuple #[.agg #[.int .i64 user, .int .i64 group, v, .int .i64 c], .int .i64 0]

/-- What is wrong with becoming another one (0: nothing). -/
def becF (u g : Int) (zs : List Int) (c user group : Int) : Int :=
  if credF u g zs c ≠ 0 then credF u g zs c else if idB user = false ∨ idB group = false then 1 else if bitB c 8 = false ∧ (user ≠ u ∨ hasB g zs group = false) then 10 else 0
/-- The capabilities that are left. -/
def becC (u c user : Int) : Int := if user ≠ u ∧ user ≠ 0 then 0 else c

theorem src_of_ints {w : World} {a : Option Addr} {zs : List Int} (h : Ints w a zs) : (a = none ∧ zs.length = 0) ∨ ∃ ad, a = some ad ∧ ∀ j u, (zs.map (Value.int .i64))[j]? = some u → w.cell? (ad.add j) = some u := by
  rcases h with rfl | ⟨b, off, rfl, hc⟩
  · cases a with
    | none => exact .inl ⟨rfl, rfl⟩
    | some ad => exact .inr ⟨ad, rfl, fun j u hu => by simp at hu⟩
  · refine .inr ⟨_, rfl, fun j u hj => ?_⟩
    have hjl : j < zs.length := by have := (List.getElem?_eq_some_iff.1 hj).1; simpa using this
    have hc' := hc j hjl
    have hv : u = .int .i64 (zs.getD j 0) := by simp [hjl] at hj; simp [hjl, hj]
    subst hv
    have e : (⟨b, off, none⟩ : Addr).add j = ⟨b, off + j, none⟩ := by by_cases hj0 : j = 0 <;> simp [Addr.add, hj0]
    rw [e]; exact hc'
theorem one_ints (zs : List Int) : ∀ u ∈ zs.map (Value.int .i64), u.oneCell' = true := by
  intro v hv; simp at hv; obtain ⟨z, _, rfl⟩ := hv; rfl
theorem ints_of_owns {w : World} {g : Nat} {e : TypeId} {cur : Array Value} {zs : List Int} {k : Nat} (hg : w.heap[g]? = some (.cells cur e (0, 0))) (hx : cur.toList.take k = zs.map (Value.int .i64)) : Ints w (some ⟨g, 0, none⟩) zs := by
  refine .inr ⟨g, 0, rfl, fun i hi => ?_⟩
  rw [Nat.zero_add]
  exact ownsRow_cell hg hx (by simp [hi])

theorem Ints.other2 {w : World} {a : Option Addr} {zs : List Int} (h : Ints w a zs) {p : Addr} (hp : ∀ g o, a = some ⟨g, o, none⟩ → p.block ≠ g) (x : Value) : Ints (w.setCell p x) a zs := by
  rcases h with h | ⟨b, off, ha, hc⟩
  · exact .inl h
  · exact .inr ⟨b, off, ha, fun i hi => (World.cell?_setCell_other _ _ _ _ (fun e => hp b off ha (by rw [e]))).trans (hc i hi)⟩

set_option maxHeartbeats 400000 in
theorem becomer_bad (u g c user group : Int) (a : Option Addr) (cap : Nat) (zs : List Int) (w : World) (hl : zs.length ≤ 8) (h : Ints w a zs) (hp : 0 < credF u g zs c) :
    Calls Try.prog 23 #[.agg #[.int .i64 u, .int .i64 g, .slice a zs.length cap, .int .i64 c], .int .i64 user, .int .i64 group] w fun e w' =>
      e = .returned (rbadV (credF u g zs c)) ∧ Below w.heap.size w w' := by
  obtain ⟨n, hn⟩ : ∃ n, credF u g zs c = n := ⟨_, rfl⟩
  have HN : Hid (credF u g zs c = n) := hn
  have hn0 : 0 < n := hn ▸ hp
  clear hn hp
  go_enter Try.func23, Try.ntmps23
  go_wp2_with fail
  refine (credFault_any u g c a cap zs _ hl ?_).mono ?_
  · exact h.below (((Below.refl _ _).alloc (Nat.le_refl _) _).alloc (by simp) _)
  rintro e w1 ⟨rfl, hb⟩
  rw [HN.out]
  have hb0 : Below w.heap.size w w1 := (((Below.refl _ _).alloc (Nat.le_refl _) _).alloc (by simp) _).trans (hb.mono (by simp; omega))
  have hbr1 : Box w1 (w.heap.size + 1) 0 0 (.slice none 0 0) 0 := by
    have := (Box.new (w.alloc (.cells #[.int .i64 u, .int .i64 g, .slice a zs.length cap, .int .i64 c] 40)) 0 0 (.slice none 0 0) 0).below hb
    simpa using this
  clear hb
  obtain ⟨k0, k1, k2, k3, k4⟩ := id hbr1
  go_wp2
  refine bodyPost_ret (v := rbadV n) (by simp [results, Try.results23, go_sem, rbadV, *]) rfl ⟨by rw [HN.out], ?_⟩
  exact (((hb0.setCell (by simp) _).setCell (by simp) _).setCell (by simp) _).setCell (by simp) _

set_option maxHeartbeats 4000000 in
theorem becomer_right (u g c user group : Int) (a : Option Addr) (cap : Nat) (zs : List Int) (w : World) (hl : zs.length ≤ 8) (h : Ints w a zs) (hf : credF u g zs c = 0) :
    Calls Try.prog 23 #[.agg #[.int .i64 u, .int .i64 g, .slice a zs.length cap, .int .i64 c], .int .i64 user, .int .i64 group] w fun e w' =>
      ((becF u g zs c user group ≠ 0 ∧ e = .returned (rbadV (becF u g zs c user group))) ∨ (becF u g zs c user group = 0 ∧ ∃ ao cp, e = .returned (rgoodV user group (becC u c user) (.slice ao zs.length cp)) ∧ Ints w' ao zs)) ∧ Below w.heap.size w w' := by
  obtain ⟨_, _, hc0, hc1, _, _⟩ := credF_zero hf
  have HN : Hid (credF u g zs c = 0) := hf
  have HBF : Hid (becF u g zs c user group = if idB user = false ∨ idB group = false then 1 else if bitB c 8 = false ∧ (user ≠ u ∨ hasB g zs group = false) then 10 else 0) := by
    show _ = _; unfold becF; rw [if_neg (by simp [hf])]
  clear hf
  go_enter Try.func23, Try.ntmps23
  go_wp2_with fail
  refine (credFault_any u g c a cap zs _ hl ?_).mono ?_
  · exact h.below (((Below.refl _ _).alloc (Nat.le_refl _) _).alloc (by simp) _)
  rintro e w1 ⟨rfl, hb⟩
  rw [HN.out]
  have hb0 : Below w.heap.size w w1 := (((Below.refl _ _).alloc (Nat.le_refl _) _).alloc (by simp) _).trans (hb.mono (by simp; omega))
  have hbx1 : Box w1 w.heap.size u g (.slice a zs.length cap) c := ((Box.new w u g (.slice a zs.length cap) c).alloc _).below hb
  have hbr1 : Box w1 (w.heap.size + 1) 0 0 (.slice none 0 0) 0 := by
    have := (Box.new (w.alloc (.cells #[.int .i64 u, .int .i64 g, .slice a zs.length cap, .int .i64 c] 40)) 0 0 (.slice none 0 0) 0).below hb
    simpa using this
  clear hb
  by_cases hi : idB user = false ∨ idB user = true ∧ idB group = false
  · have HB1 : Hid (becF u g zs c user group = 1) := HBF.out.trans (if_pos (by rcases hi with hi | ⟨_, hj⟩; exact .inl hi; exact .inr hj))
    clear hbx1 hc0 hc1 HBF
    obtain ⟨k0, k1, k2, k3, k4⟩ := id hbr1
    rcases hi with hi | ⟨hi, hj⟩
    all_goals
      go_wp2_with (go_at_call 49; refine (isIDr_any _ _).mono ?_; rintro e w' ⟨rfl, rfl⟩)
      refine bodyPost_ret (v := rbadV 1) (by simp [results, Try.results23, go_sem, rbadV, *]) rfl ⟨.inl ⟨by rw [HB1.out]; decide, by rw [HB1.out]⟩, ?_⟩
      exact (((hb0.setCell (by simp) _).setCell (by simp) _).setCell (by simp) _).setCell (by simp) _
  · have hi1 : idB user = true := by
      by_cases e : idB user = false
      · exact absurd (.inl e) hi
      · simpa using e
    have hj1 : idB group = true := by
      by_cases e : idB group = false
      · exact absurd (.inr ⟨hi1, e⟩) hi
      · simpa using e
    have HB2 : Hid (becF u g zs c user group = if bitB c 8 = false ∧ (user ≠ u ∨ hasB g zs group = false) then 10 else 0) := HBF.out.trans (if_neg (by rw [hi1, hj1]; simp))
    clear hi HBF
    obtain ⟨k0, k1, k2, k3, k4⟩ := id hbx1
    go_wp2_with (first | (go_at_call 49; refine (isIDr_any _ _).mono ?_; rintro e w' ⟨rfl, rfl⟩) | (go_at_call 50; refine (bit_any _ _ (by omega) (by omega) (by omega) (by omega) _).mono ?_; rintro e w' ⟨rfl, rfl⟩))
    refine (hasr_any u g group c a cap zs _ hl (h.below hb0)).mono ?_
    rintro e w2 ⟨rfl, hb2⟩
    have hbx2 := hbx1.below hb2
    have hbr2 := hbr1.below hb2
    have hb3 : Below w.heap.size w w2 := hb0.trans (hb2.mono hb0.size)
    clear k0 k1 k2 k3 k4 hbx1 hbr1 hb2 hb0
    obtain ⟨t8, ht8⟩ : ∃ t, bitB c 8 = t := ⟨_, rfl⟩
    obtain ⟨th, hth⟩ : ∃ t, hasB g zs group = t := ⟨_, rfl⟩
    rw [hth, ht8] at HB2
    rw [hth]
    have hu0 : 0 ≤ user := by
      simp [idB] at hi1; omega
    clear hth hi1 hj1
    have hor : (t8 = false ∧ (user != u) = true) ∨ (t8 = false ∧ user = u ∧ th = false) ∨ (t8 = true ∧ (user != u) = true ∧ decide (0 < user) = true) ∨ (t8 = true ∧ (user != u) = true ∧ decide (0 < user) = false) ∨ (t8 = true ∧ (user != u) = false) ∨ (t8 = false ∧ (user != u) = false ∧ th = true) := by
      by_cases e1 : user = u
      · cases t8 <;> cases th <;> simp [e1]
      · by_cases e2 : 0 < user
        · cases t8 <;> simp [e1, e2]
        · cases t8 <;> simp [e1, e2]
    obtain ⟨q0, q1, q2, q3, q4⟩ := id hbr2
    obtain ⟨k0, k1, k2, k3, k4⟩ := id hbx2
    have l2 := hbx2.lt
    have l3 := hbr2.lt
    rcases hor with ⟨rfl, hub⟩ | ⟨rfl, rfl, rfl⟩ | hok
    · have HB3 : Hid (becF u g zs c user group = 10) := HB2.out.trans (if_pos ⟨rfl, .inl (by simpa using hub)⟩)
      go_wp2
      refine bodyPost_ret (v := rbadV 10) (by simp [results, Try.results23, go_sem, rbadV, *]) rfl ⟨.inl ⟨by rw [HB3.out]; decide, by rw [HB3.out]⟩, ?_⟩
      exact (((hb3.setCell (by simp) _).setCell (by simp) _).setCell (by simp) _).setCell (by simp) _
    · have HB3 : Hid (becF user g zs c user group = 10) := HB2.out.trans (if_pos ⟨rfl, .inr rfl⟩)
      have hub : (user != user) = false := by simp
      go_wp2
      refine bodyPost_ret (v := rbadV 10) (by simp [results, Try.results23, go_sem, rbadV, *]) rfl ⟨.inl ⟨by rw [HB3.out]; decide, by rw [HB3.out]⟩, ?_⟩
      exact (((hb3.setCell (by simp) _).setCell (by simp) _).setCell (by simp) _).setCell (by simp) _
    · have HB3 : Hid (becF u g zs c user group = 0) := HB2.out.trans (if_neg (by
        rintro ⟨e1, e2⟩
        rcases hok with ⟨rfl, _⟩ | ⟨rfl, _⟩ | ⟨rfl, _⟩ | ⟨rfl, e3, rfl⟩
        · cases e1
        · cases e1
        · cases e1
        · rcases e2 with e2 | e2
          · simp at e3; exact e2 e3
          · cases e2))
      have hok2 : (t8 = true ∨ t8 = false ∧ (user != u) = false ∧ th = true) ∧ ((user != u) = true ∧ decide (0 < user) = true ∧ becC u c user = 0 ∨ (user != u) = true ∧ decide (0 < user) = false ∧ becC u c user = c ∨ (user != u) = false ∧ becC u c user = c) := by
        unfold becC
        rcases hok with ⟨rfl, e3, e4⟩ | ⟨rfl, e3, e4⟩ | ⟨rfl, e3⟩ | ⟨rfl, e3, rfl⟩
        · exact ⟨.inl rfl, .inl ⟨e3, e4, if_pos ⟨by simpa using e3, by simp at e4; omega⟩⟩⟩
        · exact ⟨.inl rfl, .inr (.inl ⟨e3, e4, if_neg (by simp at e4; rintro ⟨_, e5⟩; omega)⟩)⟩
        · exact ⟨.inl rfl, .inr (.inr ⟨e3, if_neg (by simp at e3; rintro ⟨e5, _⟩; exact e5 e3)⟩)⟩
        · exact ⟨.inr ⟨rfl, e3, rfl⟩, .inr (.inr ⟨e3, if_neg (by simp at e3; rintro ⟨e5, _⟩; exact e5 e3)⟩)⟩
      obtain ⟨hk1, hk2⟩ := hok2
      have HK2 : Hid ((user != u) = true ∧ decide (0 < user) = true ∧ becC u c user = 0 ∨ (user != u) = true ∧ decide (0 < user) = false ∧ becC u c user = c ∨ (user != u) = false ∧ becC u c user = c) := hk2
      clear hok hk2 HB2
      obtain ⟨i0, hi0, hz0, hz1, hz2⟩ := info_parts Try.info3
      rcases hk1 with rfl | ⟨rfl, hub, rfl⟩
      all_goals
        go_wp2_with (at_builtin; refine wpList_append_src _ rfl (.tmp 52) (.tmp 54) 38 rfl (w2.heap.size + 1) 3 i0 (.int .i64 0) 1 8 Try.underlying38 hi0 hz0 hz1 hz2 rfl (by decide) (.slice none 0 0) 0 [] rfl (World.ownsRow_nil _ _ _ _) a zs.length cap (zs.map (Value.int .i64)) rfl (by simp) (src_of_ints (h.below (hb3.alloc (Nat.le_of_lt l2) _))) (one_ints zs) (by unfold maxLen; omega) (by omega) (by simp) ?_)
        intro v' w4 hown hgrow _
        have hbel := (Below.refl _ _).grown hgrow (Nat.le_refl _) (fun k e => by cases e)
        obtain ⟨ao, cp, hv, _, _, hform⟩ := ownsRow_form hown
        have hin : Ints w4 ao zs ∧ ∀ gb o, ao = some ⟨gb, o, none⟩ → w2.heap.size + 1 ≤ gb := by
          rcases hform with ⟨rfl, h0, _, _⟩ | ⟨gb, cur, rfl, hbg, hgg, _, hx⟩
          · exact ⟨.inl (List.eq_nil_of_length_eq_zero h0), fun _ _ e => by cases e⟩
          · exact ⟨ints_of_owns hgg hx, fun gb' o e => by obtain ⟨rfl, rfl⟩ : gb = gb' ∧ 0 = o := by simpa using e
                                                          exact hbg⟩
        obtain ⟨hin, hgb⟩ := hin
        have B1 := (Box.new w2 user group (.slice none 0 0) c).below hbel
        have B2 := (hbx2.alloc _).below hbel
        have B3 := (hbr2.alloc _).below hbel
        have L4 := (hb3.alloc (Nat.le_of_lt l2) _).trans (hbel.mono (by simp; omega))
        have n2 : ¬ w2.heap.size = w.heap.size := by omega
        have n3 : ¬ w2.heap.size = w.heap.size + 1 := by omega
        have n5 : w.heap.size ≤ w2.heap.size := by omega
        have I1 : ∀ (p : Addr) (x : Value) (W : World), p.block ≤ w2.heap.size → Ints W ao zs → Ints (W.setCell p x) ao zs := fun p x W hp hI => hI.other2 (fun g o e => by have := hgb g o e; omega) x
        rw [hv]
        clear k0 k1 k2 k3 k4 q0 q1 q2 q3 q4 hbx2 hbr2 hform hown hgrow hgb hbel hv
        obtain ⟨k0, k1, k2, k3, k4⟩ := id B1
        obtain ⟨q0, q1, q2, q3, q4⟩ := id B2
        obtain ⟨r0, r1, r2, r3, r4⟩ := id B3
        have HI1 : Hid (∀ (p : Addr) (x : Value) (W : World), p.block ≤ w2.heap.size → Ints W ao zs → Ints (W.setCell p x) ao zs) := I1
        clear I1
        rcases HK2.out with ⟨h1, h2, hcc⟩ | ⟨h1, h2, hcc⟩ | ⟨h1, hcc⟩
        all_goals try (exact absurd (hub.symm.trans h1) (by decide))
        all_goals clear HK2
        all_goals try clear hub
        all_goals first
          | (have HCC : Hid (becC u c user = 0) := hcc
             clear hcc
             go_wp2
             refine bodyPost_ret (v := rgoodV user group 0 (.slice ao zs.length cp)) (by simp [results, Try.results23, go_sem, rgoodV, *]) rfl ⟨.inr ⟨HB3.out, ao, cp, by rw [HCC.out], ?_⟩, ?_⟩
             · exact HI1.out _ _ _ (by simp; omega) (HI1.out _ _ _ (by simp; omega) (HI1.out _ _ _ (by simp; omega) (HI1.out _ _ _ (by simp; omega) (HI1.out _ _ _ (by simp) (HI1.out _ _ _ (by simp) hin)))))
             · exact (((((L4.setCell (by simp; omega) _).setCell (by simp; omega) _).setCell (by simp) _).setCell (by simp) _).setCell (by simp) _).setCell (by simp) _)
          | (have HCC : Hid (becC u c user = c) := hcc
             clear hcc
             go_wp2
             refine bodyPost_ret (v := rgoodV user group c (.slice ao zs.length cp)) (by simp [results, Try.results23, go_sem, rgoodV, *]) rfl ⟨.inr ⟨HB3.out, ao, cp, by rw [HCC.out], ?_⟩, ?_⟩
             · exact HI1.out _ _ _ (by simp; omega) (HI1.out _ _ _ (by simp; omega) (HI1.out _ _ _ (by simp; omega) (HI1.out _ _ _ (by simp; omega) (HI1.out _ _ _ (by simp) hin))))
             · exact ((((L4.setCell (by simp; omega) _).setCell (by simp) _).setCell (by simp) _).setCell (by simp) _).setCell (by simp) _)
end Go.Proofs.Ytoadlnojcbkdgaa
