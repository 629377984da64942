/-
  WHAT cred.Become DOES: the walk, for every cred of at most eight groups, every user and group.
-/
import Derived.Test.YtoadlnojcbkdgaaCb
import Derived.Deep.RegionHeld3
namespace Go.Proofs.Ytoadlnojcbkdgaa
open Go.RowKit

/-- A cred in memory: the four cells of block b, which may be written. -/
def Box (w : World) (b : Nat) (u g : Int) (v : Value) (c : Int) : Prop :=
  w.cell? ⟨b, 0, none⟩ = some (.int .i64 u) ∧ w.cell? ⟨b, 1, none⟩ = some (.int .i64 g) ∧ w.cell? ⟨b, 2, none⟩ = some v ∧ w.cell? ⟨b, 3, none⟩ = some (.int .i64 c) ∧ ∀ o, w.frozen? ⟨b, o, none⟩ = false
theorem Box.new (w : World) (u g : Int) (v : Value) (c : Int) : Box (w.alloc (.cells #[.int .i64 u, .int .i64 g, v, .int .i64 c] 40)) w.heap.size u g v c :=
  ⟨World.cell?_alloc_at _ _ _ _ rfl, World.cell?_alloc_at _ _ _ _ rfl, World.cell?_alloc_at _ _ _ _ rfl, World.cell?_alloc_at _ _ _ _ rfl, fun _ => World.frozen?_alloc_at _ _ _ _ rfl⟩
theorem Box.lt {w : World} {b : Nat} {u g : Int} {v : Value} {c : Int} (h : Box w b u g v c) : b < w.heap.size := World.block_lt_of_cell? _ _ h.1
theorem Box.below {w w' : World} {b : Nat} {u g : Int} {v : Value} {c : Int} (h : Box w b u g v c) (hb : Below w.heap.size w w') : Box w' b u g v c := by
  have hl := h.lt
  obtain ⟨h0, h1, h2, h3, h4⟩ := h
  exact ⟨(hb.cell (p := ⟨b, 0, none⟩) hl).trans h0, (hb.cell (p := ⟨b, 1, none⟩) hl).trans h1, (hb.cell (p := ⟨b, 2, none⟩) hl).trans h2, (hb.cell (p := ⟨b, 3, none⟩) hl).trans h3, fun o => (hb.frozen (p := ⟨b, o, none⟩) hl).trans (h4 o)⟩
theorem Box.alloc {w : World} {b : Nat} {u g : Int} {v : Value} {c : Int} (h : Box w b u g v c) (o : Obj) : Box (w.alloc o) b u g v c := h.below ((Below.refl _ _).alloc (Nat.le_refl _) _)
theorem Box.drew {w : World} {b : Nat} {u g : Int} {v : Value} {c : Int} (h : Box w b u g v c) : Box w.drew b u g v c := h
theorem Box.other {w : World} {b : Nat} {u g : Int} {v : Value} {c : Int} (h : Box w b u g v c) {p : Addr} (hp : p.block ≠ b) (x : Value) : Box (w.setCell p x) b u g v c := by
  obtain ⟨h0, h1, h2, h3, h4⟩ := h
  have e : ∀ o, (w.setCell p x).cell? ⟨b, o, none⟩ = w.cell? ⟨b, o, none⟩ := fun o => World.cell?_setCell_other _ _ _ _ (fun e => hp (by rw [e]))
  exact ⟨(e _).trans h0, (e _).trans h1, (e _).trans h2, (e _).trans h3, fun o => by rw [World.frozen?_setCell]; exact h4 o⟩
/-- Four stores: a whole new cred in block b. -/
theorem Box.set {w : World} {b : Nat} {u g : Int} {v : Value} {c : Int} (h : Box w b u g v c) (u' g' : Int) (v' : Value) (c' : Int) :
    Box ((((w.setCell ⟨b, 0, none⟩ (.int .i64 u')).setCell ⟨b, 1, none⟩ (.int .i64 g')).setCell ⟨b, 2, none⟩ v').setCell ⟨b, 3, none⟩ (.int .i64 c')) b u' g' v' c' := by
  obtain ⟨h0, h1, h2, h3, h4⟩ := h
  refine ⟨?_, ?_, ?_, ?_, fun o => by simp [h4]⟩ <;> simp [World.cell?_setCell_other, World.cell?_setCell_same', h0, h1, h2, h3]
theorem Ints.other {w : World} {g : Nat} {zs : List Int} (h : Ints w (some ⟨g, 0, none⟩) zs) {p : Addr} (hp : p.block ≠ g) (x : Value) : Ints (w.setCell p x) (some ⟨g, 0, none⟩) zs := by
  rcases h with h | ⟨b, off, ha, hc⟩
  · exact .inl h
  · obtain ⟨rfl, rfl⟩ : g = b ∧ 0 = off := by simpa using ha
    exact .inr ⟨g, 0, rfl, fun i hi => (World.cell?_setCell_other _ _ _ _ (fun e => hp (by rw [e]))).trans (hc i hi)⟩

/-- The zero cred, and an error. -/
def badV (n : Int) : Value := .tuple #[.agg #[.int .i64 0, .int .i64 0, .slice none 0 0, .int .i64 0], .iface 60 (.int .i64 n)]

set_option maxHeartbeats 400000 in
theorem become_bad (u g c user group : Int) (a : Option Addr) (cap : Nat) (zs : List Int) (w : World) (hl : zs.length ≤ 8) (h : Ints w a zs) (hf : credF u g zs c ≠ 0) :
    Calls Try.prog 22 #[.agg #[.int .i64 u, .int .i64 g, .slice a zs.length cap, .int .i64 c], .int .i64 user, .int .i64 group] w fun e w' =>
      e = .returned (badV (credF u g zs c)) ∧ Below w.heap.size w w' := by
  obtain ⟨n, hn⟩ : ∃ n, credF u g zs c = n := ⟨_, rfl⟩
  have HN : Hid (credF u g zs c = n) := hn
  have hn0 : n ≠ 0 := hn ▸ hf
  clear hn hf
  go_enter Try.func22, Try.ntmps22
  go_wp2_with fail
  refine (check_any u g c a cap zs _ hl ?_).mono ?_
  · exact h.below (((Below.refl _ _).alloc (Nat.le_refl _) _).alloc (by simp) _)
  rintro e w1 ⟨rfl, hb⟩
  rw [errV_of HN.out hn0]
  obtain ⟨hc, hfz⟩ := bcell hb
  have hz : w.heap.size + 1 < w1.heap.size := by have := hb.size; simp at this; omega
  go_wp2
  refine bodyPost_ret (v := badV n) (by simp [results, Try.results22, go_sem, badV, hc]) rfl ⟨by rw [HN.out], ?_⟩
  have hb0 : Below w.heap.size w w1 := (((Below.refl _ _).alloc (Nat.le_refl _) _).alloc (by simp) _).trans (hb.mono (by simp; omega))
  repeat (first | exact hb0 | refine Below.setCell ?_ (by simp) _)

set_option maxHeartbeats 400000 in
theorem become_bound (u g c user group : Int) (a : Option Addr) (cap : Nat) (zs : List Int) (w : World) (hl : zs.length ≤ 8) (h : Ints w a zs) (hf : credF u g zs c = 0) (hi : idB user = false ∨ idB user = true ∧ idB group = false) :
    Calls Try.prog 22 #[.agg #[.int .i64 u, .int .i64 g, .slice a zs.length cap, .int .i64 c], .int .i64 user, .int .i64 group] w fun e w' =>
      e = .returned (badV 1) ∧ Below w.heap.size w w' := by
  have HN : Hid (credF u g zs c = 0) := hf
  clear hf
  rcases hi with hi | ⟨hi, hj⟩
  all_goals
    go_enter Try.func22, Try.ntmps22
    go_wp2_with fail
    refine (check_any u g c a cap zs _ hl ?_).mono ?_
    · exact h.below (((Below.refl _ _).alloc (Nat.le_refl _) _).alloc (by simp) _)
    rintro e w1 ⟨rfl, hb⟩
    rw [errV_nil HN.out]
    obtain ⟨hc, hfz⟩ := bcell hb
    have hz : w.heap.size + 1 < w1.heap.size := by have := hb.size; simp at this; omega
    go_wp2_with (go_at_call 47; refine (isID_any _ _).mono ?_; rintro e w' ⟨rfl, rfl⟩)
    refine bodyPost_ret (v := badV 1) (by simp [results, Try.results22, go_sem, badV, hc]) rfl ⟨rfl, ?_⟩
    have hb0 : Below w.heap.size w w1 := (((Below.refl _ _).alloc (Nat.le_refl _) _).alloc (by simp) _).trans (hb.mono (by simp; omega))
    repeat (first | exact hb0 | refine Below.setCell ?_ (by simp) _)

set_option maxHeartbeats 400000 in
theorem become_perm (u g c user group : Int) (a : Option Addr) (cap : Nat) (zs : List Int) (w : World) (hl : zs.length ≤ 8) (h : Ints w a zs) (hf : credF u g zs c = 0) (hi : idB user = true) (hj : idB group = true)
    (h8 : (bits .and .i64 c 8 == 8) = false) (hp : user ≠ u ∨ user = u ∧ hasB g zs group = false) :
    Calls Try.prog 22 #[.agg #[.int .i64 u, .int .i64 g, .slice a zs.length cap, .int .i64 c], .int .i64 user, .int .i64 group] w fun e w' =>
      e = .returned (badV 10) ∧ Below w.heap.size w w' := by
  have HN : Hid (credF u g zs c = 0) := hf
  clear hf
  obtain ⟨b8, hb8⟩ : ∃ b8, (bits .and .i64 c 8 == 8) = b8 := ⟨_, rfl⟩
  have H8 : Hid ((bits .and .i64 c 8 == 8) = false) := h8
  clear hb8 b8 h8
  rcases hp with hp | ⟨rfl, hh⟩
  · have hpb : (user != u) = true := by simpa using hp
    clear hp
    go_enter Try.func22, Try.ntmps22
    go_wp2_with fail
    refine (check_any u g c a cap zs _ hl ?_).mono ?_
    · exact h.below (((Below.refl _ _).alloc (Nat.le_refl _) _).alloc (by simp) _)
    rintro e w1 ⟨rfl, hb⟩
    rw [errV_nil HN.out]
    have hb0 : Below w.heap.size w w1 := (((Below.refl _ _).alloc (Nat.le_refl _) _).alloc (by simp) _).trans (hb.mono (by simp; omega))
    obtain ⟨hc, hfz⟩ := bcell hb
    have hz : w.heap.size + 1 < w1.heap.size := by have := hb.size; simp at this; omega
    go_wp2_with (go_at_call 47; refine (isID_any _ _).mono ?_; rintro e w' ⟨rfl, rfl⟩)
    refine (can_any u g c 8 _ _).mono ?_
    rintro e w2 ⟨rfl, hb2⟩
    rw [H8.out]
    obtain ⟨hc2, hfz2⟩ := bcell hb2
    have hz2 : w.heap.size + 1 < w2.heap.size := by have := hb2.size; omega
    have hz0 : w.heap.size < w1.heap.size := by omega
    go_wp2_with fail
    refine bodyPost_ret (v := badV 10) (by simp [results, Try.results22, go_sem, badV, hc, hz, hc2]) rfl ⟨rfl, ?_⟩
    have hb3 : Below w.heap.size w w2 := hb0.trans (hb2.mono hb0.size)
    repeat (first | exact hb3 | refine Below.setCell ?_ (by simp) _)
  · have hpb : (user != user) = false := by simp
    have H9 : Hid (hasB g zs group = false) := hh
    clear hh
    go_enter Try.func22, Try.ntmps22
    go_wp2_with fail
    refine (check_any user g c a cap zs _ hl ?_).mono ?_
    · exact h.below (((Below.refl _ _).alloc (Nat.le_refl _) _).alloc (by simp) _)
    rintro e w1 ⟨rfl, hb⟩
    rw [errV_nil HN.out]
    have hb0 : Below w.heap.size w w1 := (((Below.refl _ _).alloc (Nat.le_refl _) _).alloc (by simp) _).trans (hb.mono (by simp; omega))
    obtain ⟨hc, hfz⟩ := bcell hb
    have hz : w.heap.size + 1 < w1.heap.size := by have := hb.size; simp at this; omega
    go_wp2_with (go_at_call 47; refine (isID_any _ _).mono ?_; rintro e w' ⟨rfl, rfl⟩)
    refine (can_any user g c 8 _ _).mono ?_
    rintro e w2 ⟨rfl, hb2⟩
    rw [H8.out]
    obtain ⟨hc2, hfz2⟩ := bcell hb2
    have hz2 : w.heap.size + 1 < w2.heap.size := by have := hb2.size; omega
    have hz0 : w.heap.size < w1.heap.size := by omega
    have hb3 : Below w.heap.size w w2 := hb0.trans (hb2.mono hb0.size)
    go_wp2_with fail
    refine (has_any user g group c a cap zs _ hl (h.below hb3)).mono ?_
    rintro e w3 ⟨rfl, hb4⟩
    rw [H9.out]
    obtain ⟨hc3, hfz3⟩ := bcell hb4
    have hz3 : w.heap.size + 1 < w3.heap.size := by have := hb4.size; omega
    have hb5 : Below w.heap.size w w3 := hb3.trans (hb4.mono hb3.size)
    go_wp2_with fail
    refine bodyPost_ret (v := badV 10) (by simp [results, Try.results22, go_sem, badV, hc, hz, hc2, hz2, hc3]) rfl ⟨rfl, ?_⟩
    repeat (first | exact hb5 | refine Below.setCell ?_ (by simp) _)

/-- The cred that is made, and no error. -/
def goodV (user group c : Int) (g n : Nat) : Value := .tuple #[.agg #[.int .i64 user, .int .i64 group, .slice (some ⟨g, 0, none⟩) n n, .int .i64 c], .nilIface]

set_option maxHeartbeats 4000000 in
theorem become_ok1 (u g c user group c' : Int) (a : Option Addr) (cap : Nat) (zs : List Int) (w : World) (hl : zs.length ≤ 8) (h : Ints w a zs) (hf : credF u g zs c = 0) (hi : idB user = true) (hj : idB group = true)
    (h8 : (bits .and .i64 c 8 == 8) = true)
    (hcs : (user != u) = false ∧ c' = c ∨ (user != u) = true ∧ (user != 0) = false ∧ c' = c ∨ (user != u) = true ∧ (user != 0) = true ∧ c' = 0) :
    Calls Try.prog 22 #[.agg #[.int .i64 u, .int .i64 g, .slice a zs.length cap, .int .i64 c], .int .i64 user, .int .i64 group] w fun e w' =>
      ∃ b, e = .returned (goodV user group c' b zs.length) ∧ Ints w' (some ⟨b, 0, none⟩) zs ∧ Below w.heap.size w w' := by
  have HN : Hid (credF u g zs c = 0) := hf
  have H8 : Hid ((bits .and .i64 c 8 == 8) = true) := h8
  have HC : Hid ((user != u) = false ∧ c' = c ∨ (user != u) = true ∧ (user != 0) = false ∧ c' = c ∨ (user != u) = true ∧ (user != 0) = true ∧ c' = 0) := hcs
  clear hf h8 hcs
  go_enter Try.func22, Try.ntmps22
  go_wp2_with fail
  refine (check_any u g c a cap zs _ hl ?_).mono ?_
  · exact h.below (((Below.refl _ _).alloc (Nat.le_refl _) _).alloc (by simp) _)
  rintro e w1 ⟨rfl, hb⟩
  rw [errV_nil HN.out]
  have hb0 : Below w.heap.size w w1 := (((Below.refl _ _).alloc (Nat.le_refl _) _).alloc (by simp) _).trans (hb.mono (by simp; omega))
  have hz : w.heap.size + 1 < w1.heap.size := by have := hb.size; simp at this; omega
  have hbx1 : Box w1 w.heap.size u g (.slice a zs.length cap) c := ((Box.new w u g (.slice a zs.length cap) c).alloc _).below hb
  have hbr1 : Box w1 (w.heap.size + 1) 0 0 (.slice none 0 0) 0 := by
    have := (Box.new (w.alloc (.cells #[.int .i64 u, .int .i64 g, .slice a zs.length cap, .int .i64 c] 40)) 0 0 (.slice none 0 0) 0).below hb
    simpa using this
  clear hb
  obtain ⟨k0, k1, k2, k3, k4⟩ := id hbx1
  go_wp2_with (go_at_call 47; refine (isID_any _ _).mono ?_; rintro e w' ⟨rfl, rfl⟩)
  refine (can_any u g c 8 _ _).mono ?_
  rintro e w2 ⟨rfl, hb2⟩
  rw [H8.out]
  have hbx : Box w2 w.heap.size u g (.slice a zs.length cap) c := hbx1.below hb2
  have hbr : Box w2 (w.heap.size + 1) 0 0 (.slice none 0 0) 0 := hbr1.below hb2
  have hb3 : Below w.heap.size w w2 := hb0.trans (hb2.mono hb0.size)
  have hz2 : w.heap.size + 1 < w2.heap.size := hbr.lt
  have hz20 : w.heap.size < w2.heap.size := hbx.lt
  have hz21 : w.heap.size < w2.heap.size + 1 := by omega
  have hne : ¬ w2.heap.size = w.heap.size := by omega
  clear k0 k1 k2 k3 k4 hbx1 hbr1 hb2 hb0 hz
  obtain ⟨k0, k1, k2, k3, k4⟩ := id hbx
  go_wp2_with fail
  go_region_held3 (fun w' => w'.cell? ⟨w.heap.size, 2, none⟩ = some (.slice a zs.length cap) ∧ w'.cell? ⟨w.heap.size, 3, none⟩ = some (.int .i64 c)) (first | go_keep | (simp [*]; done))
    (first | (go_at_call 48; refine (own_any a cap zs _ hl ?_).mono ?_; (first | exact h.below hb3.drew | exact h.below (hb3.drew.alloc (by simp; omega) _) | exact h.below (hb3.alloc (by simp; omega) _).drew); rintro e w3 ⟨g3, rfl, hg3, hg4, hin, hb4⟩; obtain ⟨hc4, hfz4⟩ := bcell hb4; have hz4 := hb4.size; simp at hz4; have hbx3 := Box.below (by first | exact hbx.drew | exact (hbx.alloc _).drew | exact hbx.drew.alloc _) hb4; obtain ⟨q0, q1, q2, q3, q4⟩ := id hbx3))
  all_goals
    clear hc4 hfz4 q0 q1 q2 q3 q4 k0 k1 k2 k3 k4
    first
      | (have hg5 : g3 = w2.heap.size := by simpa using hg3
         subst hg5
         have B1 := Box.new w3 user group (.slice (some ⟨w2.heap.size, 0, none⟩) zs.length zs.length) c
         have B2 := hbx3.alloc (.cells #[.int .i64 user, .int .i64 group, .slice (some ⟨w2.heap.size, 0, none⟩) zs.length zs.length, .int .i64 c] 40)
         have B3 := (Box.below hbr.drew hb4).alloc (.cells #[.int .i64 user, .int .i64 group, .slice (some ⟨w2.heap.size, 0, none⟩) zs.length zs.length, .int .i64 c] 40)
         have I4 := Ints.below hin ((Below.refl w3.heap.size w3).alloc (Nat.le_refl _) (.cells #[.int .i64 user, .int .i64 group, .slice (some ⟨w2.heap.size, 0, none⟩) zs.length zs.length, .int .i64 c] 40))
         have L4 := ((hb3.drew).trans (hb4.mono hb3.size)).alloc (Nat.le_of_lt hbx3.lt) (.cells #[.int .i64 user, .int .i64 group, .slice (some ⟨w2.heap.size, 0, none⟩) zs.length zs.length, .int .i64 c] 40)
         have n1 : ¬ w3.heap.size = w2.heap.size := by omega
         have n2 : ¬ w3.heap.size = w.heap.size := by have := hbx3.lt; omega
         have n3 : ¬ w3.heap.size = w.heap.size + 1 := by omega
         have n4 : ¬ w2.heap.size = w.heap.size + 1 := by omega
         have n5 : w.heap.size ≤ w3.heap.size := Nat.le_of_lt hbx3.lt
         clear hbx3 hb4 hz4 hin hg4 hz21 hz20 hz2 hb3 hbr hbx hne hg3
         generalize w3.alloc (.cells #[.int .i64 user, .int .i64 group, .slice (some ⟨w2.heap.size, 0, none⟩) zs.length zs.length, .int .i64 c] 40) = w4 at B1 B2 B3 I4 L4 ⊢
         generalize w3.heap.size = ob at B1 n1 n2 n3 n5 ⊢
         generalize w2.heap.size = gb at B1 I4 n1 n4 ⊢)
      | (have hg5 : g3 = w2.heap.size + 1 := by simpa using hg3
         subst hg5
         have B1 := (Box.below (Box.new w2 0 0 (.slice none 0 0) 0).drew hb4).set user group (.slice (some ⟨w2.heap.size + 1, 0, none⟩) zs.length zs.length) c
         have B2 := (((hbx3.other (p := ⟨w2.heap.size, 0, none⟩) (by simp; omega) (.int .i64 user)).other (p := ⟨w2.heap.size, 1, none⟩) (by simp; omega) (.int .i64 group)).other (p := ⟨w2.heap.size, 2, none⟩) (by simp; omega) (.slice (some ⟨w2.heap.size + 1, 0, none⟩) zs.length zs.length)).other (p := ⟨w2.heap.size, 3, none⟩) (by simp; omega) (.int .i64 c)
         have B3 := ((((Box.below (hbr.alloc _).drew hb4).other (p := ⟨w2.heap.size, 0, none⟩) (by simp; omega) (.int .i64 user)).other (p := ⟨w2.heap.size, 1, none⟩) (by simp; omega) (.int .i64 group)).other (p := ⟨w2.heap.size, 2, none⟩) (by simp; omega) (.slice (some ⟨w2.heap.size + 1, 0, none⟩) zs.length zs.length)).other (p := ⟨w2.heap.size, 3, none⟩) (by simp; omega) (.int .i64 c)
         have I4 := (((hin.other (p := ⟨w2.heap.size, 0, none⟩) (by simp) (.int .i64 user)).other (p := ⟨w2.heap.size, 1, none⟩) (by simp) (.int .i64 group)).other (p := ⟨w2.heap.size, 2, none⟩) (by simp) (.slice (some ⟨w2.heap.size + 1, 0, none⟩) zs.length zs.length)).other (p := ⟨w2.heap.size, 3, none⟩) (by simp) (.int .i64 c)
         have L4 := ((((((hb3.alloc (Nat.le_of_lt hz20) _).drew).trans (hb4.mono (by simp; omega))).setCell (p := ⟨w2.heap.size, 0, none⟩) (Nat.le_of_lt hz20) (.int .i64 user)).setCell (p := ⟨w2.heap.size, 1, none⟩) (Nat.le_of_lt hz20) (.int .i64 group)).setCell (p := ⟨w2.heap.size, 2, none⟩) (Nat.le_of_lt hz20) (.slice (some ⟨w2.heap.size + 1, 0, none⟩) zs.length zs.length)).setCell (p := ⟨w2.heap.size, 3, none⟩) (Nat.le_of_lt hz20) (.int .i64 c)
         have n1 : ¬ w2.heap.size = w2.heap.size + 1 := by omega
         have n2 : ¬ w2.heap.size = w.heap.size := by omega
         have n3 : ¬ w2.heap.size = w.heap.size + 1 := by omega
         have n4 : ¬ w2.heap.size + 1 = w.heap.size + 1 := by omega
         have n5 : w.heap.size ≤ w2.heap.size := by omega
         clear hbx3 hb4 hz4 hin hg4 hz21 hz20 hz2 hb3 hbr hbx hne hg3
         generalize (((w3.setCell ⟨w2.heap.size, 0, none⟩ (.int .i64 user)).setCell ⟨w2.heap.size, 1, none⟩ (.int .i64 group)).setCell ⟨w2.heap.size, 2, none⟩ (.slice (some ⟨w2.heap.size + 1, 0, none⟩) zs.length zs.length)).setCell ⟨w2.heap.size, 3, none⟩ (.int .i64 c) = w4 at B1 B2 B3 I4 L4 ⊢
         generalize w2.heap.size + 1 = gb at B1 I4 n1 n4 ⊢
         generalize w2.heap.size = ob at B1 n1 n2 n3 n5 ⊢)
    obtain ⟨k0, k1, k2, k3, k4⟩ := id B1
    obtain ⟨q0, q1, q2, q3, q4⟩ := id B2
    obtain ⟨r0, r1, r2, r3, r4⟩ := id B3
    rcases HC.out with ⟨h1, hcc⟩ | ⟨h1, h2, hcc⟩ | ⟨h1, h2, hcc⟩
    · have HCC : Hid (c' = c) := hcc
      clear hcc HC
      go_wp2
      refine bodyPost_ret (v := goodV user group c gb zs.length) (by simp [results, Try.results22, go_sem, goodV, *]) rfl ⟨gb, by rw [HCC.out], ?_, ?_⟩
      · exact (((I4.other (by simp; omega) _).other (by simp; omega) _).other (by simp; omega) _).other (by simp; omega) _
      · exact (((L4.setCell (by simp) _).setCell (by simp) _).setCell (by simp) _).setCell (by simp) _
    · have HCC : Hid (c' = c) := hcc
      clear hcc HC
      go_wp2
      refine bodyPost_ret (v := goodV user group c gb zs.length) (by simp [results, Try.results22, go_sem, goodV, *]) rfl ⟨gb, by rw [HCC.out], ?_, ?_⟩
      · exact (((I4.other (by simp; omega) _).other (by simp; omega) _).other (by simp; omega) _).other (by simp; omega) _
      · exact (((L4.setCell (by simp) _).setCell (by simp) _).setCell (by simp) _).setCell (by simp) _
    · have HCC : Hid (c' = 0) := hcc
      clear hcc HC
      go_wp2
      refine bodyPost_ret (v := goodV user group 0 gb zs.length) (by simp [results, Try.results22, go_sem, goodV, *]) rfl ⟨gb, by rw [HCC.out], ?_, ?_⟩
      · exact ((((I4.other (by simp; omega) _).other (by simp; omega) _).other (by simp; omega) _).other (by simp; omega) _).other (by simp; omega) _
      · exact ((((L4.setCell (by simp; omega) _).setCell (by simp) _).setCell (by simp) _).setCell (by simp) _).setCell (by simp) _

end Go.Proofs.Ytoadlnojcbkdgaa
