/-
  WHAT Keep AND Wipe DO, the program's and the document's: the walks.
-/
import Derived.Test.YtoadlnojcbkdgaaCg
namespace Go.Proofs.Ytoadlnojcbkdgaa
open Go.RowKit

theorem can8_bit {c : Int} (h0 : 0 ≤ c) (h1 : c ≤ 15) : (bits .and .i64 c 8 == 8) = bitB c 8 := by
  obtain ⟨n, rfl⟩ := Int.eq_ofNat_of_zero_le h0
  have hn : n ≤ 15 := by omega
  have key : ∀ m : Fin 16, (bits .and .i64 ((m : Nat) : Int) 8 == 8) = bitB ((m : Nat) : Int) 8 := by decide +kernel
  exact key ⟨n, by omega⟩
/-- A mode without SetGroup. -/
def noGroup (m : Int) : Int := if bitB m 1024 = true then m - 1024 else m
/-- A mode without SetUser. -/
def noUser (m : Int) : Int := if bitB m 2048 = true then m - 2048 else m
theorem andNot_group {m : Int} (h0 : 0 ≤ m) (h1 : m ≤ 4095) : bits .andNot .i64 m 1024 = noGroup m := by
  obtain ⟨n, rfl⟩ := Int.eq_ofNat_of_zero_le h0
  have hn : n ≤ 4095 := by omega
  have key : ∀ a b : Fin 64, bits .andNot .i64 ((64 * (a : Nat) + (b : Nat) : Nat) : Int) 1024 = noGroup ((64 * (a : Nat) + (b : Nat) : Nat) : Int) := by decide +kernel
  have := key ⟨n / 64, by omega⟩ ⟨n % 64, by omega⟩
  simp only [Nat.div_add_mod] at this
  exact this
theorem andNot_both {m : Int} (h0 : 0 ≤ m) (h1 : m ≤ 4095) : bits .andNot .i64 m 3072 = noGroup (noUser m) := by
  obtain ⟨n, rfl⟩ := Int.eq_ofNat_of_zero_le h0
  have hn : n ≤ 4095 := by omega
  have key : ∀ a b : Fin 64, bits .andNot .i64 ((64 * (a : Nat) + (b : Nat) : Nat) : Int) 3072 = noGroup (noUser ((64 * (a : Nat) + (b : Nat) : Nat) : Int)) := by decide +kernel
  have := key ⟨n / 64, by omega⟩ ⟨n % 64, by omega⟩
  simp only [Nat.div_add_mod] at this
  exact this
theorem noUser_bd {m : Int} (h0 : 0 ≤ m) (h1 : m ≤ 4095) : 0 ≤ noUser m ∧ noUser m ≤ 4095 := by
  unfold noUser
  split
  · rename_i h
    have : ¬ m < 2048 := by
      intro hlt
      have : m / 2048 = 0 := Int.ediv_eq_zero_of_lt h0 hlt
      simp [bitB, this] at h
    omega
  · exact ⟨h0, h1⟩
/-- What is kept. -/
def keepF (g : Int) (zs : List Int) (c mode group : Int) : Int := if hasB g zs group = true ∨ bitB c 8 = true then mode else noGroup mode
def wipeF (c mode : Int) : Int := if bitB c 8 = true then mode else noGroup (noUser mode)

set_option maxHeartbeats 400000 in
theorem keep_any (u g c mode group : Int) (a : Option Addr) (cap : Nat) (zs : List Int) (w : World) (hl : zs.length ≤ 8) (h : Ints w a zs) (hc0 : 0 ≤ c) (hc1 : c ≤ 15) (hm0 : 0 ≤ mode) (hm1 : mode ≤ 4095) :
    Calls Try.prog 30 #[.agg #[.int .i64 u, .int .i64 g, .slice a zs.length cap, .int .i64 c], .int .i64 mode, .int .i64 group] w fun e w' =>
      e = .returned (.int .i64 (keepF g zs c mode group)) ∧ Below w.heap.size w w' := by
  have H8 : Hid ((bits .and .i64 c 8 == 8) = bitB c 8) := can8_bit hc0 hc1
  have HG : Hid (bits .andNot .i64 mode 1024 = noGroup mode) := andNot_group hm0 hm1
  go_enter Try.func30, Try.ntmps30
  go_wp2_with fail
  refine (has_any u g group c a cap zs _ hl (h.below ((Below.refl _ _).alloc (Nat.le_refl _) _))).mono ?_
  rintro e w1 ⟨rfl, hb⟩
  have hbx := (Box.new w u g (.slice a zs.length cap) c).below hb
  have hb0 : Below w.heap.size w w1 := ((Below.refl _ _).alloc (Nat.le_refl _) _).trans (hb.mono (by simp))
  clear hb
  obtain ⟨k0, k1, k2, k3, k4⟩ := id hbx
  obtain ⟨t, ht⟩ : ∃ t, hasB g zs group = t := ⟨_, rfl⟩
  rw [ht]
  have HT : Hid (hasB g zs group = t) := ht
  clear ht
  cases t
  · go_wp2_with fail
    refine (can_any u g c 8 _ _).mono ?_
    rintro e w2 ⟨rfl, hb2⟩
    rw [H8.out]
    obtain ⟨t8, ht8⟩ : ∃ t, bitB c 8 = t := ⟨_, rfl⟩
    rw [ht8]
    have HB : Hid (bitB c 8 = t8) := ht8
    clear ht8
    cases t8
    · have HK : Hid (keepF g zs c mode group = noGroup mode) := if_neg (by rw [HT.out, HB.out]; decide)
      go_wp2
      go_ret
      exact ⟨ret_int (HG.out.trans HK.out.symm), hb0.trans (hb2.mono hb0.size)⟩
    · have HK : Hid (keepF g zs c mode group = mode) := if_pos (.inr HB.out)
      go_wp2
      go_ret
      exact ⟨ret_int HK.out.symm, hb0.trans (hb2.mono hb0.size)⟩
  · have HK : Hid (keepF g zs c mode group = mode) := if_pos (.inl HT.out)
    go_wp2
    go_ret
    exact ⟨ret_int HK.out.symm, hb0⟩

set_option maxHeartbeats 400000 in
theorem wipe_any (u g c mode : Int) (v : Value) (w : World) (hc0 : 0 ≤ c) (hc1 : c ≤ 15) (hm0 : 0 ≤ mode) (hm1 : mode ≤ 4095) :
    Calls Try.prog 32 #[.agg #[.int .i64 u, .int .i64 g, v, .int .i64 c], .int .i64 mode] w fun e w' =>
      e = .returned (.int .i64 (wipeF c mode)) ∧ Below w.heap.size w w' := by
  have H8 : Hid ((bits .and .i64 c 8 == 8) = bitB c 8) := can8_bit hc0 hc1
  have HG : Hid (bits .andNot .i64 mode 3072 = noGroup (noUser mode)) := andNot_both hm0 hm1
  go_enter Try.func32, Try.ntmps32
  go_wp2_with fail
  refine (can_any u g c 8 _ _).mono ?_
  rintro e w2 ⟨rfl, hb2⟩
  have hb3 : Below w.heap.size w w2 := ((Below.refl _ _).alloc (Nat.le_refl _) _).trans (hb2.mono (by simp))
  rw [H8.out]
  obtain ⟨t8, ht8⟩ : ∃ t, bitB c 8 = t := ⟨_, rfl⟩
  rw [ht8]
  have HB : Hid (bitB c 8 = t8) := ht8
  clear ht8
  cases t8
  · have HK : Hid (wipeF c mode = noGroup (noUser mode)) := if_neg (by rw [HB.out]; decide)
    go_wp2
    go_ret
    exact ⟨ret_int (HG.out.trans HK.out.symm), hb3⟩
  · have HK : Hid (wipeF c mode = mode) := if_pos HB.out
    go_wp2
    go_ret
    exact ⟨ret_int HK.out.symm, hb3⟩

set_option maxHeartbeats 400000 in
theorem wiper_any (u g c mode : Int) (v : Value) (w : World) (hc0 : 0 ≤ c) (hc1 : c ≤ 15) (hm0 : 0 ≤ mode) (hm1 : mode ≤ 4095) :
    Calls Try.prog 33 #[.agg #[.int .i64 u, .int .i64 g, v, .int .i64 c], .int .i64 mode] w fun e w' =>
      e = .returned (.int .i64 (wipeF c mode)) ∧ Below w.heap.size w w' := by
  have hbel : Below w.heap.size w (w.alloc (.cells #[.int .i64 u, .int .i64 g, v, .int .i64 c] 40)) := (Below.refl _ _).alloc (Nat.le_refl _) _
  obtain ⟨t8, ht8⟩ : ∃ t, bitB c 8 = t := ⟨_, rfl⟩
  cases t8
  · have HK : Hid (wipeF c mode = noGroup (noUser mode)) := if_neg (by rw [ht8]; decide)
    obtain ⟨tu, htu⟩ : ∃ t, bitB mode 2048 = t := ⟨_, rfl⟩
    have hbd := noUser_bd hm0 hm1
    have HNU : Hid (noUser mode = if bitB mode 2048 = true then mode - 2048 else mode) := rfl
    have HNG : Hid (noGroup (noUser mode) = if bitB (noUser mode) 1024 = true then noUser mode - 1024 else noUser mode) := rfl
    cases tu
    · have e1 : noUser mode = mode := by rw [HNU.out, if_neg (by rw [htu]; decide)]
      rw [e1] at HK HNG
      clear e1 hbd HNU
      obtain ⟨tg, htg⟩ : ∃ t, bitB mode 1024 = t := ⟨_, rfl⟩
      cases tg
      · have HR : Hid (wipeF c mode = mode) := HK.out.trans (HNG.out.trans (if_neg (by rw [htg]; decide)))
        go_enter Try.func33, Try.ntmps33
        go_wp2_with (go_at_call 50; refine (bit_any _ _ (by omega) (by omega) (by omega) (by omega) _).mono ?_; rintro e w' ⟨rfl, rfl⟩)
        go_ret
        exact ⟨ret_int HR.out.symm, hbel⟩
      · have HR : Hid (wipeF c mode = mode - 1024) := HK.out.trans (HNG.out.trans (if_pos htg))
        go_enter Try.func33, Try.ntmps33
        go_wp2_with (go_at_call 50; refine (bit_any _ _ (by omega) (by omega) (by omega) (by omega) _).mono ?_; rintro e w' ⟨rfl, rfl⟩)
        go_ret
        exact ⟨ret_int HR.out.symm, hbel⟩
    · have e1 : noUser mode = mode - 2048 := by rw [HNU.out, if_pos htu]
      rw [e1] at HK HNG hbd
      clear e1 HNU
      obtain ⟨tg, htg⟩ : ∃ t, bitB (mode - 2048) 1024 = t := ⟨_, rfl⟩
      obtain ⟨hb1, hb2⟩ := hbd
      cases tg
      · have HR : Hid (wipeF c mode = mode - 2048) := HK.out.trans (HNG.out.trans (if_neg (by rw [htg]; decide)))
        go_enter Try.func33, Try.ntmps33
        go_wp2_with (go_at_call 50; refine (bit_any _ _ (by omega) (by omega) (by omega) (by omega) _).mono ?_; rintro e w' ⟨rfl, rfl⟩)
        go_ret
        exact ⟨ret_int HR.out.symm, hbel⟩
      · have HR : Hid (wipeF c mode = mode - 2048 - 1024) := HK.out.trans (HNG.out.trans (if_pos htg))
        go_enter Try.func33, Try.ntmps33
        go_wp2_with (go_at_call 50; refine (bit_any _ _ (by omega) (by omega) (by omega) (by omega) _).mono ?_; rintro e w' ⟨rfl, rfl⟩)
        go_ret
        exact ⟨ret_int HR.out.symm, hbel⟩
  · have HK : Hid (wipeF c mode = mode) := if_pos ht8
    go_enter Try.func33, Try.ntmps33
    go_wp2_with (go_at_call 50; refine (bit_any _ _ (by omega) (by omega) (by omega) (by omega) _).mono ?_; rintro e w' ⟨rfl, rfl⟩)
    go_ret
    exact ⟨ret_int HK.out.symm, hbel⟩

set_option maxHeartbeats 400000 in
theorem keepr_any (u g c mode group : Int) (a : Option Addr) (cap : Nat) (zs : List Int) (w : World) (hl : zs.length ≤ 8) (h : Ints w a zs) (hc0 : 0 ≤ c) (hc1 : c ≤ 15) (hm0 : 0 ≤ mode) (hm1 : mode ≤ 4095) :
    Calls Try.prog 31 #[.agg #[.int .i64 u, .int .i64 g, .slice a zs.length cap, .int .i64 c], .int .i64 mode, .int .i64 group] w fun e w' =>
      e = .returned (.int .i64 (keepF g zs c mode group)) ∧ Below w.heap.size w w' := by
  go_enter Try.func31, Try.ntmps31
  go_wp2_with fail
  refine (hasr_any u g group c a cap zs _ hl (h.below ((Below.refl _ _).alloc (Nat.le_refl _) _))).mono ?_
  rintro e w1 ⟨rfl, hb⟩
  have hbx := (Box.new w u g (.slice a zs.length cap) c).below hb
  have hb0 : Below w.heap.size w w1 := ((Below.refl _ _).alloc (Nat.le_refl _) _).trans (hb.mono (by simp))
  clear hb
  obtain ⟨k0, k1, k2, k3, k4⟩ := id hbx
  obtain ⟨t, ht⟩ : ∃ t, hasB g zs group = t := ⟨_, rfl⟩
  rw [ht]
  have HT : Hid (hasB g zs group = t) := ht
  clear ht
  have HNG : Hid (noGroup mode = if bitB mode 1024 = true then mode - 1024 else mode) := rfl
  obtain ⟨tg, htg⟩ : ∃ t, bitB mode 1024 = t := ⟨_, rfl⟩
  obtain ⟨t8, ht8⟩ : ∃ t, bitB c 8 = t := ⟨_, rfl⟩
  cases t
  · cases t8
    · have HK : Hid (keepF g zs c mode group = noGroup mode) := if_neg (by rw [HT.out, ht8]; decide)
      cases tg
      · have HR : Hid (keepF g zs c mode group = mode) := HK.out.trans (HNG.out.trans (if_neg (by rw [htg]; decide)))
        go_wp2_with (go_at_call 50; refine (bit_any _ _ (by omega) (by omega) (by omega) (by omega) _).mono ?_; rintro e w' ⟨rfl, rfl⟩)
        go_ret
        exact ⟨ret_int HR.out.symm, hb0⟩
      · have HR : Hid (keepF g zs c mode group = mode - 1024) := HK.out.trans (HNG.out.trans (if_pos htg))
        go_wp2_with (go_at_call 50; refine (bit_any _ _ (by omega) (by omega) (by omega) (by omega) _).mono ?_; rintro e w' ⟨rfl, rfl⟩)
        go_ret
        exact ⟨ret_int HR.out.symm, hb0⟩
    · have HR : Hid (keepF g zs c mode group = mode) := if_pos (.inr ht8)
      cases tg <;>
        (go_wp2_with (go_at_call 50; refine (bit_any _ _ (by omega) (by omega) (by omega) (by omega) _).mono ?_; rintro e w' ⟨rfl, rfl⟩)
         go_ret
         exact ⟨ret_int HR.out.symm, hb0⟩)
  · have HR : Hid (keepF g zs c mode group = mode) := if_pos (.inl HT.out)
    cases tg <;>
      (go_wp2_with (go_at_call 50; refine (bit_any _ _ (by omega) (by omega) (by omega) (by omega) _).mono ?_; rintro e w' ⟨rfl, rfl⟩)
       go_ret
       exact ⟨ret_int HR.out.symm, hb0⟩)
end Go.Proofs.Ytoadlnojcbkdgaa
