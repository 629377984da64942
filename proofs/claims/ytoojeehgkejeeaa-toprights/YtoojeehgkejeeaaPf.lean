/-
  TopRights ANSWERS true: the walk, where the numbers are in their bounds.
-/
import Derived.Test.YtoojeehgkejeeaaPe
namespace Go.Proofs.Ytoojeehgkejeeaa
open Go.RowKit

/-- All that lies in memory: who asks, two things, one without capabilities, one with more. -/
structure St (w W : World) (bb : Nat) (u g c cr : Int) (ad : Option Addr) (cap : Nat) (zs : List Int) (d : Bool) (m tu tg : Int) (mp : Bool) (dd : Bool) (dm du dg : Int) (dmp : Bool) : Prop where
  x : Box W w.heap.size u g (.slice ad zs.length cap) c
  t : TBox W (w.heap.size + 1) d m tu tg mp
  q : TBox W (w.heap.size + 2) dd dm du dg dmp
  br : Box W bb u g (.slice ad zs.length cap) 0
  rc : Box W (bb + 1) u g (.slice ad zs.length cap) cr
  i : Ints W ad zs
  bl : Below w.heap.size w W
theorem St.below {w W W' : World} {bb : Nat} {u g c cr : Int} {ad : Option Addr} {cap : Nat} {zs : List Int} {d : Bool} {m tu tg : Int} {mp : Bool} {dd : Bool} {dm du dg : Int} {dmp : Bool} (h : St w W bb u g c cr ad cap zs d m tu tg mp dd dm du dg dmp) (hb : Below W.heap.size W W') : St w W' bb u g c cr ad cap zs d m tu tg mp dd dm du dg dmp :=
  ⟨h.x.below hb, h.t.below hb, h.q.below hb, h.br.below hb, h.rc.below hb, h.i.below hb, h.bl.trans (hb.mono h.bl.size)⟩
theorem Box.new' (w : World) (B : Nat) (hB : B = w.heap.size) (u g : Int) (v : Value) (c : Int) : Box (w.alloc (.cells #[.int .i64 u, .int .i64 g, v, .int .i64 c] 40)) B u g v c := by subst hB; exact Box.new w u g v c
theorem St.new {w W : World} {bb : Nat} {u g c cr : Int} {ad : Option Addr} {cap : Nat} {zs : List Int} {d : Bool} {m tu tg : Int} {mp : Bool} {dd : Bool} {dm du dg : Int} {dmp : Bool} (hbb : bb = W.heap.size) (hx : Box W w.heap.size u g (.slice ad zs.length cap) c) (ht : TBox W (w.heap.size + 1) d m tu tg mp) (hq : TBox W (w.heap.size + 2) dd dm du dg dmp) (hi : Ints W ad zs) (hb : Below w.heap.size w W) :
    St w ((W.alloc (.cells #[.int .i64 u, .int .i64 g, .slice ad zs.length cap, .int .i64 0] 40)).alloc (.cells #[.int .i64 u, .int .i64 g, .slice ad zs.length cap, .int .i64 cr] 40)) bb u g c cr ad cap zs d m tu tg mp dd dm du dg dmp := by
  subst hbb
  have h1 := hb.size
  exact ⟨(hx.alloc _).alloc _, (ht.alloc _).alloc _, (hq.alloc _).alloc _, (Box.new W _ _ _ _).alloc _, Box.new' (W.alloc _) _ (by simp) _ _ _ _, (hi.alloc _).alloc _, (hb.alloc h1 _).alloc (by simp; omega) _⟩

set_option maxRecDepth 100000 in
set_option maxHeartbeats 4000000 in
theorem topRights_in (u g c : Int) (ad : Option Addr) (cap : Nat) (zs : List Int) (d : Bool) (m tu tg : Int) (mp : Bool) (dd : Bool) (dm du dg : Int) (dmp : Bool) (a b more : Int) (w : World) (hl : zs.length ≤ 9223372036854775807) (h : Ints w ad zs) (ha : ¬ a < 0) (ha7 : ¬ 7 < a) (hb : ¬ b < 0) (hb7 : ¬ 7 < b) (hm : ¬ m < 0) (hm7 : ¬ 4095 < m) (he : ¬ more < 0) (he7 : ¬ 15 < more) (hc : ¬ c < 0) (hc7 : ¬ 15 < c) (hq : ¬ dm < 0) (hq7 : ¬ 4095 < dm) :
    Calls Try.prog 8 #[.agg #[.int .i64 u, .int .i64 g, .slice ad zs.length cap, .int .i64 c], .agg #[.bool d, .int .i64 m, .int .i64 tu, .int .i64 tg, .bool mp], .agg #[.bool dd, .int .i64 dm, .int .i64 du, .int .i64 dg, .bool dmp], .int .i64 a, .int .i64 b, .int .i64 more] w fun e w' =>
      e = .returned (.bool true) ∧ Below w.heap.size w w' := by
  have dec_a : decide (a < 0) = false := by simpa using ha
  have dec_a7 : decide (7 < a) = false := by simpa using ha7
  have dec_b : decide (b < 0) = false := by simpa using hb
  have dec_b7 : decide (7 < b) = false := by simpa using hb7
  have dec_m : decide (m < 0) = false := by simpa using hm
  have dec_m7 : decide (4095 < m) = false := by simpa using hm7
  have dec_e : decide (more < 0) = false := by simpa using he
  have dec_e7 : decide (15 < more) = false := by simpa using he7
  have dec_c : decide (c < 0) = false := by simpa using hc
  have dec_c7 : decide (15 < c) = false := by simpa using hc7
  have dec_q : decide (dm < 0) = false := by simpa using hq
  have dec_q7 : decide (4095 < dm) = false := by simpa using hq7
  have HB : Hid (mayB u g zs c d m tu tg mp (bits .or .i64 a b) = (mayB u g zs c d m tu tg mp a && mayB u g zs c d m tu tg mp b)) := may_both (by omega) (by omega) (by omega) (by omega) (by omega) (by omega)
  have HR : Hid (mayB u g zs c d m tu tg mp a = true → mayB u g zs (bits .or .i64 c more) d m tu tg mp a = true) := may_rich (by omega) (by omega) (by omega) (by omega)
  have HO : Hid (ownB u c tu mp = true → ownB u (bits .or .i64 c more) tu mp = true) := own_rich (by omega) (by omega) (by omega) (by omega)
  have HK : Hid (takeB u c dm du dmp tu mp = true → takeB u (bits .or .i64 c more) dm du dmp tu mp = true) := take_rich (by omega) (by omega) (by omega) (by omega)
  have HE : Hid (mp = false → mayB u g zs 0 d m tu tg mp a = mayB u g zs c d m tu tg mp a) := fun e => by subst e; exact may_bare
  have HU : Hid (mp = false → ownB u c tu mp = false) := fun e => by subst e; rfl
  have hm0 : 0 ≤ m := by omega
  have hm1 : m ≤ 4095 := by omega
  go_enter Try.func8, Try.ntmps8
  go_wp2_with fail
  refine (may_any 5 0 0 none 0 [] false 256 5 0 true 4 _ (by simp) (.inl rfl) (by decide) (by decide)).mono ?_
  rintro e w1 ⟨rfl, hb⟩
  rw [up_yes]
  obtain ⟨hX, hT, hD, hB⟩ := three_new w w1 u g _ c d m tu tg mp dd dm du dg dmp hb
  have h1 := (((h.alloc _).alloc _).alloc _).below hb
  clear hb
  obtain ⟨k0, k1, k2, k3, k4⟩ := id hX
  obtain ⟨j0, j1, j2, j3, j4⟩ := id hT
  obtain ⟨l0, l1, l2, l3, l4⟩ := id hD
  go_wp2_with fail
  refine (may_any u g c ad cap zs d m tu tg mp _ _ hl h1 hm0 hm1).mono ?_
  rintro e w2 ⟨rfl, hb⟩
  have hB2 := hB.trans (hb.mono hB.size)
  have h2 := h1.below hb
  have hX2 := hX.below hb
  have hT2 := hT.below hb
  have hD2 := hD.below hb
  clear hb hB h1 hX hT hD k0 k1 k2 k3 k4 j0 j1 j2 j3 j4 l0 l1 l2 l3 l4
  obtain ⟨k0, k1, k2, k3, k4⟩ := id hX2
  obtain ⟨j0, j1, j2, j3, j4⟩ := id hT2
  go_wp2_with fail
  refine (may_any u g c ad cap zs d m tu tg mp _ _ hl h2 hm0 hm1).mono ?_
  rintro e w3 ⟨rfl, hb⟩
  have hB3 := hB2.trans (hb.mono hB2.size)
  have h3 := h2.below hb
  have hX3 := hX2.below hb
  have hT3 := hT2.below hb
  have hD3 := hD2.below hb
  clear hb hB2 h2 hX2 hT2 hD2 k0 k1 k2 k3 k4 j0 j1 j2 j3 j4
  obtain ⟨k0, k1, k2, k3, k4⟩ := id hX3
  obtain ⟨j0, j1, j2, j3, j4⟩ := id hT3
  go_wp2_with fail
  refine (may_any u g c ad cap zs d m tu tg mp _ _ hl h3 hm0 hm1).mono ?_
  rintro e w4 ⟨rfl, hb⟩
  have hB4 := hB3.trans (hb.mono hB3.size)
  have h4 := h3.below hb
  have hX4 := hX3.below hb
  have hT4 := hT3.below hb
  have hD4 := hD3.below hb
  clear hb hB3 h3 hX3 hT3 hD3 k0 k1 k2 k3 k4 j0 j1 j2 j3 j4
  obtain ⟨k0, k1, k2, k3, k4⟩ := id hX4
  obtain ⟨j0, j1, j2, j3, j4⟩ := id hT4
  rw [HB.out]
  obtain ⟨one, H1⟩ : ∃ t, Hid (mayB u g zs c d m tu tg mp a = t) := ⟨_, rfl⟩
  obtain ⟨two, H2⟩ : ∃ t, Hid (mayB u g zs c d m tu tg mp b = t) := ⟨_, rfl⟩
  rw [H1.out] at HR HE
  rw [H1.out, H2.out]
  have x1 : ((one && two) != (one && two)) = false := by simp
  clear HB
  have S := St.new (bb := w4.heap.size) (cr := bits .or .i64 c more) rfl hX4 hT4 hD4 h4 hB4
  have n1 := hX4.lt
  have n2 : w.heap.size + 1 < w4.heap.size := World.block_lt_of_cell? _ _ hT4.1
  have e1 : ¬ w.heap.size = w4.heap.size := by omega
  have e2 : ¬ w.heap.size + 1 = w4.heap.size := by omega
  have e3 : ¬ w4.heap.size = w.heap.size := by omega
  clear hB4 h4 hX4 hT4 hD4
  cases mp
  · cases one
    · go_wp2_with fail
      refine (may_any u g 0 ad cap zs d m tu tg false _ _ hl S.i hm0 hm1).mono ?_
      rintro e w5 ⟨rfl, hb⟩
      have S5 := S.below hb
      clear S hb n1 n2 e1 e2 e3 k0 k1 k2 k3 k4 j0 j1 j2 j3 j4
      obtain ⟨⟨k0, k1, k2, k3, k4⟩, ⟨j0, j1, j2, j3, j4⟩, ⟨l0, l1, l2, l3, l4⟩, _, ⟨r0, r1, r2, r3, r4⟩, _, _⟩ := id S5
      rw [HE.out (by simp)]
      go_wp2_with fail
      refine (owns_any u g c _ d m tu tg false _).mono ?_
      rintro e w6 ⟨rfl, hb⟩
      have S6 := S5.below hb
      clear S5 hb k0 k1 k2 k3 k4 j0 j1 j2 j3 j4 l0 l1 l2 l3 l4 r0 r1 r2 r3 r4
      obtain ⟨⟨k0, k1, k2, k3, k4⟩, ⟨j0, j1, j2, j3, j4⟩, ⟨l0, l1, l2, l3, l4⟩, _, ⟨r0, r1, r2, r3, r4⟩, _, _⟩ := id S6
      rw [HU.out (by simp)]
      go_wp2_with fail
      refine (owns_any u g c _ d m tu tg _ _).mono ?_
      rintro e w7 ⟨rfl, hb⟩
      have S7 := S6.below hb
      clear S6 hb k0 k1 k2 k3 k4 j0 j1 j2 j3 j4 l0 l1 l2 l3 l4 r0 r1 r2 r3 r4
      obtain ⟨⟨k0, k1, k2, k3, k4⟩, ⟨j0, j1, j2, j3, j4⟩, ⟨l0, l1, l2, l3, l4⟩, _, ⟨r0, r1, r2, r3, r4⟩, _, _⟩ := id S7
      rw [HU.out (by simp)]
      go_wp2_with fail
      refine (takes_any u g c _ dd dm du dg dmp d m tu tg _ _).mono ?_
      rintro e w8 ⟨rfl, hb⟩
      have S8 := S7.below hb
      clear S7 hb k0 k1 k2 k3 k4 j0 j1 j2 j3 j4 l0 l1 l2 l3 l4 r0 r1 r2 r3 r4
      obtain ⟨⟨k0, k1, k2, k3, k4⟩, ⟨j0, j1, j2, j3, j4⟩, ⟨l0, l1, l2, l3, l4⟩, _, ⟨r0, r1, r2, r3, r4⟩, _, _⟩ := id S8
      obtain ⟨k, HKK⟩ : ∃ t, Hid (takeB u c dm du dmp tu false = t) := ⟨_, rfl⟩
      rw [HKK.out] at HK ⊢
      cases k
      · go_wp2
        go_ret
        exact ⟨rfl, S8.bl⟩
      · go_wp2_with fail
        refine (takes_any u g _ _ dd dm du dg dmp d m tu tg _ _).mono ?_
        rintro e w9 ⟨rfl, hb⟩
        have S9 := S8.below hb
        clear S8 hb k0 k1 k2 k3 k4 j0 j1 j2 j3 j4 l0 l1 l2 l3 l4 r0 r1 r2 r3 r4
        obtain ⟨⟨k0, k1, k2, k3, k4⟩, ⟨j0, j1, j2, j3, j4⟩, ⟨l0, l1, l2, l3, l4⟩, _, ⟨r0, r1, r2, r3, r4⟩, _, _⟩ := id S9
        rw [HK.out (by simp)]
        go_wp2
        go_ret
        exact ⟨rfl, S9.bl⟩
    · go_wp2_with fail
      refine (may_any u g 0 ad cap zs d m tu tg false _ _ hl S.i hm0 hm1).mono ?_
      rintro e w5 ⟨rfl, hb⟩
      have S5 := S.below hb
      clear S hb n1 n2 e1 e2 e3 k0 k1 k2 k3 k4 j0 j1 j2 j3 j4
      obtain ⟨⟨k0, k1, k2, k3, k4⟩, ⟨j0, j1, j2, j3, j4⟩, ⟨l0, l1, l2, l3, l4⟩, _, ⟨r0, r1, r2, r3, r4⟩, _, _⟩ := id S5
      rw [HE.out (by simp)]
      go_wp2_with fail
      refine (owns_any u g c _ d m tu tg false _).mono ?_
      rintro e w6 ⟨rfl, hb⟩
      have S6 := S5.below hb
      clear S5 hb k0 k1 k2 k3 k4 j0 j1 j2 j3 j4 l0 l1 l2 l3 l4 r0 r1 r2 r3 r4
      obtain ⟨⟨k0, k1, k2, k3, k4⟩, ⟨j0, j1, j2, j3, j4⟩, ⟨l0, l1, l2, l3, l4⟩, _, ⟨r0, r1, r2, r3, r4⟩, _, _⟩ := id S6
      rw [HU.out (by simp)]
      go_wp2_with fail
      refine (may_any u g _ ad cap zs d m tu tg _ _ _ hl S6.i hm0 hm1).mono ?_
      rintro e w7 ⟨rfl, hb⟩
      have S7 := S6.below hb
      clear S6 hb k0 k1 k2 k3 k4 j0 j1 j2 j3 j4 l0 l1 l2 l3 l4 r0 r1 r2 r3 r4
      obtain ⟨⟨k0, k1, k2, k3, k4⟩, ⟨j0, j1, j2, j3, j4⟩, ⟨l0, l1, l2, l3, l4⟩, _, ⟨r0, r1, r2, r3, r4⟩, _, _⟩ := id S7
      rw [HR.out (by simp)]
      go_wp2_with fail
      refine (owns_any u g c _ d m tu tg _ _).mono ?_
      rintro e w8 ⟨rfl, hb⟩
      have S8 := S7.below hb
      clear S7 hb k0 k1 k2 k3 k4 j0 j1 j2 j3 j4 l0 l1 l2 l3 l4 r0 r1 r2 r3 r4
      obtain ⟨⟨k0, k1, k2, k3, k4⟩, ⟨j0, j1, j2, j3, j4⟩, ⟨l0, l1, l2, l3, l4⟩, _, ⟨r0, r1, r2, r3, r4⟩, _, _⟩ := id S8
      rw [HU.out (by simp)]
      go_wp2_with fail
      refine (takes_any u g c _ dd dm du dg dmp d m tu tg _ _).mono ?_
      rintro e w9 ⟨rfl, hb⟩
      have S9 := S8.below hb
      clear S8 hb k0 k1 k2 k3 k4 j0 j1 j2 j3 j4 l0 l1 l2 l3 l4 r0 r1 r2 r3 r4
      obtain ⟨⟨k0, k1, k2, k3, k4⟩, ⟨j0, j1, j2, j3, j4⟩, ⟨l0, l1, l2, l3, l4⟩, _, ⟨r0, r1, r2, r3, r4⟩, _, _⟩ := id S9
      obtain ⟨k, HKK⟩ : ∃ t, Hid (takeB u c dm du dmp tu false = t) := ⟨_, rfl⟩
      rw [HKK.out] at HK ⊢
      cases k
      · go_wp2
        go_ret
        exact ⟨rfl, S9.bl⟩
      · go_wp2_with fail
        refine (takes_any u g _ _ dd dm du dg dmp d m tu tg _ _).mono ?_
        rintro e w10 ⟨rfl, hb⟩
        have S10 := S9.below hb
        clear S9 hb k0 k1 k2 k3 k4 j0 j1 j2 j3 j4 l0 l1 l2 l3 l4 r0 r1 r2 r3 r4
        obtain ⟨⟨k0, k1, k2, k3, k4⟩, ⟨j0, j1, j2, j3, j4⟩, ⟨l0, l1, l2, l3, l4⟩, _, ⟨r0, r1, r2, r3, r4⟩, _, _⟩ := id S10
        rw [HK.out (by simp)]
        go_wp2
        go_ret
        exact ⟨rfl, S10.bl⟩
  · cases one
    · go_wp2_with fail
      refine (owns_any u g c _ d m tu tg _ _).mono ?_
      rintro e w5 ⟨rfl, hb⟩
      have S5 := S.below hb
      clear S hb n1 n2 e1 e2 e3 k0 k1 k2 k3 k4 j0 j1 j2 j3 j4
      obtain ⟨⟨k0, k1, k2, k3, k4⟩, ⟨j0, j1, j2, j3, j4⟩, ⟨l0, l1, l2, l3, l4⟩, _, ⟨r0, r1, r2, r3, r4⟩, _, _⟩ := id S5
      obtain ⟨o, HOO⟩ : ∃ t, Hid (ownB u c tu true = t) := ⟨_, rfl⟩
      rw [HOO.out] at HO ⊢
      cases o
      · go_wp2_with fail
        refine (takes_any u g c _ dd dm du dg dmp d m tu tg _ _).mono ?_
        rintro e w6 ⟨rfl, hb⟩
        have S6 := S5.below hb
        clear S5 hb k0 k1 k2 k3 k4 j0 j1 j2 j3 j4 l0 l1 l2 l3 l4 r0 r1 r2 r3 r4
        obtain ⟨⟨k0, k1, k2, k3, k4⟩, ⟨j0, j1, j2, j3, j4⟩, ⟨l0, l1, l2, l3, l4⟩, _, ⟨r0, r1, r2, r3, r4⟩, _, _⟩ := id S6
        obtain ⟨k, HKK⟩ : ∃ t, Hid (takeB u c dm du dmp tu true = t) := ⟨_, rfl⟩
        rw [HKK.out] at HK ⊢
        cases k
        · go_wp2
          go_ret
          exact ⟨rfl, S6.bl⟩
        · go_wp2_with fail
          refine (takes_any u g _ _ dd dm du dg dmp d m tu tg _ _).mono ?_
          rintro e w7 ⟨rfl, hb⟩
          have S7 := S6.below hb
          clear S6 hb k0 k1 k2 k3 k4 j0 j1 j2 j3 j4 l0 l1 l2 l3 l4 r0 r1 r2 r3 r4
          obtain ⟨⟨k0, k1, k2, k3, k4⟩, ⟨j0, j1, j2, j3, j4⟩, ⟨l0, l1, l2, l3, l4⟩, _, ⟨r0, r1, r2, r3, r4⟩, _, _⟩ := id S7
          rw [HK.out (by simp)]
          go_wp2
          go_ret
          exact ⟨rfl, S7.bl⟩
      · go_wp2_with fail
        refine (owns_any u g _ _ d m tu tg _ _).mono ?_
        rintro e w6 ⟨rfl, hb⟩
        have S6 := S5.below hb
        clear S5 hb k0 k1 k2 k3 k4 j0 j1 j2 j3 j4 l0 l1 l2 l3 l4 r0 r1 r2 r3 r4
        obtain ⟨⟨k0, k1, k2, k3, k4⟩, ⟨j0, j1, j2, j3, j4⟩, ⟨l0, l1, l2, l3, l4⟩, _, ⟨r0, r1, r2, r3, r4⟩, _, _⟩ := id S6
        rw [HO.out (by simp)]
        go_wp2_with fail
        refine (takes_any u g c _ dd dm du dg dmp d m tu tg _ _).mono ?_
        rintro e w7 ⟨rfl, hb⟩
        have S7 := S6.below hb
        clear S6 hb k0 k1 k2 k3 k4 j0 j1 j2 j3 j4 l0 l1 l2 l3 l4 r0 r1 r2 r3 r4
        obtain ⟨⟨k0, k1, k2, k3, k4⟩, ⟨j0, j1, j2, j3, j4⟩, ⟨l0, l1, l2, l3, l4⟩, _, ⟨r0, r1, r2, r3, r4⟩, _, _⟩ := id S7
        obtain ⟨k, HKK⟩ : ∃ t, Hid (takeB u c dm du dmp tu true = t) := ⟨_, rfl⟩
        rw [HKK.out] at HK ⊢
        cases k
        · go_wp2
          go_ret
          exact ⟨rfl, S7.bl⟩
        · go_wp2_with fail
          refine (takes_any u g _ _ dd dm du dg dmp d m tu tg _ _).mono ?_
          rintro e w8 ⟨rfl, hb⟩
          have S8 := S7.below hb
          clear S7 hb k0 k1 k2 k3 k4 j0 j1 j2 j3 j4 l0 l1 l2 l3 l4 r0 r1 r2 r3 r4
          obtain ⟨⟨k0, k1, k2, k3, k4⟩, ⟨j0, j1, j2, j3, j4⟩, ⟨l0, l1, l2, l3, l4⟩, _, ⟨r0, r1, r2, r3, r4⟩, _, _⟩ := id S8
          rw [HK.out (by simp)]
          go_wp2
          go_ret
          exact ⟨rfl, S8.bl⟩
    · go_wp2_with fail
      refine (may_any u g _ ad cap zs d m tu tg _ _ _ hl S.i hm0 hm1).mono ?_
      rintro e w5 ⟨rfl, hb⟩
      have S5 := S.below hb
      clear S hb n1 n2 e1 e2 e3 k0 k1 k2 k3 k4 j0 j1 j2 j3 j4
      obtain ⟨⟨k0, k1, k2, k3, k4⟩, ⟨j0, j1, j2, j3, j4⟩, ⟨l0, l1, l2, l3, l4⟩, _, ⟨r0, r1, r2, r3, r4⟩, _, _⟩ := id S5
      rw [HR.out (by simp)]
      go_wp2_with fail
      refine (owns_any u g c _ d m tu tg _ _).mono ?_
      rintro e w6 ⟨rfl, hb⟩
      have S6 := S5.below hb
      clear S5 hb k0 k1 k2 k3 k4 j0 j1 j2 j3 j4 l0 l1 l2 l3 l4 r0 r1 r2 r3 r4
      obtain ⟨⟨k0, k1, k2, k3, k4⟩, ⟨j0, j1, j2, j3, j4⟩, ⟨l0, l1, l2, l3, l4⟩, _, ⟨r0, r1, r2, r3, r4⟩, _, _⟩ := id S6
      obtain ⟨o, HOO⟩ : ∃ t, Hid (ownB u c tu true = t) := ⟨_, rfl⟩
      rw [HOO.out] at HO ⊢
      cases o
      · go_wp2_with fail
        refine (takes_any u g c _ dd dm du dg dmp d m tu tg _ _).mono ?_
        rintro e w7 ⟨rfl, hb⟩
        have S7 := S6.below hb
        clear S6 hb k0 k1 k2 k3 k4 j0 j1 j2 j3 j4 l0 l1 l2 l3 l4 r0 r1 r2 r3 r4
        obtain ⟨⟨k0, k1, k2, k3, k4⟩, ⟨j0, j1, j2, j3, j4⟩, ⟨l0, l1, l2, l3, l4⟩, _, ⟨r0, r1, r2, r3, r4⟩, _, _⟩ := id S7
        obtain ⟨k, HKK⟩ : ∃ t, Hid (takeB u c dm du dmp tu true = t) := ⟨_, rfl⟩
        rw [HKK.out] at HK ⊢
        cases k
        · go_wp2
          go_ret
          exact ⟨rfl, S7.bl⟩
        · go_wp2_with fail
          refine (takes_any u g _ _ dd dm du dg dmp d m tu tg _ _).mono ?_
          rintro e w8 ⟨rfl, hb⟩
          have S8 := S7.below hb
          clear S7 hb k0 k1 k2 k3 k4 j0 j1 j2 j3 j4 l0 l1 l2 l3 l4 r0 r1 r2 r3 r4
          obtain ⟨⟨k0, k1, k2, k3, k4⟩, ⟨j0, j1, j2, j3, j4⟩, ⟨l0, l1, l2, l3, l4⟩, _, ⟨r0, r1, r2, r3, r4⟩, _, _⟩ := id S8
          rw [HK.out (by simp)]
          go_wp2
          go_ret
          exact ⟨rfl, S8.bl⟩
      · go_wp2_with fail
        refine (owns_any u g _ _ d m tu tg _ _).mono ?_
        rintro e w7 ⟨rfl, hb⟩
        have S7 := S6.below hb
        clear S6 hb k0 k1 k2 k3 k4 j0 j1 j2 j3 j4 l0 l1 l2 l3 l4 r0 r1 r2 r3 r4
        obtain ⟨⟨k0, k1, k2, k3, k4⟩, ⟨j0, j1, j2, j3, j4⟩, ⟨l0, l1, l2, l3, l4⟩, _, ⟨r0, r1, r2, r3, r4⟩, _, _⟩ := id S7
        rw [HO.out (by simp)]
        go_wp2_with fail
        refine (takes_any u g c _ dd dm du dg dmp d m tu tg _ _).mono ?_
        rintro e w8 ⟨rfl, hb⟩
        have S8 := S7.below hb
        clear S7 hb k0 k1 k2 k3 k4 j0 j1 j2 j3 j4 l0 l1 l2 l3 l4 r0 r1 r2 r3 r4
        obtain ⟨⟨k0, k1, k2, k3, k4⟩, ⟨j0, j1, j2, j3, j4⟩, ⟨l0, l1, l2, l3, l4⟩, _, ⟨r0, r1, r2, r3, r4⟩, _, _⟩ := id S8
        obtain ⟨k, HKK⟩ : ∃ t, Hid (takeB u c dm du dmp tu true = t) := ⟨_, rfl⟩
        rw [HKK.out] at HK ⊢
        cases k
        · go_wp2
          go_ret
          exact ⟨rfl, S8.bl⟩
        · go_wp2_with fail
          refine (takes_any u g _ _ dd dm du dg dmp d m tu tg _ _).mono ?_
          rintro e w9 ⟨rfl, hb⟩
          have S9 := S8.below hb
          clear S8 hb k0 k1 k2 k3 k4 j0 j1 j2 j3 j4 l0 l1 l2 l3 l4 r0 r1 r2 r3 r4
          obtain ⟨⟨k0, k1, k2, k3, k4⟩, ⟨j0, j1, j2, j3, j4⟩, ⟨l0, l1, l2, l3, l4⟩, _, ⟨r0, r1, r2, r3, r4⟩, _, _⟩ := id S9
          rw [HK.out (by simp)]
          go_wp2
          go_ret
          exact ⟨rfl, S9.bl⟩
end Go.Proofs.Ytoojeehgkejeeaa
