/-
  WHAT Own DOES: the walk.
-/
import Derived.Test.YtkjknbjjchdjlaaGreatDoorWjY
import Derived.Outline
namespace Go.Proofs.YtkjknbjjchdjlaaGreatDoor
open Go.RowKit
theorem OInv.more {W wr : World} {S : Nat → Bool} {nb : Nat} {x : Nd} {h0 : Hd} {v : Value} {P Q : List Pn} {e : Pn} (h : OInv W wr S nb x h0 v P Q) (he : Pend (nb + 2) wr (hsS nb v S) e) : OInv W wr S nb x h0 v P (e :: Q) :=
  ⟨h.row, h.box, h.res, h.tree, fun q hq => by rcases List.mem_cons.1 hq with e1 | e1; exact e1 ▸ he; exact h.pend q e1, h.low, h.sz⟩
theorem Tryz.infoS : (Tryz.prog.info? 100).map (fun i => (i.zero, i.size, i.bytes)) = some (some (.slice none 0 0), 1, 24) := by kernel_rfl
theorem OInv.start {W w3 : World} {S : Nat → Bool} {nb : Nat} {x : Nd} {h0 : Hd} {ak : Option Addr} {ck n : Nat} {ks : Kds} (hsz : W.heap.size = nb) (hn : ks.length = n) (hB : NBox w3 nb x h0) (hR : NBw w3 (nb + 1) zN zH) (hT : NdV (offS w3.cell? (fun k => (k == nb || k == nb + 1) || S k)) x h0) (hl : Below W.heap.size W w3)
    (hks : KsV (offS w3.cell? (fun k => (k == nb || k == nb + 1) || S k)) ak ks) (hF : FreshK (nb + 2) w3 ak ks) (hlim : LimL ks) (hlen : ks.length ≤ 1000) :
    OInv W (w3.alloc (.cells #[.slice ak n ck] 100)) S nb x h0 (.slice (some ⟨w3.heap.size, 0, none⟩) 1 1) [⟨ak, ck, ks⟩] [⟨ak, ck, ks⟩] := by
  have hs2 : nb + 1 < w3.heap.size := hR.1.lt
  have hb : Below w3.heap.size w3 (w3.alloc (.cells #[.slice ak n ck] 100)) := (Below.refl _ _).alloc (Nat.le_refl _) _
  have step : MLe (offS w3.cell? (fun k => (k == nb || k == nb + 1) || S k)) (offS (w3.alloc (.cells #[.slice ak n ck] 100)).cell? (hsS nb (.slice (some ⟨w3.heap.size, 0, none⟩) 1 1) S)) := by
    refine mle_step fun k hk hs => ⟨hsS_no.2 ⟨by simp at hs; exact hs.1.2, ?_, by simp at hs; exact hs.2⟩, hb.block k hk⟩
    intro e; simp [Value.ownBlock] at e; omega
  refine ⟨⟨by simp [pv], .inr ⟨w3.heap.size, 1, #[.slice ak n ck], rfl, by omega, heap_alloc_new w3 _, by simp, by decide, rfl, by simp [pv, hn]⟩⟩, hB.below hb, hR.below hb, hT.on step, ?_, hl.trans (hb.mono hl.size), hsz⟩
  intro e he
  have : e = ⟨ak, ck, ks⟩ := by simpa using he
  subst this
  exact ⟨hks.on step, hF.below hb, hlim, hlen⟩
set_option maxRecDepth 100000 in
set_option maxHeartbeats 2000000 in
theorem own_any {W : World} {S : Nat → Bool} (hS : ∀ k, S k = true → k < W.heap.size) {x : Nd} {h : Hd} (hN : NdV (offS W.cell? S) x h) (hlim : Lim x) (hcnt : cnt x ≤ 1000) :
    Calls Tryz.prog 43 #[ndV x h] W fun e W' => (∃ h', e = .returned (ndV x h') ∧ NdV (offS W'.cell? S) x h') ∧ Below W.heap.size W W' := by
  obtain ⟨k, m, u, g, o, at_, d, ks⟩ := x
  have hlim2 := hlim
  rw [Lim] at hlim2
  rw [cnt] at hcnt
  have B0 := NBw.new W k m u g o at_ d ks h
  have hB0 : Below W.heap.size W (W.alloc (.cells #[.int .i64 k, .int .i64 m, .int .i64 u, .int .i64 g, .bool o, .slice h.aa at_.length h.ca, .string d, .slice h.ak ks.length h.ck] 102)) := (Below.refl _ _).alloc (Nat.le_refl _) _
  have R1 := NBw.zero (W.alloc (.cells #[.int .i64 k, .int .i64 m, .int .i64 u, .int .i64 g, .bool o, .slice h.aa at_.length h.ca, .string d, .slice h.ak ks.length h.ck] 102))
  rw [World.size_alloc] at R1
  have B1 := B0.below ((Below.refl _ _).alloc (Nat.le_refl _) (.cells #[.int .i64 0, .int .i64 0, .int .i64 0, .int .i64 0, .bool false, .slice none 0 0, .string ⟨#[]⟩, .slice none 0 0] 102))
  have hB1 : Below W.heap.size W ((W.alloc (.cells #[.int .i64 k, .int .i64 m, .int .i64 u, .int .i64 g, .bool o, .slice h.aa at_.length h.ca, .string d, .slice h.ak ks.length h.ck] 102)).alloc (.cells #[.int .i64 0, .int .i64 0, .int .i64 0, .int .i64 0, .bool false, .slice none 0 0, .string ⟨#[]⟩, .slice none 0 0] 102)) := hB0.alloc hB0.size _
  have hs1 : W.heap.size + 2 = ((W.alloc (.cells #[.int .i64 k, .int .i64 m, .int .i64 u, .int .i64 g, .bool o, .slice h.aa at_.length h.ca, .string d, .slice h.ak ks.length h.ck] 102)).alloc (.cells #[.int .i64 0, .int .i64 0, .int .i64 0, .int .i64 0, .bool false, .slice none 0 0, .string ⟨#[]⟩, .slice none 0 0] 102)).heap.size := by simp
  have HP : Hid (∀ W1, Below ((W.alloc (.cells #[.int .i64 k, .int .i64 m, .int .i64 u, .int .i64 g, .bool o, .slice h.aa at_.length h.ca, .string d, .slice h.ak ks.length h.ck] 102)).alloc (.cells #[.int .i64 0, .int .i64 0, .int .i64 0, .int .i64 0, .bool false, .slice none 0 0, .string ⟨#[]⟩, .slice none 0 0] 102)).heap.size ((W.alloc (.cells #[.int .i64 k, .int .i64 m, .int .i64 u, .int .i64 g, .bool o, .slice h.aa at_.length h.ca, .string d, .slice h.ak ks.length h.ck] 102)).alloc (.cells #[.int .i64 0, .int .i64 0, .int .i64 0, .int .i64 0, .bool false, .slice none 0 0, .string ⟨#[]⟩, .slice none 0 0] 102)) W1 → Calls Tryz.prog 71 #[ndV (.mk k m u g o at_ d ks) h] W1 fun e W' => (∃ h', e = .returned (ndV (.mk k m u g o at_ d ks) h') ∧ NdV (offS W'.cell? (fun k => (k == W.heap.size || k == W.heap.size + 1) || S k)) (.mk k m u g o at_ d ks) h' ∧ FreshK W1.heap.size W' h'.ak ks) ∧ Below W1.heap.size W1 W') :=
    fun W1 hW1 => apart_any (S := fun k => (k == W.heap.size || k == W.heap.size + 1) || S k) (fun k hk => by
      rw [← hs1]
      simp at hk
      rcases hk with hk | hk
      · omega
      · have := hS k hk; omega) (hN.on (mle_step fun k hk hs => ⟨by simp [hs]; omega, hB1.block k hk⟩)) W1 hW1 hlim
  have HS : Hid (∀ k, S k = true → k < W.heap.size) := hS
  clear hS
  show Calls Tryz.prog 43 #[.agg #[.int .i64 k, .int .i64 m, .int .i64 u, .int .i64 g, .bool o, .slice h.aa at_.length h.ca, .string d, .slice h.ak ks.length h.ck]] _ _
  obtain ⟨⟨y0, y1, y2, y3, y4, y5, y6, y7⟩, y8⟩ := id B1
  clear B0 hB0 hN hlim
  go_enter Tryz.func43, Tryz.ntmps43
  go_wp2_with fail
  refine (HP.out _ (Below.refl _ _)).mono ?_
  rintro e w2 ⟨⟨h0, rfl, hT2, hF2⟩, b2⟩
  rw [← hs1] at hF2
  have B2 := B1.below b2
  have R2 := R1.below b2
  have hB2 := hB1.trans (b2.mono hB1.size)
  have hs2 : W.heap.size + 2 ≤ w2.heap.size := by rw [hs1]; exact b2.size
  clear y0 y1 y2 y3 y4 y5 y6 y7 y8 B1 R1 hB1 b2 hs1 HP
  generalize hsz : W.heap.size = nb at B2 R2 hT2 hF2 hs2 ⊢
  -- the box
  have B3 := B2.store (.mk k m u g o at_ d ks) h0
  have b3 : But nb w2 (stB w2 nb (.mk k m u g o at_ d ks) h0) := stB_but
  have R3 := R2.but b3 (by omega)
  have hB3 := hB2.trans (b3.below (B := W.heap.size) (by omega) hB2.size)
  have step : MLe (offS w2.cell? (fun k => (k == nb || k == nb + 1) || S k)) (offS (stB w2 nb (.mk k m u g o at_ d ks) h0).cell? (fun k => (k == nb || k == nb + 1) || S k)) := mle_step fun q hq hs => ⟨hs, b3.block q hq (by simp at hs; exact hs.1.1)⟩
  have hT3 := hT2.on step
  have hF3 : FreshK (nb + 2) (stB w2 nb (.mk k m u g o at_ d ks) h0) h0.ak ks := by
    rcases hF2 with e | ⟨gg, e1, e2, e3, e4⟩
    · exact .inl e
    · exact .inr ⟨gg, e1, e2, by have := b3.size; omega, fun j => (b3.frozen (p := ⟨gg, j, none⟩) e3 (by show gg ≠ nb; omega)).trans (e4 j)⟩
  have hI := OInv.start (ck := h0.ck) hsz rfl B3.1 R3 hT3 hB3 (ndV_iff.1 hT3).2.2.2 hF3 hlim2.2.2 hlim2.2.1
  obtain ⟨⟨y0, y1, y2, y3, y4, y5, y6, y7⟩, y8⟩ := id B2
  obtain ⟨⟨z0, z1, z2, z3, z4, z5, z6, z7⟩, z8⟩ := id B3
  have ev : ndV (.mk k m u g o at_ d ks) h0 = .agg #[.int .i64 k, .int .i64 m, .int .i64 u, .int .i64 g, .bool o, .slice h0.aa at_.length h0.ca, .string d, .slice h0.ak ks.length h0.ck] := rfl
  rw [ev]
  generalize hw3 : stB w2 nb (.mk k m u g o at_ d ks) h0 = w3 at hI z0 z1 z2 z3 z4 z5 z6 z7 z8
  clear hT2 hF2 R2 hB2 B2 B3 b3 R3 hB3 step hT3 hF3
  simp only [stB] at hw3
  go_wp2
  clear hw3 y0 y1 y2 y3 y4 y5 y6 y7 y8 z0 z1 z2 z3 z4 z5 z6 z7 z8 ev
  generalize w3.alloc (.cells #[.slice h0.ak ks.length h0.ck] 100) = w4 at hI ⊢
  generalize w3.heap.size = gw at hI ⊢
  go_loopg [3] (1 + 2 * cntL ks) (fun gk v wr => ∃ P : List Pn, Hid (ms (P.map (·.ks)) ≤ gk) ∧ gk ≤ 2001 ∧ OInv W wr S nb (.mk k m u g o at_ d ks) h0 v P P)
  case atStart => exact ⟨[⟨h0.ak, h0.ck, ks⟩], by show _ ≤ _; simp [ms], by omega, hI⟩
  case round =>
    obtain ⟨P, HM, hgk, hI⟩ := hrel
    rcases List.eq_nil_or_concat P with rfl | ⟨P', e, hP⟩
    · obtain ⟨a, cap, hv, _, _, _⟩ := owns_cells hI.row
      simp only [List.length_nil] at hv
      subst hv
      have hbx := hI.box
      obtain ⟨y0, y1, y2, y3, y4, y5, y6, y7⟩ := hbx
      have hR := hI.res
      obtain ⟨⟨z0, z1, z2, z3, z4, z5, z6, z7⟩, z8⟩ := id hR
      have R6 := hR.store (.mk k m u g o at_ d ks) h0
      have b6 : But (nb + 1) wr (stB wr (nb + 1) (.mk k m u g o at_ d ks) h0) := stB_but
      have hB6 := hI.low.trans (b6.below (B := W.heap.size) (by omega) hI.low.size)
      have step : MLe (offS wr.cell? (hsS nb (.slice a 0 cap) S)) (offS (stB wr (nb + 1) (.mk k m u g o at_ d ks) h0).cell? S) := mle_step fun q hq hs => ⟨(hsS_no.1 hs).2.2, b6.block q hq (hsS_no.1 hs).1⟩
      have hT6 := hI.tree.on step
      generalize hw6 : stB wr (nb + 1) (.mk k m u g o at_ d ks) h0 = w6 at R6 hB6 hT6
      have HW6 : Hid (stB wr (nb + 1) (.mk k m u g o at_ d ks) h0 = w6) := hw6
      clear hw6 b6 step hI hR
      go_wp2
      have hw6 := HW6.out
      simp only [stB] at hw6
      rw [hw6]
      obtain ⟨r0, r1, r2, r3, r4, r5, r6, r7⟩ := R6.1
      refine bodyPost_ret (v := ndV (.mk k m u g o at_ d ks) h0) (by simp [results, Tryz.results43, go_sem, ndV, r0, r1, r2, r3, r4, r5, r6, r7]) rfl ⟨⟨h0, rfl, hT6⟩, hB6⟩
    · rw [List.concat_eq_append] at hP
      subst hP
      obtain ⟨a, cap, hv, hn1, hn2, hcase⟩ := owns_cells hI.row
      have el : (P' ++ [e]).length = P'.length + 1 := by simp
      rw [el] at hv hn1
      rcases hcase with ⟨_, h0', _⟩ | ⟨gw, rfl, hgw, hgl, hcells, _⟩
      · rw [el] at h0'; omega
      subst hv
      have hlast : wr.cell? ⟨gw, P'.length, none⟩ = some (.slice e.a e.ks.length e.c) := hcells _ _ (by simp [pv])
      have hPl : P'.length ≤ 2001 := by
        have h1 := HM.out
        rw [List.map_append, ms_append] at h1
        have h2 := ms_len (P'.map (·.ks))
        simp at h2; omega
      have HM2 : Hid (ms (P'.map (·.ks)) + (1 + 2 * cntL e.ks) ≤ gk) := by
        show _ ≤ _
        have h1 := HM.out
        rw [List.map_append, ms_append] at h1
        simp [ms] at h1; omega
      have hI2 : OInv W wr S nb (.mk k m u g o at_ d ks) h0 (.slice (some ⟨gw, 0, none⟩) P'.length cap) P' (e :: P') := (hI.pop rfl).sub (fun q hq => by simp at hq ⊢; rcases hq with h | h; exact .inr h; exact .inl h)
      obtain ⟨_, hE2, hlimE, hlenE⟩ := hI2.pend e (by simp)
      clear hI HM hcells el
      have hn3 : P'.length ≤ cap := by omega
      clear hn1
      generalize hPn : P'.length = n at hlast hPl hI2 hn3 ⊢
      clear hPn
      have i1 : IntKind.i64.wrap ((n : Int) + 1 - 1) = (n : Int) := (wrap_small (by omega) (by omega)).trans (by omega)
      obtain ⟨ea, ec, eks⟩ := e
      dsimp only at hlast HM2 hE2 hlimE hlenE
      rcases hE2 with rfl | ⟨ge, rfl, hge, _, _⟩
      · go_wp2
        clear hlast hn3 i1 hgw hgl
        generalize Value.slice (some ⟨gw, 0, none⟩) n cap = v0 at hI2 ⊢
        go_loopw [27, 3] (fun i v w' => i = .int .i64 0 ∧ v = v0 ∧ wr = w') (fun _ _ _ => 0)
        case atStart => exact ⟨rfl, rfl, rfl⟩
        case round =>
          obtain ⟨rfl, rfl, rfl⟩ := hrel
          go_wp2
          go_roundg (ms (P'.map (·.ks)))
          case measure => have h2 := HM2.out; omega
          case rel => exact ⟨P', Nat.le_refl _, by have h2 := HM2.out; omega, hI2.sub (fun q hq => by simp [hq])⟩
      go_wp2
      clear hlast hn3 i1 hgw hgl
      generalize Value.slice (some ⟨gw, 0, none⟩) n cap = v0 at hI2 ⊢
      go_loopw [27, 3] (fun i v wr => ∃ (j : Nat) (P2 : List Pn), j ≤ eks.length ∧ i = .int .i64 j ∧ Hid (P2.map (·.ks) = P'.map (·.ks) ++ (eks.take j).map (fun p => p.2.kids)) ∧ OInv W wr S nb (.mk k m u g o at_ d ks) h0 v P2 (⟨some ⟨ge, 0, none⟩, ec, eks⟩ :: P2)) (fun i _ _ => eks.length - (intOf i).toNat)
      case atStart => exact ⟨0, P', Nat.zero_le _, rfl, by show _ = _; simp, hI2⟩
      case round =>
        obtain ⟨j, P2, hj, rfl, HQ, hI3⟩ := hrel
        clear hI2
        by_cases hjl : j < eks.length
        rotate_left
        · have hji : decide ((j : Int) < (eks.length : Int)) = false := decide_eq_false (by omega)
          have HQ2 : Hid (P2.map (·.ks) = P'.map (·.ks) ++ eks.map (fun p => p.2.kids)) := by
            have := HQ.out
            rw [List.take_of_length_le (by omega)] at this
            exact this
          go_wp2
          go_roundg (ms (P2.map (·.ks)))
          case measure =>
            rw [HQ2.out, ms_append]
            have h1 := ms_kids eks
            have h2 := HM2.out
            omega
          case rel =>
            refine ⟨P2, Nat.le_refl _, ?_, hI3.sub (fun q hq => by simp [hq])⟩
            rw [HQ2.out, ms_append]
            have h1 := ms_kids eks
            have h2 := HM2.out
            omega
        have hji : (j : Int) < (eks.length : Int) := by omega
        obtain ⟨⟨nm, y⟩, hx⟩ : ∃ p, eks[j]? = some p := ⟨eks[j], by simp [hjl]⟩
        obtain ⟨hE1, hE2, _, _⟩ := hI3.pend ⟨some ⟨ge, 0, none⟩, ec, eks⟩ (by simp)
        dsimp only at hE1 hE2
        have hlimY := limL_get hlimE hx
        rcases hE2 with hnil | ⟨ge2, hea, _, hgl, hfr⟩
        · rw [hnil] at hjl; simp at hjl
        simp only [Option.some.injEq, Addr.mk.injEq, and_true] at hea
        subst hea
        rcases hE1 with hnil | ⟨b', off', hea', f, hf⟩
        · rw [hnil] at hjl; simp at hjl
        simp only [Option.some.injEq, Addr.mk.injEq] at hea'
        obtain ⟨rfl, rfl, _⟩ := hea'
        obtain ⟨hKj, hNj⟩ := hf j nm y hx
        rw [Nat.zero_add] at hKj
        have HK : Hid (KdAt (offS wr.cell? (hsS nb u3 S)) ge (j * 9) nm y (f j)) := hKj
        have hKw : KdAt wr.cell? ge (j * 9) nm y (f j) := hKj.on (offS_le _ _)
        have HAP : Hid (∀ W1, Below wr.heap.size wr W1 → Calls Tryz.prog 71 #[ndV y (f j)] W1 fun e W' => (∃ h', e = .returned (ndV y h') ∧ NdV (offS W'.cell? (hsS nb u3 S)) y h' ∧ FreshK W1.heap.size W' h'.ak y.kids) ∧ Below W1.heap.size W1 W') :=
          fun W1 hW1 => apart_any (fun k hk => by
            simp [hsS] at hk
            rcases hk with (hk | hk) | hk
            · have := hI3.res.1.lt; omega
            · exact (hI3.row.lt k hk.symm).2
            · have := HS.out k hk; have := hI3.res.1.lt; omega) hNj W1 hW1 hlimY
        clear hf hKj
        generalize f j = hd1 at HK hKw HAP hNj
        have HX : Hid (eks[j]? = some (nm, y)) := hx
        clear hx
        have hYL : LimL y.kids ∧ y.kids.length ≤ 1000 := by
          obtain ⟨k', m', u', g', o', at', d', ks'⟩ := y
          rw [Lim] at hlimY
          exact ⟨hlimY.2.2, hlimY.2.1⟩
        obtain ⟨k', m', u', g', o', at', d', ks'⟩ := y
        obtain ⟨p0, p1, p2, p3, p4, p5, p6, p7, p8⟩ := hKw.nine
        go_wp2_with fail
        refine (HAP.out _ (Below.refl _ _)).mono ?_
        rintro e2 w2 ⟨⟨h', rfl, hN2, hF2⟩, b2⟩
        have hI4 := (hI3.below b2).more (e := ⟨h'.ak, h'.ck, ks'⟩) ⟨(ndV_iff.1 hN2).2.2.2, by
          rcases hF2 with q | ⟨gg, e1, e2, e3, e4⟩
          · exact .inl q
          · exact .inr ⟨gg, e1, by have := hI3.res.1.lt; omega, e3, e4⟩, hYL.1, hYL.2⟩
        have hfr2 : ∀ j, w2.frozen? ⟨ge, j, none⟩ = false := fun j => (b2.frozen (p := ⟨ge, j, none⟩) hgl).trans (hfr j)
        have hK2 : KdAt (offS w2.cell? (hsS nb u3 S)) ge (j * 9) nm (.mk k' m' u' g' o' at' d' ks') hd1 := HK.out.on (mle_S b2)
        have hI5 := hI4.store hge hK2.2 (hNj.on (mle_S b2)) hN2
        have hsz5 : (st8 w2 ge (j * 9 + 1) (.mk k' m' u' g' o' at' d' ks') h').heap.size = w2.heap.size := by simp [st8]
        have hI6 := hI5.below ((Below.refl _ _).alloc (Nat.le_refl _) (.cells #[.slice h'.ak ks'.length h'.ck] 100))
        have hsrc := cell_one_new (st8 w2 ge (j * 9 + 1) (.mk k' m' u' g' o' at' d' ks') h') (.slice h'.ak ks'.length h'.ck) 100
        rw [hsz5] at hsrc
        have hsz6 : ((st8 w2 ge (j * 9 + 1) (.mk k' m' u' g' o' at' d' ks') h').alloc (.cells #[.slice h'.ak ks'.length h'.ck] 100)).heap.size = w2.heap.size + 1 := by rw [World.size_alloc, hsz5]
        have HSZ6 : Hid (((st8 w2 ge (j * 9 + 1) (.mk k' m' u' g' o' at' d' ks') h').alloc (.cells #[.slice h'.ak ks'.length h'.ck] 100)).heap.size = w2.heap.size + 1) := hsz6
        clear hsz6
        have hrow6 := hI6.row
        have hbase6 : nb + 2 ≤ ((st8 w2 ge (j * 9 + 1) (.mk k' m' u' g' o' at' d' ks') h').alloc (.cells #[.slice h'.ak ks'.length h'.ck] 100)).heap.size := by have := hI6.res.1.lt; omega
        have hPl2 : P2.length ≤ 2001 := by
          have h1 : P2.length ≤ ms (P2.map (·.ks)) := by have := ms_len (P2.map (·.ks)); rwa [List.length_map] at this
          rw [HQ.out, ms_append] at h1
          have h2 := ms_take eks j
          have h3 := ms_kids eks
          have h4 := HM2.out
          omega
        obtain ⟨q0, q1, q2, q3, q4, q5, q6, q7, q8⟩ := (hK2.on (offS_le _ _)).nine
        have ev : ndV (.mk k' m' u' g' o' at' d' ks') h' = .agg #[.int .i64 k', .int .i64 m', .int .i64 u', .int .i64 g', .bool o', .slice h'.aa at'.length h'.ca, .string d', .slice h'.ak ks'.length h'.ck] := rfl
        rw [ev]
        obtain ⟨i0, hi0, hz0, hz1, hz2⟩ := info_three Tryz.infoS
        clear p0 p1 p2 p3 p4 p5 p6 p7 p8 hKw HAP ev hI4 hI5 hK2 hsz5
        simp only [st8] at hI6 hsrc hrow6 hbase6 HSZ6
        have HI6 : Hid _ := hI6
        clear hI6
        go_wp2_with (at_builtin; refine wpList_append_src _ rfl (.tmp 40) (.tmp 47) 136 rfl (nb + 2) 100 i0 (.slice none 0 0) 1 24 Tryz.underlying136 hi0 hz0 hz1 hz2 rfl (by decide) _ P2.length (pv P2) rfl hrow6 (some ⟨w2.heap.size, 0, none⟩) 1 1 [.slice h'.ak ks'.length h'.ck] rfl rfl (.inr ⟨_, rfl, hsrc⟩) (fun u hu => by simp at hu; subst hu; rfl) (by unfold maxLen; omega) (by omega) hbase6 ?_)
        intro v2 w6 hown6 hgrow6 hvb
        have hvb' : v2.ownBlock = u3.ownBlock ∨ ∃ s, v2.ownBlock = some s ∧ w2.heap.size + 1 ≤ s := by
          rcases hvb with q | q
          · exact .inl q
          · exact .inr ⟨_, q, by first | exact Nat.le_refl _ | (rw [HSZ6.out])⟩
        rw [← HSZ6.out] at hvb'
        have hI7 := (HI6.out.push (e := ⟨h'.ak, h'.ck, ks'⟩) hown6 hgrow6 hvb' (HI6.out.pend _ List.mem_cons_self)).sub (Q' := ⟨some ⟨ge, 0, none⟩, ec, eks⟩ :: (P2 ++ [⟨h'.ak, h'.ck, ks'⟩])) (fun q hq => by
          rcases List.mem_cons.1 hq with e1 | e1
          · rw [e1]; simp
          · rcases List.mem_append.1 e1 with e1 | e1
            · simp [e1]
            · simp at e1; rw [e1]; simp)
        clear hown6 hgrow6 hvb hvb' HSZ6 HI6 hsrc hrow6 hbase6 q0 q1 q2 q3 q4 q5 q6 q7 q8 hfr2 hfr
        go_wp2
        go_roundw
        case rel =>
          refine ⟨j + 1, P2 ++ [⟨h'.ak, h'.ck, ks'⟩], by omega, by go_num, ?_, hI7⟩
          show _ = _
          rw [List.map_append, HQ.out, List.take_add_one, HX.out]
          simp [Nd.kids]
        case measure => simp [intOf]; omega
end Go.Proofs.YtkjknbjjchdjlaaGreatDoor
