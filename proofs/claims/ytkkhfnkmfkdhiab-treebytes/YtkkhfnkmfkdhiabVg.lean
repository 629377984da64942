/-
  WHAT THE DOCUMENT's laid DOES: the walk.
-/
import Derived.Test.YtkkhfnkmfkdhiabVc
import Derived.Deep.RegionLaw
import Derived.Deep.Cut
namespace Go.Proofs.Ytkkhfnkmfkdhiab
open Go.RowKit

/-- A box of three numbers. -/
def A3 (w : World) (b : Nat) (m u g : Int) : Prop := w.cell? ⟨b, 0, none⟩ = some (.int .i64 m) ∧ w.cell? ⟨b, 1, none⟩ = some (.int .i64 u) ∧ w.cell? ⟨b, 2, none⟩ = some (.int .i64 g)
theorem A3.lt {w : World} {b : Nat} {m u g : Int} (h : A3 w b m u g) : b < w.heap.size := World.block_lt_of_cell? _ _ h.1
theorem A3.gr {w w' : World} {v v' : Value} {b : Nat} {m u g : Int} (h : A3 w b m u g) (hg : Gr w w' v v') (hne : some b ≠ v.ownBlock) : A3 w' b m u g := by
  have hlt := h.lt
  have q : ∀ j, w'.cell? ⟨b, j, none⟩ = w.cell? ⟨b, j, none⟩ := fun j => World.cell?_of_block (w := w) (hg.g.block b hlt hne)
  exact ⟨(q 0).trans h.1, (q 1).trans h.2.1, (q 2).trans h.2.2⟩

theorem bsz (s : ByteArray) : s.data.toList.length = s.size := Array.length_toList
theorem two_bytesT (w : World) (z : Int) (t : TypeId) (hz : 0 ≤ z ∧ z ≤ 65535) : ∀ j u, (bc (num2 z))[j]? = some u → (w.alloc (.cells #[.int .u8 (IntKind.u8.wrap (IntKind.i64.wrap (z.tdiv 256))), .int .u8 (IntKind.u8.wrap (z.tmod 256))] t)).cell? ((⟨w.heap.size, 0, none⟩ : Addr).add j) = some u := by
  have e1 : z.tdiv 256 = z / 256 := Int.tdiv_eq_ediv_of_nonneg hz.1
  have e2 : z.tmod 256 = z % 256 := Int.tmod_eq_emod_of_nonneg hz.1
  have e3 : IntKind.i64.wrap (z / 256) = z / 256 := wrap_small (by omega) (by omega)
  have e4 : IntKind.u8.wrap (z / 256) = z / 256 := by rw [IntKind.wrap_u8]; omega
  have e5 : IntKind.u8.wrap (z % 256) = z % 256 := by rw [IntKind.wrap_u8]; omega
  rw [e1, e2, e3, e4, e5]
  exact two_bytesR w z t hz

set_option maxRecDepth 100000 in
set_option maxHeartbeats 2000000 in
theorem laid_any {w0 : World} {x : Nd} {h : Hd} (hN : NdV w0.cell? x h) : ∀ (W : World) (v : Value) (n : Nat) (xs : List Value), Sml x → Below w0.heap.size w0 W → W.ownsRow w0.heap.size 5 1 v n xs → n + (byN x).length ≤ 800000 →
    Calls Try.prog 63 #[v, ndV x h] W fun e w' => ∃ v', e = .returned v' ∧ w'.ownsRow w0.heap.size 5 1 v' (n + (byN x).length) (xs ++ bc (byN x)) ∧ Gr W w' v v' := by
  obtain ⟨i0, hi0, hz0, hz1, hz2⟩ := info_three Try.infoB
  have HI0 : Hid _ := hi0
  have HZ0 : Hid _ := hz0
  have HZ1 : Hid _ := hz1
  have HZ2 : Hid _ := hz2
  clear hi0 hz0 hz1 hz2
  induction hN with
  | @mk k m u g o at_ d ks h b off f ha hca hck hak hc hr ih =>
    intro W v n xs hsm hW hrow hlen
    rw [Sml] at hsm
    obtain ⟨⟨hk0, hk1⟩, ⟨hm0, hm1⟩, ⟨hu0, hu1⟩, ⟨hg0, hg1⟩, ⟨hal, hat⟩, hds, hkl, hsk⟩ := hsm
    have HAT : Hid (∀ r ∈ at_, r.n.size ≤ 1000 ∧ r.v.size ≤ 1000) := hat
    have HSK : Hid (SmlL ks) := hsk
    have HA : Hid (Kvm w0.cell? h.aa at_) := ha
    have HC : Hid (∀ i n x, ks[i]? = some (n, x) → KdAt w0.cell? b (off + i * 9) n x (f i)) := hc
    have HIH : Hid _ := ih
    have HAK : Hid (ks = [] ∨ h.ak = some ⟨b, off, none⟩) := hak
    have HLS := LS.start hW hrow k m u g o at_ d ks h
    have HN0 : Hid (byN (.mk k m u g o at_ d ks) = b8 (if o = true then k + 8 else k) :: (num2 m ++ (num2 u ++ (num2 g ++ (b8 at_.length :: (atB at_ ++ (txt d ++ (b8 ks.length :: byL ks)))))))) := by show _ = _; rw [byN]
    have HLEN : Hid (n + (byN (.mk k m u g o at_ d ks)).length ≤ 800000) := hlen
    obtain ⟨R, HR⟩ : ∃ R, Hid (byN (.mk k m u g o at_ d ks) = R) := ⟨_, rfl⟩
    rw [HR.out] at HN0 HLEN
    rw [HR.out]
    have hpl : ∀ (p q : List UInt8), R = p ++ q → n + p.length ≤ 800000 := fun p q e => by have := HLEN.out; rw [e, List.length_append] at this; omega
    have HPL : Hid (∀ (p q : List UInt8), R = p ++ q → n + p.length ≤ 800000) := hpl
    clear hat hsk ha hc ih hak hr hrow hlen hpl
    have H1 : Hid (LS w0 W (W.alloc (.cells #[.int .i64 k, .int .i64 m, .int .i64 u, .int .i64 g, .bool o, .slice h.aa at_.length h.ca, .string d, .slice h.ak ks.length h.ck] 25)) v v n xs W.heap.size (.mk k m u g o at_ d ks) h []) := HLS
    have hN1 : n + ([] : List UInt8).length ≤ 800000 := HPL.out [] R rfl
    show Calls Try.prog 63 #[v, .agg #[.int .i64 k, .int .i64 m, .int .i64 u, .int .i64 g, .bool o, .slice h.aa at_.length h.ca, .string d, .slice h.ak ks.length h.ck]] _ _
    obtain ⟨y0, y1, y2, y3, y4, y5, y6, y7⟩ := HLS.box
    obtain ⟨aa, HAA⟩ : ∃ aa, Hid (h.aa = aa) := ⟨_, rfl⟩
    obtain ⟨ak, HKK⟩ : ∃ ak, Hid (h.ak = ak) := ⟨_, rfl⟩
    rw [HAA.out, HKK.out] at H1 y0 y1 y2 y3 y4 y5 y6 y7 ⊢
    rw [HAA.out] at HA
    rw [HKK.out] at HAK
    clear HLS
    obtain ⟨kd, HKD⟩ : ∃ kd, Hid ((if o = true then k + 8 else k) = kd) := ⟨_, rfl⟩
    rw [HKD.out] at HN0
    go_enter Try.func63, Try.ntmps63
    cases o
    · have HE0 : Hid (R = [] ++ (b8 (k) :: (n2L [m, u, g] ++ (b8 at_.length :: (atB at_ ++ (txt d ++ (b8 ks.length :: byL ks))))))) := by
        show _ = _
        rw [HN0.out, ← HKD.out]
        simp [n2L]
      have hq0 : ([] : List UInt8).length = 0 := rfl
      clear HN0 HKD
      go_upto_region 4 with fail
      clear y0 y4
      generalize hW1 : W.alloc (.cells #[.int .i64 k, .int .i64 m, .int .i64 u, .int .i64 g, .bool false, .slice aa at_.length h.ca, .string d, .slice ak ks.length h.ck] 25) = W1 at H1 y1 y2 y3 y5 y6 y7 ⊢
      clear hW1
      generalize hsb : W.heap.size = sb at H1 y1 y2 y3 y5 y6 y7 ⊢
      go_wp2_with (at_builtin; refine wpList_append_src (W1.alloc (.cells #[.int .u8 (k)] 5)) rfl (.tmp 16) (.tmp 19) 94 rfl w0.heap.size 5 i0 (.int .u8 0) 1 1 Try.underlying94 HI0.out HZ0.out HZ1.out HZ2.out rfl (by decide) v (n + ([] : List UInt8).length) (xs ++ bc ([] : List UInt8)) rfl (H1.out.row.alloc _) (some ⟨W1.heap.size, 0, none⟩) 1 1 (bc [b8 (k)]) rfl rfl (.inr ⟨_, rfl, one_byteR _ _ _ (by omega)⟩) (bc_one _) (by unfold maxLen; omega) (by omega) (Nat.le_trans H1.out.low.size (by rw [World.size_alloc]; omega)) ?_)
      intro v2 w2 hown hgr ho
      have H2 : Hid (LS w0 W w2 v v2 n xs sb (.mk k m u g false at_ d ks) h (([] : List UInt8) ++ [b8 (k)])) := H1.out.app (gr_app hgr ho) [b8 (k)] hown (by simp)
      clear hown hgr ho H1
      have HE2 : Hid (R = ([] ++ [b8 (k)]) ++ (n2L [m, u, g] ++ (b8 at_.length :: (atB at_ ++ (txt d ++ (b8 ks.length :: byL ks)))))) := by show _ = _; rw [HE0.out]; rfl
      generalize ([] ++ [b8 (k)] : List UInt8) = p2 at H2 HE2
      clear HE0 y1 y2 y3 y5 y6 y7
      obtain ⟨y0, y1, y2, y3, y4, y5, y6, y7⟩ := H2.out.box
      rw [HAA.out] at y5
      rw [HKK.out] at y7
      go_upto_region 7 with fail
      have L3 : Hid (LS w0 W (w2.alloc (.cells #[.int .i64 m, .int .i64 u, .int .i64 g] 160)) v v2 n xs sb (.mk k m u g false at_ d ks) h p2) := H2.out.alloc _
      have A0 : A3 (w2.alloc (.cells #[.int .i64 m, .int .i64 u, .int .i64 g] 160)) w2.heap.size m u g := ⟨World.cell?_alloc_at _ _ _ _ rfl, World.cell?_alloc_at _ _ _ _ rfl, World.cell?_alloc_at _ _ _ _ rfl⟩
      have hlb : some w2.heap.size ≠ v2.ownBlock := fun e => by have := (H2.out.row.lt _ e.symm).2; omega
      clear y0 y1 y2 y3 y4 y5 y6 y7 H2
      generalize w2.alloc (.cells #[.int .i64 m, .int .i64 u, .int .i64 g] 160) = w3 at L3 A0 ⊢
      generalize w2.heap.size = lb at A0 hlb ⊢
      go_loopw [7, 0] (fun i vr wr => ∃ (j : Nat) (pre : List UInt8), j ≤ 3 ∧ i = .int .i64 j ∧ Hid (R = pre ++ (n2L ([m, u, g].drop j) ++ (b8 at_.length :: (atB at_ ++ (txt d ++ (b8 ks.length :: byL ks)))))) ∧ Hid (LS w0 W wr v vr n xs sb (.mk k m u g false at_ d ks) h pre) ∧ A3 wr lb m u g ∧ some lb ≠ vr.ownBlock) (fun i _ _ => 3 - (intOf i).toNat)
      case atStart => exact ⟨0, p2, by omega, rfl, HE2.out, L3.out, A0, hlb⟩
      case round =>
        obtain ⟨j, pre, hj, rfl, HE, HL, ⟨a0, a1, a2⟩, hlr⟩ := hrel
        clear L3 HE2 A0 hlb
        have hb := HPL.out _ _ HE.out
        have hj4 : j = 0 ∨ j = 1 ∨ j = 2 ∨ j = 3 := by omega
        rcases hj4 with rfl | rfl | rfl | rfl
        · have hz2 : 0 ≤ m ∧ m ≤ 65535 := by omega
          go_upto_region 9 with fail
          have LD : Hid (LS w0 W wr.drew v u0 n xs sb (.mk k m u g false at_ d ks) h pre) := HL.out.drew
          have AD : A3 wr.drew lb m u g := ⟨a0, a1, a2⟩
          go_region_law (first | (refine step_append_src (wr.drew.alloc (.cells #[.int .u8 (IntKind.u8.wrap (IntKind.i64.wrap ((m).tdiv 256))), .int .u8 (IntKind.u8.wrap ((m).tmod 256))] 5)) (by rfl) (.tmp 32) (.tmp 43) 94 (by rfl) w0.heap.size 5 i0 (.int .u8 0) 1 1 Try.underlying94 HI0.out HZ0.out HZ1.out HZ2.out rfl (by decide) u0 (n + pre.length) (xs ++ bc pre) (by rfl) (LD.out.row.alloc _) (some ⟨wr.heap.size, 0, none⟩) 2 2 (bc (num2 m)) (by rfl) (by rfl) (.inr ⟨_, rfl, two_bytesT wr.drew m _ hz2⟩) (bc_one _) (by unfold maxLen; omega) (by omega) (Nat.le_trans LD.out.low.size (by rw [World.size_alloc]; omega)) ?_; intro v3 w3 hown hgr ho))
          all_goals
            have g3 : Gr wr.drew w3 u0 v3 := gr_app hgr (by rw [World.size_alloc] at ho; exact ho)
            have HL3 : Hid (LS w0 W w3 v v3 n xs sb (.mk k m u g false at_ d ks) h (pre ++ num2 m)) := LD.out.app g3 (num2 m) (by first | exact hown | (rw [← List.append_assoc]; exact hown)) (by simp [num2_length])
            have A33 := AD.gr g3 hlr
            have hlr3 := gr_ne g3 AD.lt hlr
            have HE3 : Hid (R = (pre ++ num2 m) ++ (n2L ([m, u, g].drop (0 + 1)) ++ (b8 at_.length :: (atB at_ ++ (txt d ++ (b8 ks.length :: byL ks)))))) := by show _ = _; rw [HE.out]; simp [n2L]
            clear hown hgr ho a0 a1 a2 AD LD g3 HL HE hlr
            go_wp2
            go_roundw
            case rel => exact ⟨0 + 1, _, by omega, by go_num, HE3.out, HL3.out, A33, hlr3⟩
            case measure => simp [intOf]
        · have hz2 : 0 ≤ u ∧ u ≤ 65535 := by omega
          go_upto_region 9 with fail
          have LD : Hid (LS w0 W wr.drew v u0 n xs sb (.mk k m u g false at_ d ks) h pre) := HL.out.drew
          have AD : A3 wr.drew lb m u g := ⟨a0, a1, a2⟩
          go_region_law (first | (refine step_append_src (wr.drew.alloc (.cells #[.int .u8 (IntKind.u8.wrap (IntKind.i64.wrap ((u).tdiv 256))), .int .u8 (IntKind.u8.wrap ((u).tmod 256))] 5)) (by rfl) (.tmp 32) (.tmp 43) 94 (by rfl) w0.heap.size 5 i0 (.int .u8 0) 1 1 Try.underlying94 HI0.out HZ0.out HZ1.out HZ2.out rfl (by decide) u0 (n + pre.length) (xs ++ bc pre) (by rfl) (LD.out.row.alloc _) (some ⟨wr.heap.size, 0, none⟩) 2 2 (bc (num2 u)) (by rfl) (by rfl) (.inr ⟨_, rfl, two_bytesT wr.drew u _ hz2⟩) (bc_one _) (by unfold maxLen; omega) (by omega) (Nat.le_trans LD.out.low.size (by rw [World.size_alloc]; omega)) ?_; intro v3 w3 hown hgr ho))
          all_goals
            have g3 : Gr wr.drew w3 u0 v3 := gr_app hgr (by rw [World.size_alloc] at ho; exact ho)
            have HL3 : Hid (LS w0 W w3 v v3 n xs sb (.mk k m u g false at_ d ks) h (pre ++ num2 u)) := LD.out.app g3 (num2 u) (by first | exact hown | (rw [← List.append_assoc]; exact hown)) (by simp [num2_length])
            have A33 := AD.gr g3 hlr
            have hlr3 := gr_ne g3 AD.lt hlr
            have HE3 : Hid (R = (pre ++ num2 u) ++ (n2L ([m, u, g].drop (1 + 1)) ++ (b8 at_.length :: (atB at_ ++ (txt d ++ (b8 ks.length :: byL ks)))))) := by show _ = _; rw [HE.out]; simp [n2L]
            clear hown hgr ho a0 a1 a2 AD LD g3 HL HE hlr
            go_wp2
            go_roundw
            case rel => exact ⟨1 + 1, _, by omega, by go_num, HE3.out, HL3.out, A33, hlr3⟩
            case measure => simp [intOf]
        · have hz2 : 0 ≤ g ∧ g ≤ 65535 := by omega
          go_upto_region 9 with fail
          have LD : Hid (LS w0 W wr.drew v u0 n xs sb (.mk k m u g false at_ d ks) h pre) := HL.out.drew
          have AD : A3 wr.drew lb m u g := ⟨a0, a1, a2⟩
          go_region_law (first | (refine step_append_src (wr.drew.alloc (.cells #[.int .u8 (IntKind.u8.wrap (IntKind.i64.wrap ((g).tdiv 256))), .int .u8 (IntKind.u8.wrap ((g).tmod 256))] 5)) (by rfl) (.tmp 32) (.tmp 43) 94 (by rfl) w0.heap.size 5 i0 (.int .u8 0) 1 1 Try.underlying94 HI0.out HZ0.out HZ1.out HZ2.out rfl (by decide) u0 (n + pre.length) (xs ++ bc pre) (by rfl) (LD.out.row.alloc _) (some ⟨wr.heap.size, 0, none⟩) 2 2 (bc (num2 g)) (by rfl) (by rfl) (.inr ⟨_, rfl, two_bytesT wr.drew g _ hz2⟩) (bc_one _) (by unfold maxLen; omega) (by omega) (Nat.le_trans LD.out.low.size (by rw [World.size_alloc]; omega)) ?_; intro v3 w3 hown hgr ho))
          all_goals
            have g3 : Gr wr.drew w3 u0 v3 := gr_app hgr (by rw [World.size_alloc] at ho; exact ho)
            have HL3 : Hid (LS w0 W w3 v v3 n xs sb (.mk k m u g false at_ d ks) h (pre ++ num2 g)) := LD.out.app g3 (num2 g) (by first | exact hown | (rw [← List.append_assoc]; exact hown)) (by simp [num2_length])
            have A33 := AD.gr g3 hlr
            have hlr3 := gr_ne g3 AD.lt hlr
            have HE3 : Hid (R = (pre ++ num2 g) ++ (n2L ([m, u, g].drop (2 + 1)) ++ (b8 at_.length :: (atB at_ ++ (txt d ++ (b8 ks.length :: byL ks)))))) := by show _ = _; rw [HE.out]; simp [n2L]
            clear hown hgr ho a0 a1 a2 AD LD g3 HL HE hlr
            go_wp2
            go_roundw
            case rel => exact ⟨2 + 1, _, by omega, by go_num, HE3.out, HL3.out, A33, hlr3⟩
            case measure => simp [intOf]
        · clear a0 a1 a2 hlr
          have HE3 : Hid (R = pre ++ (b8 at_.length :: (atB at_ ++ (txt d ++ (b8 ks.length :: byL ks))))) := HE.out
          clear HE
          obtain ⟨y0, y1, y2, y3, y4, y5, y6, y7⟩ := HL.out.box
          rw [HAA.out] at y5
          rw [HKK.out] at y7
          go_wp2_with (at_builtin; refine wpList_append_src (wr.alloc (.cells #[.int .u8 (IntKind.u8.wrap ((at_.length : Int)))] 5)) rfl (.tmp 45) (.tmp 50) 94 rfl w0.heap.size 5 i0 (.int .u8 0) 1 1 Try.underlying94 HI0.out HZ0.out HZ1.out HZ2.out rfl (by decide) u0 (n + pre.length) (xs ++ bc pre) rfl (HL.out.row.alloc _) (some ⟨wr.heap.size, 0, none⟩) 1 1 (bc [b8 ((at_.length : Int))]) rfl rfl (.inr ⟨_, rfl, one_byte _ _ _⟩) (bc_one _) (by unfold maxLen; omega) (by omega) (Nat.le_trans HL.out.low.size (by rw [World.size_alloc]; omega)) ?_)
          intro v4 w4 hown hgr ho
          have HLb : Hid (LS w0 W w4 v v4 n xs sb (.mk k m u g false at_ d ks) h (pre ++ [b8 ((at_.length : Int))])) := HL.out.app (gr_app hgr ho) [b8 ((at_.length : Int))] hown (by simp)
          clear hown hgr ho HL
          clear y0 y1 y2 y3 y4 y5 y6 y7
          have HE4 : Hid (R = (pre ++ [b8 (at_.length : Int)]) ++ (atB (at_.drop 0) ++ (txt d ++ (b8 ks.length :: byL ks)))) := by show _ = _; rw [HE3.out]; simp
          clear HE3
          generalize pre ++ [b8 (at_.length : Int)] = p4 at HLb HE4
          go_wp2
          go_loopw [8, 0] (fun i vr wr => ∃ (j : Nat) (pre : List UInt8), j ≤ at_.length ∧ i = .int .i64 j ∧ Hid (R = pre ++ (atB (at_.drop j) ++ (txt d ++ (b8 ks.length :: byL ks)))) ∧ Hid (LS w0 W wr v vr n xs sb (.mk k m u g false at_ d ks) h pre)) (fun i _ _ => at_.length - (intOf i).toNat)
          case atStart => exact ⟨0, p4, Nat.zero_le _, rfl, HE4.out, HLb.out⟩
          case round =>
            obtain ⟨j, pre, hj, rfl, HE, HL⟩ := hrel
            clear HLb HE4
            have hb := HPL.out _ _ HE.out
            by_cases hjl : j < at_.length
            · have hji : (j : Int) < (at_.length : Int) := by omega
              obtain ⟨r, hr⟩ : ∃ r, at_[j]? = some r := ⟨at_[j], by simp [hjl]⟩
              have hrs := HAT.out r (List.mem_of_getElem? hr)
              have HE2 : Hid (R = pre ++ (txt r.n ++ (txt r.v ++ (atB (at_.drop (j + 1)) ++ (txt d ++ (b8 ks.length :: byL ks)))))) := by show _ = _; rw [HE.out, atB_drop hr]; simp
              clear HE
              rcases HA.out with hnil | ⟨ab, ao, rfl, hcA⟩
              · rw [hnil] at hjl; simp at hjl
              have HQ : Hid (w0.cell? ⟨ab, ao + j * 2, none⟩ = some (.string r.n) ∧ w0.cell? ⟨ab, ao + j * 2 + 1, none⟩ = some (.string r.v)) := hcA j r hr
              clear hcA hr
              have hb2 := HPL.out (pre ++ (txt r.n ++ txt r.v)) (atB (at_.drop (j + 1)) ++ (txt d ++ (b8 ks.length :: byL ks))) (by rw [HE2.out]; simp only [List.append_assoc])
              simp only [List.length_append, txt_length] at hb2
              obtain ⟨y0, y1, y2, y3, y4, y5, y6, y7⟩ := HL.out.box
              rw [HAA.out] at y5
              rw [HKK.out] at y7
              have q0 := (HL.out.low.cell (World.block_lt_of_cell? _ _ HQ.out.1)).trans HQ.out.1
              have q1 := (HL.out.low.cell (World.block_lt_of_cell? _ _ HQ.out.2)).trans HQ.out.2
              go_wp2_with (at_builtin; refine wpList_append_src (wr.alloc (.cells #[.int .u8 (IntKind.u8.wrap ((r.n.size : Int)))] 5)) rfl (.tmp 59) (.tmp 68) 94 rfl w0.heap.size 5 i0 (.int .u8 0) 1 1 Try.underlying94 HI0.out HZ0.out HZ1.out HZ2.out rfl (by decide) u0 (n + pre.length) (xs ++ bc pre) rfl (HL.out.row.alloc _) (some ⟨wr.heap.size, 0, none⟩) 1 1 (bc [b8 ((r.n.size : Int))]) rfl rfl (.inr ⟨_, rfl, one_byte _ _ _⟩) (bc_one _) (by unfold maxLen; omega) (by omega) (Nat.le_trans HL.out.low.size (by rw [World.size_alloc]; omega)) ?_)
              intro v4 w4 hown hgr ho
              have HLb : Hid (LS w0 W w4 v v4 n xs sb (.mk k m u g false at_ d ks) h (pre ++ [b8 ((r.n.size : Int))])) := HL.out.app (gr_app hgr ho) [b8 ((r.n.size : Int))] hown (by simp)
              clear hown hgr ho HL
              clear y0 y1 y2 y3 y4 y5 y6 y7 q0 q1
              obtain ⟨P1, HP1⟩ : ∃ P, Hid (pre ++ [b8 (r.n.size : Int)] = P) := ⟨_, rfl⟩
              have hlP1 := congrArg List.length HP1.out
              simp only [List.length_append, List.length_cons, List.length_nil] at hlP1
              rw [HP1.out] at HLb
              obtain ⟨y0, y1, y2, y3, y4, y5, y6, y7⟩ := HLb.out.box
              rw [HAA.out] at y5
              rw [HKK.out] at y7
              have q0 := (HLb.out.low.cell (World.block_lt_of_cell? _ _ HQ.out.1)).trans HQ.out.1
              have q1 := (HLb.out.low.cell (World.block_lt_of_cell? _ _ HQ.out.2)).trans HQ.out.2
              go_wp2_with (at_builtin; refine wpList_append_str w4 rfl (.tmp 70) (.tmp 76) 94 9 rfl w0.heap.size 5 i0 Try.underlying94 Try.underlying9 HI0.out HZ0.out HZ1.out HZ2.out v4 (n + P1.length) (xs ++ bc P1) rfl HLb.out.row (by omega) r.n rfl (by omega) HLb.out.low.size ?_)
              intro v5 w5 hown hgr
              have HLbb : Hid (LS w0 W w5 v v5 n xs sb (.mk k m u g false at_ d ks) h (P1 ++ r.n.data.toList)) := HLb.out.app hgr r.n.data.toList (by first | exact hown | (rw [← List.append_assoc]; exact hown)) (by simp)
              clear hown hgr HLb
              clear y0 y1 y2 y3 y4 y5 y6 y7 q0 q1
              obtain ⟨P2, HP2⟩ : ∃ P, Hid (P1 ++ r.n.data.toList = P) := ⟨_, rfl⟩
              have hlP2 := congrArg List.length HP2.out
              simp only [List.length_append, bsz] at hlP2
              rw [HP2.out] at HLbb
              obtain ⟨y0, y1, y2, y3, y4, y5, y6, y7⟩ := HLbb.out.box
              rw [HAA.out] at y5
              rw [HKK.out] at y7
              have q0 := (HLbb.out.low.cell (World.block_lt_of_cell? _ _ HQ.out.1)).trans HQ.out.1
              have q1 := (HLbb.out.low.cell (World.block_lt_of_cell? _ _ HQ.out.2)).trans HQ.out.2
              go_wp2_with (at_builtin; refine wpList_append_src (w5.alloc (.cells #[.int .u8 (IntKind.u8.wrap ((r.v.size : Int)))] 5)) rfl (.tmp 78) (.tmp 87) 94 rfl w0.heap.size 5 i0 (.int .u8 0) 1 1 Try.underlying94 HI0.out HZ0.out HZ1.out HZ2.out rfl (by decide) v5 (n + P2.length) (xs ++ bc P2) rfl (HLbb.out.row.alloc _) (some ⟨w5.heap.size, 0, none⟩) 1 1 (bc [b8 ((r.v.size : Int))]) rfl rfl (.inr ⟨_, rfl, one_byte _ _ _⟩) (bc_one _) (by unfold maxLen; omega) (by omega) (Nat.le_trans HLbb.out.low.size (by rw [World.size_alloc]; omega)) ?_)
              intro v6 w6 hown hgr ho
              have HLbbb : Hid (LS w0 W w6 v v6 n xs sb (.mk k m u g false at_ d ks) h (P2 ++ [b8 ((r.v.size : Int))])) := HLbb.out.app (gr_app hgr ho) [b8 ((r.v.size : Int))] hown (by simp)
              clear hown hgr ho HLbb
              clear y0 y1 y2 y3 y4 y5 y6 y7 q0 q1
              obtain ⟨P3, HP3⟩ : ∃ P, Hid (P2 ++ [b8 (r.v.size : Int)] = P) := ⟨_, rfl⟩
              have hlP3 := congrArg List.length HP3.out
              simp only [List.length_append, List.length_cons, List.length_nil] at hlP3
              rw [HP3.out] at HLbbb
              obtain ⟨y0, y1, y2, y3, y4, y5, y6, y7⟩ := HLbbb.out.box
              rw [HAA.out] at y5
              rw [HKK.out] at y7
              have q0 := (HLbbb.out.low.cell (World.block_lt_of_cell? _ _ HQ.out.1)).trans HQ.out.1
              have q1 := (HLbbb.out.low.cell (World.block_lt_of_cell? _ _ HQ.out.2)).trans HQ.out.2
              go_wp2_with (at_builtin; refine wpList_append_str w6 rfl (.tmp 89) (.tmp 95) 94 9 rfl w0.heap.size 5 i0 Try.underlying94 Try.underlying9 HI0.out HZ0.out HZ1.out HZ2.out v6 (n + P3.length) (xs ++ bc P3) rfl HLbbb.out.row (by omega) r.v rfl (by omega) HLbbb.out.low.size ?_)
              intro v7 w7 hown hgr
              have HLbbbb : Hid (LS w0 W w7 v v7 n xs sb (.mk k m u g false at_ d ks) h (P3 ++ r.v.data.toList)) := HLbbb.out.app hgr r.v.data.toList (by first | exact hown | (rw [← List.append_assoc]; exact hown)) (by simp)
              clear hown hgr HLbbb
              clear y0 y1 y2 y3 y4 y5 y6 y7 q0 q1
              have HE7 : Hid (R = (P3 ++ r.v.data.toList) ++ (atB (at_.drop (j + 1)) ++ (txt d ++ (b8 ks.length :: byL ks)))) := by show _ = _; rw [HE2.out, ← HP3.out, ← HP2.out, ← HP1.out]; simp [txt]
              go_wp2
              go_roundw
              case rel => exact ⟨j + 1, _, by omega, by go_num, HE7.out, HLbbbb.out⟩
              case measure => simp [intOf]; omega
            · have hji : decide ((j : Int) < (at_.length : Int)) = false := decide_eq_false (by omega)
              have HE2 : Hid (R = pre ++ (txt d ++ (b8 ks.length :: byL ks))) := by show _ = _; rw [HE.out, List.drop_of_length_le (by omega)]; simp [atB]
              clear HE
              have hb1 := HPL.out (pre ++ txt d) _ (by rw [HE2.out, List.append_assoc])
              simp only [List.length_append, txt_length] at hb1
              obtain ⟨y0, y1, y2, y3, y4, y5, y6, y7⟩ := HL.out.box
              rw [HAA.out] at y5
              rw [HKK.out] at y7
              go_wp2_with (at_builtin; refine wpList_append_src (wr.alloc (.cells #[.int .u8 (IntKind.u8.wrap ((d.size : Int)))] 5)) rfl (.tmp 97) (.tmp 102) 94 rfl w0.heap.size 5 i0 (.int .u8 0) 1 1 Try.underlying94 HI0.out HZ0.out HZ1.out HZ2.out rfl (by decide) u0 (n + pre.length) (xs ++ bc pre) rfl (HL.out.row.alloc _) (some ⟨wr.heap.size, 0, none⟩) 1 1 (bc [b8 ((d.size : Int))]) rfl rfl (.inr ⟨_, rfl, one_byte _ _ _⟩) (bc_one _) (by unfold maxLen; omega) (by omega) (Nat.le_trans HL.out.low.size (by rw [World.size_alloc]; omega)) ?_)
              intro v4 w4 hown hgr ho
              have HLb : Hid (LS w0 W w4 v v4 n xs sb (.mk k m u g false at_ d ks) h (pre ++ [b8 ((d.size : Int))])) := HL.out.app (gr_app hgr ho) [b8 ((d.size : Int))] hown (by simp)
              clear hown hgr ho HL
              clear y0 y1 y2 y3 y4 y5 y6 y7
              obtain ⟨P1, HP1⟩ : ∃ P, Hid (pre ++ [b8 (d.size : Int)] = P) := ⟨_, rfl⟩
              have hlP1 := congrArg List.length HP1.out
              simp only [List.length_append, List.length_cons, List.length_nil] at hlP1
              rw [HP1.out] at HLb
              obtain ⟨y0, y1, y2, y3, y4, y5, y6, y7⟩ := HLb.out.box
              rw [HAA.out] at y5
              rw [HKK.out] at y7
              go_wp2_with (at_builtin; refine wpList_append_str w4 rfl (.tmp 104) (.tmp 106) 94 9 rfl w0.heap.size 5 i0 Try.underlying94 Try.underlying9 HI0.out HZ0.out HZ1.out HZ2.out v4 (n + P1.length) (xs ++ bc P1) rfl HLb.out.row (by omega) d rfl (by omega) HLb.out.low.size ?_)
              intro v5 w5 hown hgr
              have HLbb : Hid (LS w0 W w5 v v5 n xs sb (.mk k m u g false at_ d ks) h (P1 ++ d.data.toList)) := HLb.out.app hgr d.data.toList (by first | exact hown | (rw [← List.append_assoc]; exact hown)) (by simp)
              clear hown hgr HLb
              clear y0 y1 y2 y3 y4 y5 y6 y7
              have HE5 : Hid (R = (P1 ++ d.data.toList) ++ (b8 ks.length :: byL ks)) := by show _ = _; rw [HE2.out, ← HP1.out]; simp [txt]
              clear HE2 hb1 hb
              generalize P1 ++ d.data.toList = p5 at HLbb HE5
              have hb5 := HPL.out _ _ HE5.out
              obtain ⟨y0, y1, y2, y3, y4, y5, y6, y7⟩ := HLbb.out.box
              rw [HAA.out] at y5
              rw [HKK.out] at y7
              go_wp2_with (at_builtin; refine wpList_append_src (w5.alloc (.cells #[.int .u8 (IntKind.u8.wrap ((ks.length : Int)))] 5)) rfl (.tmp 108) (.tmp 113) 94 rfl w0.heap.size 5 i0 (.int .u8 0) 1 1 Try.underlying94 HI0.out HZ0.out HZ1.out HZ2.out rfl (by decide) v5 (n + p5.length) (xs ++ bc p5) rfl (HLbb.out.row.alloc _) (some ⟨w5.heap.size, 0, none⟩) 1 1 (bc [b8 ((ks.length : Int))]) rfl rfl (.inr ⟨_, rfl, one_byte _ _ _⟩) (bc_one _) (by unfold maxLen; omega) (by omega) (Nat.le_trans HLbb.out.low.size (by rw [World.size_alloc]; omega)) ?_)
              intro v6 w6 hown hgr ho
              have HLbbb : Hid (LS w0 W w6 v v6 n xs sb (.mk k m u g false at_ d ks) h (p5 ++ [b8 ((ks.length : Int))])) := HLbb.out.app (gr_app hgr ho) [b8 ((ks.length : Int))] hown (by simp)
              clear hown hgr ho HLbb
              clear y0 y1 y2 y3 y4 y5 y6 y7
              have HE6 : Hid (R = (p5 ++ [b8 (ks.length : Int)]) ++ byL (ks.drop 0)) := by show _ = _; rw [HE5.out]; simp
              clear HE5
              generalize p5 ++ [b8 (ks.length : Int)] = p6 at HLbbb HE6
              go_wp2
              go_loopw [9, 0] (fun i vr wr => ∃ (j : Nat) (pre : List UInt8), j ≤ ks.length ∧ i = .int .i64 j ∧ Hid (R = pre ++ byL (ks.drop j)) ∧ Hid (LS w0 W wr v vr n xs sb (.mk k m u g false at_ d ks) h pre)) (fun i _ _ => ks.length - (intOf i).toNat)
              case atStart => exact ⟨0, p6, Nat.zero_le _, rfl, HE6.out, HLbbb.out⟩
              case round =>
                obtain ⟨j3, pre3, hj3, rfl, HE, HL⟩ := hrel
                clear HLbbb HE6
                have hb3 := HPL.out _ _ HE.out
                by_cases hjl3 : j3 < ks.length
                · have hji3 : (j3 : Int) < (ks.length : Int) := by omega
                  obtain ⟨⟨nm, x⟩, hx⟩ : ∃ x, ks[j3]? = some x := ⟨ks[j3], by simp [hjl3]⟩
                  obtain ⟨hns, hxs⟩ := smlL_get HSK.out hx
                  have HE2 : Hid (R = pre3 ++ (txt nm ++ (byN x ++ byL (ks.drop (j3 + 1))))) := by show _ = _; rw [HE.out, byL_drop hx]
                  rcases HAK.out with hnil | rfl
                  · rw [hnil] at hjl3; simp at hjl3
                  have HK3 : Hid (KdAt w0.cell? b (off + j3 * 9) nm x (f j3)) := HC.out j3 nm x hx
                  have HI3 : Hid (∀ (W : World) (v : Value) (n : Nat) (xs : List Value), Below w0.heap.size w0 W → W.ownsRow w0.heap.size 5 1 v n xs → n + (byN x).length ≤ 800000 → Calls Try.prog 63 #[v, ndV x (f j3)] W fun e w' => ∃ v', e = .returned v' ∧ w'.ownsRow w0.heap.size 5 1 v' (n + (byN x).length) (xs ++ bc (byN x)) ∧ Gr W w' v v') := fun W v n xs h1 h2 h3 => HIH.out j3 nm x hx W v n xs hxs h1 h2 h3
                  clear hx hxs HE
                  obtain ⟨BX, HBX⟩ : ∃ BX, Hid (byN x = BX) := ⟨_, rfl⟩
                  rw [HBX.out] at HE2 HI3
                  generalize f j3 = hd3 at HK3 HI3
                  obtain ⟨k', m', u', g', o', at', d', ks'⟩ := x
                  clear HBX
                  have hb5 := HPL.out (pre3 ++ (txt nm ++ BX)) (byL (ks.drop (j3 + 1))) (by rw [HE2.out]; simp only [List.append_assoc])
                  simp only [List.length_append, txt_length] at hb5
                  obtain ⟨y0, y1, y2, y3, y4, y5, y6, y7⟩ := HL.out.box
                  rw [HAA.out] at y5
                  rw [HKK.out] at y7
                  obtain ⟨p0, p1, p2, p3, p4, p5, p6, p7, p8⟩ := (HK3.out.on (mle_below HL.out.low)).nine
                  go_wp2_with (at_builtin; refine wpList_append_src (wr.alloc (.cells #[.int .u8 (IntKind.u8.wrap ((nm.size : Int)))] 5)) rfl (.tmp 122) (.tmp 131) 94 rfl w0.heap.size 5 i0 (.int .u8 0) 1 1 Try.underlying94 HI0.out HZ0.out HZ1.out HZ2.out rfl (by decide) u0 (n + pre3.length) (xs ++ bc pre3) rfl (HL.out.row.alloc _) (some ⟨wr.heap.size, 0, none⟩) 1 1 (bc [b8 ((nm.size : Int))]) rfl rfl (.inr ⟨_, rfl, one_byte _ _ _⟩) (bc_one _) (by unfold maxLen; omega) (by omega) (Nat.le_trans HL.out.low.size (by rw [World.size_alloc]; omega)) ?_)
                  intro v4 w4 hown hgr ho
                  have HLb : Hid (LS w0 W w4 v v4 n xs sb (.mk k m u g false at_ d ks) h (pre3 ++ [b8 ((nm.size : Int))])) := HL.out.app (gr_app hgr ho) [b8 ((nm.size : Int))] hown (by simp)
                  clear hown hgr ho HL
                  clear y0 y1 y2 y3 y4 y5 y6 y7 p0 p1 p2 p3 p4 p5 p6 p7 p8
                  obtain ⟨Q1, HQ1⟩ : ∃ P, Hid (pre3 ++ [b8 (nm.size : Int)] = P) := ⟨_, rfl⟩
                  have hlQ1 := congrArg List.length HQ1.out
                  simp only [List.length_append, List.length_cons, List.length_nil] at hlQ1
                  rw [HQ1.out] at HLb
                  obtain ⟨y0, y1, y2, y3, y4, y5, y6, y7⟩ := HLb.out.box
                  rw [HAA.out] at y5
                  rw [HKK.out] at y7
                  obtain ⟨p0, p1, p2, p3, p4, p5, p6, p7, p8⟩ := (HK3.out.on (mle_below HLb.out.low)).nine
                  go_wp2_with (at_builtin; refine wpList_append_str w4 rfl (.tmp 133) (.tmp 139) 94 9 rfl w0.heap.size 5 i0 Try.underlying94 Try.underlying9 HI0.out HZ0.out HZ1.out HZ2.out v4 (n + Q1.length) (xs ++ bc Q1) rfl HLb.out.row (by omega) nm rfl (by omega) HLb.out.low.size ?_)
                  intro v5 w5 hown hgr
                  have HLbb : Hid (LS w0 W w5 v v5 n xs sb (.mk k m u g false at_ d ks) h (Q1 ++ nm.data.toList)) := HLb.out.app hgr nm.data.toList (by first | exact hown | (rw [← List.append_assoc]; exact hown)) (by simp)
                  clear hown hgr HLb
                  clear y0 y1 y2 y3 y4 y5 y6 y7 p0 p1 p2 p3 p4 p5 p6 p7 p8
                  obtain ⟨Q2, HQ2⟩ : ∃ P, Hid (Q1 ++ nm.data.toList = P) := ⟨_, rfl⟩
                  have hlQ2 := congrArg List.length HQ2.out
                  simp only [List.length_append, bsz] at hlQ2
                  rw [HQ2.out] at HLbb
                  obtain ⟨y0, y1, y2, y3, y4, y5, y6, y7⟩ := HLbb.out.box
                  rw [HAA.out] at y5
                  rw [HKK.out] at y7
                  obtain ⟨p0, p1, p2, p3, p4, p5, p6, p7, p8⟩ := (HK3.out.on (mle_below HLbb.out.low)).nine
                  go_wp2_with fail
                  refine Calls.mono (HI3.out w5 v5 _ _ HLbb.out.low HLbb.out.row (by omega)) ?_
                  rintro e w6 ⟨v6, rfl, hrow6, g6⟩
                  have L7 : Hid (LS w0 W w6 v v6 n xs sb (.mk k m u g false at_ d ks) h (Q2 ++ BX)) := HLbb.out.app g6 BX (by rw [← List.append_assoc]; exact hrow6) rfl
                  have HE7 : Hid (R = (Q2 ++ BX) ++ byL (ks.drop (j3 + 1))) := by show _ = _; rw [HE2.out, ← HQ2.out, ← HQ1.out]; simp [txt]
                  clear HE2 HLbb hrow6 g6 hb5
                  clear y0 y1 y2 y3 y4 y5 y6 y7 p0 p1 p2 p3 p4 p5 p6 p7 p8
                  go_wp2
                  go_roundw
                  case rel => exact ⟨j3 + 1, _, by omega, by go_num, HE7.out, L7.out⟩
                  case measure => simp [intOf]; omega
                · have hji3 : decide ((j3 : Int) < (ks.length : Int)) = false := decide_eq_false (by omega)
                  have HE2 : Hid (R = pre3) := by show _ = _; rw [HE.out, List.drop_of_length_le (by omega)]; simp [byL]
                  clear HE
                  obtain ⟨y0, y1, y2, y3, y4, y5, y6, y7⟩ := HL.out.box
                  rw [HAA.out] at y5
                  rw [HKK.out] at y7
                  go_wp2
                  go_ret
                  refine ⟨_, rfl, ?_, HL.out.gr⟩
                  rw [HE2.out]
                  exact HL.out.row
    · have HE0 : Hid (R = [] ++ (b8 (k + 8) :: (n2L [m, u, g] ++ (b8 at_.length :: (atB at_ ++ (txt d ++ (b8 ks.length :: byL ks))))))) := by
        show _ = _
        rw [HN0.out, ← HKD.out]
        simp [n2L]
      have hq0 : ([] : List UInt8).length = 0 := rfl
      clear HN0 HKD
      go_upto_region 4 with fail
      clear y0 y4
      generalize hW1 : W.alloc (.cells #[.int .i64 k, .int .i64 m, .int .i64 u, .int .i64 g, .bool true, .slice aa at_.length h.ca, .string d, .slice ak ks.length h.ck] 25) = W1 at H1 y1 y2 y3 y5 y6 y7 ⊢
      clear hW1
      generalize hsb : W.heap.size = sb at H1 y1 y2 y3 y5 y6 y7 ⊢
      go_wp2_with (at_builtin; refine wpList_append_src (W1.alloc (.cells #[.int .u8 (k + 8)] 5)) rfl (.tmp 16) (.tmp 19) 94 rfl w0.heap.size 5 i0 (.int .u8 0) 1 1 Try.underlying94 HI0.out HZ0.out HZ1.out HZ2.out rfl (by decide) v (n + ([] : List UInt8).length) (xs ++ bc ([] : List UInt8)) rfl (H1.out.row.alloc _) (some ⟨W1.heap.size, 0, none⟩) 1 1 (bc [b8 (k + 8)]) rfl rfl (.inr ⟨_, rfl, one_byteR _ _ _ (by omega)⟩) (bc_one _) (by unfold maxLen; omega) (by omega) (Nat.le_trans H1.out.low.size (by rw [World.size_alloc]; omega)) ?_)
      intro v2 w2 hown hgr ho
      have H2 : Hid (LS w0 W w2 v v2 n xs sb (.mk k m u g true at_ d ks) h (([] : List UInt8) ++ [b8 (k + 8)])) := H1.out.app (gr_app hgr ho) [b8 (k + 8)] hown (by simp)
      clear hown hgr ho H1
      have HE2 : Hid (R = ([] ++ [b8 (k + 8)]) ++ (n2L [m, u, g] ++ (b8 at_.length :: (atB at_ ++ (txt d ++ (b8 ks.length :: byL ks)))))) := by show _ = _; rw [HE0.out]; rfl
      generalize ([] ++ [b8 (k + 8)] : List UInt8) = p2 at H2 HE2
      clear HE0 y1 y2 y3 y5 y6 y7
      obtain ⟨y0, y1, y2, y3, y4, y5, y6, y7⟩ := H2.out.box
      rw [HAA.out] at y5
      rw [HKK.out] at y7
      go_upto_region 7 with fail
      have L3 : Hid (LS w0 W (w2.alloc (.cells #[.int .i64 m, .int .i64 u, .int .i64 g] 160)) v v2 n xs sb (.mk k m u g true at_ d ks) h p2) := H2.out.alloc _
      have A0 : A3 (w2.alloc (.cells #[.int .i64 m, .int .i64 u, .int .i64 g] 160)) w2.heap.size m u g := ⟨World.cell?_alloc_at _ _ _ _ rfl, World.cell?_alloc_at _ _ _ _ rfl, World.cell?_alloc_at _ _ _ _ rfl⟩
      have hlb : some w2.heap.size ≠ v2.ownBlock := fun e => by have := (H2.out.row.lt _ e.symm).2; omega
      clear y0 y1 y2 y3 y4 y5 y6 y7 H2
      generalize w2.alloc (.cells #[.int .i64 m, .int .i64 u, .int .i64 g] 160) = w3 at L3 A0 ⊢
      generalize w2.heap.size = lb at A0 hlb ⊢
      go_loopw [7, 0] (fun i vr wr => ∃ (j : Nat) (pre : List UInt8), j ≤ 3 ∧ i = .int .i64 j ∧ Hid (R = pre ++ (n2L ([m, u, g].drop j) ++ (b8 at_.length :: (atB at_ ++ (txt d ++ (b8 ks.length :: byL ks)))))) ∧ Hid (LS w0 W wr v vr n xs sb (.mk k m u g true at_ d ks) h pre) ∧ A3 wr lb m u g ∧ some lb ≠ vr.ownBlock) (fun i _ _ => 3 - (intOf i).toNat)
      case atStart => exact ⟨0, p2, by omega, rfl, HE2.out, L3.out, A0, hlb⟩
      case round =>
        obtain ⟨j, pre, hj, rfl, HE, HL, ⟨a0, a1, a2⟩, hlr⟩ := hrel
        clear L3 HE2 A0 hlb
        have hb := HPL.out _ _ HE.out
        have hj4 : j = 0 ∨ j = 1 ∨ j = 2 ∨ j = 3 := by omega
        rcases hj4 with rfl | rfl | rfl | rfl
        · have hz2 : 0 ≤ m ∧ m ≤ 65535 := by omega
          go_upto_region 9 with fail
          have LD : Hid (LS w0 W wr.drew v u0 n xs sb (.mk k m u g true at_ d ks) h pre) := HL.out.drew
          have AD : A3 wr.drew lb m u g := ⟨a0, a1, a2⟩
          go_region_law (first | (refine step_append_src (wr.drew.alloc (.cells #[.int .u8 (IntKind.u8.wrap (IntKind.i64.wrap ((m).tdiv 256))), .int .u8 (IntKind.u8.wrap ((m).tmod 256))] 5)) (by rfl) (.tmp 32) (.tmp 43) 94 (by rfl) w0.heap.size 5 i0 (.int .u8 0) 1 1 Try.underlying94 HI0.out HZ0.out HZ1.out HZ2.out rfl (by decide) u0 (n + pre.length) (xs ++ bc pre) (by rfl) (LD.out.row.alloc _) (some ⟨wr.heap.size, 0, none⟩) 2 2 (bc (num2 m)) (by rfl) (by rfl) (.inr ⟨_, rfl, two_bytesT wr.drew m _ hz2⟩) (bc_one _) (by unfold maxLen; omega) (by omega) (Nat.le_trans LD.out.low.size (by rw [World.size_alloc]; omega)) ?_; intro v3 w3 hown hgr ho))
          all_goals
            have g3 : Gr wr.drew w3 u0 v3 := gr_app hgr (by rw [World.size_alloc] at ho; exact ho)
            have HL3 : Hid (LS w0 W w3 v v3 n xs sb (.mk k m u g true at_ d ks) h (pre ++ num2 m)) := LD.out.app g3 (num2 m) (by first | exact hown | (rw [← List.append_assoc]; exact hown)) (by simp [num2_length])
            have A33 := AD.gr g3 hlr
            have hlr3 := gr_ne g3 AD.lt hlr
            have HE3 : Hid (R = (pre ++ num2 m) ++ (n2L ([m, u, g].drop (0 + 1)) ++ (b8 at_.length :: (atB at_ ++ (txt d ++ (b8 ks.length :: byL ks)))))) := by show _ = _; rw [HE.out]; simp [n2L]
            clear hown hgr ho a0 a1 a2 AD LD g3 HL HE hlr
            go_wp2
            go_roundw
            case rel => exact ⟨0 + 1, _, by omega, by go_num, HE3.out, HL3.out, A33, hlr3⟩
            case measure => simp [intOf]
        · have hz2 : 0 ≤ u ∧ u ≤ 65535 := by omega
          go_upto_region 9 with fail
          have LD : Hid (LS w0 W wr.drew v u0 n xs sb (.mk k m u g true at_ d ks) h pre) := HL.out.drew
          have AD : A3 wr.drew lb m u g := ⟨a0, a1, a2⟩
          go_region_law (first | (refine step_append_src (wr.drew.alloc (.cells #[.int .u8 (IntKind.u8.wrap (IntKind.i64.wrap ((u).tdiv 256))), .int .u8 (IntKind.u8.wrap ((u).tmod 256))] 5)) (by rfl) (.tmp 32) (.tmp 43) 94 (by rfl) w0.heap.size 5 i0 (.int .u8 0) 1 1 Try.underlying94 HI0.out HZ0.out HZ1.out HZ2.out rfl (by decide) u0 (n + pre.length) (xs ++ bc pre) (by rfl) (LD.out.row.alloc _) (some ⟨wr.heap.size, 0, none⟩) 2 2 (bc (num2 u)) (by rfl) (by rfl) (.inr ⟨_, rfl, two_bytesT wr.drew u _ hz2⟩) (bc_one _) (by unfold maxLen; omega) (by omega) (Nat.le_trans LD.out.low.size (by rw [World.size_alloc]; omega)) ?_; intro v3 w3 hown hgr ho))
          all_goals
            have g3 : Gr wr.drew w3 u0 v3 := gr_app hgr (by rw [World.size_alloc] at ho; exact ho)
            have HL3 : Hid (LS w0 W w3 v v3 n xs sb (.mk k m u g true at_ d ks) h (pre ++ num2 u)) := LD.out.app g3 (num2 u) (by first | exact hown | (rw [← List.append_assoc]; exact hown)) (by simp [num2_length])
            have A33 := AD.gr g3 hlr
            have hlr3 := gr_ne g3 AD.lt hlr
            have HE3 : Hid (R = (pre ++ num2 u) ++ (n2L ([m, u, g].drop (1 + 1)) ++ (b8 at_.length :: (atB at_ ++ (txt d ++ (b8 ks.length :: byL ks)))))) := by show _ = _; rw [HE.out]; simp [n2L]
            clear hown hgr ho a0 a1 a2 AD LD g3 HL HE hlr
            go_wp2
            go_roundw
            case rel => exact ⟨1 + 1, _, by omega, by go_num, HE3.out, HL3.out, A33, hlr3⟩
            case measure => simp [intOf]
        · have hz2 : 0 ≤ g ∧ g ≤ 65535 := by omega
          go_upto_region 9 with fail
          have LD : Hid (LS w0 W wr.drew v u0 n xs sb (.mk k m u g true at_ d ks) h pre) := HL.out.drew
          have AD : A3 wr.drew lb m u g := ⟨a0, a1, a2⟩
          go_region_law (first | (refine step_append_src (wr.drew.alloc (.cells #[.int .u8 (IntKind.u8.wrap (IntKind.i64.wrap ((g).tdiv 256))), .int .u8 (IntKind.u8.wrap ((g).tmod 256))] 5)) (by rfl) (.tmp 32) (.tmp 43) 94 (by rfl) w0.heap.size 5 i0 (.int .u8 0) 1 1 Try.underlying94 HI0.out HZ0.out HZ1.out HZ2.out rfl (by decide) u0 (n + pre.length) (xs ++ bc pre) (by rfl) (LD.out.row.alloc _) (some ⟨wr.heap.size, 0, none⟩) 2 2 (bc (num2 g)) (by rfl) (by rfl) (.inr ⟨_, rfl, two_bytesT wr.drew g _ hz2⟩) (bc_one _) (by unfold maxLen; omega) (by omega) (Nat.le_trans LD.out.low.size (by rw [World.size_alloc]; omega)) ?_; intro v3 w3 hown hgr ho))
          all_goals
            have g3 : Gr wr.drew w3 u0 v3 := gr_app hgr (by rw [World.size_alloc] at ho; exact ho)
            have HL3 : Hid (LS w0 W w3 v v3 n xs sb (.mk k m u g true at_ d ks) h (pre ++ num2 g)) := LD.out.app g3 (num2 g) (by first | exact hown | (rw [← List.append_assoc]; exact hown)) (by simp [num2_length])
            have A33 := AD.gr g3 hlr
            have hlr3 := gr_ne g3 AD.lt hlr
            have HE3 : Hid (R = (pre ++ num2 g) ++ (n2L ([m, u, g].drop (2 + 1)) ++ (b8 at_.length :: (atB at_ ++ (txt d ++ (b8 ks.length :: byL ks)))))) := by show _ = _; rw [HE.out]; simp [n2L]
            clear hown hgr ho a0 a1 a2 AD LD g3 HL HE hlr
            go_wp2
            go_roundw
            case rel => exact ⟨2 + 1, _, by omega, by go_num, HE3.out, HL3.out, A33, hlr3⟩
            case measure => simp [intOf]
        · clear a0 a1 a2 hlr
          have HE3 : Hid (R = pre ++ (b8 at_.length :: (atB at_ ++ (txt d ++ (b8 ks.length :: byL ks))))) := HE.out
          clear HE
          obtain ⟨y0, y1, y2, y3, y4, y5, y6, y7⟩ := HL.out.box
          rw [HAA.out] at y5
          rw [HKK.out] at y7
          go_wp2_with (at_builtin; refine wpList_append_src (wr.alloc (.cells #[.int .u8 (IntKind.u8.wrap ((at_.length : Int)))] 5)) rfl (.tmp 45) (.tmp 50) 94 rfl w0.heap.size 5 i0 (.int .u8 0) 1 1 Try.underlying94 HI0.out HZ0.out HZ1.out HZ2.out rfl (by decide) u0 (n + pre.length) (xs ++ bc pre) rfl (HL.out.row.alloc _) (some ⟨wr.heap.size, 0, none⟩) 1 1 (bc [b8 ((at_.length : Int))]) rfl rfl (.inr ⟨_, rfl, one_byte _ _ _⟩) (bc_one _) (by unfold maxLen; omega) (by omega) (Nat.le_trans HL.out.low.size (by rw [World.size_alloc]; omega)) ?_)
          intro v4 w4 hown hgr ho
          have HLb : Hid (LS w0 W w4 v v4 n xs sb (.mk k m u g true at_ d ks) h (pre ++ [b8 ((at_.length : Int))])) := HL.out.app (gr_app hgr ho) [b8 ((at_.length : Int))] hown (by simp)
          clear hown hgr ho HL
          clear y0 y1 y2 y3 y4 y5 y6 y7
          have HE4 : Hid (R = (pre ++ [b8 (at_.length : Int)]) ++ (atB (at_.drop 0) ++ (txt d ++ (b8 ks.length :: byL ks)))) := by show _ = _; rw [HE3.out]; simp
          clear HE3
          generalize pre ++ [b8 (at_.length : Int)] = p4 at HLb HE4
          go_wp2
          go_loopw [8, 0] (fun i vr wr => ∃ (j : Nat) (pre : List UInt8), j ≤ at_.length ∧ i = .int .i64 j ∧ Hid (R = pre ++ (atB (at_.drop j) ++ (txt d ++ (b8 ks.length :: byL ks)))) ∧ Hid (LS w0 W wr v vr n xs sb (.mk k m u g true at_ d ks) h pre)) (fun i _ _ => at_.length - (intOf i).toNat)
          case atStart => exact ⟨0, p4, Nat.zero_le _, rfl, HE4.out, HLb.out⟩
          case round =>
            obtain ⟨j, pre, hj, rfl, HE, HL⟩ := hrel
            clear HLb HE4
            have hb := HPL.out _ _ HE.out
            by_cases hjl : j < at_.length
            · have hji : (j : Int) < (at_.length : Int) := by omega
              obtain ⟨r, hr⟩ : ∃ r, at_[j]? = some r := ⟨at_[j], by simp [hjl]⟩
              have hrs := HAT.out r (List.mem_of_getElem? hr)
              have HE2 : Hid (R = pre ++ (txt r.n ++ (txt r.v ++ (atB (at_.drop (j + 1)) ++ (txt d ++ (b8 ks.length :: byL ks)))))) := by show _ = _; rw [HE.out, atB_drop hr]; simp
              clear HE
              rcases HA.out with hnil | ⟨ab, ao, rfl, hcA⟩
              · rw [hnil] at hjl; simp at hjl
              have HQ : Hid (w0.cell? ⟨ab, ao + j * 2, none⟩ = some (.string r.n) ∧ w0.cell? ⟨ab, ao + j * 2 + 1, none⟩ = some (.string r.v)) := hcA j r hr
              clear hcA hr
              have hb2 := HPL.out (pre ++ (txt r.n ++ txt r.v)) (atB (at_.drop (j + 1)) ++ (txt d ++ (b8 ks.length :: byL ks))) (by rw [HE2.out]; simp only [List.append_assoc])
              simp only [List.length_append, txt_length] at hb2
              obtain ⟨y0, y1, y2, y3, y4, y5, y6, y7⟩ := HL.out.box
              rw [HAA.out] at y5
              rw [HKK.out] at y7
              have q0 := (HL.out.low.cell (World.block_lt_of_cell? _ _ HQ.out.1)).trans HQ.out.1
              have q1 := (HL.out.low.cell (World.block_lt_of_cell? _ _ HQ.out.2)).trans HQ.out.2
              go_wp2_with (at_builtin; refine wpList_append_src (wr.alloc (.cells #[.int .u8 (IntKind.u8.wrap ((r.n.size : Int)))] 5)) rfl (.tmp 59) (.tmp 68) 94 rfl w0.heap.size 5 i0 (.int .u8 0) 1 1 Try.underlying94 HI0.out HZ0.out HZ1.out HZ2.out rfl (by decide) u0 (n + pre.length) (xs ++ bc pre) rfl (HL.out.row.alloc _) (some ⟨wr.heap.size, 0, none⟩) 1 1 (bc [b8 ((r.n.size : Int))]) rfl rfl (.inr ⟨_, rfl, one_byte _ _ _⟩) (bc_one _) (by unfold maxLen; omega) (by omega) (Nat.le_trans HL.out.low.size (by rw [World.size_alloc]; omega)) ?_)
              intro v4 w4 hown hgr ho
              have HLb : Hid (LS w0 W w4 v v4 n xs sb (.mk k m u g true at_ d ks) h (pre ++ [b8 ((r.n.size : Int))])) := HL.out.app (gr_app hgr ho) [b8 ((r.n.size : Int))] hown (by simp)
              clear hown hgr ho HL
              clear y0 y1 y2 y3 y4 y5 y6 y7 q0 q1
              obtain ⟨P1, HP1⟩ : ∃ P, Hid (pre ++ [b8 (r.n.size : Int)] = P) := ⟨_, rfl⟩
              have hlP1 := congrArg List.length HP1.out
              simp only [List.length_append, List.length_cons, List.length_nil] at hlP1
              rw [HP1.out] at HLb
              obtain ⟨y0, y1, y2, y3, y4, y5, y6, y7⟩ := HLb.out.box
              rw [HAA.out] at y5
              rw [HKK.out] at y7
              have q0 := (HLb.out.low.cell (World.block_lt_of_cell? _ _ HQ.out.1)).trans HQ.out.1
              have q1 := (HLb.out.low.cell (World.block_lt_of_cell? _ _ HQ.out.2)).trans HQ.out.2
              go_wp2_with (at_builtin; refine wpList_append_str w4 rfl (.tmp 70) (.tmp 76) 94 9 rfl w0.heap.size 5 i0 Try.underlying94 Try.underlying9 HI0.out HZ0.out HZ1.out HZ2.out v4 (n + P1.length) (xs ++ bc P1) rfl HLb.out.row (by omega) r.n rfl (by omega) HLb.out.low.size ?_)
              intro v5 w5 hown hgr
              have HLbb : Hid (LS w0 W w5 v v5 n xs sb (.mk k m u g true at_ d ks) h (P1 ++ r.n.data.toList)) := HLb.out.app hgr r.n.data.toList (by first | exact hown | (rw [← List.append_assoc]; exact hown)) (by simp)
              clear hown hgr HLb
              clear y0 y1 y2 y3 y4 y5 y6 y7 q0 q1
              obtain ⟨P2, HP2⟩ : ∃ P, Hid (P1 ++ r.n.data.toList = P) := ⟨_, rfl⟩
              have hlP2 := congrArg List.length HP2.out
              simp only [List.length_append, bsz] at hlP2
              rw [HP2.out] at HLbb
              obtain ⟨y0, y1, y2, y3, y4, y5, y6, y7⟩ := HLbb.out.box
              rw [HAA.out] at y5
              rw [HKK.out] at y7
              have q0 := (HLbb.out.low.cell (World.block_lt_of_cell? _ _ HQ.out.1)).trans HQ.out.1
              have q1 := (HLbb.out.low.cell (World.block_lt_of_cell? _ _ HQ.out.2)).trans HQ.out.2
              go_wp2_with (at_builtin; refine wpList_append_src (w5.alloc (.cells #[.int .u8 (IntKind.u8.wrap ((r.v.size : Int)))] 5)) rfl (.tmp 78) (.tmp 87) 94 rfl w0.heap.size 5 i0 (.int .u8 0) 1 1 Try.underlying94 HI0.out HZ0.out HZ1.out HZ2.out rfl (by decide) v5 (n + P2.length) (xs ++ bc P2) rfl (HLbb.out.row.alloc _) (some ⟨w5.heap.size, 0, none⟩) 1 1 (bc [b8 ((r.v.size : Int))]) rfl rfl (.inr ⟨_, rfl, one_byte _ _ _⟩) (bc_one _) (by unfold maxLen; omega) (by omega) (Nat.le_trans HLbb.out.low.size (by rw [World.size_alloc]; omega)) ?_)
              intro v6 w6 hown hgr ho
              have HLbbb : Hid (LS w0 W w6 v v6 n xs sb (.mk k m u g true at_ d ks) h (P2 ++ [b8 ((r.v.size : Int))])) := HLbb.out.app (gr_app hgr ho) [b8 ((r.v.size : Int))] hown (by simp)
              clear hown hgr ho HLbb
              clear y0 y1 y2 y3 y4 y5 y6 y7 q0 q1
              obtain ⟨P3, HP3⟩ : ∃ P, Hid (P2 ++ [b8 (r.v.size : Int)] = P) := ⟨_, rfl⟩
              have hlP3 := congrArg List.length HP3.out
              simp only [List.length_append, List.length_cons, List.length_nil] at hlP3
              rw [HP3.out] at HLbbb
              obtain ⟨y0, y1, y2, y3, y4, y5, y6, y7⟩ := HLbbb.out.box
              rw [HAA.out] at y5
              rw [HKK.out] at y7
              have q0 := (HLbbb.out.low.cell (World.block_lt_of_cell? _ _ HQ.out.1)).trans HQ.out.1
              have q1 := (HLbbb.out.low.cell (World.block_lt_of_cell? _ _ HQ.out.2)).trans HQ.out.2
              go_wp2_with (at_builtin; refine wpList_append_str w6 rfl (.tmp 89) (.tmp 95) 94 9 rfl w0.heap.size 5 i0 Try.underlying94 Try.underlying9 HI0.out HZ0.out HZ1.out HZ2.out v6 (n + P3.length) (xs ++ bc P3) rfl HLbbb.out.row (by omega) r.v rfl (by omega) HLbbb.out.low.size ?_)
              intro v7 w7 hown hgr
              have HLbbbb : Hid (LS w0 W w7 v v7 n xs sb (.mk k m u g true at_ d ks) h (P3 ++ r.v.data.toList)) := HLbbb.out.app hgr r.v.data.toList (by first | exact hown | (rw [← List.append_assoc]; exact hown)) (by simp)
              clear hown hgr HLbbb
              clear y0 y1 y2 y3 y4 y5 y6 y7 q0 q1
              have HE7 : Hid (R = (P3 ++ r.v.data.toList) ++ (atB (at_.drop (j + 1)) ++ (txt d ++ (b8 ks.length :: byL ks)))) := by show _ = _; rw [HE2.out, ← HP3.out, ← HP2.out, ← HP1.out]; simp [txt]
              go_wp2
              go_roundw
              case rel => exact ⟨j + 1, _, by omega, by go_num, HE7.out, HLbbbb.out⟩
              case measure => simp [intOf]; omega
            · have hji : decide ((j : Int) < (at_.length : Int)) = false := decide_eq_false (by omega)
              have HE2 : Hid (R = pre ++ (txt d ++ (b8 ks.length :: byL ks))) := by show _ = _; rw [HE.out, List.drop_of_length_le (by omega)]; simp [atB]
              clear HE
              have hb1 := HPL.out (pre ++ txt d) _ (by rw [HE2.out, List.append_assoc])
              simp only [List.length_append, txt_length] at hb1
              obtain ⟨y0, y1, y2, y3, y4, y5, y6, y7⟩ := HL.out.box
              rw [HAA.out] at y5
              rw [HKK.out] at y7
              go_wp2_with (at_builtin; refine wpList_append_src (wr.alloc (.cells #[.int .u8 (IntKind.u8.wrap ((d.size : Int)))] 5)) rfl (.tmp 97) (.tmp 102) 94 rfl w0.heap.size 5 i0 (.int .u8 0) 1 1 Try.underlying94 HI0.out HZ0.out HZ1.out HZ2.out rfl (by decide) u0 (n + pre.length) (xs ++ bc pre) rfl (HL.out.row.alloc _) (some ⟨wr.heap.size, 0, none⟩) 1 1 (bc [b8 ((d.size : Int))]) rfl rfl (.inr ⟨_, rfl, one_byte _ _ _⟩) (bc_one _) (by unfold maxLen; omega) (by omega) (Nat.le_trans HL.out.low.size (by rw [World.size_alloc]; omega)) ?_)
              intro v4 w4 hown hgr ho
              have HLb : Hid (LS w0 W w4 v v4 n xs sb (.mk k m u g true at_ d ks) h (pre ++ [b8 ((d.size : Int))])) := HL.out.app (gr_app hgr ho) [b8 ((d.size : Int))] hown (by simp)
              clear hown hgr ho HL
              clear y0 y1 y2 y3 y4 y5 y6 y7
              obtain ⟨P1, HP1⟩ : ∃ P, Hid (pre ++ [b8 (d.size : Int)] = P) := ⟨_, rfl⟩
              have hlP1 := congrArg List.length HP1.out
              simp only [List.length_append, List.length_cons, List.length_nil] at hlP1
              rw [HP1.out] at HLb
              obtain ⟨y0, y1, y2, y3, y4, y5, y6, y7⟩ := HLb.out.box
              rw [HAA.out] at y5
              rw [HKK.out] at y7
              go_wp2_with (at_builtin; refine wpList_append_str w4 rfl (.tmp 104) (.tmp 106) 94 9 rfl w0.heap.size 5 i0 Try.underlying94 Try.underlying9 HI0.out HZ0.out HZ1.out HZ2.out v4 (n + P1.length) (xs ++ bc P1) rfl HLb.out.row (by omega) d rfl (by omega) HLb.out.low.size ?_)
              intro v5 w5 hown hgr
              have HLbb : Hid (LS w0 W w5 v v5 n xs sb (.mk k m u g true at_ d ks) h (P1 ++ d.data.toList)) := HLb.out.app hgr d.data.toList (by first | exact hown | (rw [← List.append_assoc]; exact hown)) (by simp)
              clear hown hgr HLb
              clear y0 y1 y2 y3 y4 y5 y6 y7
              have HE5 : Hid (R = (P1 ++ d.data.toList) ++ (b8 ks.length :: byL ks)) := by show _ = _; rw [HE2.out, ← HP1.out]; simp [txt]
              clear HE2 hb1 hb
              generalize P1 ++ d.data.toList = p5 at HLbb HE5
              have hb5 := HPL.out _ _ HE5.out
              obtain ⟨y0, y1, y2, y3, y4, y5, y6, y7⟩ := HLbb.out.box
              rw [HAA.out] at y5
              rw [HKK.out] at y7
              go_wp2_with (at_builtin; refine wpList_append_src (w5.alloc (.cells #[.int .u8 (IntKind.u8.wrap ((ks.length : Int)))] 5)) rfl (.tmp 108) (.tmp 113) 94 rfl w0.heap.size 5 i0 (.int .u8 0) 1 1 Try.underlying94 HI0.out HZ0.out HZ1.out HZ2.out rfl (by decide) v5 (n + p5.length) (xs ++ bc p5) rfl (HLbb.out.row.alloc _) (some ⟨w5.heap.size, 0, none⟩) 1 1 (bc [b8 ((ks.length : Int))]) rfl rfl (.inr ⟨_, rfl, one_byte _ _ _⟩) (bc_one _) (by unfold maxLen; omega) (by omega) (Nat.le_trans HLbb.out.low.size (by rw [World.size_alloc]; omega)) ?_)
              intro v6 w6 hown hgr ho
              have HLbbb : Hid (LS w0 W w6 v v6 n xs sb (.mk k m u g true at_ d ks) h (p5 ++ [b8 ((ks.length : Int))])) := HLbb.out.app (gr_app hgr ho) [b8 ((ks.length : Int))] hown (by simp)
              clear hown hgr ho HLbb
              clear y0 y1 y2 y3 y4 y5 y6 y7
              have HE6 : Hid (R = (p5 ++ [b8 (ks.length : Int)]) ++ byL (ks.drop 0)) := by show _ = _; rw [HE5.out]; simp
              clear HE5
              generalize p5 ++ [b8 (ks.length : Int)] = p6 at HLbbb HE6
              go_wp2
              go_loopw [9, 0] (fun i vr wr => ∃ (j : Nat) (pre : List UInt8), j ≤ ks.length ∧ i = .int .i64 j ∧ Hid (R = pre ++ byL (ks.drop j)) ∧ Hid (LS w0 W wr v vr n xs sb (.mk k m u g true at_ d ks) h pre)) (fun i _ _ => ks.length - (intOf i).toNat)
              case atStart => exact ⟨0, p6, Nat.zero_le _, rfl, HE6.out, HLbbb.out⟩
              case round =>
                obtain ⟨j3, pre3, hj3, rfl, HE, HL⟩ := hrel
                clear HLbbb HE6
                have hb3 := HPL.out _ _ HE.out
                by_cases hjl3 : j3 < ks.length
                · have hji3 : (j3 : Int) < (ks.length : Int) := by omega
                  obtain ⟨⟨nm, x⟩, hx⟩ : ∃ x, ks[j3]? = some x := ⟨ks[j3], by simp [hjl3]⟩
                  obtain ⟨hns, hxs⟩ := smlL_get HSK.out hx
                  have HE2 : Hid (R = pre3 ++ (txt nm ++ (byN x ++ byL (ks.drop (j3 + 1))))) := by show _ = _; rw [HE.out, byL_drop hx]
                  rcases HAK.out with hnil | rfl
                  · rw [hnil] at hjl3; simp at hjl3
                  have HK3 : Hid (KdAt w0.cell? b (off + j3 * 9) nm x (f j3)) := HC.out j3 nm x hx
                  have HI3 : Hid (∀ (W : World) (v : Value) (n : Nat) (xs : List Value), Below w0.heap.size w0 W → W.ownsRow w0.heap.size 5 1 v n xs → n + (byN x).length ≤ 800000 → Calls Try.prog 63 #[v, ndV x (f j3)] W fun e w' => ∃ v', e = .returned v' ∧ w'.ownsRow w0.heap.size 5 1 v' (n + (byN x).length) (xs ++ bc (byN x)) ∧ Gr W w' v v') := fun W v n xs h1 h2 h3 => HIH.out j3 nm x hx W v n xs hxs h1 h2 h3
                  clear hx hxs HE
                  obtain ⟨BX, HBX⟩ : ∃ BX, Hid (byN x = BX) := ⟨_, rfl⟩
                  rw [HBX.out] at HE2 HI3
                  generalize f j3 = hd3 at HK3 HI3
                  obtain ⟨k', m', u', g', o', at', d', ks'⟩ := x
                  clear HBX
                  have hb5 := HPL.out (pre3 ++ (txt nm ++ BX)) (byL (ks.drop (j3 + 1))) (by rw [HE2.out]; simp only [List.append_assoc])
                  simp only [List.length_append, txt_length] at hb5
                  obtain ⟨y0, y1, y2, y3, y4, y5, y6, y7⟩ := HL.out.box
                  rw [HAA.out] at y5
                  rw [HKK.out] at y7
                  obtain ⟨p0, p1, p2, p3, p4, p5, p6, p7, p8⟩ := (HK3.out.on (mle_below HL.out.low)).nine
                  go_wp2_with (at_builtin; refine wpList_append_src (wr.alloc (.cells #[.int .u8 (IntKind.u8.wrap ((nm.size : Int)))] 5)) rfl (.tmp 122) (.tmp 131) 94 rfl w0.heap.size 5 i0 (.int .u8 0) 1 1 Try.underlying94 HI0.out HZ0.out HZ1.out HZ2.out rfl (by decide) u0 (n + pre3.length) (xs ++ bc pre3) rfl (HL.out.row.alloc _) (some ⟨wr.heap.size, 0, none⟩) 1 1 (bc [b8 ((nm.size : Int))]) rfl rfl (.inr ⟨_, rfl, one_byte _ _ _⟩) (bc_one _) (by unfold maxLen; omega) (by omega) (Nat.le_trans HL.out.low.size (by rw [World.size_alloc]; omega)) ?_)
                  intro v4 w4 hown hgr ho
                  have HLb : Hid (LS w0 W w4 v v4 n xs sb (.mk k m u g true at_ d ks) h (pre3 ++ [b8 ((nm.size : Int))])) := HL.out.app (gr_app hgr ho) [b8 ((nm.size : Int))] hown (by simp)
                  clear hown hgr ho HL
                  clear y0 y1 y2 y3 y4 y5 y6 y7 p0 p1 p2 p3 p4 p5 p6 p7 p8
                  obtain ⟨Q1, HQ1⟩ : ∃ P, Hid (pre3 ++ [b8 (nm.size : Int)] = P) := ⟨_, rfl⟩
                  have hlQ1 := congrArg List.length HQ1.out
                  simp only [List.length_append, List.length_cons, List.length_nil] at hlQ1
                  rw [HQ1.out] at HLb
                  obtain ⟨y0, y1, y2, y3, y4, y5, y6, y7⟩ := HLb.out.box
                  rw [HAA.out] at y5
                  rw [HKK.out] at y7
                  obtain ⟨p0, p1, p2, p3, p4, p5, p6, p7, p8⟩ := (HK3.out.on (mle_below HLb.out.low)).nine
                  go_wp2_with (at_builtin; refine wpList_append_str w4 rfl (.tmp 133) (.tmp 139) 94 9 rfl w0.heap.size 5 i0 Try.underlying94 Try.underlying9 HI0.out HZ0.out HZ1.out HZ2.out v4 (n + Q1.length) (xs ++ bc Q1) rfl HLb.out.row (by omega) nm rfl (by omega) HLb.out.low.size ?_)
                  intro v5 w5 hown hgr
                  have HLbb : Hid (LS w0 W w5 v v5 n xs sb (.mk k m u g true at_ d ks) h (Q1 ++ nm.data.toList)) := HLb.out.app hgr nm.data.toList (by first | exact hown | (rw [← List.append_assoc]; exact hown)) (by simp)
                  clear hown hgr HLb
                  clear y0 y1 y2 y3 y4 y5 y6 y7 p0 p1 p2 p3 p4 p5 p6 p7 p8
                  obtain ⟨Q2, HQ2⟩ : ∃ P, Hid (Q1 ++ nm.data.toList = P) := ⟨_, rfl⟩
                  have hlQ2 := congrArg List.length HQ2.out
                  simp only [List.length_append, bsz] at hlQ2
                  rw [HQ2.out] at HLbb
                  obtain ⟨y0, y1, y2, y3, y4, y5, y6, y7⟩ := HLbb.out.box
                  rw [HAA.out] at y5
                  rw [HKK.out] at y7
                  obtain ⟨p0, p1, p2, p3, p4, p5, p6, p7, p8⟩ := (HK3.out.on (mle_below HLbb.out.low)).nine
                  go_wp2_with fail
                  refine Calls.mono (HI3.out w5 v5 _ _ HLbb.out.low HLbb.out.row (by omega)) ?_
                  rintro e w6 ⟨v6, rfl, hrow6, g6⟩
                  have L7 : Hid (LS w0 W w6 v v6 n xs sb (.mk k m u g true at_ d ks) h (Q2 ++ BX)) := HLbb.out.app g6 BX (by rw [← List.append_assoc]; exact hrow6) rfl
                  have HE7 : Hid (R = (Q2 ++ BX) ++ byL (ks.drop (j3 + 1))) := by show _ = _; rw [HE2.out, ← HQ2.out, ← HQ1.out]; simp [txt]
                  clear HE2 HLbb hrow6 g6 hb5
                  clear y0 y1 y2 y3 y4 y5 y6 y7 p0 p1 p2 p3 p4 p5 p6 p7 p8
                  go_wp2
                  go_roundw
                  case rel => exact ⟨j3 + 1, _, by omega, by go_num, HE7.out, L7.out⟩
                  case measure => simp [intOf]; omega
                · have hji3 : decide ((j3 : Int) < (ks.length : Int)) = false := decide_eq_false (by omega)
                  have HE2 : Hid (R = pre3) := by show _ = _; rw [HE.out, List.drop_of_length_le (by omega)]; simp [byL]
                  clear HE
                  obtain ⟨y0, y1, y2, y3, y4, y5, y6, y7⟩ := HL.out.box
                  rw [HAA.out] at y5
                  rw [HKK.out] at y7
                  go_wp2
                  go_ret
                  refine ⟨_, rfl, ?_, HL.out.gr⟩
                  rw [HE2.out]
                  exact HL.out.row
end Go.Proofs.Ytkkhfnkmfkdhiab
