/-
  DiskSays: the walk.
-/
import Derived.Test.YtbjbhfemcemhfaaDc
import Derived.Test.YtbjbhfemcemhfaaDe
namespace Go.Proofs.Ytbjbhfemcemhfaa
open Go.RowKit

theorem qsame {P : Program} {f : FuncId} {args : Array Value} {w : World} {n : Nat} {v : Value}
    (h : Calls P f args (w.drewN n) fun e w' => e = .returned v ∧ w.drewN n = w') : Calls P f args (w.drewN n) fun e w'' => e = .returned v ∧ ∃ m, w'' = w.drewN m :=
  h.mono fun _ _ ⟨he, hm⟩ => ⟨he, n, hm.symm⟩
theorem Mv.drewN (S : Nat → Prop) (w : World) (n : Nat) : Mv S w (w.drewN n) := Mv.of (below_drewN (Below.refl _ w) n)
/-- An act. -/
structure Act' where
  k : ByteArray
  s : ByteArray
  p : Int
  n : Int
def AcM (c : Addr → Option Value) (a : Option Addr) (l : List Act') : Prop :=
  l = [] ∨ ∃ b off, a = some ⟨b, off, none⟩ ∧ ∀ (k : Nat) r, l[k]? = some r → c ⟨b, off + k * 4, none⟩ = some (.string r.k) ∧ c ⟨b, off + k * 4 + 1, none⟩ = some (.string r.s) ∧ c ⟨b, off + k * 4 + 2, none⟩ = some (.int .i64 r.p) ∧ c ⟨b, off + k * 4 + 3, none⟩ = some (.int .i64 r.n)
/-- Both disks, after some acts. -/
structure DI (W wr : World) (db rb cap qb : Nat) (c : Dk) (n j : Nat) : Prop where
  k : KB wr db rb cap c
  r : RB wr qb c
  ok : DkOk c (64 * n) (310 * j)
  low : Below W.heap.size W wr
  wd : W.heap.size ≤ db
  wb : W.heap.size ≤ rb
  wq : W.heap.size ≤ qb
  dq : db ≠ qb
  rq : rb ≠ qb
theorem DI.below {W wr w' : World} {db rb cap qb : Nat} {c : Dk} {n j : Nat} (h : DI W wr db rb cap qb c n j) (hb : Below wr.heap.size wr w') : DI W w' db rb cap qb c n j := by
  have m : Mv (fun _ => False) wr w' := Mv.of hb
  exact ⟨h.k.mv m id id, h.r.mv m id, h.ok, h.low.trans (hb.mono h.low.size), h.wd, h.wb, h.wq, h.dq, h.rq⟩
theorem DI.next {W w5 w6 w7 : World} {db rb cap qb : Nat} {c c2 : Dk} {n j : Nat} (h : DI W w5 db rb cap qb c n j) (m6 : Mv (fun b => b = db ∨ b = rb) w5 w6) (k6 : KB w6 db rb cap c2) (m7 : Mv (fun b => b = qb) w6 w7) (r7 : RB w7 qb c2) (ok : DkOk c2 (64 * n) (310 * (j + 1 : Nat))) : DI W w7 db rb cap qb c2 n (j + 1) := by
  have a1 := h.wd
  have a2 := h.wb
  have a3 := h.wq
  have l6 : Below W.heap.size W w6 := h.low.trans (m6.below h.low.size (fun k e => by rcases e with e | e <;> omega))
  exact ⟨k6.mv m7 h.dq h.rq, r7, ok, l6.trans (m7.below l6.size (fun k e => by omega)), a1, a2, a3, h.dq, h.rq⟩
theorem DI.mono {W wr : World} {db rb cap qb : Nat} {c : Dk} {n j : Nat} (h : DI W wr db rb cap qb c n j) : DI W wr db rb cap qb c n (j + 1) :=
  ⟨h.k, h.r, h.ok.mono (by omega), h.low, h.wd, h.wb, h.wq, h.dq, h.rq⟩
/-- The copy goes on. -/
theorem DI.copy {W w5 w6 w7 w8 : World} {db rb cap qb db' rb' cap' : Nat} {c d e : Dk} {n j : Nat} (h : DI W w5 db rb cap qb c n j) (k6 : KB w6 db' rb' cap' c) (h1 : w5.heap.size ≤ db') (h2 : w5.heap.size ≤ rb') (b6 : Below w5.heap.size w5 w6)
    (m7 : Mv (fun b => b = db) w6 w7) (_k7 : KB w7 db rb cap d) (m8 : Mv (fun b => b = db ∨ b = rb) w7 w8) (_k8 : KB w8 db rb cap e) : DI W w8 db' rb' cap' qb c n (j + 1) := by
  obtain ⟨l1, l2⟩ := h.k.lt
  have l3 := h.r.lt
  have a1 := h.wd
  have a2 := h.wb
  have a3 := h.wq
  have lw := h.low.size
  have l6 : Below W.heap.size W w6 := h.low.trans (b6.mono lw)
  have l7 : Below W.heap.size W w7 := l6.trans (m7.below l6.size (fun k e => by omega))
  have l8 : Below W.heap.size W w8 := l7.trans (m8.below l7.size (fun k e => by rcases e with e | e <;> omega))
  have r6 : RB w6 qb c := h.r.mv (S := fun _ => False) (Mv.of b6) id
  exact ⟨(k6.mv m7 (by omega) (by omega)).mv m8 (by omega) (by omega), (r6.mv m7 (fun e => h.dq e.symm)).mv m8 (fun e => by rcases e with e | e; exact h.dq e.symm; exact h.rq e.symm), h.ok.mono (by omega), l8, by omega, by omega, a3, by omega, by omega⟩

theorem wf_bd {x : Int} (h : (Lit.int .i64 x).wf = true) : -9223372036854775808 ≤ x ∧ x ≤ 9223372036854775807 := by
  simp [Lit.wf, IntKind.min, IntKind.max, IntKind.signed, IntKind.bits] at h
  omega
theorem wrF_pos (c : Dk) (p : Int) (t : ByteArray) : 0 ≤ wrF c p t := by
  unfold wrF ckF
  repeat' split
  all_goals omega
theorem stays1 : ckF false 64 1 2 = 0 := by decide
theorem stF : wrF ⟨zeroS (64 * 1), -1, 0, false⟩ 1 ⟨#[97, 98]⟩ = 0 := by
  unfold wrF
  simp only [zeroS_size]
  decide
theorem stD : wrD ⟨zeroS (64 * 1), -1, 0, false⟩ 1 ⟨#[97, 98]⟩ = ⟨wrS (zeroS (64 * 1)) 1 ⟨#[97, 98]⟩ 2, -1, 2, false⟩ := by
  unfold wrD
  simp only [zeroS_size]
  rfl
theorem stS : (wrS (zeroS (64 * 1)) 1 ⟨#[97, 98]⟩ 2).size = 64 := by
  rw [wrS_size _ _ _ _ (by decide) (by rw [zeroS_size]; decide), zeroS_size]
theorem stR : rdS ⟨wrS (zeroS (64 * 1)) 1 ⟨#[97, 98]⟩ 2, -1, 2, false⟩ 0 4 = ⟨#[0, 97, 98, 0]⟩ := by
  unfold rdS
  simp only [stS]
  rw [if_pos (by decide)]
  kernel_rfl
theorem stC : ckF false (wrS (zeroS (64 * 1)) 1 ⟨#[97, 98]⟩ 2).size 0 4 = 0 := by rw [stS]; decide
set_option maxRecDepth 100000 in
set_option maxHeartbeats 1000000 in
theorem stays_any (W : World) : Calls Try.prog 4 #[] W fun e w' => e = .returned (.bool true) ∧ Below W.heap.size W w' := by
  have q1 := stF
  have q2 := stD
  have q3 := stR
  have q4 := stC
  go_enter Try.func4, Try.ntmps4
  go_wp2_with fail
  refine Calls.mono (knew_any 1 W (by omega)) ?_
  rintro e w1 ⟨db, rb, cap, rfl, K1, h1, h2, hB1⟩
  have HK1 : Hid (KB w1 db rb cap ⟨zeroS (64 * 1), -1, 0, false⟩) := K1
  clear K1
  go_wp2_with fail
  refine Calls.mono (kwrite_any HK1.out 1 ⟨#[97, 98]⟩ (by omega) (by simp only [zeroS_size]; omega) (by decide) (by decide) (by decide)) ?_
  rintro e w2 ⟨rfl, M2, K2⟩
  rw [q1]
  rw [q2] at K2
  have hB2 : Below W.heap.size W w2 := hB1.trans (M2.below hB1.size (fun k e => by rcases e with e | e <;> omega))
  have HK2 : Hid (KB w2 db rb cap ⟨wrS (zeroS (64 * 1)) 1 ⟨#[97, 98]⟩ 2, -1, 2, false⟩) := K2
  clear K2 M2 HK1 q1 q2
  go_wp2_with fail
  refine Calls.mono (kread_any HK2.out 0 4 (by omega) (by simp only [stS]; omega)) ?_
  rintro e w3 ⟨rfl, rfl⟩
  rw [q3]
  simp only [q4]
  clear q3 q4
  go_wp2_with fail
  refine Calls.mono (ksame_any 0 (by omega) w2) ?_
  rintro e w3 ⟨rfl, rfl⟩
  go_wp2_with fail
  refine Calls.mono (ksame_any 0 (by omega) w2) ?_
  rintro e w3 ⟨rfl, rfl⟩
  go_wp2_with fail
  refine Calls.mono (kpower_any HK2.out) ?_
  rintro e w3 ⟨rfl, rfl⟩
  go_wp2
  go_ret
  exact ⟨rfl, hB2⟩

theorem conv_zero {w : World} {base b n : Nat} (hrow : w.ownsRow base 5 1 (.slice (some ⟨b, 0, none⟩) n n) n (Lib.byteCells (zeroS n).data.toList)) : (convert 31 9 (.slice (some ⟨b, 0, none⟩) n n)).run Try.prog w = .ok (.string (zeroS n)) w := by
  rcases hrow.2 with ⟨e, _⟩ | ⟨g, cap, cur, e, _, hg, hle, _, hs, htk⟩
  · cases e
  · cases e
    have := Lib.run_convert_whole (P := Try.prog) w 31 5 9 Try.underlying31 Try.underlying5 Try.underlying9 b 0 (zeroS n) (fun i hi => by
      rw [Nat.zero_add]
      refine cell_of_heap hg ?_
      have hi' : i < n := by rwa [zeroS_size] at hi
      have h2 : (cur.toList.take (n * 1))[i]? = some (.int .u8 ((zeroS n)[i].toNat : Int)) := by
        rw [htk, Lib.byteCells, List.getElem?_map, List.getElem?_eq_getElem (by simpa [zeroS] using hi')]
        rfl
      rw [List.getElem?_take_of_lt (by omega)] at h2
      simpa using h2) n
    rwa [zeroS_size] at this

set_option maxRecDepth 100000 in
set_option maxHeartbeats 4000000 in
theorem disk_any {W : World} (blocks : Int) (a : Option Addr) (cap0 : Nat) (l : List Act') (hS : AcM W.cell? a l) (hwf : ∀ r ∈ l, ((Lit.int .i64 r.p).wf = true ∧ (Lit.int .i64 r.n).wf = true)) :
    Calls Try.prog 3 #[.int .i64 blocks, .slice a l.length cap0] W fun e w' => e = .returned (.bool true) ∧ Below W.heap.size W w' := by
  have HS : Hid (AcM W.cell? a l) := hS
  have HWF : Hid (∀ r ∈ l, ((Lit.int .i64 r.p).wf = true ∧ (Lit.int .i64 r.n).wf = true)) := hwf
  clear hS hwf
  go_enter Try.func3, Try.ntmps3
  go_wp2_with fail
  refine Calls.mono (stays_any _) ?_
  rintro e w2 ⟨rfl, hB2⟩
  by_cases hg : 20 < blocks ∧ blocks ≤ 2000
  · obtain ⟨g1, g2⟩ := hg
    go_wp2
    go_ret
    exact ⟨rfl, hB2⟩
  by_cases h60 : 60 < l.length
  · have b1 : decide ((60 : Int) < (l.length : Int)) = true := decide_eq_true (by omega)
    by_cases hg1 : 20 < blocks
    · have hg2 : ¬ blocks ≤ 2000 := fun e => hg ⟨hg1, e⟩
      clear hg
      go_wp2
      go_ret
      exact ⟨rfl, hB2⟩
    · clear hg
      go_wp2
      go_ret
      exact ⟨rfl, hB2⟩
  have b1 : decide ((60 : Int) < (l.length : Int)) = false := decide_eq_false (by omega)
  by_cases hroom : blocks < 0 ∨ 2000 < blocks
  · have HR : Hid (blocks < 0 ∨ 2000 < blocks) := hroom
    clear hroom hg
    rcases HR.out with hr | hr
    · have r1 : decide (blocks < 0) = true := decide_eq_true hr
      have r2 : ¬ 20 < blocks := by omega
      go_wp2_with fail
      refine Calls.mono (knew_no blocks w2 HR.out) ?_
      rintro e w8 ⟨rfl, rfl⟩
      go_wp2_with fail
      refine Calls.mono (ksame_err 1 (by omega) w2) ?_
      rintro e w8 ⟨rfl, rfl⟩
      go_wp2
      go_ret
      exact ⟨rfl, hB2⟩
    · have r1 : decide (blocks < 0) = false := decide_eq_false (by omega)
      have r2 : decide (2000 < blocks) = true := decide_eq_true hr
      have r3 : 20 < blocks := by omega
      have r4 : ¬ blocks ≤ 2000 := by omega
      go_wp2_with fail
      refine Calls.mono (knew_no blocks w2 HR.out) ?_
      rintro e w8 ⟨rfl, rfl⟩
      go_wp2_with fail
      refine Calls.mono (ksame_err 1 (by omega) w2) ?_
      rintro e w8 ⟨rfl, rfl⟩
      go_wp2
      go_ret
      exact ⟨rfl, hB2⟩
  obtain ⟨n, rfl⟩ : ∃ n : Nat, blocks = n := ⟨blocks.toNat, by omega⟩
  have hn20 : n ≤ 20 := by omega
  have r1 : decide ((n : Int) < 0) = false := decide_eq_false (by omega)
  have r2 : decide (2000 < (n : Int)) = false := decide_eq_false (by omega)
  have r3 : ¬ 20 < (n : Int) := by omega
  clear hg hroom
  go_wp2_with fail
  refine Calls.mono (knew_any n w2 (by omega)) ?_
  rintro e w3 ⟨db, rb, cap, rfl, K3, h1, h2, hB3⟩
  have HK3 : Hid (KB w3 db rb cap ⟨zeroS (64 * n), -1, 0, false⟩) := K3
  have hl1 := K3.lt.1
  have hl2 := K3.lt.2
  have hB4 := hB2.trans (hB3.mono hB2.size)
  have hwd : W.heap.size ≤ db := Nat.le_trans hB2.size h1
  have hwb : W.heap.size ≤ rb := Nat.le_trans hB2.size h2
  clear K3 hB3 hB2 h1 h2
  obtain ⟨i0, hi0, hz0, hz1, hz2⟩ := kinfo_three Try.infoU
  have HB : Hid (i0.bytes = 1) := hz2
  go_wp2_with (at_make; refine wpList_make_full _ rfl _ _ 31 rfl w3.heap.size 5 i0 (.int .u8 0) 1 Try.underlying31 hi0 hz0 hz1 .i64 .i64 _ _ (64 * n) rfl rfl (by omega) (by omega) (by rw [HB.out]; omega) (by unfold maxLen; omega) (Nat.le_refl _) ?_)
  intro w4 hown hgrow
  have hown : w4.ownsRow w3.heap.size 5 1 (.slice (some ⟨w3.heap.size, 0, none⟩) (64 * n) (64 * n)) (64 * n) (Lib.byteCells (zeroS (64 * n)).data.toList) := by rw [← zeroS_cells]; simpa using hown
  have hcv := conv_zero hown
  have hb34 : Below w3.heap.size w3 w4 := ⟨hgrow.os, hgrow.tape, hgrow.output, hgrow.size, fun k hk => hgrow.block k hk (by simp)⟩
  have HI0 : Hid (DI W (w4.alloc (.cells #[.string (zeroS (64 * n)), .int .i64 (-1), .bool false, .int .i64 0] 33)) db rb cap w4.heap.size ⟨zeroS (64 * n), -1, 0, false⟩ n 0) := by
    have hs4 := hb34.size
    have hw4 := hB4.size
    have m : Mv (fun _ => False) w3 (w4.alloc (.cells #[.string (zeroS (64 * n)), .int .i64 (-1), .bool false, .int .i64 0] 33)) := (Mv.of hb34).trans ((Mv.refl _ _).alloc _)
    exact ⟨HK3.out.mv m id id, ⟨heap_alloc_new w4 _⟩, ⟨zeroS_size _, ⟨by show (-1 : Int) ≤ -1; decide, by show (-1 : Int) ≤ 9223372036854775807; decide⟩, ⟨by show (0 : Int) ≤ 0; decide, by show (0 : Int) ≤ _; omega⟩⟩, (hB4.trans (hb34.mono hw4)).alloc (by omega) _, hwd, hwb, by omega, by omega, by omega⟩
  clear hown hgrow hb34 HK3 hl1 hl2 hB4 hwd hwb
  generalize hzz : zeroS (64 * n) = z0 at *
  clear hzz
  go_upto_region 10 with fail
  go_wp2
  generalize w4.alloc (.cells #[.string z0, .int .i64 (-1), .bool false, .int .i64 0] 33) = w9 at HI0 ⊢
  generalize w4.heap.size = qb at HI0 ⊢
  go_loopw [6, 9] (fun dv i wr => ∃ (j db rb cap : Nat) (c : Dk), j ≤ l.length ∧ i = .int .i64 j ∧ dv = .pointer (some ⟨db, 0, none⟩) ∧ Hid (DI W wr db rb cap qb c n j)) (fun _ i _ => l.length - (intOf i).toNat)
  case atStart => exact ⟨0, db, rb, cap, _, Nat.zero_le _, rfl, rfl, HI0.out⟩
  case round =>
    clear HI0 hi0 hz0 hz1 hz2 HB hcv
    obtain ⟨j, db, rb, cap, c, hj, rfl, rfl, HQ⟩ := hrel
    by_cases hjl : j < l.length
    rotate_left
    · have hji : decide ((j : Int) < (l.length : Int)) = false := decide_eq_false (by omega)
      have hlow := HQ.out.low
      clear HQ
      go_wp2
      go_ret
      exact ⟨rfl, hlow⟩
    have hji : (j : Int) < (l.length : Int) := by omega
    obtain ⟨r, hr⟩ : ∃ r, l[j]? = some r := ⟨l[j], by simp [hjl]⟩
    have hwr := HWF.out r (List.mem_of_getElem? hr)
    rcases HS.out with hnil | ⟨sb, so, rfl, hcS⟩
    · rw [hnil] at hjl; simp at hjl
    have hc4 := hcS j r hr
    have q0 := (HQ.out.low.cell (World.block_lt_of_cell? _ _ hc4.1)).trans hc4.1
    have q1 := (HQ.out.low.cell (World.block_lt_of_cell? _ _ hc4.2.1)).trans hc4.2.1
    have q2 := (HQ.out.low.cell (World.block_lt_of_cell? _ _ hc4.2.2.1)).trans hc4.2.2.1
    have q3 := (HQ.out.low.cell (World.block_lt_of_cell? _ _ hc4.2.2.2)).trans hc4.2.2.2
    clear hc4 hcS hr
    obtain ⟨rk, rs, rp, rn⟩ := r
    obtain ⟨p1, p2⟩ := wf_bd hwr.1
    obtain ⟨n1, n2⟩ := wf_bd hwr.2
    clear hwr
    have q0 : wr.cell? ⟨sb, so + j * 4, none⟩ = some (.string rk) := q0
    have q1 : wr.cell? ⟨sb, so + j * 4 + 1, none⟩ = some (.string rs) := q1
    have q2 : wr.cell? ⟨sb, so + j * 4 + 2, none⟩ = some (.int .i64 rp) := q2
    have q3 : wr.cell? ⟨sb, so + j * 4 + 3, none⟩ = some (.int .i64 rn) := q3
    simp only at p1 p2 n1 n2
    by_cases hlong : 300 < rs.size
    · have hlI : (300 : Int) < (rs.size : Int) := by omega
      have hlow := HQ.out.low
      clear HQ
      go_wp2
      go_ret
      exact ⟨rfl, hlow.alloc hlow.size _⟩
    have hlI : ¬ (300 : Int) < (rs.size : Int) := by omega
    obtain ⟨x1, hx1⟩ : ∃ t, (rk.toList == [114, 101, 97, 100]) = t := ⟨_, rfl⟩
    cases x1
    rotate_left
    · have HX : Hid (0 = 0) := rfl
      go_wp2_with fail
      have HQ5 : Hid (DI W (wr.alloc (.cells #[.string rk, .string rs, .int .i64 rp, .int .i64 rn] 35)) db rb cap qb c n j) := HQ.out.below ((Below.refl _ _).alloc (Nat.le_refl _) _)
      have T5 : (wr.alloc (.cells #[.string rk, .string rs, .int .i64 rp, .int .i64 rn] 35)).cell? ⟨wr.heap.size, 0, none⟩ = some (.string rk) ∧ (wr.alloc (.cells #[.string rk, .string rs, .int .i64 rp, .int .i64 rn] 35)).cell? ⟨wr.heap.size, 1, none⟩ = some (.string rs) ∧ (wr.alloc (.cells #[.string rk, .string rs, .int .i64 rp, .int .i64 rn] 35)).cell? ⟨wr.heap.size, 2, none⟩ = some (.int .i64 rp) ∧ (wr.alloc (.cells #[.string rk, .string rs, .int .i64 rp, .int .i64 rn] 35)).cell? ⟨wr.heap.size, 3, none⟩ = some (.int .i64 rn) := ⟨World.cell?_alloc_at _ _ _ _ rfl, World.cell?_alloc_at _ _ _ _ rfl, World.cell?_alloc_at _ _ _ _ rfl, World.cell?_alloc_at _ _ _ _ rfl⟩
      have hlt5 : wr.heap.size < (wr.alloc (.cells #[.string rk, .string rs, .int .i64 rp, .int .i64 rn] 35)).heap.size := by show _ < (wr.alloc _).heap.size; rw [World.size_alloc]; omega
      have hbd : db < wr.heap.size := HQ.out.k.lt.1
      have hbr : rb < wr.heap.size := HQ.out.k.lt.2
      have hbq : qb < wr.heap.size := HQ.out.r.lt
      clear q0 q1 q2 q3 HQ
      generalize wr.alloc (.cells #[.string rk, .string rs, .int .i64 rp, .int .i64 rn] 35) = w5 at HQ5 T5 hlt5 ⊢
      generalize wr.heap.size = bb at T5 hlt5 hbd hbr hbq ⊢
      have hsz : c.s.size ≤ 100000000 := by rw [HQ5.out.ok.sz]; omega
      have hcut := HQ5.out.ok.cut
      have hwrt : 0 ≤ c.wr ∧ c.wr ≤ 1000000 := ⟨HQ5.out.ok.wr.1, by have := HQ5.out.ok.wr.2; omega⟩
      obtain ⟨F, HF⟩ : ∃ F, Hid (ckF c.off c.s.size rp rn = F) := ⟨_, rfl⟩
      obtain ⟨S, HSS⟩ : ∃ S, Hid (rdS c rp rn = S) := ⟨_, rfl⟩
      have C1 : Hid (Calls Try.prog 7 #[.pointer (some ⟨db, 0, none⟩), .int .i64 rp, .int .i64 rn] w5 fun e w' => e = .returned (.tuple #[.string S, kerrV F]) ∧ w5 = w') := by have := kread_any HQ5.out.k rp rn p2 hsz; rw [HF.out, HSS.out] at this; exact this
      have C2 : Hid (Calls Try.prog 8 #[.pointer (some ⟨qb, 0, none⟩), .int .i64 rp, .int .i64 rn] w5 fun e w' => e = .returned (.int .i64 F) ∧ w5 = w') := by have := rfault_any HQ5.out.r rp rn p2 hsz; rw [HF.out] at this; exact this
      have hF0 : 0 ≤ F := by rw [← HF.out]; unfold ckF; split; omega; split <;> omega
      have C3 : Hid (∀ q, Calls Try.prog 6 #[kerrV F, .int .i64 F] (w5.drewN q) fun e w' => e = .returned (.bool true) ∧ w5.drewN q = w') := fun q => ksame_any F hF0 _
      refine Calls.mono C1.out ?_
      rintro e w6 ⟨rfl, rfl⟩
      obtain ⟨t0, t1, t2, t3⟩ := T5
      go_wp2_with fail
      refine Calls.mono C2.out ?_
      rintro e w6 ⟨rfl, rfl⟩
      obtain ⟨u0, u1, u2, u3, _, _, _, _⟩ := HQ5.out.r.cells
      by_cases hF : F = 0
      · have hck := HF.out.trans hF
        obtain ⟨a1, a2, a3, a4⟩ := ck_zero hck
        have hS2 := HSS.out
        rw [show rdS c rp rn = c.s.extract rp.toNat (rp.toNat + rn.toNat) from if_pos hck] at hS2
        obtain ⟨q, rfl⟩ : ∃ q : Nat, rp = q := ⟨rp.toNat, by omega⟩
        obtain ⟨m, rfl⟩ : ∃ m : Nat, rn = m := ⟨rn.toNat, by omega⟩
        simp only [Int.toNat_natCast] at hS2
        have hqm : q + m ≤ c.s.size := by omega
        have hw1 : IntKind.i64.wrap ((q : Int) + (m : Int)) = (q : Int) + (m : Int) := wrap_small _ (by omega) (by omega)
        have hqm' : (q : Int) + (m : Int) ≤ (c.s.size : Int) := by omega
        subst hF
        subst hS2
        clear HF HSS hck a1 a2 a3 a4 hcut hwrt
        go_upto_region 26 with fail
        go_quiet ((go_at_call 6; exact qsame (C3.out _)))
        go_wp2
        obtain ⟨w9, hw9⟩ : ∃ w9, w5.drewN nq = w9 := ⟨_, rfl⟩
        have HN : Hid (DI W w9 db rb cap qb c n (j + 1)) := by have := (HQ5.out.below (below_drewN (Below.refl _ _) nq)).mono; rw [hw9] at this; exact this
        rw [hw9]
        obtain ⟨db2, h2d⟩ : ∃ x, x = db := ⟨_, rfl⟩
        obtain ⟨rb2, h2r⟩ : ∃ x, x = rb := ⟨_, rfl⟩
        obtain ⟨cap2, h2c⟩ : ∃ x, x = cap := ⟨_, rfl⟩
        obtain ⟨c2, h2k⟩ : ∃ x, x = c := ⟨_, rfl⟩
        subst h2d h2r h2c h2k
        clear HQ5 C1 C2 C3 t0 t1 t2 t3 u0 u1 u2 u3 hlt5 hbd hbr hbq hw9
        have HN9 := HN
        obtain ⟨s2, cut2, wr2, off2⟩ := c2
        obtain ⟨m0, m1, m2, m3, _, _, _, _⟩ := HN.out.r.cells
        simp only at m0 m1 m2 m3
        have HC1 : Hid (∀ q, Calls Try.prog 15 #[.pointer (some ⟨db2, 0, none⟩)] (w9.drewN q) fun e w' => e = .returned (.string s2) ∧ w9.drewN q = w') := fun q => kbytes_any (HN.out.k.mv (Mv.drewN (fun _ => False) _ q) id id)
        have HC2 : Hid (∀ q, Calls Try.prog 16 #[.pointer (some ⟨db2, 0, none⟩)] (w9.drewN q) fun e w' => e = .returned (.bool (!off2)) ∧ w9.drewN q = w') := fun q => kpower_any (HN.out.k.mv (Mv.drewN (fun _ => False) _ q) id id)
        have HC3 : Hid (∀ q, Calls Try.prog 17 #[.pointer (some ⟨db2, 0, none⟩)] (w9.drewN q) fun e w' => e = .returned (.int .i64 wr2) ∧ w9.drewN q = w') := fun q => kwritten_any (HN.out.k.mv (Mv.drewN (fun _ => False) _ q) id id)
        have HC4 : Hid (∀ q, Calls Try.prog 18 #[.pointer (some ⟨db2, 0, none⟩)] (w9.drewN q) fun e w' => e = .returned (.int .i64 n) ∧ w9.drewN q = w') := fun q => kblocks_any (HN.out.k.mv (Mv.drewN (fun _ => False) _ q) id id) n HN.out.ok.sz
        cases off2
        all_goals
          go_upto_region 38 with fail
          go_quiet ((first | (go_at_call 15; exact qsame (HC1.out _)) | (go_at_call 16; exact qsame (HC2.out _)) | (go_at_call 17; exact qsame (HC3.out _)) | (go_at_call 18; exact qsame (HC4.out _))))
          go_wp2
          go_roundw
          case rel => exact ⟨j + 1, db2, rb2, cap2, _, by omega, by go_num, rfl, HN.out.below (below_drewN (Below.refl _ _) _)⟩
          case measure => simp [intOf]; omega
      · have hS2 : S = ⟨#[]⟩ := by rw [← HSS.out]; exact if_neg (by rw [HF.out]; exact hF)
        subst hS2
        have hFp : 0 < F := by omega
        clear HF HSS hcut hwrt
        go_upto_region 26 with fail
        go_quiet ((go_at_call 6; exact qsame (C3.out _)))
        go_wp2
        obtain ⟨w9, hw9⟩ : ∃ w9, w5.drewN nq = w9 := ⟨_, rfl⟩
        have HN : Hid (DI W w9 db rb cap qb c n (j + 1)) := by have := (HQ5.out.below (below_drewN (Below.refl _ _) nq)).mono; rw [hw9] at this; exact this
        rw [hw9]
        obtain ⟨db2, h2d⟩ : ∃ x, x = db := ⟨_, rfl⟩
        obtain ⟨rb2, h2r⟩ : ∃ x, x = rb := ⟨_, rfl⟩
        obtain ⟨cap2, h2c⟩ : ∃ x, x = cap := ⟨_, rfl⟩
        obtain ⟨c2, h2k⟩ : ∃ x, x = c := ⟨_, rfl⟩
        subst h2d h2r h2c h2k
        clear HQ5 C1 C2 C3 t0 t1 t2 t3 u0 u1 u2 u3 hlt5 hbd hbr hbq hw9
        have HN9 := HN
        obtain ⟨s2, cut2, wr2, off2⟩ := c2
        obtain ⟨m0, m1, m2, m3, _, _, _, _⟩ := HN.out.r.cells
        simp only at m0 m1 m2 m3
        have HC1 : Hid (∀ q, Calls Try.prog 15 #[.pointer (some ⟨db2, 0, none⟩)] (w9.drewN q) fun e w' => e = .returned (.string s2) ∧ w9.drewN q = w') := fun q => kbytes_any (HN.out.k.mv (Mv.drewN (fun _ => False) _ q) id id)
        have HC2 : Hid (∀ q, Calls Try.prog 16 #[.pointer (some ⟨db2, 0, none⟩)] (w9.drewN q) fun e w' => e = .returned (.bool (!off2)) ∧ w9.drewN q = w') := fun q => kpower_any (HN.out.k.mv (Mv.drewN (fun _ => False) _ q) id id)
        have HC3 : Hid (∀ q, Calls Try.prog 17 #[.pointer (some ⟨db2, 0, none⟩)] (w9.drewN q) fun e w' => e = .returned (.int .i64 wr2) ∧ w9.drewN q = w') := fun q => kwritten_any (HN.out.k.mv (Mv.drewN (fun _ => False) _ q) id id)
        have HC4 : Hid (∀ q, Calls Try.prog 18 #[.pointer (some ⟨db2, 0, none⟩)] (w9.drewN q) fun e w' => e = .returned (.int .i64 n) ∧ w9.drewN q = w') := fun q => kblocks_any (HN.out.k.mv (Mv.drewN (fun _ => False) _ q) id id) n HN.out.ok.sz
        cases off2
        all_goals
          go_upto_region 38 with fail
          go_quiet ((first | (go_at_call 15; exact qsame (HC1.out _)) | (go_at_call 16; exact qsame (HC2.out _)) | (go_at_call 17; exact qsame (HC3.out _)) | (go_at_call 18; exact qsame (HC4.out _))))
          go_wp2
          go_roundw
          case rel => exact ⟨j + 1, db2, rb2, cap2, _, by omega, by go_num, rfl, HN.out.below (below_drewN (Below.refl _ _) _)⟩
          case measure => simp [intOf]; omega
    obtain ⟨x2, hx2⟩ : ∃ t, (rk.toList == [119, 114, 105, 116, 101]) = t := ⟨_, rfl⟩
    cases x2
    rotate_left
    · have HX : Hid (0 = 0) := rfl
      go_upto_region 29 with fail
      have HQ5 : Hid (DI W (wr.alloc (.cells #[.string rk, .string rs, .int .i64 rp, .int .i64 rn] 35)).drew db rb cap qb c n j) := HQ.out.below (((Below.refl _ _).alloc (Nat.le_refl _) _).drew)
      have T5 : (wr.alloc (.cells #[.string rk, .string rs, .int .i64 rp, .int .i64 rn] 35)).drew.cell? ⟨wr.heap.size, 0, none⟩ = some (.string rk) ∧ (wr.alloc (.cells #[.string rk, .string rs, .int .i64 rp, .int .i64 rn] 35)).drew.cell? ⟨wr.heap.size, 1, none⟩ = some (.string rs) ∧ (wr.alloc (.cells #[.string rk, .string rs, .int .i64 rp, .int .i64 rn] 35)).drew.cell? ⟨wr.heap.size, 2, none⟩ = some (.int .i64 rp) ∧ (wr.alloc (.cells #[.string rk, .string rs, .int .i64 rp, .int .i64 rn] 35)).drew.cell? ⟨wr.heap.size, 3, none⟩ = some (.int .i64 rn) := ⟨World.cell?_alloc_at _ _ _ _ rfl, World.cell?_alloc_at _ _ _ _ rfl, World.cell?_alloc_at _ _ _ _ rfl, World.cell?_alloc_at _ _ _ _ rfl⟩
      have hlt5 : wr.heap.size < (wr.alloc (.cells #[.string rk, .string rs, .int .i64 rp, .int .i64 rn] 35)).drew.heap.size := by show _ < (wr.alloc _).heap.size; rw [World.size_alloc]; omega
      have hbd : db < wr.heap.size := HQ.out.k.lt.1
      have hbr : rb < wr.heap.size := HQ.out.k.lt.2
      have hbq : qb < wr.heap.size := HQ.out.r.lt
      clear q0 q1 q2 q3 HQ
      generalize wr.alloc (.cells #[.string rk, .string rs, .int .i64 rp, .int .i64 rn] 35) = w5 at HQ5 T5 hlt5 ⊢
      generalize wr.heap.size = bb at T5 hlt5 hbd hbr hbq ⊢
      have hsz : c.s.size ≤ 100000000 := by rw [HQ5.out.ok.sz]; omega
      have hcut := HQ5.out.ok.cut
      have hwrt : 0 ≤ c.wr ∧ c.wr ≤ 1000000 := ⟨HQ5.out.ok.wr.1, by have := HQ5.out.ok.wr.2; omega⟩
      obtain ⟨F, HF⟩ : ∃ F, Hid (wrF c rp rs = F) := ⟨_, rfl⟩
      obtain ⟨c2, HD⟩ : ∃ c2, Hid (wrD c rp rs = c2) := ⟨_, rfl⟩
      have hF0 : 0 ≤ F := by rw [← HF.out]; exact wrF_pos _ _ _
      have HOK : Hid (DkOk c2 (64 * n) (310 * (j + 1 : Nat))) := by show DkOk _ _ _; rw [← HD.out]; exact (wrD_ok HQ5.out.ok rp rs 310 (by omega)).mono (by omega)
      have HC1 : Hid (Calls Try.prog 9 #[.pointer (some ⟨db, 0, none⟩), .int .i64 rp, .string rs] w5.drew fun e w' => e = .returned (kerrV F) ∧ Mv (fun b => b = db ∨ b = rb) w5.drew w' ∧ KB w' db rb cap c2) := by have := kwrite_any HQ5.out.k rp rs p2 hsz (by omega) hcut hwrt; rw [HF.out, HD.out] at this; exact this
      have HC2 : Hid (∀ w6, RB w6 qb c → Calls Try.prog 10 #[.pointer (some ⟨qb, 0, none⟩), .int .i64 rp, .string rs] w6 fun e w' => e = .returned (.int .i64 F) ∧ Mv (fun b => b = qb) w6 w' ∧ RB w' qb c2) := fun w6 hr => by have := rwrite_any hr rp rs p2 hsz (by omega) hcut hwrt; rw [HF.out, HD.out] at this; exact this
      have hnD : ¬ (fun b => b = db ∨ b = rb) bb := by show ¬ (bb = db ∨ bb = rb); omega
      have hnQ : ¬ (fun b => b = qb) bb := by show ¬ (bb = qb); omega
      have hqD : ¬ (fun b => b = db ∨ b = rb) qb := by have h1 := HQ5.out.dq; have h2 := HQ5.out.rq; show ¬ (qb = db ∨ qb = rb); omega
      clear HF HD hcut hwrt
      go_region_held3 (fun w' => w'.cell? ⟨bb, 0, none⟩ = some (.string rk) ∧ w'.cell? ⟨bb, 1, none⟩ = some (.string rs) ∧ w'.cell? ⟨bb, 2, none⟩ = some (.int .i64 rp) ∧ w'.cell? ⟨bb, 3, none⟩ = some (.int .i64 rn)) (first | exact T5 | exact T6 | exact T7) (first | (go_at_call 9; (with_reducible refine Calls.mono HC1.out ?_); rintro e w6 ⟨rfl, m6, k6⟩; have T6 : w6.cell? ⟨bb, 0, none⟩ = some (.string rk) ∧ w6.cell? ⟨bb, 1, none⟩ = some (.string rs) ∧ w6.cell? ⟨bb, 2, none⟩ = some (.int .i64 rp) ∧ w6.cell? ⟨bb, 3, none⟩ = some (.int .i64 rn) := ⟨(m6.cell (p := ⟨bb, 0, none⟩) hlt5 hnD).trans T5.1, (m6.cell (p := ⟨bb, 1, none⟩) hlt5 hnD).trans T5.2.1, (m6.cell (p := ⟨bb, 2, none⟩) hlt5 hnD).trans T5.2.2.1, (m6.cell (p := ⟨bb, 3, none⟩) hlt5 hnD).trans T5.2.2.2⟩; have HM6 : Hid (Mv (fun b => b = db ∨ b = rb) w5.drew w6 ∧ KB w6 db rb cap c2) := ⟨m6, k6⟩; have HC3 : Hid (Calls Try.prog 10 #[.pointer (some ⟨qb, 0, none⟩), .int .i64 rp, .string rs] w6 fun e w' => e = .returned (.int .i64 F) ∧ Mv (fun b => b = qb) w6 w' ∧ RB w' qb c2) := HC2.out w6 (HQ5.out.r.mv m6 hqD); have hlt6 := Nat.lt_of_lt_of_le hlt5 m6.size; clear HC1 HC2 m6 k6) | (go_at_call 10; (with_reducible refine Calls.mono HC3.out ?_); rintro e w9 ⟨rfl, m7, r7⟩; have T7 : w9.cell? ⟨bb, 0, none⟩ = some (.string rk) ∧ w9.cell? ⟨bb, 1, none⟩ = some (.string rs) ∧ w9.cell? ⟨bb, 2, none⟩ = some (.int .i64 rp) ∧ w9.cell? ⟨bb, 3, none⟩ = some (.int .i64 rn) := ⟨(m7.cell (p := ⟨bb, 0, none⟩) hlt6 hnQ).trans T6.1, (m7.cell (p := ⟨bb, 1, none⟩) hlt6 hnQ).trans T6.2.1, (m7.cell (p := ⟨bb, 2, none⟩) hlt6 hnQ).trans T6.2.2.1, (m7.cell (p := ⟨bb, 3, none⟩) hlt6 hnQ).trans T6.2.2.2⟩; have HN : Hid (DI W w9 db rb cap qb c2 n (j + 1)) := HQ5.out.next HM6.out.1 HM6.out.2 m7 r7 HOK.out; have HC4 : Hid (Calls Try.prog 6 #[kerrV F, .int .i64 F] w9 fun e w' => e = .returned (.bool true) ∧ w9 = w') := ksame_any F hF0 w9; clear HC3 m7 r7) | (go_at_call 6; (with_reducible refine Calls.mono HC4.out ?_); rintro e w8 ⟨rfl, rfl⟩; clear HC4))
      all_goals
        clear T5 T6 T7 HQ5 HM6 HOK hnD hnQ hqD hlt5 hlt6 hbd hbr hbq
        obtain ⟨db2, h2d⟩ : ∃ x, x = db := ⟨_, rfl⟩
        obtain ⟨rb2, h2r⟩ : ∃ x, x = rb := ⟨_, rfl⟩
        obtain ⟨cap2, h2c⟩ : ∃ x, x = cap := ⟨_, rfl⟩
        subst h2d h2r h2c
        have HN9 := HN
        obtain ⟨s2, cut2, wr2, off2⟩ := c2
        obtain ⟨m0, m1, m2, m3, _, _, _, _⟩ := HN.out.r.cells
        simp only at m0 m1 m2 m3
        have HC1 : Hid (∀ q, Calls Try.prog 15 #[.pointer (some ⟨db2, 0, none⟩)] (w9.drewN q) fun e w' => e = .returned (.string s2) ∧ w9.drewN q = w') := fun q => kbytes_any (HN.out.k.mv (Mv.drewN (fun _ => False) _ q) id id)
        have HC2 : Hid (∀ q, Calls Try.prog 16 #[.pointer (some ⟨db2, 0, none⟩)] (w9.drewN q) fun e w' => e = .returned (.bool (!off2)) ∧ w9.drewN q = w') := fun q => kpower_any (HN.out.k.mv (Mv.drewN (fun _ => False) _ q) id id)
        have HC3 : Hid (∀ q, Calls Try.prog 17 #[.pointer (some ⟨db2, 0, none⟩)] (w9.drewN q) fun e w' => e = .returned (.int .i64 wr2) ∧ w9.drewN q = w') := fun q => kwritten_any (HN.out.k.mv (Mv.drewN (fun _ => False) _ q) id id)
        have HC4 : Hid (∀ q, Calls Try.prog 18 #[.pointer (some ⟨db2, 0, none⟩)] (w9.drewN q) fun e w' => e = .returned (.int .i64 n) ∧ w9.drewN q = w') := fun q => kblocks_any (HN.out.k.mv (Mv.drewN (fun _ => False) _ q) id id) n HN.out.ok.sz
        cases off2
        all_goals
          go_upto_region 38 with fail
          go_quiet ((first | (go_at_call 15; exact qsame (HC1.out _)) | (go_at_call 16; exact qsame (HC2.out _)) | (go_at_call 17; exact qsame (HC3.out _)) | (go_at_call 18; exact qsame (HC4.out _))))
          go_wp2
          go_roundw
          case rel => exact ⟨j + 1, db2, rb2, cap2, _, by omega, by go_num, rfl, HN.out.below (below_drewN (Below.refl _ _) _)⟩
          case measure => simp [intOf]; omega
    obtain ⟨x3, hx3⟩ : ∃ t, (rk.toList == [99, 117, 116]) = t := ⟨_, rfl⟩
    cases x3
    rotate_left
    · have HX : Hid (0 = 0) := rfl
      go_upto_region 32 with fail
      have HQ5 : Hid (DI W (wr.alloc (.cells #[.string rk, .string rs, .int .i64 rp, .int .i64 rn] 35)).drew db rb cap qb c n j) := HQ.out.below (((Below.refl _ _).alloc (Nat.le_refl _) _).drew)
      have T5 : (wr.alloc (.cells #[.string rk, .string rs, .int .i64 rp, .int .i64 rn] 35)).drew.cell? ⟨wr.heap.size, 0, none⟩ = some (.string rk) ∧ (wr.alloc (.cells #[.string rk, .string rs, .int .i64 rp, .int .i64 rn] 35)).drew.cell? ⟨wr.heap.size, 1, none⟩ = some (.string rs) ∧ (wr.alloc (.cells #[.string rk, .string rs, .int .i64 rp, .int .i64 rn] 35)).drew.cell? ⟨wr.heap.size, 2, none⟩ = some (.int .i64 rp) ∧ (wr.alloc (.cells #[.string rk, .string rs, .int .i64 rp, .int .i64 rn] 35)).drew.cell? ⟨wr.heap.size, 3, none⟩ = some (.int .i64 rn) := ⟨World.cell?_alloc_at _ _ _ _ rfl, World.cell?_alloc_at _ _ _ _ rfl, World.cell?_alloc_at _ _ _ _ rfl, World.cell?_alloc_at _ _ _ _ rfl⟩
      have hlt5 : wr.heap.size < (wr.alloc (.cells #[.string rk, .string rs, .int .i64 rp, .int .i64 rn] 35)).drew.heap.size := by show _ < (wr.alloc _).heap.size; rw [World.size_alloc]; omega
      have hbd : db < wr.heap.size := HQ.out.k.lt.1
      have hbr : rb < wr.heap.size := HQ.out.k.lt.2
      have hbq : qb < wr.heap.size := HQ.out.r.lt
      clear q0 q1 q2 q3 HQ
      generalize wr.alloc (.cells #[.string rk, .string rs, .int .i64 rp, .int .i64 rn] 35) = w5 at HQ5 T5 hlt5 ⊢
      generalize wr.heap.size = bb at T5 hlt5 hbd hbr hbq ⊢
      have hsz : c.s.size ≤ 100000000 := by rw [HQ5.out.ok.sz]; omega
      have hcut := HQ5.out.ok.cut
      have hwrt : 0 ≤ c.wr ∧ c.wr ≤ 1000000 := ⟨HQ5.out.ok.wr.1, by have := HQ5.out.ok.wr.2; omega⟩
      obtain ⟨F, HF⟩ : ∃ F, Hid (ctF c.off rn = F) := ⟨_, rfl⟩
      obtain ⟨c2, HD⟩ : ∃ c2, Hid (ctD c rn = c2) := ⟨_, rfl⟩
      have hF0 : 0 ≤ F := by rw [← HF.out]; unfold ctF; split; omega; split <;> omega
      have HOK : Hid (DkOk c2 (64 * n) (310 * (j + 1 : Nat))) := by show DkOk _ _ _; rw [← HD.out]; exact (ctD_ok HQ5.out.ok rn n2).mono (by omega)
      have HC1 : Hid (Calls Try.prog 11 #[.pointer (some ⟨db, 0, none⟩), .int .i64 rn] w5.drew fun e w' => e = .returned (kerrV F) ∧ Mv (fun b => b = db) w5.drew w' ∧ KB w' db rb cap c2) := by have := kcut_any HQ5.out.k rn; rw [HF.out, HD.out] at this; exact this
      have HC2 : Hid (∀ w6, RB w6 qb c → Calls Try.prog 12 #[.pointer (some ⟨qb, 0, none⟩), .int .i64 rn] w6 fun e w' => e = .returned (.int .i64 F) ∧ Mv (fun b => b = qb) w6 w' ∧ RB w' qb c2) := fun w6 hr => by have := rarm_any hr rn; rw [HF.out, HD.out] at this; exact this
      have hnD : ¬ (fun b => b = db) bb := by show ¬ (bb = db); omega
      have hnQ : ¬ (fun b => b = qb) bb := by show ¬ (bb = qb); omega
      have hqD : ¬ (fun b => b = db) qb := by have h1 := HQ5.out.dq; have h2 := HQ5.out.rq; show ¬ (qb = db); omega
      clear HF HD hcut hwrt
      go_region_held3 (fun w' => w'.cell? ⟨bb, 0, none⟩ = some (.string rk) ∧ w'.cell? ⟨bb, 1, none⟩ = some (.string rs) ∧ w'.cell? ⟨bb, 2, none⟩ = some (.int .i64 rp) ∧ w'.cell? ⟨bb, 3, none⟩ = some (.int .i64 rn)) (first | exact T5 | exact T6 | exact T7) (first | (go_at_call 11; (with_reducible refine Calls.mono HC1.out ?_); rintro e w6 ⟨rfl, m6, k6⟩; have T6 : w6.cell? ⟨bb, 0, none⟩ = some (.string rk) ∧ w6.cell? ⟨bb, 1, none⟩ = some (.string rs) ∧ w6.cell? ⟨bb, 2, none⟩ = some (.int .i64 rp) ∧ w6.cell? ⟨bb, 3, none⟩ = some (.int .i64 rn) := ⟨(m6.cell (p := ⟨bb, 0, none⟩) hlt5 hnD).trans T5.1, (m6.cell (p := ⟨bb, 1, none⟩) hlt5 hnD).trans T5.2.1, (m6.cell (p := ⟨bb, 2, none⟩) hlt5 hnD).trans T5.2.2.1, (m6.cell (p := ⟨bb, 3, none⟩) hlt5 hnD).trans T5.2.2.2⟩; have HM6 : Hid (Mv (fun b => b = db ∨ b = rb) w5.drew w6 ∧ KB w6 db rb cap c2) := ⟨m6.mono (fun _ e => .inl e), k6⟩; have HC3 : Hid (Calls Try.prog 12 #[.pointer (some ⟨qb, 0, none⟩), .int .i64 rn] w6 fun e w' => e = .returned (.int .i64 F) ∧ Mv (fun b => b = qb) w6 w' ∧ RB w' qb c2) := HC2.out w6 (HQ5.out.r.mv m6 hqD); have hlt6 := Nat.lt_of_lt_of_le hlt5 m6.size; clear HC1 HC2 m6 k6) | (go_at_call 12; (with_reducible refine Calls.mono HC3.out ?_); rintro e w9 ⟨rfl, m7, r7⟩; have T7 : w9.cell? ⟨bb, 0, none⟩ = some (.string rk) ∧ w9.cell? ⟨bb, 1, none⟩ = some (.string rs) ∧ w9.cell? ⟨bb, 2, none⟩ = some (.int .i64 rp) ∧ w9.cell? ⟨bb, 3, none⟩ = some (.int .i64 rn) := ⟨(m7.cell (p := ⟨bb, 0, none⟩) hlt6 hnQ).trans T6.1, (m7.cell (p := ⟨bb, 1, none⟩) hlt6 hnQ).trans T6.2.1, (m7.cell (p := ⟨bb, 2, none⟩) hlt6 hnQ).trans T6.2.2.1, (m7.cell (p := ⟨bb, 3, none⟩) hlt6 hnQ).trans T6.2.2.2⟩; have HN : Hid (DI W w9 db rb cap qb c2 n (j + 1)) := HQ5.out.next HM6.out.1 HM6.out.2 m7 r7 HOK.out; have HC4 : Hid (Calls Try.prog 6 #[kerrV F, .int .i64 F] w9 fun e w' => e = .returned (.bool true) ∧ w9 = w') := ksame_any F hF0 w9; clear HC3 m7 r7) | (go_at_call 6; (with_reducible refine Calls.mono HC4.out ?_); rintro e w8 ⟨rfl, rfl⟩; clear HC4))
      all_goals
        clear T5 T6 T7 HQ5 HM6 HOK hnD hnQ hqD hlt5 hlt6 hbd hbr hbq
        obtain ⟨db2, h2d⟩ : ∃ x, x = db := ⟨_, rfl⟩
        obtain ⟨rb2, h2r⟩ : ∃ x, x = rb := ⟨_, rfl⟩
        obtain ⟨cap2, h2c⟩ : ∃ x, x = cap := ⟨_, rfl⟩
        subst h2d h2r h2c
        have HN9 := HN
        obtain ⟨s2, cut2, wr2, off2⟩ := c2
        obtain ⟨m0, m1, m2, m3, _, _, _, _⟩ := HN.out.r.cells
        simp only at m0 m1 m2 m3
        have HC1 : Hid (∀ q, Calls Try.prog 15 #[.pointer (some ⟨db2, 0, none⟩)] (w9.drewN q) fun e w' => e = .returned (.string s2) ∧ w9.drewN q = w') := fun q => kbytes_any (HN.out.k.mv (Mv.drewN (fun _ => False) _ q) id id)
        have HC2 : Hid (∀ q, Calls Try.prog 16 #[.pointer (some ⟨db2, 0, none⟩)] (w9.drewN q) fun e w' => e = .returned (.bool (!off2)) ∧ w9.drewN q = w') := fun q => kpower_any (HN.out.k.mv (Mv.drewN (fun _ => False) _ q) id id)
        have HC3 : Hid (∀ q, Calls Try.prog 17 #[.pointer (some ⟨db2, 0, none⟩)] (w9.drewN q) fun e w' => e = .returned (.int .i64 wr2) ∧ w9.drewN q = w') := fun q => kwritten_any (HN.out.k.mv (Mv.drewN (fun _ => False) _ q) id id)
        have HC4 : Hid (∀ q, Calls Try.prog 18 #[.pointer (some ⟨db2, 0, none⟩)] (w9.drewN q) fun e w' => e = .returned (.int .i64 n) ∧ w9.drewN q = w') := fun q => kblocks_any (HN.out.k.mv (Mv.drewN (fun _ => False) _ q) id id) n HN.out.ok.sz
        cases off2
        all_goals
          go_upto_region 38 with fail
          go_quiet ((first | (go_at_call 15; exact qsame (HC1.out _)) | (go_at_call 16; exact qsame (HC2.out _)) | (go_at_call 17; exact qsame (HC3.out _)) | (go_at_call 18; exact qsame (HC4.out _))))
          go_wp2
          go_roundw
          case rel => exact ⟨j + 1, db2, rb2, cap2, _, by omega, by go_num, rfl, HN.out.below (below_drewN (Below.refl _ _) _)⟩
          case measure => simp [intOf]; omega
    obtain ⟨x4, hx4⟩ : ∃ t, (rk.toList == [111, 110]) = t := ⟨_, rfl⟩
    cases x4
    rotate_left
    · have HX : Hid (0 = 0) := rfl
      go_wp2_with fail
      have HQ5 : Hid (DI W (wr.alloc (.cells #[.string rk, .string rs, .int .i64 rp, .int .i64 rn] 35)) db rb cap qb c n j) := HQ.out.below ((Below.refl _ _).alloc (Nat.le_refl _) _)
      have T5 : (wr.alloc (.cells #[.string rk, .string rs, .int .i64 rp, .int .i64 rn] 35)).cell? ⟨wr.heap.size, 0, none⟩ = some (.string rk) ∧ (wr.alloc (.cells #[.string rk, .string rs, .int .i64 rp, .int .i64 rn] 35)).cell? ⟨wr.heap.size, 1, none⟩ = some (.string rs) ∧ (wr.alloc (.cells #[.string rk, .string rs, .int .i64 rp, .int .i64 rn] 35)).cell? ⟨wr.heap.size, 2, none⟩ = some (.int .i64 rp) ∧ (wr.alloc (.cells #[.string rk, .string rs, .int .i64 rp, .int .i64 rn] 35)).cell? ⟨wr.heap.size, 3, none⟩ = some (.int .i64 rn) := ⟨World.cell?_alloc_at _ _ _ _ rfl, World.cell?_alloc_at _ _ _ _ rfl, World.cell?_alloc_at _ _ _ _ rfl, World.cell?_alloc_at _ _ _ _ rfl⟩
      have hlt5 : wr.heap.size < (wr.alloc (.cells #[.string rk, .string rs, .int .i64 rp, .int .i64 rn] 35)).heap.size := by show _ < (wr.alloc _).heap.size; rw [World.size_alloc]; omega
      have hbd : db < wr.heap.size := HQ.out.k.lt.1
      have hbr : rb < wr.heap.size := HQ.out.k.lt.2
      have hbq : qb < wr.heap.size := HQ.out.r.lt
      clear q0 q1 q2 q3 HQ
      generalize wr.alloc (.cells #[.string rk, .string rs, .int .i64 rp, .int .i64 rn] 35) = w5 at HQ5 T5 hlt5 ⊢
      generalize wr.heap.size = bb at T5 hlt5 hbd hbr hbq ⊢
      have hsz : c.s.size ≤ 100000000 := by rw [HQ5.out.ok.sz]; omega
      have hcut := HQ5.out.ok.cut
      have hwrt : 0 ≤ c.wr ∧ c.wr ≤ 1000000 := ⟨HQ5.out.ok.wr.1, by have := HQ5.out.ok.wr.2; omega⟩
      refine Calls.mono (kon_any HQ5.out.k) ?_
      rintro e w6 ⟨rfl, m6, k6⟩
      have hrr := HQ5.out.r.mv m6 (fun e => HQ5.out.dq e.symm)
      obtain ⟨u0, u1, u2, u3, v0, v1, v2, v3⟩ := hrr.cells
      have HN0 : Hid (DI W ((w6.setCell ⟨qb, 2, none⟩ (.bool false)).setCell ⟨qb, 1, none⟩ (.int .i64 (-1))) db rb cap qb (onD c) n (j + 1)) := HQ5.out.next (m6.mono (fun _ e => .inl e)) k6 (Mv.setCell (S := fun b => b = qb) (Mv.setCell (S := fun b => b = qb) (Mv.refl _ _) rfl _) rfl _) ((hrr.set2 false).set1 (-1)) ((onD_ok HQ5.out.ok).mono (by omega))
      clear hrr m6 k6 T5 hlt5 hbd hbr hbq hcut hwrt HQ5
      go_upto_region 38 with fail
      obtain ⟨w9, hw9⟩ : ∃ w9, (w6.setCell ⟨qb, 2, none⟩ (.bool false)).setCell ⟨qb, 1, none⟩ (.int .i64 (-1)) = w9 := ⟨_, rfl⟩
      rw [hw9] at HN0 ⊢
      obtain ⟨c2, h2k⟩ : ∃ x, x = onD c := ⟨_, rfl⟩
      rw [← h2k] at HN0
      have HN : Hid (DI W w9 db rb cap qb c2 n (j + 1)) := HN0.out
      clear HN0 hw9 u0 u1 u2 u3 v0 v1 v2 v3 h2k
      obtain ⟨db2, h2d⟩ : ∃ x, x = db := ⟨_, rfl⟩
      obtain ⟨rb2, h2r⟩ : ∃ x, x = rb := ⟨_, rfl⟩
      obtain ⟨cap2, h2c⟩ : ∃ x, x = cap := ⟨_, rfl⟩
      subst h2d h2r h2c
      have HN9 := HN
      obtain ⟨s2, cut2, wr2, off2⟩ := c2
      obtain ⟨m0, m1, m2, m3, _, _, _, _⟩ := HN.out.r.cells
      simp only at m0 m1 m2 m3
      have HC1 : Hid (∀ q, Calls Try.prog 15 #[.pointer (some ⟨db2, 0, none⟩)] (w9.drewN q) fun e w' => e = .returned (.string s2) ∧ w9.drewN q = w') := fun q => kbytes_any (HN.out.k.mv (Mv.drewN (fun _ => False) _ q) id id)
      have HC2 : Hid (∀ q, Calls Try.prog 16 #[.pointer (some ⟨db2, 0, none⟩)] (w9.drewN q) fun e w' => e = .returned (.bool (!off2)) ∧ w9.drewN q = w') := fun q => kpower_any (HN.out.k.mv (Mv.drewN (fun _ => False) _ q) id id)
      have HC3 : Hid (∀ q, Calls Try.prog 17 #[.pointer (some ⟨db2, 0, none⟩)] (w9.drewN q) fun e w' => e = .returned (.int .i64 wr2) ∧ w9.drewN q = w') := fun q => kwritten_any (HN.out.k.mv (Mv.drewN (fun _ => False) _ q) id id)
      have HC4 : Hid (∀ q, Calls Try.prog 18 #[.pointer (some ⟨db2, 0, none⟩)] (w9.drewN q) fun e w' => e = .returned (.int .i64 n) ∧ w9.drewN q = w') := fun q => kblocks_any (HN.out.k.mv (Mv.drewN (fun _ => False) _ q) id id) n HN.out.ok.sz
      cases off2
      all_goals
        go_quiet ((first | (go_at_call 15; exact qsame (HC1.out _)) | (go_at_call 16; exact qsame (HC2.out _)) | (go_at_call 17; exact qsame (HC3.out _)) | (go_at_call 18; exact qsame (HC4.out _))))
        go_wp2
        go_roundw
        case rel => exact ⟨j + 1, db2, rb2, cap2, _, by omega, by go_num, rfl, HN.out.below (below_drewN (Below.refl _ _) _)⟩
        case measure => simp [intOf]; omega
    · have HX : Hid (0 = 0) := rfl
      go_wp2_with fail
      have HQ5 : Hid (DI W (wr.alloc (.cells #[.string rk, .string rs, .int .i64 rp, .int .i64 rn] 35)) db rb cap qb c n j) := HQ.out.below ((Below.refl _ _).alloc (Nat.le_refl _) _)
      have T5 : (wr.alloc (.cells #[.string rk, .string rs, .int .i64 rp, .int .i64 rn] 35)).cell? ⟨wr.heap.size, 0, none⟩ = some (.string rk) ∧ (wr.alloc (.cells #[.string rk, .string rs, .int .i64 rp, .int .i64 rn] 35)).cell? ⟨wr.heap.size, 1, none⟩ = some (.string rs) ∧ (wr.alloc (.cells #[.string rk, .string rs, .int .i64 rp, .int .i64 rn] 35)).cell? ⟨wr.heap.size, 2, none⟩ = some (.int .i64 rp) ∧ (wr.alloc (.cells #[.string rk, .string rs, .int .i64 rp, .int .i64 rn] 35)).cell? ⟨wr.heap.size, 3, none⟩ = some (.int .i64 rn) := ⟨World.cell?_alloc_at _ _ _ _ rfl, World.cell?_alloc_at _ _ _ _ rfl, World.cell?_alloc_at _ _ _ _ rfl, World.cell?_alloc_at _ _ _ _ rfl⟩
      have hlt5 : wr.heap.size < (wr.alloc (.cells #[.string rk, .string rs, .int .i64 rp, .int .i64 rn] 35)).heap.size := by show _ < (wr.alloc _).heap.size; rw [World.size_alloc]; omega
      have hbd : db < wr.heap.size := HQ.out.k.lt.1
      have hbr : rb < wr.heap.size := HQ.out.k.lt.2
      have hbq : qb < wr.heap.size := HQ.out.r.lt
      clear q0 q1 q2 q3 HQ
      generalize wr.alloc (.cells #[.string rk, .string rs, .int .i64 rp, .int .i64 rn] 35) = w5 at HQ5 T5 hlt5 ⊢
      generalize wr.heap.size = bb at T5 hlt5 hbd hbr hbq ⊢
      have hsz : c.s.size ≤ 100000000 := by rw [HQ5.out.ok.sz]; omega
      have hcut := HQ5.out.ok.cut
      have hwrt : 0 ≤ c.wr ∧ c.wr ≤ 1000000 := ⟨HQ5.out.ok.wr.1, by have := HQ5.out.ok.wr.2; omega⟩
      refine Calls.mono (kcopy_any HQ5.out.k hsz) ?_
      rintro e w6 ⟨db2, rb2, cap2, rfl, k6, g1, g2, hB6⟩
      have ko : KB w6 db rb cap c := HQ5.out.k.mv (S := fun _ => False) (Mv.of hB6) id id
      have HKO : Hid (KB w6 db rb cap c) := ko
      have HKN : Hid (KB w6 db2 rb2 cap2 c) := k6
      have HB6 : Hid (Below w5.heap.size w5 w6) := hB6
      have HG : Hid (w5.heap.size ≤ db2 ∧ w5.heap.size ≤ rb2) := ⟨g1, g2⟩
      clear ko k6 g1 g2 hB6
      go_wp2_with fail
      refine Calls.mono (kon_any HKO.out) ?_
      rintro e w7 ⟨rfl, m7, k7⟩
      have HK7 : Hid (Mv (fun b => b = db) w6 w7 ∧ KB w7 db rb cap (onD c)) := ⟨m7, k7⟩
      clear m7 k7
      have hok2 := onD_ok HQ5.out.ok
      go_wp2_with fail
      refine Calls.mono (kwrite_any HK7.out.2 0 ⟨#[111, 116, 104, 101, 114]⟩ (by omega) hsz (by decide) hok2.cut ⟨hok2.wr.1, by have := hok2.wr.2; omega⟩) ?_
      rintro e w9 ⟨rfl, m8, k8⟩
      have HN0 : Hid (DI W w9 db2 rb2 cap2 qb c n (j + 1)) := HQ5.out.copy HKN.out HG.out.1 HG.out.2 HB6.out HK7.out.1 HK7.out.2 m8 k8
      clear m8 k8 HKO HKN HB6 HG HK7 hok2 T5 hlt5 hbd hbr hbq hcut hwrt HQ5
      generalize wrF (onD c) 0 ⟨#[111, 116, 104, 101, 114]⟩ = F8
      obtain ⟨c2, h2k⟩ : ∃ x, x = c := ⟨_, rfl⟩
      rw [← h2k] at HN0
      have HN : Hid (DI W w9 db2 rb2 cap2 qb c2 n (j + 1)) := HN0.out
      clear HN0
      generalize kerrV F8 = v8
      have HN9 := HN
      obtain ⟨s2, cut2, wr2, off2⟩ := c2
      obtain ⟨m0, m1, m2, m3, _, _, _, _⟩ := HN.out.r.cells
      simp only at m0 m1 m2 m3
      have HC1 : Hid (∀ q, Calls Try.prog 15 #[.pointer (some ⟨db2, 0, none⟩)] (w9.drewN q) fun e w' => e = .returned (.string s2) ∧ w9.drewN q = w') := fun q => kbytes_any (HN.out.k.mv (Mv.drewN (fun _ => False) _ q) id id)
      have HC2 : Hid (∀ q, Calls Try.prog 16 #[.pointer (some ⟨db2, 0, none⟩)] (w9.drewN q) fun e w' => e = .returned (.bool (!off2)) ∧ w9.drewN q = w') := fun q => kpower_any (HN.out.k.mv (Mv.drewN (fun _ => False) _ q) id id)
      have HC3 : Hid (∀ q, Calls Try.prog 17 #[.pointer (some ⟨db2, 0, none⟩)] (w9.drewN q) fun e w' => e = .returned (.int .i64 wr2) ∧ w9.drewN q = w') := fun q => kwritten_any (HN.out.k.mv (Mv.drewN (fun _ => False) _ q) id id)
      have HC4 : Hid (∀ q, Calls Try.prog 18 #[.pointer (some ⟨db2, 0, none⟩)] (w9.drewN q) fun e w' => e = .returned (.int .i64 n) ∧ w9.drewN q = w') := fun q => kblocks_any (HN.out.k.mv (Mv.drewN (fun _ => False) _ q) id id) n HN.out.ok.sz
      cases off2
      all_goals
        go_upto_region 38 with fail
        go_quiet ((first | (go_at_call 15; exact qsame (HC1.out _)) | (go_at_call 16; exact qsame (HC2.out _)) | (go_at_call 17; exact qsame (HC3.out _)) | (go_at_call 18; exact qsame (HC4.out _))))
        go_wp2
        go_roundw
        case rel => exact ⟨j + 1, db2, rb2, cap2, _, by omega, by go_num, rfl, HN.out.below (below_drewN (Below.refl _ _) _)⟩
        case measure => simp [intOf]; omega
end Go.Proofs.Ytbjbhfemcemhfaa
