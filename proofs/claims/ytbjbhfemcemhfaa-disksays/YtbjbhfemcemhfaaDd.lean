/-
  THE PROGRAM's DISK: Read, Write: the walks.
-/
import Derived.Test.YtbjbhfemcemhfaaDb
import Derived.Lib.BufferRead
import Derived.Deep.RegionLaw
namespace Go.Proofs.Ytbjbhfemcemhfaa
open Go.RowKit

theorem sizeU8 (w : World) : (Go.sizeOf 5).run Try.prog w = .ok 1 w := by kernel_rfl
theorem elemB : Try.prog.elem 31 = 5 := by kernel_rfl
/-- 's[l:l]' and 's[l:]' of bytes. -/
theorem slice_none_at (W : World) (b len cap l : Nat) (hh : l ≤ cap) :
    ∃ o, (Instr.slice 31 (.slice (some ⟨b, 0, none⟩) len cap) (some (.int .i64 (l : Int))) (some (.int .i64 (l : Int))) none).run Try.prog W = .ok (.slice (some ⟨b, o, none⟩) 0 (cap - l)) W := by
  have hb : Try.prog.underlying 31 = some (.slice (Try.prog.elem 31)) := by rw [elemB]; exact Try.underlying31
  have := run_slice_lh (P := Try.prog) W 31 (some ⟨b, 0, none⟩) len cap hb .i64 .i64 (l : Int) (l : Int) (by omega) (by omega) (by omega)
  rw [elemB, sizeU8] at this
  rw [this]
  by_cases h : cap = l
  · exact ⟨0, by subst h; simp [Result.andThen, sliced]⟩
  · refine ⟨0 + l, ?_⟩
    by_cases h0 : l = 0
    · subst h0; simp [Result.andThen, sliced, Addr.add, h]
    · simp [Result.andThen, sliced, Addr.add, h, h0]
theorem slice_from (W : World) (b len cap l : Nat) (hl : l ≤ len) (hh : len ≤ cap) :
    ∃ o, (Instr.slice 31 (.slice (some ⟨b, 0, none⟩) len cap) (some (.int .i64 (l : Int))) none none).run Try.prog W = .ok (.slice (some ⟨b, o, none⟩) (len - l) (cap - l)) W ∧ (l < len → o = l) := by
  have hb : Try.prog.underlying 31 = some (.slice (Try.prog.elem 31)) := by rw [elemB]; exact Try.underlying31
  have := run_slice_l (P := Try.prog) W 31 (some ⟨b, 0, none⟩) len cap hb .i64 (l : Int) (by omega) (by omega)
  rw [elemB, sizeU8] at this
  rw [this]
  by_cases h : cap = l
  · exact ⟨0, by subst h; simp [Result.andThen, sliced], fun h2 => by omega⟩
  · refine ⟨0 + l, ?_, fun _ => by omega⟩
    by_cases h0 : l = 0
    · subst h0; simp [Result.andThen, sliced, Addr.add, h]
    · simp [Result.andThen, sliced, Addr.add, h, h0]
theorem conv_empty (W : World) (b o cap : Nat) : (convert 31 9 (.slice (some ⟨b, o, none⟩) 0 cap)).run Try.prog W = .ok (.string ⟨#[]⟩) W :=
  Lib.run_convert_whole (P := Try.prog) W 31 5 9 Try.underlying31 Try.underlying5 Try.underlying9 b o ⟨#[]⟩ (fun i hi => absurd hi (by simp [ByteArray.size])) cap
theorem kstep_copy {P : Program} {ops : Array Oper} {o : Oper} {a : Act} {w : World} {K : Act → World → Prop} {Q : Exit → Act → World → Prop} {E : Prop}
    (hg : o.guard = none) (d x : Operand) (dT sT : TypeId) (hop : o.op = Op.call { callee := Callee.builtin Builtin.copy, args := #[d, x], argTypes := #[dT, sT] })
    (vd vx : Value) (hd : a.eval d = vd) (hx : a.eval x = vx) (r : Value) (w' : World) (hrun : (Builtin.copy_ #[dT, sT] o.type #[vd, vx]).run P w = .ok r w')
    (hK : K (a.put o.dst r) w') :
    if Region.wanted o (yielded ops a.tmps) = true then Oper.wp P o a w K Q else E := by
  have hw : Region.wanted o (yielded ops a.tmps) = true := by simp [Region.wanted, hg]
  rw [if_pos hw]
  unfold Oper.wp
  simp [execOp, hop, resolve, invoke, builtin, hd, hx, hrun, Result.andThen]
  exact hK

def rdS (c : Dk) (p n : Int) : ByteArray := if ckF c.off c.s.size p n = 0 then c.s.extract p.toNat (p.toNat + n.toNat) else ⟨#[]⟩
set_option maxRecDepth 100000 in
set_option maxHeartbeats 1000000 in
theorem kread_any {W : World} {db rb cap : Nat} {c : Dk} (h : KB W db rb cap c) (p n : Int) (hp : p ≤ 9223372036854775807) (hs : c.s.size ≤ 100000000) :
    Calls Try.prog 7 #[.pointer (some ⟨db, 0, none⟩), .int .i64 p, .int .i64 n] W fun e w' => e = .returned (.tuple #[.string (rdS c p n), kerrV (ckF c.off c.s.size p n)]) ∧ W = w' := by
  have C1 : Hid (Calls Try.prog 19 #[.pointer (some ⟨db, 0, none⟩), .int .i64 p, .int .i64 n] W fun e w' => e = .returned (kerrV (ckF c.off c.s.size p n)) ∧ W = w') := kcheck_any h p n hp hs
  by_cases h0 : ckF c.off c.s.size p n = 0
  rotate_left
  · rw [show rdS c p n = ⟨#[]⟩ from if_neg h0]
    rw [kerrV_of h0] at C1 ⊢
    obtain ⟨F, HF⟩ : ∃ F, Hid (ckF c.off c.s.size p n = F) := ⟨_, rfl⟩
    rw [HF.out] at C1 ⊢
    clear h0 h HF
    go_enter Try.func7, Try.ntmps7
    go_wp2_with fail
    refine Calls.mono C1.out ?_
    rintro e w' ⟨rfl, rfl⟩
    go_wp2
    go_ret2
    exact ⟨rfl, rfl⟩
  rw [show rdS c p n = c.s.extract p.toNat (p.toNat + n.toNat) from if_pos h0]
  obtain ⟨hof, hp0, hn0, hpn⟩ := ck_zero h0
  rw [h0] at C1 ⊢
  obtain ⟨q, rfl⟩ : ∃ q : Nat, p = q := ⟨p.toNat, by omega⟩
  obtain ⟨m, rfl⟩ : ∃ m : Nat, n = m := ⟨n.toNat, by omega⟩
  have hle := h.le
  have hb := h.bytes
  obtain ⟨y0, y1, y2, y3, z0, z1, z2, z3⟩ := h.cells
  rw [show (kerrV 0) = .nilIface from rfl] at C1 ⊢
  simp only [Int.toNat_natCast]
  generalize hS : c.s = s at *
  have hqm : q + m ≤ s.size := by omega
  clear h h0 hS hp0 hn0 y1 y2 y3 z0 z1 z2 z3
  by_cases hm : m = 0
  · subst hm
    obtain ⟨o, hsl⟩ := slice_none_at W rb s.size cap q (by omega)
    have hcv := conv_empty W rb o (cap - q)
    have e0 : s.extract q (q + 0) = ⟨#[]⟩ := by apply ByteArray.ext; simp
    rw [e0]
    clear e0 hb
    go_enter Try.func7, Try.ntmps7
    go_wp2_with fail
    refine Calls.mono C1.out ?_
    rintro e w' ⟨rfl, rfl⟩
    go_wp2
    go_ret2
    exact ⟨rfl, rfl⟩
  · have hsl := Lib.run_slice_window (P := Try.prog) W 31 5 Try.underlying31 sizeU8 rb 0 s.size cap q (q + m) (by omega) (by omega)
    have hcv := Lib.run_convert_window (P := Try.prog) W 31 5 9 Try.underlying31 Try.underlying5 Try.underlying9 rb 0 s hb q m (cap - q) hqm
    rw [Nat.add_sub_cancel_left, Nat.zero_add] at hsl
    rw [Nat.zero_add] at hcv
    rw [show ((q + m : Nat) : Int) = (q : Int) + (m : Int) by omega] at hsl
    obtain ⟨r, hr⟩ : ∃ r, s.extract q (q + m) = r := ⟨_, rfl⟩
    rw [hr] at hcv ⊢
    clear hr hb
    go_enter Try.func7, Try.ntmps7
    go_wp2_with fail
    refine Calls.mono C1.out ?_
    rintro e w' ⟨rfl, rfl⟩
    go_wp2
    go_ret2
    exact ⟨rfl, rfl⟩

set_option maxRecDepth 100000 in
set_option maxHeartbeats 1000000 in
theorem kwrite_any {W : World} {db rb cap : Nat} {c : Dk} (h : KB W db rb cap c) (p : Int) (t : ByteArray) (hp : p ≤ 9223372036854775807) (hs : c.s.size ≤ 100000000) (ht : t.size ≤ 1000) (hc : -1 ≤ c.cut ∧ c.cut ≤ 9223372036854775807) (hw : 0 ≤ c.wr ∧ c.wr ≤ 1000000) :
    Calls Try.prog 9 #[.pointer (some ⟨db, 0, none⟩), .int .i64 p, .string t] W fun e w' => e = .returned (kerrV (wrF c p t)) ∧ Mv (fun b => b = db ∨ b = rb) W w' ∧ KB w' db rb cap (wrD c p t) := by
  have C1 : Hid (Calls Try.prog 19 #[.pointer (some ⟨db, 0, none⟩), .int .i64 p, .int .i64 t.size] W fun e w' => e = .returned (kerrV (ckF c.off c.s.size p t.size)) ∧ W = w') := kcheck_any h p t.size hp hs
  have HK : Hid (KB W db rb cap c) := h
  by_cases h0 : ckF c.off c.s.size p t.size = 0
  rotate_left
  · rw [show wrF c p t = ckF c.off c.s.size p t.size from if_neg h0, show wrD c p t = c from if_neg h0]
    rw [kerrV_of h0] at C1 ⊢
    obtain ⟨F, HF⟩ : ∃ F, Hid (ckF c.off c.s.size p t.size = F) := ⟨_, rfl⟩
    rw [HF.out] at C1 ⊢
    clear h0 h HF
    go_enter Try.func9, Try.ntmps9
    go_wp2_with fail
    refine Calls.mono C1.out ?_
    rintro e w' ⟨rfl, rfl⟩
    go_wp2
    go_ret
    exact ⟨rfl, Mv.refl _ _, HK.out⟩
  obtain ⟨hof, hp0, _, hpn⟩ := ck_zero h0
  obtain ⟨F, HF⟩ : ∃ F, Hid (wrF c p t = F) := ⟨_, rfl⟩
  obtain ⟨D, HD⟩ : ∃ D, Hid (wrD c p t = D) := ⟨_, rfl⟩
  rw [HF.out, HD.out]
  have HF2 : Hid (F = if spN c.cut t.size < t.size then 16 else 0) := (HF.out.symm.trans (if_pos h0))
  have HD2 : Hid (D = ⟨wrS c.s p.toNat t (spN c.cut t.size).toNat, spC c.cut t.size, c.wr + spN c.cut t.size, decide (spN c.cut t.size < t.size)⟩) := (HD.out.symm.trans (if_pos h0))
  have hsp := spN_bd c.cut t.size hc.1
  have C2 : Hid (Calls Try.prog 20 #[.pointer (some ⟨db, 0, none⟩), .int .i64 t.size] W fun e w' => e = .returned (.int .i64 (spN c.cut t.size)) ∧ Mv (fun b => b = db) W w' ∧ KB w' db rb cap ⟨c.s, spC c.cut t.size, c.wr, c.off⟩) := kspend_any h t.size (by omega) (by omega) hc.2
  clear HF HD
  rw [h0] at C1
  obtain ⟨q, rfl⟩ : ∃ q : Nat, p = q := ⟨p.toNat, by omega⟩
  clear h0 h hp0
  obtain ⟨s, cut, wr_, off⟩ := c
  simp only at hof hpn C1 C2 HK hs hc hw HF2 HD2 hsp ⊢
  subst hof
  obtain ⟨k, ek⟩ : ∃ k : Nat, spN cut t.size = k := ⟨(spN cut t.size).toNat, by omega⟩
  rw [ek] at HF2 HD2 C2 hsp
  simp only [Int.toNat_natCast] at HD2
  obtain ⟨cu, ecu⟩ : ∃ cu, spC cut t.size = cu := ⟨_, rfl⟩
  rw [ecu] at C2 HD2
  have hle := HK.out.le
  simp only at hle
  obtain ⟨hw0, hw1⟩ := hw
  clear ek ecu hc HK
  rw [show (kerrV 0) = .nilIface from rfl] at C1
  have hkt : k ≤ t.size := by omega
  have hk1 : (k : Int) ≤ (t.size : Int) := by omega
  have hqs : q ≤ s.size := by omega
  have hqsI : (q : Int) ≤ (s.size : Int) := by omega
  clear hsp
  go_enter Try.func9, Try.ntmps9
  go_wp2_with fail
  refine Calls.mono C1.out ?_
  rintro e w' ⟨rfl, rfl⟩
  clear C1
  go_wp2_with fail
  refine Calls.mono C2.out ?_
  rintro e w1 ⟨rfl, M1, K1⟩
  clear C2
  have HK1 : Hid (KB w1 db rb cap ⟨s, cu, wr_, false⟩) := K1
  have HM1 : Hid (Mv (fun b => b = db) W w1) := M1
  obtain ⟨y0, y1, y2, y3, z0, z1, z2, z3⟩ := K1.cells
  simp only at y0 y1 y2 y3
  clear K1 M1
  obtain ⟨w2, hcp, K2, M2⟩ : ∃ w2, (∀ ty, (Builtin.copy_ #[31, 9] ty #[.slice (if cap = q then some ⟨rb, 0, none⟩ else some ⟨rb, q, none⟩) (s.size - q) (cap - q), .string (t.extract 0 k)]).run Try.prog w1.drew = .ok (.int .i64 k) w2) ∧ KB w2 db rb cap ⟨wrS s q t k, cu, wr_, false⟩ ∧ Mv (fun b => b = rb) w1.drew w2 := by
    have hK' : KB w1.drew db rb cap ⟨s, cu, wr_, false⟩ := HK1.out.mv (S := fun _ => False) (Mv.drew (Mv.refl _ _)) id id
    by_cases hk0 : k = 0
    · subst hk0
      refine ⟨w1.drew, fun ty => ?_, ?_, Mv.refl _ _⟩
      · exact Lib.run_copy_empty_string (P := Try.prog) w1.drew 31 9 ty 5 _ _ _ _ Try.underlying31 (by kernel_rfl) (by simp)
      · have e : wrS s q t 0 = s := by
          apply ByteArray.ext
          apply Array.toList_inj.1
          rw [wrS_list]
          simp
        rw [e]
        exact hK'
    · rw [if_neg (by omega)]
      obtain ⟨w2, a1, a2, a3⟩ := hK'.copied q t k hkt (by simp only; omega)
      exact ⟨w2, fun ty => a1 ty _ (by omega), a2, a3⟩
  obtain ⟨x0, x1, x2, x3, v0, v1, v2, v3⟩ := K2.cells
  simp only at x0 x1 x2 x3
  have HK2 : Hid (KB w2 db rb cap ⟨wrS s q t k, cu, wr_, false⟩) := K2
  have HM2 : Hid (Mv (fun b => b = rb) w1.drew w2) := M2
  have HCP : Hid (∀ ty, (Builtin.copy_ #[31, 9] ty #[.slice (if cap = q then some ⟨rb, 0, none⟩ else some ⟨rb, q, none⟩) (s.size - q) (cap - q), .string (t.extract 0 k)]).run Try.prog w1.drew = .ok (.int .i64 k) w2) := hcp
  clear K2 M2 hcp
  have hwrap : IntKind.i64.wrap (wr_ + (k : Int)) = wr_ + (k : Int)   := wrap_small _ (by omega) (by omega)
  have HM : Hid (∀ (x : Int), Mv (fun b => b = db ∨ b = rb) W (w2.setCell ⟨db, 2, none⟩ (.int .i64 x))) := fun x => Mv.setCell (S := fun b => b = db ∨ b = rb) ((Mv.mono HM1.out (fun _ e => .inl e)).trans ((Mv.drew (Mv.refl _ _)).trans (Mv.mono HM2.out (fun _ e => .inr e)))) (.inl rfl) _
  go_upto_region 5 with fail
  go_region_law (refine kstep_copy rfl (.tmp 30) (.tmp 33) 31 9 rfl _ _ (by simp [Act.eval, Act.put]) (by simp [Act.eval, Act.put]) _ _ (HCP.out _) ?_)
  all_goals
    generalize (if cap = q then some (⟨rb, 0, none⟩ : Addr) else some ⟨rb, q, none⟩) = ad
    by_cases hb : k < t.size
    · have b1 : (k : Int) < (t.size : Int) := by omega
      go_wp2
      go_ret
      have eF : F = 16 := by rw [HF2.out, if_pos b1]
      have eD : D = ⟨wrS s q t k, cu, wr_ + k, true⟩ := by rw [HD2.out, decide_eq_true b1]
      exact ⟨by rw [eF]; rfl, Mv.setCell (S := fun b => b = db ∨ b = rb) (HM.out _) (.inl rfl) _, by rw [eD]; exact (HK2.out.set2 _).set3 true⟩
    · have b1 : ¬ (k : Int) < (t.size : Int) := by omega
      go_wp2
      go_ret
      have eF : F = 0 := by rw [HF2.out, if_neg (by omega)]
      have eD : D = ⟨wrS s q t k, cu, wr_ + k, false⟩ := by rw [HD2.out, decide_eq_false (by omega)]
      exact ⟨by rw [eF]; rfl, HM.out _, by rw [eD]; exact HK2.out.set2 _⟩
end Go.Proofs.Ytbjbhfemcemhfaa
